import Derived.Test.YtgnhkclddahdnaaGreatDoorBnB
/- Which of two addresses stands ahead: the law of the order. -/
namespace Go.Vf.S
open Go Go.Vf
attribute [local irreducible] wSeq wRow wp wG
set_option linter.unusedVariables false
set_option linter.unusedSimpArgs false
set_option maxRecDepth 10000

end Go.Vf.S

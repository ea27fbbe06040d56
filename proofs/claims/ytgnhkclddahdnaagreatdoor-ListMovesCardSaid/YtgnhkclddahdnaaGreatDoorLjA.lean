import Derived.Test.YtgnhkclddahdnaaGreatDoorAdJ
import Derived.Test.YtgnhkclddahdnaaGreatDoorBnE
/- The document's addresses: whether one may be, its text, its normal form, whether two are the same. -/
namespace Go.Vf.S
open Go Go.Vf
attribute [local irreducible] wSeq wRow wp wG
set_option linter.unusedVariables false
set_option linter.unusedSimpArgs false
set_option maxRecDepth 10000

end Go.Vf.S

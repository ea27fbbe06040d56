import Derived.Test.YtgnhkclddahdnaaGreatDoorLjE
/- Lists of addresses: the law ListPuts, from any state. -/
namespace Go.Vf.S
open Go Go.Vf Go.Proofs Go.RowKit
attribute [local irreducible] wSeq wRow wp wG
attribute [local irreducible] parseF domF sameF textF mayF putF
set_option linter.unusedVariables false
set_option linter.unusedSimpArgs false
set_option maxRecDepth 10000

end Go.Vf.S

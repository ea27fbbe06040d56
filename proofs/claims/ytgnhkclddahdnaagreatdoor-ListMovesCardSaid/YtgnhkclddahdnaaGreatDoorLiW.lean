import Derived.Test.YtgnhkclddahdnaaGreatDoorLbW
import Derived.Test.YtgnhkclddahdnaaGreatDoorLiS
import Derived.Test.YtgnhkclddahdnaaGreatDoorAdX
import Derived.Test.YtgnhkclddahdnaaGreatDoorEngAt
/- Rows of addresses that are handed in. -/
namespace Go.Vf.S
open Go Go.Vf Go.Proofs Go.Proofs.YtgnhkclddahdnaaGreatDoor Go.RowKit Go.ChangeShapes Go.WideShapes
set_option linter.unusedVariables false
set_option linter.unusedSimpArgs false
set_option maxRecDepth 100000
abbrev tAs : TypeId := 22
section
variable {H : Type} {enc : TypeId × Value → H} {W : World} {b0 : Nat} {v : Value} {d : DataW H} {p : List MemPlace}
end
end Go.Vf.S

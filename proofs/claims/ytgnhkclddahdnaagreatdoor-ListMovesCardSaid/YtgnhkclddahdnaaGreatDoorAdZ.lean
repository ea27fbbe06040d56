import Derived.Test.YtgnhkclddahdnaaGreatDoorFn
import Derived.Test.YtgnhkclddahdnaaGreatDoorEngBd
import Derived.LaidMore
import Derived.Lay
import Derived.OpenShut
/- What the rows of the seat have in common: no law of them reads a listed variable here. -/
namespace Go.Vf.S
open Go Go.Vf Go.Proofs Go.Proofs.YtgnhkclddahdnaaGreatDoor Go.RowKit Go.ChangeShapes
theorem own : ownKnob pr.godebug = none := by kernel_rfl
theorem laidOut : laidOutB pr = true := by kernel_rfl
end Go.Vf.S

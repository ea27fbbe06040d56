import Derived.Test.YtgnhkclddahdnaaGreatDoorFn
import Derived.Test.YtgnhkclddahdnaaGreatDoorEngBd
import Derived.LaidMore
import Derived.Lay
import Derived.OpenShut
namespace Go.Vf.S
open Go Go.Vf Go.Proofs Go.Proofs.YtgnhkclddahdnaaGreatDoor Go.RowKit Go.ChangeShapes
theorem own : ownKnob pr.godebug = none := by kernel_rfl
theorem laidOut : laidOutB pr = true := by kernel_rfl
end Go.Vf.S

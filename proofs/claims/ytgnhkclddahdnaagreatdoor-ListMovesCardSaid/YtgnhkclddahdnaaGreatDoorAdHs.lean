import Derived.Test.YtgnhkclddahdnaaGreatDoorLbH
import Derived.Test.YtgnhkclddahdnaaGreatDoorAdY
import Derived.Handed
/- A wrap that keeps the world's shape beside what is laid. -/
namespace Go.Vf.S
open Go Go.Vf Go.Proofs Go.Proofs.YtgnhkclddahdnaaGreatDoor Go.RowKit Go.ChangeShapes
set_option linter.unusedVariables false
set_option linter.unusedSimpArgs false

end Go.Vf.S

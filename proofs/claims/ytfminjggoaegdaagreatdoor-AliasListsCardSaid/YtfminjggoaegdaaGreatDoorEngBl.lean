import Derived.Test.YtfminjggoaegdaaGreatDoorEngBe
import Derived.Shelf.Strings.Builder1
namespace Go.Vf
open Go.RowKit
set_option linter.unusedVariables false
set_option linter.unusedSimpArgs false
section
open Go.Shelf Go.Proofs
variable {P : Program} {κ : Go.Shelf.Ren}
end
end Go.Vf

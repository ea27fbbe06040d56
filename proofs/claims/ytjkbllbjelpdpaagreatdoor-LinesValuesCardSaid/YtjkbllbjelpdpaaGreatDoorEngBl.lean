import Derived.Test.YtjkbllbjelpdpaaGreatDoorEngBe
import Derived.Shelf.Strings.Builder1
/- The machine of plain blocks: a strings.Builder: its first writing, and the text that is read of it. -/
namespace Go.Vf
open Go.RowKit
set_option linter.unusedVariables false
set_option linter.unusedSimpArgs false

section
open Go.Shelf Go.Proofs
variable {P : Program} {κ : Go.Shelf.Ren}

end
end Go.Vf

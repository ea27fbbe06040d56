import Derived.Test.YtfminjggoaegdaaGreatDoorEngBd
import Derived.MapKept
namespace Go.Vf
open Go.RowKit Go.MapKept
set_option linter.unusedVariables false
set_option linter.unusedSimpArgs false
section
variable {P : Program} {T : TL} {s : SS} {K : Value → SS → Prop}
end
end Go.Vf

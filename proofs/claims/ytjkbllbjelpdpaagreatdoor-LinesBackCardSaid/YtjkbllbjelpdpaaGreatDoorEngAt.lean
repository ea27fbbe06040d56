import Derived.Test.YtjkbllbjelpdpaaGreatDoorEngBg
/- From a row's arguments: a row of things, each of some plain cells. -/
namespace Go.Vf
open Go.RowKit Go.ChangeShapes
set_option linter.unusedVariables false
set_option linter.unusedSimpArgs false
section
variable {H : Type} {enc : TypeId × Value → H} {P : Program} {W : World}

end
end Go.Vf

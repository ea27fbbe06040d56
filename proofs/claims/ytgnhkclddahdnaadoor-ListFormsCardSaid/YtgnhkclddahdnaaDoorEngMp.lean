import Derived.Test.YtgnhkclddahdnaaDoorEngBd
/- The machine of plain blocks, by rows: a function in pieces. -/
namespace Go.Vf
open Go.RowKit
set_option linter.unusedVariables false
set_option linter.unusedSimpArgs false

/-! ### A function in pieces -/

end Go.Vf

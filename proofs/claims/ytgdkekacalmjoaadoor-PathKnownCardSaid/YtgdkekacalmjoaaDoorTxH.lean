import Derived.Test.YtgdkekacalmjoaaDoorTxC
import Derived.Test.YtgdkekacalmjoaaDoorTxG
/- The chapter's rows. -/
namespace Go.Vf.S
open Go Go.Vf
attribute [local irreducible] wSeq wRow wp wG
set_option linter.unusedVariables false
set_option linter.unusedSimpArgs false
set_option maxRecDepth 10000

end Go.Vf.S

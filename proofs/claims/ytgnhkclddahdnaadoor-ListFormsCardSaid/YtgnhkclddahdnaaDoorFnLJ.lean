import Derived.Test.YtgnhkclddahdnaaDoorFn
import Derived.Test.YtgnhkclddahdnaaDoorEngMp
import Derived.KernelRfl
/- Pieces of a function, made ready: as the machine prints them of the program itself. -/
namespace Go.Vf.S
open Go.Proofs
set_option maxRecDepth 100000
end Go.Vf.S

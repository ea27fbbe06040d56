import Derived.Test.YthhcngkblihliaaDoorEngYl
/- Pieces: a branch. -/
namespace Go.Vf
def cnT : Code → Code
  | .cond _ a _ => a
  | c => c
def cnE : Code → Code
  | .cond _ _ b => b
  | c => c
end Go.Vf

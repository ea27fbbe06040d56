import Derived.Test.YthhcngkblihliaaDoorHdMb
/- The document's own: a field laid ahead of all others. -/
namespace Go.Vf.S
open Go Go.Vf Go.Proofs Go.RowKit
attribute [local irreducible] wSeq wRow wp wG
set_option linter.unusedVariables false
set_option linter.unusedSimpArgs false
set_option maxRecDepth 10000

theorem layR_len {nm v : List UInt8} {f : Fld} (h : layR nm v = some f) : f.r.length ≤ 3 * (nm.length + 2 + v.length) + 2 := by
  unfold layR at h
  split at h
  · cases h
    have := jn_fold 2 (nm ++ 58 :: 32 :: v).length (nm.length + 3) (nm ++ 58 :: 32 :: v)
    simp only [List.length_append, List.length_cons] at this ⊢
    omega
  · cases h

end Go.Vf.S

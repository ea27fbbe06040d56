import Derived.Test.YtgdkekacalmjoaaDoorTxD
/- The document's comment at the front. -/
namespace Go.Vf.S
open Go Go.Vf
attribute [local irreducible] wSeq wRow wp wG
set_option linter.unusedVariables false
set_option linter.unusedSimpArgs false
set_option maxRecDepth 10000

/-- What the document's own way tells of a comment that begins at a place, so deep. -/
def CmAt (l : List UInt8) (a d n e : Nat) : Prop :=
  if d ≤ 8 then (if e = 0 then a < n ∧ n ≤ l.length ∧ cm (l.drop (a + 1)) d false (a + 1) = (if d = 1 then (n, 0) else cm (l.drop n) (d - 1) false n) else n = 0 ∧ cm (l.drop (a + 1)) d false (a + 1) = (0, e)) else n = 0 ∧ e = 3

theorem CmAt.err {l : List UInt8} {a d e : Nat} (hd : d ≤ 8) (he : e ≠ 0) (h : cm (l.drop (a + 1)) d false (a + 1) = (0, e)) : CmAt l a d 0 e := by
  unfold CmAt
  rw [if_pos hd, if_neg he]
  exact ⟨rfl, h⟩

end Go.Vf.S

import Derived.Test.YthhcngkblihliaaDoorHdMc
/- The document's own: a field laid in its place. -/
namespace Go.Vf.S
open Go Go.Vf Go.Proofs Go.RowKit
attribute [local irreducible] wSeq wRow wp wG
set_option linter.unusedVariables false
set_option linter.unusedSimpArgs false
set_option maxRecDepth 10000

theorem set_len {m : Msg} {k : Nat} {f : Fld} (h : k < m.fs.length) : (textM ⟨m.fs.set k f, m.b, m.e⟩).length ≤ (textM m).length + f.r.length := by
  have e1 : txtF m.fs = txtF (m.fs.take (k + 1)) ++ txtF (m.fs.drop (k + 1)) := by unfold txtF; rw [← List.flatMap_append, List.take_append_drop]
  have e2 := txt_le (fs := m.fs.take (k + 1)) k
  rw [List.take_take, Nat.min_eq_left (by omega)] at e2
  have e3 : txtF (m.fs.set k f) = txtF (m.fs.take k) ++ (f.r ++ txtF (m.fs.drop (k + 1))) := by
    rw [List.set_eq_take_append_cons_drop, if_pos h]
    unfold txtF
    rw [List.flatMap_append]
    rfl
  unfold textM
  dsimp only
  rw [e3, e1]
  simp only [List.length_append]
  omega

end Go.Vf.S

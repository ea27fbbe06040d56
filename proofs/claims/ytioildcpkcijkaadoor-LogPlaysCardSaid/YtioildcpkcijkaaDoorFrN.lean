import Derived.Test.YtioildcpkcijkaaDoorFrM
/- What the law FrameOpens says, from any state. -/
namespace Go.Vf.S
open Go Go.Vf Go.Vf.Fr
attribute [local irreducible] wSeq wRow wp wG
set_option linter.unusedVariables false
set_option linter.unusedSimpArgs false
set_option maxRecDepth 10000

theorem Rdb_skip {s : SS} {base : Option Addr} {n id : Nat} {l : List UInt8} {x : Option ABlk} (h : Rdb s base n l) (hne : ∀ b off sp, base = some ⟨b, off, sp⟩ → id ≠ b) : Rdb ⟨(id, x) :: s.heap, s.next, s.gl⟩ base n l := by
  cases base with
  | none => exact h
  | some q =>
    obtain ⟨b, off, sp⟩ := q
    obtain ⟨q1, q2, q3, c, t, g, r, q4, q5, q6⟩ := h
    exact ⟨q1, q2, q3, c, t, g, r, look_tail' (hne _ _ _ rfl) q4, q5, q6⟩

end Go.Vf.S

import Derived.Test.YtgnhkclddahdnaaDoorLiP
import Derived.Test.YtgnhkclddahdnaaDoorLiN
import Derived.Test.YtgnhkclddahdnaaDoorFnLJ
/- Lists of addresses: the law ListJoins, from any state. -/
namespace Go.Vf.S
open Go Go.Vf Go.Proofs Go.RowKit
attribute [local irreducible] wSeq wRow wp wG
set_option linter.unusedVariables false
set_option linter.unusedSimpArgs false
set_option maxRecDepth 10000

/-- Places lie within a text. -/
theorem sp_in : ∀ (T : List Tok) (n : Nat), ∀ x ∈ spT n T, n ≤ x.f ∧ x.f ≤ x.t ∧ x.t ≤ n + (flT T).length
  | [], n, x, h => by cases h
  | .g l :: T, n, x, h => by
    have := sp_in T (n + l.length) x h
    rw [flT_cons, List.length_append]
    show n ≤ x.f ∧ x.f ≤ x.t ∧ x.t ≤ n + (l.length + _)
    omega
  | .d l :: T, n, x, h => by
    have := sp_in T (n + l.length) x h
    rw [flT_cons, List.length_append]
    show n ≤ x.f ∧ x.f ≤ x.t ∧ x.t ≤ n + (l.length + _)
    omega
  | .a l :: T, n, x, h => by
    rw [flT_cons, List.length_append]
    show n ≤ x.f ∧ x.f ≤ x.t ∧ x.t ≤ n + (l.length + _)
    rw [spT] at h
    rcases List.mem_cons.1 h with rfl | h
    · dsimp only
      omega
    · have := sp_in T (n + l.length) x h
      omega
theorem find_in (l : List UInt8) : ∀ x ∈ (findF l).1, x.f ≤ x.t ∧ x.t ≤ l.length := by
  intro x hx
  unfold findF at hx
  cases hT : tokF l with
  | none => rw [hT] at hx; cases hx
  | some T =>
    rw [hT] at hx
    simp only at hx
    split at hx
    · cases hx
    · split at hx
      · cases hx
      · have := sp_in T 0 x hx
        rw [tok_cat hT] at this
        omega

end Go.Vf.S

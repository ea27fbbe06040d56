import Derived.Test.YtphcpdopfolopaaDoorFn
import Derived.Test.YtphcpdopfolopaaDoorEngBd
import Derived.Test.YtphcpdopfolopaaDoorEngBe
/- What a call of the library's is told. -/
namespace Go.Vf.S
open Go Go.Vf Go.Proofs Go.RowKit
set_option linter.unusedVariables false
set_option linter.unusedSimpArgs false
set_option maxRecDepth 10000

theorem tyNe {H : List (Nat × Option ABlk)} {i j : Nat} {c c' : List Value} {t t' : TypeId} {g g' r r' : Bool} (h : lookH H i = some (.cells c t g r)) (h' : lookH H j = some (.cells c' t' g' r')) (ht : t ≠ t') : i ≠ j := by
  intro e
  subst e
  rw [h] at h'
  cases h'
  exact ht rfl

abbrev gMx : Nat := 2
/-- The library's own number lies there. -/
def Gx (s : SS) : Prop := gMx < s.gl ∧ gMx < s.next ∧ ∃ m, lookH s.heap gMx = some (.cells [.int .i64 m] 3 false true)
theorem Gx.chg {s s' : SS} (h : Gx s) (c : Chg s s' []) : Gx s' := by
  obtain ⟨h1, h2, m, h3⟩ := h
  exact ⟨by rw [c.gl]; exact h1, Nat.lt_of_lt_of_le h2 c.next, m, c.blk _ _ h2 (by simp) h3⟩

theorem lrel_1 {ρ : Ren} {a : Value} {args' : List Value} (h : LRel ρ [a] args') : ∃ v1, args' = [v1] ∧ VRel ρ a v1 := by
  obtain ⟨h1, h2⟩ := h
  match args', h1 with
  | [v1], _ => exact ⟨v1, rfl, h2 0 _ _ rfl rfl⟩
theorem lrel_2 {ρ : Ren} {a b : Value} {args' : List Value} (h : LRel ρ [a, b] args') : ∃ v1 v2, args' = [v1, v2] ∧ VRel ρ a v1 ∧ VRel ρ b v2 := by
  obtain ⟨h1, h2⟩ := h
  match args', h1 with
  | [v1, v2], _ => exact ⟨v1, v2, rfl, h2 0 _ _ rfl rfl, h2 1 _ _ rfl rfl⟩
theorem lrel_3 {ρ : Ren} {a b c : Value} {args' : List Value} (h : LRel ρ [a, b, c] args') : ∃ v1 v2 v3, args' = [v1, v2, v3] ∧ VRel ρ a v1 ∧ VRel ρ b v2 ∧ VRel ρ c v3 := by
  obtain ⟨h1, h2⟩ := h
  match args', h1 with
  | [v1, v2, v3], _ => exact ⟨v1, v2, v3, rfl, h2 0 _ _ rfl rfl, h2 1 _ _ rfl rfl, h2 2 _ _ rfl rfl⟩

def asc (l : List UInt8) : Prop := ∀ c ∈ l, c.toNat < 128
theorem asc_at {l : List UInt8} (h : asc l) : ∀ (j : Nat) (b : UInt8), (⟨⟨l⟩⟩ : ByteArray).data.toList[j]? = some b → b.toNat < 128 := fun j b hb => h b (List.mem_of_getElem? hb)

end Go.Vf.S

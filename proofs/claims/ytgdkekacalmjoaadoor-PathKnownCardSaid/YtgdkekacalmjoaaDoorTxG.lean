import Derived.Test.YtgdkekacalmjoaaDoorTxE
import Derived.Test.YtgdkekacalmjoaaDoorTxF
/- White space and comments at the front. -/
namespace Go.Vf.S
open Go Go.Vf
attribute [local irreducible] wSeq wRow wp wG
set_option linter.unusedVariables false
set_option linter.unusedSimpArgs false
set_option maxRecDepth 10000

def bl : Nat → List UInt8 → Nat → Nat × Nat
  | 0, _, a => (a, 0)
  | f + 1, l, a =>
    if (l.dropWhile wh).take 1 = [40] then
      (if (commentF (l.dropWhile wh)).2 = 0 then bl f ((l.dropWhile wh).drop (commentF (l.dropWhile wh)).1) (a + (l.length - (l.dropWhile wh).length) + (commentF (l.dropWhile wh)).1) else (0, (commentF (l.dropWhile wh)).2))
    else (a + (l.length - (l.dropWhile wh).length), 0)
def blankF (l : List UInt8) : Nat × Nat := bl (l.length + 1) l 0

theorem dropW_len (l : List UInt8) : (l.dropWhile wh).length ≤ l.length := (List.dropWhile_sublist wh).length_le
theorem dropW (l : List UInt8) : l.dropWhile wh = l.drop (l.length - (l.dropWhile wh).length) := by
  obtain ⟨t, ht⟩ := List.dropWhile_suffix (l := l) wh
  have e := congrArg List.length ht
  rw [List.length_append] at e
  rw [show l.length - (l.dropWhile wh).length = t.length by omega]
  conv => rhs; rw [← ht]
  rw [List.drop_left]

theorem cm_pos : ∀ (l : List UInt8) (d : Nat) (e : Bool) (i n : Nat), cm l d e i = (n, 0) → i < n ∧ n ≤ i + l.length
  | [], d, e, i, n, h => by simp [cm] at h
  | c :: r, d, e, i, n, h => by
    have ih := fun d e n h => cm_pos r d e (i + 1) n h
    rw [cm] at h
    simp only [List.length_cons]
    split at h
    · cases h
    · repeat' split at h
      all_goals first | (have := ih _ _ _ h; omega) | (cases h; omega) | cases h
theorem comment_pos {l : List UInt8} (h : (commentF l).2 = 0) : 0 < (commentF l).1 ∧ (commentF l).1 ≤ l.length := by
  unfold commentF at h ⊢
  split at h
  · rename_i q
    rw [if_pos q]
    have := cm_pos l 0 false 0 (cm l 0 false 0).1 (Prod.ext rfl h)
    omega
  · cases h

theorem bl_nil {f a : Nat} (hf : 0 < f) : bl f [] a = (a, 0) := by
  cases f with
  | zero => omega
  | succ f => simp [bl]
theorem bl_wh {f a : Nat} {c : UInt8} {r : List UInt8} (hf : 0 < f) (h : wh c = true) : bl f (c :: r) a = bl f r (a + 1) := by
  cases f with
  | zero => omega
  | succ f =>
    have e : (c :: r).dropWhile wh = r.dropWhile wh := by rw [List.dropWhile_cons, if_pos h]
    have := dropW_len r
    rw [bl, bl, e, List.length_cons, show a + (r.length + 1 - (r.dropWhile wh).length) = a + 1 + (r.length - (r.dropWhile wh).length) by omega]
theorem bl_no {f a : Nat} {c : UInt8} {r : List UInt8} (hf : 0 < f) (h : wh c = false) (h40 : c.toNat ≠ 40) : bl f (c :: r) a = (a, 0) := by
  cases f with
  | zero => omega
  | succ f =>
    have e : (c :: r).dropWhile wh = c :: r := by rw [List.dropWhile_cons, if_neg (by simp [h])]
    rw [bl, e, if_neg (by simp; intro q; exact h40 (by rw [q]; rfl))]
    simp
theorem bl_open {f a : Nat} {c : UInt8} {r : List UInt8} (h40 : c.toNat = 40) : bl (f + 1) (c :: r) a = if (commentF (c :: r)).2 = 0 then bl f ((c :: r).drop (commentF (c :: r)).1) (a + (commentF (c :: r)).1) else (0, (commentF (c :: r)).2) := by
  have hw : wh c = false := by unfold wh; simp; omega
  have e : (c :: r).dropWhile wh = c :: r := by rw [List.dropWhile_cons, if_neg (by simp [hw])]
  rw [bl, e, if_pos (by simp; exact UInt8.toNat_inj.1 h40), Nat.sub_self, Nat.add_zero]

structure BIt where
  f : Nat
  m : Nat
  s : SS

end Go.Vf.S

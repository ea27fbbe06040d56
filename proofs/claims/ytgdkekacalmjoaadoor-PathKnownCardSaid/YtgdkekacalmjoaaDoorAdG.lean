import Derived.Test.YtgdkekacalmjoaaDoorAdF
/- An address that is read: the document's; subaddresses. -/
namespace Go.Vf.S
open Go Go.Vf
attribute [local irreducible] wSeq wRow wp wG
set_option linter.unusedVariables false
set_option linter.unusedSimpArgs false
set_option maxRecDepth 10000

theorem dom_vals (l : List UInt8) : domF l = 0 ∨ domF l = 3 ∨ domF l = 5 := by
  unfold domF
  repeat' split
  all_goals simp
theorem parse_no {l : List UInt8} (h : (partsF l).2.2 = false) : parseF l = ([], [], 5) := by unfold parseF; rw [if_pos h]
theorem while_all {c : UInt8} : ∀ {l : List UInt8}, c ∉ l → l.takeWhile (· != c) = l
  | [], _ => rfl
  | x :: l, h => by
    have : x ≠ c := fun e => h (by simp [e])
    rw [List.takeWhile_cons, if_pos (by simpa using this), while_all fun q => h (List.mem_cons_of_mem _ q)]

/-- The first + that is not the first byte. -/
def spF (l : List UInt8) : List UInt8 × List UInt8 × Bool :=
  if 43 ∈ l.drop 1 then (l.take (((l.drop 1).takeWhile (· != 43)).length + 1), l.drop (((l.drop 1).takeWhile (· != 43)).length + 2), true) else (l, [], false)
theorem sp_at {l : List UInt8} {p : Nat} (hp : 0 < p) (hc : l[p]? = some 43) (hno : (43 : UInt8) ∉ (l.take p).drop 1) : spF l = (l.take p, l.drop (p + 1), true) := by
  have hlt := lt_of_get hc
  have e : l.drop 1 = (l.take p).drop 1 ++ 43 :: l.drop (p + 1) := by
    rw [List.drop_take, ← drop_next hc]
    conv => lhs; rw [← List.take_append_drop (p - 1) (l.drop 1)]
    rw [List.drop_drop, show 1 + (p - 1) = p by omega]
  have e2 : ((l.take p).drop 1).length + 1 = p := by rw [List.length_drop, List.length_take]; omega
  unfold spF
  rw [e, if_pos (by simp), while_first hno, e2, show ((l.take p).drop 1).length + 2 = p + 1 by omega]
theorem sp_end {l : List UInt8} (hno : (43 : UInt8) ∉ l.drop 1) : spF l = (l, [], false) := by unfold spF; rw [if_neg hno]
theorem plus_next {l : List UInt8} {p : Nat} {c : UInt8} (hc : l[p]? = some c) (h : (43 : UInt8) ∉ (l.take p).drop 1) (hn : c ≠ 43 ∨ p = 0) : (43 : UInt8) ∉ (l.take (p + 1)).drop 1 := by
  rcases Nat.eq_zero_or_pos p with h0 | h0
  · subst h0
    rw [take_next hc]
    simp
  · have hlt := lt_of_get hc
    rw [take_next hc, List.drop_append_of_le_length (by rw [List.length_take]; omega), List.mem_append, List.mem_singleton]
    rintro (q | q)
    · exact h q
    · rcases hn with hn | hn
      · exact hn q.symm
      · omega
theorem plus_more {l : List UInt8} {p : Nat} : ∀ {w : Nat}, (∀ j, j < w → ∃ d, l[p + j]? = some d ∧ 128 ≤ d.toNat) → (43 : UInt8) ∉ (l.take p).drop 1 → (43 : UInt8) ∉ (l.take (p + w)).drop 1
  | 0, _, h => h
  | w + 1, hd, h => by
    obtain ⟨d, h1, h2⟩ := hd w (Nat.lt_succ_self _)
    rw [← Nat.add_assoc]
    exact plus_next h1 (plus_more (fun j hj => hd j (Nat.lt_succ_of_lt hj)) h) (.inl fun e => by rw [e] at h2; simp at h2)

abbrev spV (q : List UInt8 × List UInt8 × Bool) : Value := .tuple ⟨[str q.1, str q.2.1, .bool q.2.2]⟩

end Go.Vf.S

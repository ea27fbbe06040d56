import Derived.Test.YtphcpdopfolopaaDoorCoB
/- What follows: letters of what is read, cases, joined bytes; bits one by one. Pure. -/
namespace Go.Vf.S
open Go Go.Vf
set_option linter.unusedVariables false
set_option linter.unusedSimpArgs false
set_option maxRecDepth 10000

theorem case6 (c : UInt8) : caseF 6 c = c := by unfold caseF; rw [if_neg (by omega), if_neg (by omega)]
theorem case6_map (s : List UInt8) : s.map (caseF 6) = s := by
  conv => rhs; rw [← List.map_id s]
  exact List.map_congr_left fun c _ => case6 c
theorem cut2_is (s : List UInt8) : ∃ j, j ≤ 2 ∧ s = cut2 s ++ List.replicate j 61 := by
  have one : ∀ t : List UInt8, t.getLast? = some 61 → t = t.dropLast ++ [61] := by
    intro t h
    obtain ⟨hne, e⟩ : ∃ h : t ≠ [], t.getLast h = 61 := by
      cases t with
      | nil => cases h
      | cons a r =>
        refine ⟨by simp, ?_⟩
        rw [List.getLast?_eq_some_getLast (by simp)] at h
        exact Option.some.inj h
    rw [← e]
    exact (List.dropLast_concat_getLast hne).symm
  unfold cut2
  by_cases h1 : s.getLast? = some 61
  · simp only [if_pos h1]
    by_cases h2 : s.dropLast.getLast? = some 61
    · simp only [if_pos h2]
      refine ⟨2, Nat.le_refl _, ?_⟩
      have e1 := one s h1
      have e2 := one _ h2
      have e3 : s.dropLast.dropLast ++ List.replicate 2 61 = (s.dropLast.dropLast ++ [61]) ++ [61] := by simp [List.replicate]
      rw [e3, ← e2, ← e1]
    · simp only [if_neg h2]
      exact ⟨1, by omega, one s h1⟩
  · simp only [if_neg h1]
    exact ⟨0, by omega, by rw [List.replicate_zero, List.append_nil]⟩
/-- What is read has just those letters. -/
theorem tellF_readF {z : Nat} (hz : 4 ≤ z ∧ z ≤ 6) {s b : List UInt8} (h : readF z s = some b) : tellF z b = s.map (caseF z) := by
  unfold readF at h
  have core : ∀ {t : List UInt8}, (plcs z t).bind (readP z) = some b → (tellP z b).map (letF z) = t.map (caseF z) ∧ z * t.length % 8 < z ∧ cnt z b.length = t.length := by
    intro t ht
    cases hp : plcs z t with
    | none => rw [hp] at ht; cases ht
    | some p =>
      rw [hp] at ht
      have ht' : readP z p = some b := ht
      obtain ⟨q1, q2⟩ := plcs_inv hz hp
      have e := tell_read hz q1 ht'
      refine ⟨by rw [e, q2], ?_, ?_⟩
      · rw [← plcs_len hp]
        unfold readP at ht'
        split at ht'
        · rename_i hc; exact hc.1
        · cases ht'
      · rw [← tellP_len, e, plcs_len hp]
  by_cases h6 : z = 6
  · subst h6
    rw [if_pos rfl] at h
    split at h
    · rename_i hl
      obtain ⟨e1, e2, e3⟩ := core h
      obtain ⟨j, hj, hs⟩ := cut2_is s
      rw [case6_map] at e1 ⊢
      have hlen : s.length = (cut2 s).length + j := by
        have := congrArg List.length hs
        rwa [List.length_append, List.length_replicate] at this
      unfold tellF
      rw [e1, e3]
      have : padN 6 (cut2 s).length = j := by
        unfold padN
        rw [if_pos rfl]
        omega
      rw [this]
      exact hs.symm
    · cases h
  · rw [if_neg h6] at h
    obtain ⟨e1, _, _⟩ := core h
    unfold tellF padN
    rw [if_neg h6, List.replicate_zero, List.append_nil, e1]
theorem tellF_inj {z : Nat} (hz : 4 ≤ z ∧ z ≤ 6) {b c : List UInt8} (h : tellF z b = tellF z c) : b = c := by
  have := readF_tellF hz b
  rw [h, readF_tellF hz c] at this
  exact (Option.some.inj this).symm
/-- Letters of whole groups, and of others behind them. -/
theorem tellF_app {z : Nat} (hz : 4 ≤ z ∧ z ≤ 6) (a b : List UInt8) (ha : 8 * a.length % z = 0) (h6 : z = 6 → a.length % 3 = 0) : tellF z (a ++ b) = tellF z a ++ tellF z b := by
  have hc2 : cnt z (a ++ b).length = cnt z a.length + cnt z b.length := by
    unfold cnt
    rw [List.length_append]
    rcases (show z = 4 ∨ z = 5 ∨ z = 6 by omega) with rfl | rfl | rfl <;> omega
  unfold tellF
  rw [hc2, tell_app hz a b ha, List.map_append]
  by_cases e : z = 6
  · subst e
    have h3 := h6 rfl
    have q : cnt 6 a.length % 4 = 0 := by unfold cnt; omega
    have p1 : padN 6 (cnt 6 a.length) = 0 := by unfold padN; rw [if_pos rfl]; omega
    have p2 : padN 6 (cnt 6 a.length + cnt 6 b.length) = padN 6 (cnt 6 b.length) := by unfold padN; rw [if_pos rfl, if_pos rfl]; omega
    rw [p1, p2, List.replicate_zero, List.append_nil, List.append_assoc]
  · have p : ∀ m, padN z m = 0 := fun m => by unfold padN; rw [if_neg e]
    rw [p, p, p]
    simp only [List.replicate_zero, List.append_nil]
/-- What is read hangs on the cases that count alone. -/
theorem case_case (z : Nat) (c : UInt8) : caseF z (caseF z c) = caseF z c := by
  have h : ∀ z, (z = 5 ∨ z = 4) → (List.range 256).all (fun n => caseF z (caseF z (UInt8.ofNat n)) == caseF z (UInt8.ofNat n)) = true := by
    intro z hz
    rcases hz with rfl | rfl <;> decide +kernel
  have hc : UInt8.ofNat c.toNat = c := by simp
  by_cases h5 : z = 5 ∨ z = 4
  · have := List.all_eq_true.1 (h z h5) c.toNat (List.mem_range.2 c.toNat_lt)
    rw [hc] at this
    exact eq_of_beq this
  · have : ∀ c, caseF z c = c := fun c => by unfold caseF; rw [if_neg (by omega), if_neg (by omega)]
    rw [this, this]
theorem plcs_case {z : Nat} : ∀ {s t : List UInt8}, s.map (caseF z) = t.map (caseF z) → plcs z s = plcs z t
  | [], [], _ => rfl
  | [], _ :: _, h => by cases h
  | _ :: _, [], h => by cases h
  | c :: s, d :: t, h => by
    rw [List.map_cons, List.map_cons] at h
    obtain ⟨h1, h2⟩ := List.cons.inj h
    rw [plcs, plcs, plcs_case h2]
    unfold plcF
    rw [h1]
theorem readF_case {z : Nat} (h6 : z ≠ 6) {s t : List UInt8} (h : s.map (caseF z) = t.map (caseF z)) : readF z s = readF z t := by
  unfold readF
  rw [if_neg h6, if_neg h6, plcs_case h]

/-! ### Bits, one by one -/
/-- A bit of bytes, the highest of the first first; behind the end 0. -/
def bitF (b : List UInt8) (k : Nat) : Nat := (b.getD (k / 8) 0).toNat / 2 ^ (7 - k % 8) % 2
theorem byte_of_n (b : List UInt8) {i : Nat} (h : i < b.length) : (b.getD i 0).toNat = nB b / 256 ^ (b.length - 1 - i) % 256 := by
  have hd := dgs_nmb (B := 256) (b.map (·.toNat)) (fun d hd => by
    obtain ⟨x, _, rfl⟩ := List.mem_map.1 hd
    exact x.toNat_lt)
  rw [List.length_map] at hd
  have hg := dgs_get (B := 256) b.length (nB b) i h
  rw [hd, List.getElem?_map, List.getElem?_eq_getElem h] at hg
  rw [List.getD_eq_getElem?_getD, List.getElem?_eq_getElem h]
  exact Option.some.inj hg
theorem div_mod_pow (x a c : Nat) (hc : c ≤ 7) : x / 2 ^ a % 256 / 2 ^ c % 2 = x / 2 ^ (a + c) % 2 := by
  rw [Nat.pow_add, ← Nat.div_div_eq_div_mul]
  generalize x / 2 ^ a = y
  rcases (show c = 0 ∨ c = 1 ∨ c = 2 ∨ c = 3 ∨ c = 4 ∨ c = 5 ∨ c = 6 ∨ c = 7 by omega) with rfl | rfl | rfl | rfl | rfl | rfl | rfl | rfl <;> omega
/-- The bit k of bytes and of so many bits 0 behind them. -/
theorem bit_is (b : List UInt8) {k pad : Nat} (h : k < 8 * b.length + pad) : bitF b k = nB b * 2 ^ pad / 2 ^ (8 * b.length + pad - 1 - k) % 2 := by
  by_cases hk : k < 8 * b.length
  · have hi : k / 8 < b.length := by omega
    unfold bitF
    rw [byte_of_n b hi, pow_256, div_mod_pow _ _ _ (by omega)]
    have e : 8 * b.length + pad - 1 - k = pad + (8 * (b.length - 1 - k / 8) + (7 - k % 8)) := by omega
    rw [e, Nat.pow_add 2 pad, Nat.mul_comm (2 ^ pad), Nat.mul_div_mul_right _ _ (Nat.two_pow_pos pad), Nat.pow_add]
  · have h0 : bitF b k = 0 := by
      unfold bitF
      rw [List.getD_eq_getElem?_getD, List.getElem?_eq_none (by omega)]
      simp
    have e : pad = (8 * b.length + pad - 1 - k) + 1 + (k - 8 * b.length) := by omega
    rw [h0]
    generalize hw : 8 * b.length + pad - 1 - k = w at e
    have e2 : nB b * 2 ^ pad = (nB b * 2 ^ (k - 8 * b.length) * 2) * 2 ^ w := by
      rw [e, Nat.pow_add, Nat.pow_add, Nat.pow_one]
      simp only [Nat.mul_comm, Nat.mul_left_comm, Nat.mul_assoc]
    rw [e2, Nat.mul_div_cancel _ (Nat.two_pow_pos w)]
    omega
/-- Bits put one behind the other: the number of the first so many from k on. -/
def bitsF (b : List UInt8) (k : Nat) : Nat → Nat
  | 0 => 0
  | i + 1 => 2 * bitsF b k i + bitF b (k + i)
theorem bits_is (b : List UInt8) {k pad : Nat} : ∀ i, k + i ≤ 8 * b.length + pad → bitsF b k i = nB b * 2 ^ pad / 2 ^ (8 * b.length + pad - k - i) % 2 ^ i
  | 0, h => by rw [bitsF, Nat.pow_zero, Nat.mod_one]
  | i + 1, h => by
    rw [bitsF, bits_is b (pad := pad) i (by omega), bit_is b (pad := pad) (by omega)]
    generalize nB b * 2 ^ pad = X
    have e1 : 8 * b.length + pad - k - i = (8 * b.length + pad - k - (i + 1)) + 1 := by omega
    have e2 : 8 * b.length + pad - 1 - (k + i) = 8 * b.length + pad - k - (i + 1) := by omega
    rw [e1, e2, Nat.pow_succ 2 (8 * b.length + pad - k - (i + 1)), ← Nat.div_div_eq_div_mul, Nat.pow_succ 2 i, Nat.mul_comm (2 ^ i) 2, Nat.mod_mul]
    omega
/-- A letter's place, by its bits. -/
theorem tell_bits {z : Nat} (hz : 4 ≤ z ∧ z ≤ 6) (b : List UInt8) {j : Nat} (h : j < cnt z b.length) : (tellP z b)[j]? = some (bitsF b (z * j) z) := by
  obtain ⟨h1, h2, h3⟩ := cnt_is (n := b.length) hz
  have hm : z * (j + 1) ≤ z * cnt z b.length := Nat.mul_le_mul_left _ h
  rw [Nat.mul_succ] at hm
  unfold tellP
  rw [dgs_get _ _ _ h, bits_is b (pad := z * cnt z b.length - 8 * b.length) z (by omega), ← Nat.pow_mul]
  congr 4
  rw [Nat.mul_sub, Nat.mul_sub, Nat.mul_one]
  omega
end Go.Vf.S

import Derived.Test.YtphcpdopfolopaaDoorCoC
/- What the program's and the document's loops hold: letters taken in, bytes told out, and the other way. Pure. -/
namespace Go.Vf.S
open Go Go.Vf
set_option linter.unusedVariables false
set_option linter.unusedSimpArgs false
set_option maxRecDepth 10000

/-! ### Reading: places taken in -/
def kpt (z : Nat) (p : List Nat) : Nat := nmb (2 ^ z) p % 2 ^ (z * p.length % 8)
def outp (z : Nat) (p : List Nat) : List Nat := dgs 256 (z * p.length / 8) (nmb (2 ^ z) p / 2 ^ (z * p.length % 8))
def outB (z : Nat) (p : List Nat) : List UInt8 := (outp z p).map UInt8.ofNat
theorem kpt_lt (z : Nat) (p : List Nat) : kpt z p < 2 ^ (z * p.length % 8) := Nat.mod_lt _ (Nat.two_pow_pos _)
theorem outp_len (z : Nat) (p : List Nat) : (outp z p).length = z * p.length / 8 := dgs_len _ _ _
theorem outB_len (z : Nat) (p : List Nat) : (outB z p).length = z * p.length / 8 := by unfold outB; rw [List.length_map, outp_len]
theorem readP_is (z : Nat) (p : List Nat) : readP z p = if z * p.length % 8 < z ∧ kpt z p = 0 then some (outB z p) else none := rfl
theorem step_lo {z : Nat} {p : List Nat} {d : Nat} (hd : d < 2 ^ z) (h : z * p.length % 8 + z < 8) : kpt z (p ++ [d]) = kpt z p * 2 ^ z + d ∧ outp z (p ++ [d]) = outp z p ∧ z * (p.length + 1) % 8 = z * p.length % 8 + z ∧ outB z (p ++ [d]) = outB z p := by
  obtain ⟨e1, e2⟩ := acc_in (N := nmb (2 ^ z) p) (h := z * p.length % 8) hd
  have m1 : z * (p.length + 1) % 8 = z * p.length % 8 + z := by rw [Nat.mul_succ]; omega
  have m2 : z * (p.length + 1) / 8 = z * p.length / 8 := by rw [Nat.mul_succ]; omega
  have k : outp z (p ++ [d]) = outp z p := by
    unfold outp
    rw [nmb_snoc, List.length_append, List.length_singleton, m1, m2, e2]
  refine ⟨?_, k, m1, by unfold outB; rw [k]⟩
  unfold kpt
  rw [nmb_snoc, List.length_append, List.length_singleton, m1, e1]
theorem step_hi {z : Nat} {p : List Nat} {d : Nat} (hz : z ≤ 8) (hd : d < 2 ^ z) (h : 8 ≤ z * p.length % 8 + z) : kpt z (p ++ [d]) = (kpt z p * 2 ^ z + d) % 2 ^ (z * p.length % 8 + z - 8) ∧ outp z (p ++ [d]) = outp z p ++ [(kpt z p * 2 ^ z + d) / 2 ^ (z * p.length % 8 + z - 8)] ∧ z * (p.length + 1) % 8 = z * p.length % 8 + z - 8 ∧
    (kpt z p * 2 ^ z + d) / 2 ^ (z * p.length % 8 + z - 8) < 256 ∧ outB z (p ++ [d]) = outB z p ++ [UInt8.ofNat ((kpt z p * 2 ^ z + d) / 2 ^ (z * p.length % 8 + z - 8))] := by
  obtain ⟨e1, e2⟩ := acc_in (N := nmb (2 ^ z) p) (h := z * p.length % 8) hd
  have m1 : z * (p.length + 1) % 8 = z * p.length % 8 + z - 8 := by rw [Nat.mul_succ]; omega
  have m2 : z * (p.length + 1) / 8 = z * p.length / 8 + 1 := by rw [Nat.mul_succ]; omega
  obtain ⟨o1, o2⟩ := acc_out (N := nmb (2 ^ z) p * 2 ^ z + d) (h := z * p.length % 8 + z) (y := 8) h (z * p.length / 8)
  have o3 := acc_lt (N := nmb (2 ^ z) p * 2 ^ z + d) (h := z * p.length % 8 + z) (y := 8) h
  rw [e1] at o1 o2 o3
  rw [e2] at o1
  have k : outp z (p ++ [d]) = outp z p ++ [(kpt z p * 2 ^ z + d) / 2 ^ (z * p.length % 8 + z - 8)] := by
    unfold outp
    rw [nmb_snoc, List.length_append, List.length_singleton, m1, m2]
    exact o1
  refine ⟨?_, k, m1, o3, by unfold outB; rw [k, List.map_append]; rfl⟩
  unfold kpt
  rw [nmb_snoc, List.length_append, List.length_singleton, m1]
  exact o2.symm
theorem kpt_nil (z : Nat) : kpt z [] = 0 := by unfold kpt; rw [nmb_nil, Nat.zero_mod]
theorem outB_nil (z : Nat) : outB z [] = [] := by
  have : (outB z []).length = 0 := by rw [outB_len]; simp
  exact List.eq_nil_of_length_eq_zero this

/-! ### What the program reads: all signs = at the end cut off, then the number of letters -/
def sizeF (z n : Nat) : Nat := cnt z n + padN z (cnt z n)
theorem plc_61 {z : Nat} (hz : 4 ≤ z ∧ z ≤ 6) : plcF z 61 = none := by
  rcases (show z = 4 ∨ z = 5 ∨ z = 6 by omega) with rfl | rfl | rfl <;> decide
theorem read_prog {z : Nat} (hz : 4 ≤ z ∧ z ≤ 6) {s t : List UInt8} {j : Nat} (hs : s = t ++ List.replicate j 61) (ht : t.getLast? ≠ some 61) :
    readF z s = if s.length = sizeF z (t.length * z / 8) then (plcs z t).bind (readP z) else none := by
  have hl : s.length = t.length + j := by rw [hs, List.length_append, List.length_replicate]
  have hno : ∀ {u : List UInt8} (k : Nat), u = t ++ List.replicate (k + 1) 61 → plcs z u = none := by
    intro u k hu
    refine plcs_none (i := t.length) (c := 61) ?_ (plc_61 hz)
    rw [hu, List.getElem?_append_right (Nat.le_refl _), Nat.sub_self]; rfl
  have hbad : ∀ q, ¬ (z * t.length % 8 < z) → (plcs z t).bind (readP z) = some q → False := by
    intro q h1 h2
    cases hp : plcs z t with
    | none => rw [hp] at h2; cases h2
    | some p =>
      rw [hp] at h2
      have h2' : readP z p = some q := h2
      rw [readP_is, plcs_len hp, if_neg (fun h => h1 h.1)] at h2'
      cases h2'
  have hbad' : ¬ (z * t.length % 8 < z) → (plcs z t).bind (readP z) = none := by
    intro h
    cases e : (plcs z t).bind (readP z) with
    | none => rfl
    | some q => exact (hbad q h e).elim
  have hcm : z * t.length = t.length * z := Nat.mul_comm _ _
  have hcnt : cnt z (t.length * z / 8) ≤ t.length ∧ (z * t.length % 8 < z ↔ cnt z (t.length * z / 8) = t.length) ∧ t.length ≤ cnt z (t.length * z / 8) + 1 := by
    rw [hcm]
    unfold cnt
    rcases (show z = 4 ∨ z = 5 ∨ z = 6 by omega) with rfl | rfl | rfl <;> omega
  unfold readF
  by_cases h6 : z = 6
  · subst h6
    rw [if_pos rfl]
    unfold sizeF padN
    rw [if_pos rfl]
    by_cases h4 : s.length % 4 = 0
    · rw [if_pos h4]
      by_cases hj : j ≤ 2
      · have hcut : cut2 s = t := by
          unfold cut2
          rcases (show j = 0 ∨ j = 1 ∨ j = 2 by omega) with rfl | rfl | rfl
          · rw [List.replicate_zero, List.append_nil] at hs
            rw [hs]
            simp only [if_neg ht]
          · have e1 : s = t ++ [61] := hs
            rw [e1]
            simp only [List.getLast?_concat, if_true, List.dropLast_concat, if_neg ht]
          · have e1 : s = (t ++ [61]) ++ [61] := by rw [hs]; simp [List.replicate]
            rw [e1]
            simp only [List.getLast?_concat, if_true, List.dropLast_concat]
        rw [hcut]
        by_cases hm : 6 * t.length % 8 < 6
        · rw [if_pos]
          have := hcnt.2.1.1 hm
          rw [this]
          omega
        · rw [hbad' hm]
          split <;> rfl
      · obtain ⟨k, rfl⟩ : ∃ k, j = k + 3 := ⟨j - 3, by omega⟩
        have hcut : cut2 s = t ++ List.replicate (k + 1) 61 := by
          unfold cut2
          have e1 : s = ((t ++ List.replicate (k + 1) 61) ++ [61]) ++ [61] := by
            rw [hs, List.append_assoc, List.append_assoc]
            congr 1
            rw [show [(61 : UInt8)] ++ [61] = List.replicate 2 61 from rfl, List.replicate_append_replicate]
          rw [e1]
          simp only [List.getLast?_concat, if_true, List.dropLast_concat]
        rw [hcut, hno k rfl, if_neg (by omega)]
        rfl
    · rw [if_neg h4, if_neg (by omega)]
  · rw [if_neg h6]
    unfold sizeF padN
    rw [if_neg h6, Nat.add_zero]
    cases j with
    | zero =>
      rw [List.replicate_zero, List.append_nil] at hs
      subst hs
      by_cases hm : z * s.length % 8 < z
      · rw [if_pos (hcnt.2.1.1 hm).symm]
      · rw [hbad' hm]
        split <;> rfl
    | succ k => rw [hno k hs, if_neg (by omega)]; rfl

/-! ### Telling: bytes taken in -/
def tlN (b : List UInt8) (m : Nat) : Nat := nB b % 2 ^ m
def tlO (z : Nat) (b : List UInt8) (m q : Nat) : List Nat := dgs (2 ^ z) q (nB b / 2 ^ m)
theorem nB_snoc (b : List UInt8) (c : UInt8) : nB (b ++ [c]) = nB b * 2 ^ 8 + c.toNat := by
  unfold nB
  rw [List.map_append, List.map_singleton, nmb_snoc]
theorem tl_in (z : Nat) (b : List UInt8) (m q : Nat) (c : UInt8) : tlN (b ++ [c]) (m + 8) = tlN b m * 2 ^ 8 + c.toNat ∧ tlO z (b ++ [c]) (m + 8) q = tlO z b m q := by
  obtain ⟨e1, e2⟩ := acc_in (N := nB b) (h := m) (x := 8) (d := c.toNat) c.toNat_lt
  unfold tlN tlO
  rw [nB_snoc, e1, e2]
  exact ⟨rfl, rfl⟩
theorem tl_out {z : Nat} (b : List UInt8) {m : Nat} (q : Nat) (h : z ≤ m) : tlN b (m - z) = tlN b m % 2 ^ (m - z) ∧ tlO z b (m - z) (q + 1) = tlO z b m q ++ [tlN b m / 2 ^ (m - z)] ∧ tlN b m / 2 ^ (m - z) < 2 ^ z := by
  obtain ⟨o1, o2⟩ := acc_out (N := nB b) h q
  exact ⟨o2.symm, o1, acc_lt h⟩
theorem tl_lt (b : List UInt8) (m : Nat) : tlN b m < 2 ^ m := Nat.mod_lt _ (Nat.two_pow_pos _)
theorem tl_nil (z : Nat) : tlN [] 0 = 0 ∧ tlO z [] 0 0 = [] := ⟨rfl, rfl⟩
/-- All bytes taken in, nothing left. -/
theorem tl_end {z : Nat} (hz : 4 ≤ z ∧ z ≤ 6) (b : List UInt8) {q : Nat} (h : z * q = 8 * b.length) : tlO z b 0 q = tellP z b := by
  have hc : cnt z b.length = q := by
    unfold cnt
    rcases (show z = 4 ∨ z = 5 ∨ z = 6 by omega) with rfl | rfl | rfl <;> omega
  unfold tlO tellP
  rw [hc, h, Nat.sub_self]
  simp
/-- What is left is the last letter, with bits 0 behind it. -/
theorem tl_last {z : Nat} (hz : 4 ≤ z ∧ z ≤ 6) (b : List UInt8) {q m : Nat} (h : z * q + m = 8 * b.length) (h0 : 0 < m) (hm : m < z) : tlO z b m q ++ [tlN b m * 2 ^ (z - m)] = tellP z b ∧ tlN b m * 2 ^ (z - m) < 2 ^ z := by
  have hc : cnt z b.length = q + 1 := by
    unfold cnt
    rcases (show z = 4 ∨ z = 5 ∨ z = 6 by omega) with rfl | rfl | rfl <;> omega
  have hw : z * cnt z b.length - 8 * b.length = z - m := by rw [hc, Nat.mul_succ]; omega
  have e : 2 ^ z = 2 ^ m * 2 ^ (z - m) := by rw [← Nat.pow_add]; congr 1; omega
  refine ⟨?_, ?_⟩
  · unfold tellP
    rw [hw, hc, dgs]
    unfold tlO tlN
    congr 2
    · rw [e, Nat.mul_div_mul_right _ _ (Nat.two_pow_pos _)]
    · rw [e, Nat.mul_mod_mul_right]
  · rw [e]
    exact Nat.mul_lt_mul_of_pos_right (tl_lt b m) (Nat.two_pow_pos _)
/-- The document's: letter by letter. -/
theorem tell_take {z : Nat} (hz : 4 ≤ z ∧ z ≤ 6) (b : List UInt8) {j : Nat} (h : j < cnt z b.length) : (tellP z b).take (j + 1) = (tellP z b).take j ++ [bitsF b (z * j) z] ∧ bitsF b (z * j) z < 2 ^ z := by
  have e := tell_bits hz b h
  refine ⟨?_, tellP_lt z b _ (List.mem_of_getElem? e)⟩
  rw [List.take_add_one, e]; rfl
end Go.Vf.S

import Derived.Test.YtafdbfpclolpkaaHaQ
/- The document's: bytes of numbers, from behind. -/
namespace Go.Vf.S
open Go Go.Vf
set_option linter.unusedVariables false
set_option linter.unusedSimpArgs false
set_option maxRecDepth 10000

/-- Eight bytes so far, from behind. -/
def be8b (n p : Nat) : List UInt8 := List.replicate (8 - p) 0 ++ (be8 n).drop (8 - p)
theorem be8b_len (n : Nat) {p : Nat} (h : p ≤ 8) : (be8b n p).length = 8 := by unfold be8b; rw [List.length_append, List.length_replicate, List.length_drop, be8_len]; omega
theorem be8b_0 (n : Nat) : be8b n 0 = List.replicate 8 0 := by
  unfold be8b
  rw [List.drop_of_length_le (by rw [be8_len]; omega), List.append_nil]
theorem be8b_8 (n : Nat) : be8b n 8 = be8 n := rfl
theorem be8b_next (n : Nat) {p : Nat} (h : p < 8) : be8b n (p + 1) = (be8b n p).set (7 - p) (UInt8.ofNat (n / 256 ^ p)) := by
  unfold be8b
  have e1 : 8 - p = (7 - p) + 1 := by omega
  have e2 : 8 - (p + 1) = 7 - p := by omega
  have g : (be8 n)[7 - p]? = some (UInt8.ofNat (n / 256 ^ p)) := by
    rw [be8_get n (by omega), show 7 - (7 - p) = p by omega]
  rw [e2, e1, List.replicate_succ', List.append_assoc, List.set_append_right _ _ (by rw [List.length_replicate]; exact Nat.le_refl _), List.length_replicate, Nat.sub_self, drop_next g]
  rfl
theorem low_byte {n : Nat} {z : Int} (hz : z = (n : Int).tmod 256) : IntKind.wrap .u8 z = ((UInt8.ofNat n).toNat : Int) := by
  rw [hz, show (n : Int).tmod 256 = ((n % 256 : Nat) : Int) from (Int.ofNat_tmod n 256).symm, wrap_u8]
  simp
theorem low_byte32 {x : Wd} {z : Int} (hz : z = (x.toNat : Int).tmod 256) : IntKind.wrap .u8 z = ((byteOf x).toNat : Int) := low_byte hz
theorem next_byte32 (x : Wd) (j : Nat) : IntKind.wrap .u32 (((x >>> (8 * j)).toNat : Int).tdiv 256) = ((x >>> (8 * (j + 1))).toNat : Int) := by
  rw [show ((x >>> (8 * j)).toNat : Int).tdiv 256 = (((x >>> (8 * j)).toNat / 256 : Nat) : Int) from (Int.ofNat_tdiv _ 256).symm, wrap_u32]
  have h1 : (x >>> (8 * (j + 1))).toNat = (x >>> (8 * j)).toNat / 256 := by
    rw [BitVec.toNat_ushiftRight, BitVec.toNat_ushiftRight, Nat.shiftRight_eq_div_pow, Nat.shiftRight_eq_div_pow, Nat.div_div_eq_div_mul, show (256 : Nat) = 2 ^ 8 from rfl, ← Nat.pow_add]
    rfl
  rw [h1]
  have := (x >>> (8 * j)).isLt
  omega
theorem mod_idem {z n : Int} (h : z = n) : z = n := h

/-- Twenty bytes so far: whole words in front, and the end of one. -/
def outL (S : List UInt8) (i j : Nat) : List UInt8 := (List.range 20).map fun q => if q < 4 * i ∨ (4 * i + 4 - j ≤ q ∧ q < 4 * i + 4) then S.getD q 0 else 0
theorem outL_len (S : List UInt8) (i j : Nat) : (outL S i j).length = 20 := by unfold outL; simp
theorem outL_get (S : List UInt8) (i j : Nat) {q : Nat} (h : q < 20) : (outL S i j)[q]? = some (if q < 4 * i ∨ (4 * i + 4 - j ≤ q ∧ q < 4 * i + 4) then S.getD q 0 else 0) := by
  unfold outL
  rw [List.getElem?_map, List.getElem?_range h]; rfl
theorem outL_0 (S : List UInt8) : outL S 0 0 = zs20 := by
  refine List.ext_getElem? fun q => ?_
  by_cases h : q < 20
  · rw [outL_get _ _ _ h, if_neg (by omega)]
    unfold zs20
    rw [List.getElem?_replicate, if_pos h]
  · rw [List.getElem?_eq_none (by rw [outL_len]; omega), List.getElem?_eq_none (by unfold zs20; rw [List.length_replicate]; omega)]
theorem outL_step (S : List UInt8) (i : Nat) : outL S i 4 = outL S (i + 1) 0 := by
  refine List.ext_getElem? fun q => ?_
  by_cases h : q < 20
  · rw [outL_get _ _ _ h, outL_get _ _ _ h]
    congr 1
    by_cases h2 : q < 4 * (i + 1)
    · rw [if_pos (by omega), if_pos (by omega)]
    · rw [if_neg (by omega), if_neg (by omega)]
  · rw [List.getElem?_eq_none (by rw [outL_len]; omega), List.getElem?_eq_none (by rw [outL_len]; omega)]
theorem outL_5 {S : List UInt8} (hS : S.length = 20) : outL S 5 0 = S := by
  refine List.ext_getElem? fun q => ?_
  by_cases h : q < 20
  · rw [outL_get _ _ _ h, if_pos (by omega), List.getD_eq_getElem?_getD, List.getElem?_eq_getElem (by omega)]; rfl
  · rw [List.getElem?_eq_none (by rw [outL_len]; omega), List.getElem?_eq_none (by omega)]
theorem outL_next (S : List UInt8) {i j : Nat} (hi : i < 5) (hj : j < 4) : outL S i (j + 1) = (outL S i j).set (4 * i + (3 - j)) (S.getD (4 * i + (3 - j)) 0) := by
  refine List.ext_getElem? fun q => ?_
  by_cases h : q < 20
  · rw [outL_get _ _ _ h, List.getElem?_set, outL_len]
    by_cases e : 4 * i + (3 - j) = q
    · rw [if_pos e, if_pos (by omega), if_pos (by omega), e]
    · rw [if_neg e, outL_get _ _ _ h]
      congr 1
      by_cases h2 : q < 4 * i ∨ (4 * i + 4 - j ≤ q ∧ q < 4 * i + 4)
      · rw [if_pos h2, if_pos (by omega)]
      · rw [if_neg h2, if_neg (by omega)]
  · rw [List.getElem?_eq_none (by rw [outL_len]; omega), List.getElem?_eq_none (by rw [List.length_set, outL_len]; omega)]
theorem bytes5_at (s : W5) {i j : Nat} (hi : i < 5) (hj : j < 4) : s.bytes.getD (4 * i + (3 - j)) 0 = byteOf (s.l.getD i 0 >>> (8 * j)) := by
  rw [List.getD_eq_getElem?_getD, be_get s (by omega), show (4 * i + (3 - j)) / 4 = i by omega, show 24 - (4 * i + (3 - j)) % 4 * 8 = 8 * j by omega]
  rfl
theorem nxt_eq (w : List Wd) (t : Nat) : nxt w t = rl (w.getD (t - 3) 0 ^^^ w.getD (t - 8) 0 ^^^ w.getD (t - 14) 0 ^^^ w.getD (t - 16) 0) 1 := rfl
end Go.Vf.S

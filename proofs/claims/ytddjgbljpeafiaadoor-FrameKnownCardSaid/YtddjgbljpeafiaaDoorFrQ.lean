import Derived.Test.YtddjgbljpeafiaaDoorFrO
/- A check finds what differs within 32 bits. -/
namespace Go.Vf.S
open Go Go.Vf Go.Vf.Fr
set_option linter.unusedVariables false
set_option linter.unusedSimpArgs false
set_option maxRecDepth 10000

/-! ### The register can be turned back -/

theorem bs_zero {x : BitVec 32} (h : bs x = 0#32) : x = 0#32 := by
  have ht : (bs x).getLsbD 31 = x.getLsbD 0 := by
    unfold bs
    rw [BitVec.getLsbD_xor, BitVec.getLsbD_ushiftRight, BitVec.getLsbD_of_ge x (1 + 31) (by omega)]
    cases x.getLsbD 0 <;> decide
  have h0 : x.getLsbD 0 = false := by rw [← ht, h]; decide
  rw [bs_even h0] at h
  apply BitVec.eq_of_getLsbD_eq
  intro i hi
  have hz : (0#32).getLsbD i = false := BitVec.getLsbD_zero
  rw [hz]
  match i with
  | 0 => exact h0
  | i + 1 =>
    have := congrArg (fun z => z.getLsbD i) h
    simp only [BitVec.getLsbD_ushiftRight, BitVec.getLsbD_zero] at this
    rwa [Nat.add_comm]

theorem xor_eq {x y : BitVec 32} (h : x ^^^ y = 0#32) : x = y := by
  have : x ^^^ y ^^^ y = 0#32 ^^^ y := by rw [h]
  rwa [BitVec.xor_assoc, BitVec.xor_self, BitVec.xor_zero, BitVec.zero_xor] at this

theorem bs_inj {x y : BitVec 32} (h : bs x = bs y) : x = y := by
  apply xor_eq
  apply bs_zero
  rw [bs_xor, h, BitVec.xor_self]

theorem bs8_inj {x y : BitVec 32} (h : bs8 x = bs8 y) : x = y := bs_inj (bs_inj (bs_inj (bs_inj (bs_inj (bs_inj (bs_inj (bs_inj h)))))))
theorem bs8_xor (x y : BitVec 32) : bs8 (x ^^^ y) = bs8 x ^^^ bs8 y := by unfold bs8; simp only [bs_xor]
theorem xor_inj {x y z : BitVec 32} (h : x ^^^ y = x ^^^ z) : y = z := by
  have : x ^^^ (x ^^^ y) = x ^^^ (x ^^^ z) := by rw [h]
  rwa [← BitVec.xor_assoc, ← BitVec.xor_assoc, BitVec.xor_self, BitVec.zero_xor, BitVec.zero_xor] at this
theorem xor_injL {x y z : BitVec 32} (h : y ^^^ x = z ^^^ x) : y = z := by
  rw [BitVec.xor_comm y, BitVec.xor_comm z] at h
  exact xor_inj h

def z8 (b : UInt8) : BitVec 32 := b.toBitVec.setWidth 32
theorem z8_inj {x y : UInt8} (h : z8 x = z8 y) : x = y := by
  have := congrArg BitVec.toNat h
  unfold z8 at this
  rw [by4_nat, by4_nat] at this
  exact u8_eq this

theorem step_inj {r r' : BitVec 32} {b : UInt8} (h : Fr.step r b = Fr.step r' b) : r = r' := xor_injL (bs8_inj h)
theorem step_byte {r : BitVec 32} {b b' : UInt8} (h : Fr.step r b = Fr.step r b') : b = b' := z8_inj (xor_inj (bs8_inj h))
theorem reg_inj : ∀ {l : List UInt8} {r r' : BitVec 32}, reg r l = reg r' l → r = r'
  | [], _, _, h => h
  | b :: l, r, r', h => step_inj (reg_inj (l := l) h)

/-- Another byte is found. -/
theorem reg_byte {p q : List UInt8} {x y : UInt8} {r : BitVec 32} (h : reg r (p ++ [x] ++ q) = reg r (p ++ [y] ++ q)) : x = y := by
  rw [reg_append, reg_append, reg_append, reg_append] at h
  exact step_byte (reg_inj h)

theorem not_inj {x y : BitVec 32} (h : ~~~ x = ~~~ y) : x = y := by
  have := congrArg (fun z => ~~~ z) h
  simpa using this

theorem bs8_shift : ∀ n : Fin 256, bs8 (BitVec.ofNat 32 n.val <<< 8) = BitVec.ofNat 32 n.val ∧ bs8 (bs8 (BitVec.ofNat 32 n.val <<< 16)) = BitVec.ofNat 32 n.val ∧ bs8 (bs8 (bs8 (BitVec.ofNat 32 n.val <<< 24))) = BitVec.ofNat 32 n.val := by decide +kernel

theorem z8_ofNat (b : UInt8) : z8 b = BitVec.ofNat 32 b.toNat := by
  apply BitVec.eq_of_toNat_eq
  unfold z8
  have := b.toNat_lt
  rw [by4_nat, BitVec.toNat_ofNat, Nat.mod_eq_of_lt (by omega)]

/-- Four bytes at once. -/
theorem reg_four (r : BitVec 32) (a b c d : UInt8) : reg r [a, b, c, d] = bs8 (bs8 (bs8 (bs8 (r ^^^ (z8 a ^^^ z8 b <<< 8 ^^^ z8 c <<< 16 ^^^ z8 d <<< 24))))) := by
  have hb := (bs8_shift ⟨b.toNat, b.toNat_lt⟩).1
  have hc := (bs8_shift ⟨c.toNat, c.toNat_lt⟩).2.1
  have hd := (bs8_shift ⟨d.toNat, d.toNat_lt⟩).2.2
  simp only [← z8_ofNat] at hb hc hd
  show bs8 (bs8 (bs8 (bs8 (r ^^^ z8 a) ^^^ z8 b) ^^^ z8 c) ^^^ z8 d) = _
  simp only [← BitVec.xor_assoc]
  rw [bs8_xor (r ^^^ z8 a ^^^ z8 b <<< 8 ^^^ z8 c <<< 16), bs8_xor (r ^^^ z8 a ^^^ z8 b <<< 8), bs8_xor (r ^^^ z8 a) (z8 b <<< 8), hb]
  rw [bs8_xor (bs8 (r ^^^ z8 a) ^^^ z8 b ^^^ bs8 (z8 c <<< 16)), bs8_xor (bs8 (r ^^^ z8 a) ^^^ z8 b), hc]
  rw [bs8_xor (bs8 (bs8 (r ^^^ z8 a) ^^^ z8 b) ^^^ z8 c), hd]

theorem z8_bit (b : UInt8) (i : Nat) : (z8 b).getLsbD i = b.toBitVec.getLsbD i := by
  unfold z8
  rw [BitVec.getLsbD_setWidth]
  by_cases h : i < 32
  · simp [h]
  · rw [BitVec.getLsbD_of_ge b.toBitVec i (by omega)]; simp
theorem z8_high (b : UInt8) {i : Nat} (h : 8 ≤ i) : (z8 b).getLsbD i = false := by rw [z8_bit, BitVec.getLsbD_of_ge _ _ h]
theorem u8_bits {x y : UInt8} (h : ∀ i, i < 8 → (z8 x).getLsbD i = (z8 y).getLsbD i) : x = y := by
  apply z8_inj
  apply BitVec.eq_of_getLsbD_eq
  intro i hi
  by_cases h8 : i < 8
  · exact h i h8
  · rw [z8_high _ (by omega), z8_high _ (by omega)]

theorem four_bit (a b c d : UInt8) {i : Nat} (hi : i < 8) :
    (z8 a ^^^ z8 b <<< 8 ^^^ z8 c <<< 16 ^^^ z8 d <<< 24).getLsbD i = (z8 a).getLsbD i ∧ (z8 a ^^^ z8 b <<< 8 ^^^ z8 c <<< 16 ^^^ z8 d <<< 24).getLsbD (i + 8) = (z8 b).getLsbD i ∧
    (z8 a ^^^ z8 b <<< 8 ^^^ z8 c <<< 16 ^^^ z8 d <<< 24).getLsbD (i + 16) = (z8 c).getLsbD i ∧ (z8 a ^^^ z8 b <<< 8 ^^^ z8 c <<< 16 ^^^ z8 d <<< 24).getLsbD (i + 24) = (z8 d).getLsbD i := by
  simp only [BitVec.getLsbD_xor, BitVec.getLsbD_shiftLeft]
  refine ⟨?_, ?_, ?_, ?_⟩
  · rw [show decide (i < 8) = true from by simpa using hi, show decide (i < 16) = true from by simp; omega, show decide (i < 24) = true from by simp; omega]
    simp
  · rw [z8_high a (by omega), show decide (i + 8 < 32) = true from by simp; omega, show decide (i + 8 < 8) = false from by simp, show decide (i + 8 < 16) = true from by simp; omega, show decide (i + 8 < 24) = true from by simp; omega, show i + 8 - 8 = i from by omega]
    simp
  · rw [z8_high a (by omega), z8_high b (show 8 ≤ i + 16 - 8 by omega), show decide (i + 16 < 32) = true from by simp; omega, show decide (i + 16 < 16) = false from by simp, show decide (i + 16 < 24) = true from by simp; omega, show i + 16 - 16 = i from by omega]
    simp
  · rw [z8_high a (by omega), z8_high b (show 8 ≤ i + 24 - 8 by omega), z8_high c (show 8 ≤ i + 24 - 16 by omega), show decide (i + 24 < 32) = true from by simp; omega, show decide (i + 24 < 24) = false from by simp, show i + 24 - 24 = i from by omega]
    simp

/-- Four other bytes are found. -/
theorem four_inj {r : BitVec 32} {a b c d a' b' c' d' : UInt8} (h : reg r [a, b, c, d] = reg r [a', b', c', d']) : a = a' ∧ b = b' ∧ c = c' ∧ d = d' := by
  rw [reg_four, reg_four] at h
  have e := xor_inj (bs8_inj (bs8_inj (bs8_inj (bs8_inj h))))
  refine ⟨u8_bits fun i hi => ?_, u8_bits fun i hi => ?_, u8_bits fun i hi => ?_, u8_bits fun i hi => ?_⟩
  · rw [← (four_bit a b c d hi).1, ← (four_bit a' b' c' d' hi).1, e]
  · rw [← (four_bit a b c d hi).2.1, ← (four_bit a' b' c' d' hi).2.1, e]
  · rw [← (four_bit a b c d hi).2.2.1, ← (four_bit a' b' c' d' hi).2.2.1, e]
  · rw [← (four_bit a b c d hi).2.2.2, ← (four_bit a' b' c' d' hi).2.2.2, e]

theorem be4_inj {x y : BitVec 32} (h0 : byteOf (x >>> 24) = byteOf (y >>> 24)) (h1 : byteOf (x >>> 16) = byteOf (y >>> 16)) (h2 : byteOf (x >>> 8) = byteOf (y >>> 8)) (h3 : byteOf x = byteOf y) : x = y := by
  apply BitVec.eq_of_toNat_eq
  have e0 := congrArg UInt8.toNat h0
  have e1 := congrArg UInt8.toNat h1
  have e2 := congrArg UInt8.toNat h2
  have e3 := congrArg UInt8.toNat h3
  rw [byteOf_nat, byteOf_nat] at e0 e1 e2
  rw [byteOf_nat0, byteOf_nat0] at e3
  have := x.isLt
  have := y.isLt
  omega

/-- Another check ahead is found. -/
theorem sum_ahead {a a' k : BitVec 32} {n : Nat} {l : List UInt8} (h : sumS a k n l = sumS a' k n l) : a = a' := by
  unfold sumS crc at h
  have h := not_inj h
  simp only [List.append_assoc] at h
  rw [reg_append _ (be4 a), reg_append _ (be4 a')] at h
  have e := four_inj (reg_inj h)
  exact be4_inj e.1 e.2.1 e.2.2.1 e.2.2.2

/-- Another byte of the payload is found. -/
theorem sum_byte {a k : BitVec 32} {n : Nat} {p q : List UInt8} {x y : UInt8} (h : sumS a k n (p ++ [x] ++ q) = sumS a k n (p ++ [y] ++ q)) : x = y := by
  unfold sumS crc at h
  have h := not_inj h
  rw [List.append_assoc p, List.append_assoc p, ← List.append_assoc _ p, ← List.append_assoc _ p, ← List.append_assoc _ [x], ← List.append_assoc _ [y]] at h
  exact reg_byte h
end Go.Vf.S

import Derived.Test.YtioildcpkcijkaaDoorEngBd
/- The check of a frame, as mathematics. -/
namespace Go.Vf.Fr

/-- One step of one bit. -/
def bs (r : BitVec 32) : BitVec 32 := (r >>> 1) ^^^ (bif r.getLsbD 0 then 0xedb88320#32 else 0#32)

def tab : List (BitVec 32) := [0#32, 498536548#32, 997073096#32, 651767980#32, 1994146192#32, 1802195444#32, 1303535960#32, 1342533948#32, 3988292384#32, 4027552580#32, 3604390888#32, 3412177804#32, 2607071920#32, 2262029012#32, 2685067896#32, 3183342108#32]

/-- Four steps, by the table. -/
def s4 (r : BitVec 32) : BitVec 32 := (r >>> 4) ^^^ tab.getD (r &&& 15#32).toNat 0#32

theorem bs_xor (a b : BitVec 32) : bs (a ^^^ b) = bs a ^^^ bs b := by
  have e : ∀ p q : Bool, (bif (p ^^ q) then 0xedb88320#32 else 0#32) = (bif p then 0xedb88320#32 else 0#32) ^^^ (bif q then 0xedb88320#32 else 0#32) := by decide
  have f : ∀ x y p q : BitVec 32, (x ^^^ y) ^^^ (p ^^^ q) = (x ^^^ p) ^^^ (y ^^^ q) := by intros; ac_rfl
  unfold bs
  rw [BitVec.ushiftRight_xor_distrib, BitVec.getLsbD_xor, e, f]

theorem bs_even {x : BitVec 32} (h : x.getLsbD 0 = false) : bs x = x >>> 1 := by unfold bs; rw [h]; simp

theorem bs4_high {x : BitVec 32} (h : ∀ i, i < 4 → x.getLsbD i = false) : bs (bs (bs (bs x))) = x >>> 4 := by
  rw [bs_even (h 0 (by omega))]
  rw [bs_even (x := x >>> 1) (by rw [BitVec.getLsbD_ushiftRight]; exact h 1 (by omega))]
  rw [bs_even (x := x >>> 1 >>> 1) (by rw [BitVec.getLsbD_ushiftRight, BitVec.getLsbD_ushiftRight]; exact h 2 (by omega))]
  rw [bs_even (x := x >>> 1 >>> 1 >>> 1) (by rw [BitVec.getLsbD_ushiftRight, BitVec.getLsbD_ushiftRight, BitVec.getLsbD_ushiftRight]; exact h 3 (by omega))]
  simp only [← BitVec.shiftRight_add]

theorem bs4_low : ∀ n : Fin 16, bs (bs (bs (bs (BitVec.ofNat 32 n.val)))) = tab.getD n.val 0#32 := by decide

theorem s4_eq (r : BitVec 32) : s4 r = bs (bs (bs (bs r))) := by
  have hr : r = (r &&& 15#32) ^^^ (r &&& ~~~15#32) := by
    ext i hi
    simp only [BitVec.getElem_xor, BitVec.getElem_and, BitVec.getElem_not]
    cases r[i] <;> cases (15#32)[i] <;> rfl
  have hlo : (r &&& 15#32).toNat < 16 := by
    rw [BitVec.toNat_and]
    exact Nat.lt_of_le_of_lt Nat.and_le_right (by decide)
  have e1 : bs (bs (bs (bs (r &&& 15#32)))) = tab.getD (r &&& 15#32).toNat 0#32 := by
    have := bs4_low ⟨(r &&& 15#32).toNat, hlo⟩
    simp only [BitVec.ofNat_toNat, BitVec.setWidth_eq] at this
    exact this
  have e2 : bs (bs (bs (bs (r &&& ~~~15#32)))) = (r &&& ~~~15#32) >>> 4 := by
    refine bs4_high fun i hi => ?_
    rw [BitVec.getLsbD_and]
    have : (~~~15#32).getLsbD i = false := by
      match i, hi with
      | 0, _ => decide
      | 1, _ => decide
      | 2, _ => decide
      | 3, _ => decide
    rw [this, Bool.and_false]
  have e3 : (r &&& ~~~15#32) >>> 4 = r >>> 4 := by
    apply BitVec.eq_of_getLsbD_eq
    intro i hi
    rw [BitVec.getLsbD_ushiftRight, BitVec.getLsbD_ushiftRight, BitVec.getLsbD_and]
    by_cases h : 4 + i < 32
    · have h4 : (15#32).getLsbD (4 + i) = false := by
        rw [BitVec.getLsbD_ofNat]
        simp only [h, decide_true, Bool.true_and]
        apply Nat.testBit_lt_two_pow
        exact Nat.lt_of_lt_of_le (show 15 < 2 ^ 4 by decide) (Nat.pow_le_pow_right (by decide) (by omega))
      have : (~~~15#32).getLsbD (4 + i) = true := by rw [BitVec.getLsbD_not, h4]; simp [h]
      rw [this, Bool.and_true]
    · rw [BitVec.getLsbD_of_ge _ _ (by omega)]; simp
  conv => rhs; rw [hr, bs_xor, bs_xor, bs_xor, bs_xor, e1, e2, e3]
  unfold s4
  rw [BitVec.xor_comm]

def bs8 (r : BitVec 32) : BitVec 32 := bs (bs (bs (bs (bs (bs (bs (bs r)))))))

/-- One byte. -/
def step (r : BitVec 32) (b : UInt8) : BitVec 32 := bs8 (r ^^^ b.toBitVec.setWidth 32)

def reg (r : BitVec 32) (l : List UInt8) : BitVec 32 := l.foldl step r

theorem reg_append (r : BitVec 32) (a b : List UInt8) : reg r (a ++ b) = reg (reg r a) b := List.foldl_append

theorem reg_take {r : BitVec 32} {l : List UInt8} {i : Nat} (h : i < l.length) : reg r (l.take (i + 1)) = step (reg r (l.take i)) (l.getD i 0) := by
  rw [List.take_add_one, reg_append, List.getD, List.getElem?_eq_getElem h]
  rfl

def crc (l : List UInt8) : BitVec 32 := ~~~ (reg (BitVec.allOnes 32) l)

end Go.Vf.Fr

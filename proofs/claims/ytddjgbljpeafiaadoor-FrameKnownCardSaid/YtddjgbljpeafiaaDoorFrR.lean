import Derived.Test.YtddjgbljpeafiaaDoorFrQ
/- A form of which a byte was changed. -/
namespace Go.Vf.S
open Go Go.Vf Go.Vf.Fr
set_option linter.unusedVariables false
set_option linter.unusedSimpArgs false
set_option maxRecDepth 10000

theorem seal_facts (a k : BitVec 32) {n : Nat} {l : List UInt8} (hn : n = l.length) (hl : n ≤ 16384) :
    (sealS a k n l).length = 10 + n ∧ sz (sealS a k n l) = n ∧ (sealS a k n l).drop 10 = l ∧ rd4 (sealS a k n l) 2 = k ∧ rd4 (sealS a k n l) 6 = sumS a k n l := by
  have e := sealS_cons a k n l []
  simp only [List.append_nil] at e
  refine ⟨by rw [sealS_len]; omega, ?_, ?_, ?_, ?_⟩
  · rw [e]; exact sz_cons (by omega) _
  · rw [e]; rfl
  · rw [e]; exact rd4_be rfl rfl rfl rfl
  · rw [e]; exact rd4_be rfl rfl rfl rfl

theorem openE_seal (a k : BitVec 32) {n : Nat} {l : List UInt8} (hn : n = l.length) (hl : n ≤ 16384) (x z : BitVec 32) :
    openE x z (sealS a k n l) = if k ≠ z ∨ sumS a k n l ≠ sumS x z n l then 11 else 0 := by
  obtain ⟨h1, h2, h3, h4, h5⟩ := seal_facts a k hn hl
  unfold openE
  rw [h1, h2, h3, h4, h5, if_neg (by omega), if_neg (by omega), if_neg (by omega), List.take_of_length_le (by omega)]

theorem other_number (a k o : BitVec 32) {n : Nat} {l : List UInt8} (hn : n = l.length) (hl : n ≤ 16384) : openE a o (sealS a k n l) = 0 ↔ o = k := by
  rw [openE_seal a k hn hl]
  by_cases h : k = o
  · subst h; simp
  · rw [if_pos (.inl h)]
    exact ⟨fun q => by omega, fun q => absurd q.symm h⟩

theorem other_ahead (a k o : BitVec 32) {n : Nat} {l : List UInt8} (hn : n = l.length) (hl : n ≤ 16384) : openE o k (sealS a k n l) = 0 ↔ o = a := by
  rw [openE_seal a k hn hl]
  by_cases h : sumS a k n l = sumS o k n l
  · have := sum_ahead h
    subst this; simp
  · rw [if_pos (.inr h)]
    refine ⟨fun q => by omega, fun q => ?_⟩
    subst q
    exact absurd rfl h

theorem rd4_eq {l m : List UInt8} {i : Nat} (h : rd4 l i = rd4 m i) : ∀ j, j < 4 → l.getD (i + j) 0 = m.getD (i + j) 0 := by
  have e := congrArg BitVec.toNat h
  rw [rd4_nat, rd4_nat] at e
  have h0 := (l.getD i 0).toNat_lt
  have h1 := (l.getD (i + 1) 0).toNat_lt
  have h2 := (l.getD (i + 2) 0).toNat_lt
  have h3 := (l.getD (i + 3) 0).toNat_lt
  have g0 := (m.getD i 0).toNat_lt
  have g1 := (m.getD (i + 1) 0).toNat_lt
  have g2 := (m.getD (i + 2) 0).toNat_lt
  have g3 := (m.getD (i + 3) 0).toNat_lt
  intro j hj
  match j, hj with
  | 0, _ => exact u8_eq (by rw [Nat.add_zero]; omega)
  | 1, _ => exact u8_eq (by omega)
  | 2, _ => exact u8_eq (by omega)
  | 3, _ => exact u8_eq (by omega)

theorem getD_set {l : List UInt8} {p i : Nat} {y : UInt8} (h : p < l.length) : (l.set p y).getD i 0 = if i = p then y else l.getD i 0 := by
  simp only [List.getD, List.getElem?_set]
  by_cases e : p = i
  · subst e; simp [h]
  · rw [if_neg e, if_neg (fun q => e q.symm)]

theorem rd4_set {l : List UInt8} {p i : Nat} {y : UInt8} (h : p < l.length) (hp : p < i ∨ i + 4 ≤ p) : rd4 (l.set p y) i = rd4 l i := by
  unfold rd4 by4
  rw [getD_set h, getD_set h, getD_set h, getD_set h, if_neg (by omega), if_neg (by omega), if_neg (by omega), if_neg (by omega)]

theorem set_split {l : List UInt8} {p : Nat} (y : UInt8) (h : p < l.length) : l.set p y = l.take p ++ [y] ++ l.drop (p + 1) := by
  rw [List.set_eq_take_append_cons_drop, if_pos h, List.append_assoc]
  rfl
theorem self_split {l : List UInt8} {p : Nat} (h : p < l.length) : l = l.take p ++ [l.getD p 0] ++ l.drop (p + 1) := by
  rw [← set_split _ h]
  refine List.ext_getElem? fun i => ?_
  rw [List.getElem?_set]
  by_cases e : p = i
  · subst e; simp [h, List.getD]
  · rw [if_neg e]

/-- A byte behind the size. -/
theorem open_flip (a k : BitVec 32) {n : Nat} {l : List UInt8} (hn : n = l.length) (hl : n ≤ 16384) {p : Nat} {y : UInt8} (h2 : 2 ≤ p) (hp : p < 10 + n) (hy : y ≠ (sealS a k n l).getD p 0) :
    openE a k ((sealS a k n l).set p y) = 11 := by
  obtain ⟨f1, f2, f3, f4, f5⟩ := seal_facts a k hn hl
  have hlt : p < (sealS a k n l).length := by omega
  have e2 : sz ((sealS a k n l).set p y) = n := by
    unfold sz
    rw [getD_set hlt, getD_set hlt, if_neg (by omega), if_neg (by omega)]
    exact f2
  unfold openE
  rw [List.length_set, f1, e2, if_neg (by omega), if_neg (by omega), if_neg (by omega), if_pos]
  by_cases h6 : p < 6
  · left
    intro q
    have := rd4_eq (q.trans f4.symm) (p - 2) (by omega)
    rw [show 2 + (p - 2) = p from by omega, getD_set hlt, if_pos rfl] at this
    exact hy this
  right
  by_cases h10 : p < 10
  · rw [List.drop_set_of_lt (by omega), f3, List.take_of_length_le (by omega)]
    intro q
    have := rd4_eq (q.trans f5.symm) (p - 6) (by omega)
    rw [show 6 + (p - 6) = p from by omega, getD_set hlt, if_pos rfl] at this
    exact hy this
  · rw [rd4_set hlt (by omega), f5, List.drop_set, if_neg (by omega), f3]
    rw [List.take_of_length_le (by rw [List.length_set]; omega)]
    have hq : p - 10 < l.length := by omega
    have hd : (sealS a k n l).getD p 0 = l.getD (p - 10) 0 := by
      have e : ((sealS a k n l).drop 10).getD (p - 10) 0 = l.getD (p - 10) 0 := by rw [f3]
      rw [← e]
      simp only [List.getD, List.getElem?_drop]
      rw [show 10 + (p - 10) = p from by omega]
    intro q
    rw [set_split y hq] at q
    have q' : sumS a k n (l.take (p - 10) ++ [l.getD (p - 10) 0] ++ l.drop (p - 10 + 1)) = sumS a k n (l.take (p - 10) ++ [y] ++ l.drop (p - 10 + 1)) := by rw [← self_split hq]; exact q
    exact hy ((sum_byte q').symm.trans hd.symm)

theorem same_dec {e : Nat} {x y : BitVec 32} (h : e = 0 ↔ x = y) : (decide ((e : Int) = 0) == decide ((x.toNat : Int) = (y.toNat : Int))) = true := by
  rw [beq_iff_eq, decide_eq_decide]
  constructor
  · intro q
    rw [h.1 (by omega)]
  · intro q
    have := h.2 (BitVec.eq_of_toNat_eq (by omega))
    omega

theorem flip_u8 (x : UInt8) (j : Nat) (h : j < 8) : ∃ y : UInt8, y ≠ x ∧
    IntKind.wrap .u8 ((BitVec.ofInt IntKind.u8.bits (x.toNat : Int) ^^^ BitVec.ofInt IntKind.u8.bits (IntKind.wrap .u8 (1 * 2 ^ (min (j : Int).toNat IntKind.u8.bits)))).toNat : Int) = (y.toNat : Int) := by
  have key : ∀ n : Fin 256, ∀ j : Fin 8, 0 ≤ IntKind.wrap .u8 ((BitVec.ofInt IntKind.u8.bits (n.val : Int) ^^^ BitVec.ofInt IntKind.u8.bits (IntKind.wrap .u8 (1 * 2 ^ (min (j.val : Int).toNat IntKind.u8.bits)))).toNat : Int) ∧
      IntKind.wrap .u8 ((BitVec.ofInt IntKind.u8.bits (n.val : Int) ^^^ BitVec.ofInt IntKind.u8.bits (IntKind.wrap .u8 (1 * 2 ^ (min (j.val : Int).toNat IntKind.u8.bits)))).toNat : Int) < 256 ∧
      IntKind.wrap .u8 ((BitVec.ofInt IntKind.u8.bits (n.val : Int) ^^^ BitVec.ofInt IntKind.u8.bits (IntKind.wrap .u8 (1 * 2 ^ (min (j.val : Int).toNat IntKind.u8.bits)))).toNat : Int) ≠ (n.val : Int) := by decide +kernel
  have := key ⟨x.toNat, x.toNat_lt⟩ ⟨j, h⟩
  dsimp only at this
  generalize IntKind.wrap .u8 ((BitVec.ofInt IntKind.u8.bits (x.toNat : Int) ^^^ BitVec.ofInt IntKind.u8.bits (IntKind.wrap .u8 (1 * 2 ^ (min (j : Int).toNat IntKind.u8.bits)))).toNat : Int) = v at *
  have hv : ((UInt8.ofNat v.toNat).toNat : Int) = v := by rw [ofNat_nat]; omega
  refine ⟨UInt8.ofNat v.toNat, fun e => this.2.2 ?_, hv.symm⟩
  rw [← hv, e]
end Go.Vf.S

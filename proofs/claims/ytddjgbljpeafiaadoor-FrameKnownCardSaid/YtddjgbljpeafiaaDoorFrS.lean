import Derived.Test.YtddjgbljpeafiaaDoorFrR
import Derived.Test.YtddjgbljpeafiaaDoorFrP
/- What the law FrameBits says, from any state. -/
namespace Go.Vf.S
open Go Go.Vf Go.Vf.Fr
attribute [local irreducible] wSeq wRow wp
set_option linter.unusedVariables false
set_option linter.unusedSimpArgs false
set_option maxRecDepth 10000

set_option maxHeartbeats 1000000 in
theorem bits_w {s : SS} {b1 : Option Addr} {n1 : Nat} {l1 : List UInt8} (h1 : Arg pr s b1 n1 l1) (hg : s.gl = 1) (hs : lookH s.heap 0 = some gB) (hn : 1 ≤ s.next) (a k o : BitVec 32) (bit : Nat) (hbit : bit < 65536) :
    CallW pr n_law02_FrameBits [.slice b1 n1 0, .int .u32 a.toNat, .int .u32 k.toNat, .int .u16 bit, .int .u32 o.toNat] s fun v _ => v = .bool true := by
  refine CallW.run good ok_law02_FrameBits (by simp) rfl ?_
  (repeat (first | refine pSeq ?_ | refine pReg ?_ | refine sRaw ?_ | refine sCons ?_ | refine sNil ?_ | refine rCons ?_ | refine rNil ?_ | refine pRow ?_ | refine pBlock ?_ | refine pSkip ?_ | refine pExit ?_ | refine pRet ?_ | refine pCond ?_ | refine gNone ?_))
  intro z hz
  (repeat (first | refine pSeq ?_ | refine pReg ?_ | refine sRaw ?_ | refine sCons ?_ | refine sNil ?_ | refine rCons ?_ | refine rNil ?_ | refine pRow ?_ | refine pBlock ?_ | refine pSkip ?_ | refine pExit ?_ | refine pRet ?_ | refine pCond ?_ | refine gNone ?_))
  refine sl_arg rfl rfl h1 (by omega) fun b3 m1 e1 r1 => ?_
  (repeat (first | refine pSeq ?_ | refine pReg ?_ | refine sRaw ?_ | refine sCons ?_ | refine sNil ?_ | refine rCons ?_ | refine rNil ?_ | refine pRow ?_ | refine pBlock ?_ | refine pSkip ?_ | refine pExit ?_ | refine pRet ?_ | refine pCond ?_ | refine gNone ?_))
  have p1 : Pre s b3 m1 (l1.take m1) := ⟨hg, hs, hn, r1.1⟩
  have hl1 := r1.1.1
  have hm1 : m1 ≤ 300 := by omega
  refine (sealed_w p1 (by omega) a k).mono fun v s1 q => ?_
  obtain ⟨b5, c5, rfl, r5, o5⟩ := q
  (repeat (first | refine pSeq ?_ | refine pReg ?_ | refine sRaw ?_ | refine sCons ?_ | refine sNil ?_ | refine rCons ?_ | refine rNil ?_ | refine pRow ?_ | refine pBlock ?_ | refine pSkip ?_ | refine pExit ?_ | refine pRet ?_ | refine pCond ?_ | refine gNone ?_))
  intro q hq
  obtain rfl : q = false := by rw [hq]; simp
  (repeat (first | refine pSeq ?_ | refine pReg ?_ | refine sRaw ?_ | refine sCons ?_ | refine sNil ?_ | refine rCons ?_ | refine rNil ?_ | refine pRow ?_ | refine pBlock ?_ | refine pSkip ?_ | refine pExit ?_ | refine pRet ?_ | refine pCond ?_ | refine gNone ?_ | refine gOn rfl ?_ | refine gOff rfl rfl ?_))
  intro q hq
  obtain rfl : q = false := by rw [hq]; simp; omega
  (repeat (first | refine pSeq ?_ | refine pReg ?_ | refine sRaw ?_ | refine sCons ?_ | refine sNil ?_ | refine rCons ?_ | refine rNil ?_ | refine pRow ?_ | refine pBlock ?_ | refine pSkip ?_ | refine pExit ?_ | refine pRet ?_ | refine pCond ?_ | refine gNone ?_ | refine gOn rfl ?_ | refine gOff rfl rfl ?_))
  intro z3 hz3
  rw [i64_id (by omega)] at hz3
  subst hz3
  (repeat (first | refine pSeq ?_ | refine pReg ?_ | refine sRaw ?_ | refine sCons ?_ | refine sNil ?_ | refine rCons ?_ | refine rNil ?_ | refine pRow ?_ | refine pBlock ?_ | refine pSkip ?_ | refine pExit ?_ | refine pRet ?_ | refine pCond ?_ | refine gNone ?_ | refine gOn rfl ?_ | refine gOff rfl rfl ?_))
  intro z4 hz4
  rw [i64_id (by omega)] at hz4
  obtain rfl : z4 = ((8 * (10 + m1) : Nat) : Int) := by rw [hz4]; omega
  (repeat (first | refine pSeq ?_ | refine pReg ?_ | refine sRaw ?_ | refine sCons ?_ | refine sNil ?_ | refine rCons ?_ | refine rNil ?_ | refine pRow ?_ | refine pBlock ?_ | refine pSkip ?_ | refine pExit ?_ | refine pRet ?_ | refine pCond ?_ | refine gNone ?_ | refine gOn rfl ?_ | refine gOff rfl rfl ?_))
  refine ⟨by omega, ?_⟩
  intro z5 hz5
  obtain rfl : z5 = ((bit % (8 * (10 + m1)) : Nat) : Int) := by rw [hz5, Int.tmod_eq_emod_of_nonneg (by omega)]; omega
  have hw : bit % (8 * (10 + m1)) < 8 * (10 + m1) := Nat.mod_lt _ (by omega)
  generalize bit % (8 * (10 + m1)) = q at *
  (repeat (first | refine pSeq ?_ | refine pReg ?_ | refine sRaw ?_ | refine sCons ?_ | refine sNil ?_ | refine rCons ?_ | refine rNil ?_ | refine pRow ?_ | refine pBlock ?_ | refine pSkip ?_ | refine pExit ?_ | refine pRet ?_ | refine pCond ?_ | refine gNone ?_ | refine gOn rfl ?_ | refine gOff rfl rfl ?_))
  refine appB_nil rfl rfl r5.1 (by omega) (by omega) ?_
  have hn1 := o5.next
  have o6 := old_cons (x := .cells (bytesV (sealS a k m1 (l1.take m1))) 5 true false) o5
  (repeat (first | refine pSeq ?_ | refine pReg ?_ | refine sRaw ?_ | refine sCons ?_ | refine sNil ?_ | refine rCons ?_ | refine rNil ?_ | refine pRow ?_ | refine pBlock ?_ | refine pSkip ?_ | refine pExit ?_ | refine pRet ?_ | refine pCond ?_ | refine gNone ?_ | refine gOn rfl ?_ | refine gOff rfl rfl ?_))
  refine ⟨by decide, ?_⟩
  intro z6 hz6
  rw [Int.tdiv_eq_ediv_of_nonneg (by omega), i64_id (by omega)] at hz6
  obtain rfl : z6 = ((q / 8 : Nat) : Int) := by rw [hz6]; omega
  have hq8 : q / 8 < 10 + m1 := by omega
  have f1 := (seal_facts a k hl1 (by omega)).1
  (repeat (first | refine pSeq ?_ | refine pReg ?_ | refine sRaw ?_ | refine sCons ?_ | refine sNil ?_ | refine rCons ?_ | refine rNil ?_ | refine pRow ?_ | refine pBlock ?_ | refine pSkip ?_ | refine pExit ?_ | refine pRet ?_ | refine pCond ?_ | refine gNone ?_ | refine gOn rfl ?_ | refine gOff rfl rfl ?_))
  refine ⟨by omega, ?_⟩
  intro i hi oo ho
  obtain rfl : i = q / 8 := by omega
  (repeat (first | refine pSeq ?_ | refine pReg ?_ | refine sRaw ?_ | refine sCons ?_ | refine sNil ?_ | refine rCons ?_ | refine rNil ?_ | refine pRow ?_ | refine pBlock ?_ | refine pSkip ?_ | refine pExit ?_ | refine pRet ?_ | refine pCond ?_ | refine gNone ?_ | refine gOn rfl ?_ | refine gOff rfl rfl ?_))
  refine ldI_at rfl look_head (by rw [ho, Nat.mul_one, Nat.zero_add]; exact bytesV_get (by omega)) ?_
  (repeat (first | refine pSeq ?_ | refine pReg ?_ | refine sRaw ?_ | refine sCons ?_ | refine sNil ?_ | refine rCons ?_ | refine rNil ?_ | refine pRow ?_ | refine pBlock ?_ | refine pSkip ?_ | refine pExit ?_ | refine pRet ?_ | refine pCond ?_ | refine gNone ?_ | refine gOn rfl ?_ | refine gOff rfl rfl ?_))
  refine ⟨by decide, ?_⟩
  intro z7 hz7
  obtain rfl : z7 = ((q % 8 : Nat) : Int) := by rw [hz7, Int.tmod_eq_emod_of_nonneg (by omega)]; omega
  (repeat (first | refine pSeq ?_ | refine pReg ?_ | refine sRaw ?_ | refine sCons ?_ | refine sNil ?_ | refine rCons ?_ | refine rNil ?_ | refine pRow ?_ | refine pBlock ?_ | refine pSkip ?_ | refine pExit ?_ | refine pRet ?_ | refine pCond ?_ | refine gNone ?_ | refine gOn rfl ?_ | refine gOff rfl rfl ?_))
  refine ⟨by omega, ?_⟩
  intro z8 hz8
  (repeat (first | refine pSeq ?_ | refine pReg ?_ | refine sRaw ?_ | refine sCons ?_ | refine sNil ?_ | refine rCons ?_ | refine rNil ?_ | refine pRow ?_ | refine pBlock ?_ | refine pSkip ?_ | refine pExit ?_ | refine pRet ?_ | refine pCond ?_ | refine gNone ?_ | refine gOn rfl ?_ | refine gOff rfl rfl ?_))
  intro z9 hz9
  obtain ⟨y, hy, hyz⟩ := flip_u8 ((sealS a k m1 (l1.take m1)).getD (q / 8) 0) (q % 8) (by omega)
  obtain rfl : z9 = (y.toNat : Int) := by rw [hz9, hz8]; exact hyz
  (repeat (first | refine pSeq ?_ | refine pReg ?_ | refine sRaw ?_ | refine sCons ?_ | refine sNil ?_ | refine rCons ?_ | refine rNil ?_ | refine pRow ?_ | refine pBlock ?_ | refine pSkip ?_ | refine pExit ?_ | refine pRet ?_ | refine pCond ?_ | refine gNone ?_ | refine gOn rfl ?_ | refine gOff rfl rfl ?_))
  refine ⟨by omega, ?_⟩
  intro i' hi' o' ho'
  obtain rfl : i' = q / 8 := by omega
  (repeat (first | refine pSeq ?_ | refine pReg ?_ | refine sRaw ?_ | refine sCons ?_ | refine sNil ?_ | refine rCons ?_ | refine rNil ?_ | refine pRow ?_ | refine pBlock ?_ | refine pSkip ?_ | refine pExit ?_ | refine pRet ?_ | refine pCond ?_ | refine gNone ?_ | refine gOn rfl ?_ | refine gOff rfl rfl ?_))
  have hset := setRow_bytes (sealS a k m1 (l1.take m1)) [y] (q / 8) (by simp; omega)
  rw [List.length_singleton, ← set_split y (by omega)] at hset
  refine st_at rfl rfl look_head (by rw [ho', Nat.mul_one, Nat.zero_add]; exact hset) ?_
  refine ⟨trivial, ?_⟩
  have w3 : Old s1 ⟨(s1.next, some (.cells (bytesV ((sealS a k m1 (l1.take m1)).set (q / 8) y)) 5 true false)) :: (s1.next, some (.cells (bytesV (sealS a k m1 (l1.take m1))) 5 true false)) :: s1.heap, s1.next + 1, s1.gl⟩ :=
    ⟨rfl, Nat.le_succ _, fun id x hid hx => look_tail' (by omega) (look_tail' (by omega) hx)⟩
  have u3 := o5.trans w3
  have rc : Rdb ⟨(s1.next, some (.cells (bytesV ((sealS a k m1 (l1.take m1)).set (q / 8) y)) 5 true false)) :: (s1.next, some (.cells (bytesV (sealS a k m1 (l1.take m1))) 5 true false)) :: s1.heap, s1.next + 1, s1.gl⟩ (some ⟨s1.next, 0, none⟩) (10 + m1) ((sealS a k m1 (l1.take m1)).set (q / 8) y) :=
    Rdb.head (s := s1) _ 5 true (by rw [List.length_set, f1])
  (repeat (first | refine pSeq ?_ | refine pReg ?_ | refine sRaw ?_ | refine sCons ?_ | refine sNil ?_ | refine rCons ?_ | refine rNil ?_ | refine pRow ?_ | refine pBlock ?_ | refine pSkip ?_ | refine pExit ?_ | refine pRet ?_ | refine pCond ?_ | refine gNone ?_ | refine gOn rfl ?_ | refine gOff rfl rfl ?_))
  refine (open_w (l := (sealS a k m1 (l1.take m1)).set (q / 8) y) ⟨u3.gl.trans hg, u3.blk _ _ hn hs, Nat.le_trans hn u3.next, rc⟩ ⟨rc, _, _, _, _, look_head, fun _ => (by kernel_rfl), fun q => by cases q⟩ (by omega) a k).mono fun v s4 q => ?_
  obtain ⟨b6, c6, ⟨rfl, r6, o7⟩, n6⟩ := q
  have u4 := u3.trans o7
  have w4 := w3.trans o7
  (repeat (first | refine pSeq ?_ | refine pReg ?_ | refine sRaw ?_ | refine sCons ?_ | refine sNil ?_ | refine rCons ?_ | refine rNil ?_ | refine pRow ?_ | refine pBlock ?_ | refine pSkip ?_ | refine pExit ?_ | refine pRet ?_ | refine pCond ?_ | refine gNone ?_ | refine gOn rfl ?_ | refine gOff rfl rfl ?_))
  refine ⟨by decide, ?_⟩
  intro z10 hz10
  rw [Int.tdiv_eq_ediv_of_nonneg (by omega), i64_id (by omega)] at hz10
  (repeat (first | refine pSeq ?_ | refine pReg ?_ | refine sRaw ?_ | refine sCons ?_ | refine sNil ?_ | refine rCons ?_ | refine rNil ?_ | refine pRow ?_ | refine pBlock ?_ | refine pSkip ?_ | refine pExit ?_ | refine pRet ?_ | refine pCond ?_ | refine gNone ?_ | refine gOn rfl ?_ | refine gOff rfl rfl ?_))
  intro c hc
  by_cases h2 : 2 ≤ q / 8
  · obtain rfl : c = true := by rw [hc, hz10]; simp; omega
    (repeat (first | refine pSeq ?_ | refine pReg ?_ | refine sRaw ?_ | refine sCons ?_ | refine sNil ?_ | refine rCons ?_ | refine rNil ?_ | refine pRow ?_ | refine pBlock ?_ | refine pSkip ?_ | refine pExit ?_ | refine pRet ?_ | refine pCond ?_ | refine gNone ?_ | refine gOn rfl ?_ | refine gOff rfl rfl ?_))
    rw [open_flip a k hl1 (by omega) h2 (by omega) hy]
    intro c2 hc2
    obtain rfl : c2 = false := by rw [hc2]; simp
    (repeat (first | refine pSeq ?_ | refine pReg ?_ | refine sRaw ?_ | refine sCons ?_ | refine sNil ?_ | refine rCons ?_ | refine rNil ?_ | refine pRow ?_ | refine pBlock ?_ | refine pSkip ?_ | refine pExit ?_ | refine pRet ?_ | refine pCond ?_ | refine gNone ?_ | refine gOn rfl ?_ | refine gOff rfl rfl ?_))
    refine (open_w (l := sealS a k m1 (l1.take m1)) ⟨u4.gl.trans hg, u4.blk _ _ hn hs, Nat.le_trans hn u4.next, Rdb_old r5.1 w4⟩ (Slc_old r5 w4) (by omega) a o).mono fun v s5 q => ?_
    obtain ⟨b7, c7, ⟨rfl, r7, o8⟩, n7⟩ := q
    have u5 := u4.trans o8
    have w5 := w4.trans o8
    (repeat (first | refine pSeq ?_ | refine pReg ?_ | refine sRaw ?_ | refine sCons ?_ | refine sNil ?_ | refine rCons ?_ | refine rNil ?_ | refine pRow ?_ | refine pBlock ?_ | refine pSkip ?_ | refine pExit ?_ | refine pRet ?_ | refine pCond ?_ | refine gNone ?_ | refine gOn rfl ?_ | refine gOff rfl rfl ?_))
    refine (open_w (l := sealS a k m1 (l1.take m1)) ⟨u5.gl.trans hg, u5.blk _ _ hn hs, Nat.le_trans hn u5.next, Rdb_old r5.1 w5⟩ (Slc_old r5 w5) (by omega) o k).mono fun v s6 q => ?_
    obtain ⟨b8, c8, ⟨rfl, r8, o9⟩, n8⟩ := q
    have u6 := u5.trans o9
    (repeat (first | refine pSeq ?_ | refine pReg ?_ | refine sRaw ?_ | refine sCons ?_ | refine sNil ?_ | refine rCons ?_ | refine rNil ?_ | refine pRow ?_ | refine pBlock ?_ | refine pSkip ?_ | refine pExit ?_ | refine pRet ?_ | refine pCond ?_ | refine gNone ?_ | refine gOn rfl ?_ | refine gOff rfl rfl ?_))
    intro d1 hd1
    (repeat (first | refine pSeq ?_ | refine pReg ?_ | refine sRaw ?_ | refine sCons ?_ | refine sNil ?_ | refine rCons ?_ | refine rNil ?_ | refine pRow ?_ | refine pBlock ?_ | refine pSkip ?_ | refine pExit ?_ | refine pRet ?_ | refine pCond ?_ | refine gNone ?_ | refine gOn rfl ?_ | refine gOff rfl rfl ?_))
    intro d2 hd2
    (repeat (first | refine pSeq ?_ | refine pReg ?_ | refine sRaw ?_ | refine sCons ?_ | refine sNil ?_ | refine rCons ?_ | refine rNil ?_ | refine pRow ?_ | refine pBlock ?_ | refine pSkip ?_ | refine pExit ?_ | refine pRet ?_ | refine pCond ?_ | refine gNone ?_ | refine gOn rfl ?_ | refine gOff rfl rfl ?_))
    intro d3 hd3
    obtain rfl : d3 = true := by rw [hd3, hd1, hd2]; exact same_dec (other_number a k o hl1 (by omega))
    (repeat (first | refine pSeq ?_ | refine pReg ?_ | refine sRaw ?_ | refine sCons ?_ | refine sNil ?_ | refine rCons ?_ | refine rNil ?_ | refine pRow ?_ | refine pBlock ?_ | refine pSkip ?_ | refine pExit ?_ | refine pRet ?_ | refine pCond ?_ | refine gNone ?_ | refine gOn rfl ?_ | refine gOff rfl rfl ?_))
    intro d4 hd4
    (repeat (first | refine pSeq ?_ | refine pReg ?_ | refine sRaw ?_ | refine sCons ?_ | refine sNil ?_ | refine rCons ?_ | refine rNil ?_ | refine pRow ?_ | refine pBlock ?_ | refine pSkip ?_ | refine pExit ?_ | refine pRet ?_ | refine pCond ?_ | refine gNone ?_ | refine gOn rfl ?_ | refine gOff rfl rfl ?_))
    intro d5 hd5
    (repeat (first | refine pSeq ?_ | refine pReg ?_ | refine sRaw ?_ | refine sCons ?_ | refine sNil ?_ | refine rCons ?_ | refine rNil ?_ | refine pRow ?_ | refine pBlock ?_ | refine pSkip ?_ | refine pExit ?_ | refine pRet ?_ | refine pCond ?_ | refine gNone ?_ | refine gOn rfl ?_ | refine gOff rfl rfl ?_))
    intro d6 hd6
    obtain rfl : d6 = true := by rw [hd6, hd4, hd5]; exact same_dec (other_ahead a k o hl1 (by omega))
    (repeat (first | refine pSeq ?_ | refine pReg ?_ | refine sRaw ?_ | refine sCons ?_ | refine sNil ?_ | refine rCons ?_ | refine rNil ?_ | refine pRow ?_ | refine pBlock ?_ | refine pSkip ?_ | refine pExit ?_ | refine pRet ?_ | refine pCond ?_ | refine gNone ?_ | refine gOn rfl ?_ | refine gOff rfl rfl ?_))
    refine (CallW.of_ok (tells_ok (u6.gl.trans hg) (u6.blk _ _ hn hs) (Nat.le_trans hn u6.next)) ⟨rfl, rfl⟩ : CallW pr n_law02_tells _ _ fun v s' => v = _ ∧ s' = _).mono fun v s12 q => ?_
    obtain ⟨rfl, rfl⟩ := q
    (repeat (first | refine pSeq ?_ | refine pReg ?_ | refine sRaw ?_ | refine sCons ?_ | refine sNil ?_ | refine rCons ?_ | refine rNil ?_ | refine pRow ?_ | refine pBlock ?_ | refine pSkip ?_ | refine pExit ?_ | refine pRet ?_ | refine pCond ?_ | refine gNone ?_ | refine gOn rfl ?_ | refine gOff rfl rfl ?_))
    rfl
  · obtain rfl : c = false := by rw [hc, hz10]; simp; omega
    (repeat (first | refine pSeq ?_ | refine pReg ?_ | refine sRaw ?_ | refine sCons ?_ | refine sNil ?_ | refine rCons ?_ | refine rNil ?_ | refine pRow ?_ | refine pBlock ?_ | refine pSkip ?_ | refine pExit ?_ | refine pRet ?_ | refine pCond ?_ | refine gNone ?_ | refine gOn rfl ?_ | refine gOff rfl rfl ?_))
    refine (open_w (l := sealS a k m1 (l1.take m1)) ⟨u4.gl.trans hg, u4.blk _ _ hn hs, Nat.le_trans hn u4.next, Rdb_old r5.1 w4⟩ (Slc_old r5 w4) (by omega) a o).mono fun v s5 q => ?_
    obtain ⟨b7, c7, ⟨rfl, r7, o8⟩, n7⟩ := q
    have u5 := u4.trans o8
    have w5 := w4.trans o8
    (repeat (first | refine pSeq ?_ | refine pReg ?_ | refine sRaw ?_ | refine sCons ?_ | refine sNil ?_ | refine rCons ?_ | refine rNil ?_ | refine pRow ?_ | refine pBlock ?_ | refine pSkip ?_ | refine pExit ?_ | refine pRet ?_ | refine pCond ?_ | refine gNone ?_ | refine gOn rfl ?_ | refine gOff rfl rfl ?_))
    refine (open_w (l := sealS a k m1 (l1.take m1)) ⟨u5.gl.trans hg, u5.blk _ _ hn hs, Nat.le_trans hn u5.next, Rdb_old r5.1 w5⟩ (Slc_old r5 w5) (by omega) o k).mono fun v s6 q => ?_
    obtain ⟨b8, c8, ⟨rfl, r8, o9⟩, n8⟩ := q
    have u6 := u5.trans o9
    (repeat (first | refine pSeq ?_ | refine pReg ?_ | refine sRaw ?_ | refine sCons ?_ | refine sNil ?_ | refine rCons ?_ | refine rNil ?_ | refine pRow ?_ | refine pBlock ?_ | refine pSkip ?_ | refine pExit ?_ | refine pRet ?_ | refine pCond ?_ | refine gNone ?_ | refine gOn rfl ?_ | refine gOff rfl rfl ?_))
    intro d1 hd1
    (repeat (first | refine pSeq ?_ | refine pReg ?_ | refine sRaw ?_ | refine sCons ?_ | refine sNil ?_ | refine rCons ?_ | refine rNil ?_ | refine pRow ?_ | refine pBlock ?_ | refine pSkip ?_ | refine pExit ?_ | refine pRet ?_ | refine pCond ?_ | refine gNone ?_ | refine gOn rfl ?_ | refine gOff rfl rfl ?_))
    intro d2 hd2
    (repeat (first | refine pSeq ?_ | refine pReg ?_ | refine sRaw ?_ | refine sCons ?_ | refine sNil ?_ | refine rCons ?_ | refine rNil ?_ | refine pRow ?_ | refine pBlock ?_ | refine pSkip ?_ | refine pExit ?_ | refine pRet ?_ | refine pCond ?_ | refine gNone ?_ | refine gOn rfl ?_ | refine gOff rfl rfl ?_))
    intro d3 hd3
    obtain rfl : d3 = true := by rw [hd3, hd1, hd2]; exact same_dec (other_number a k o hl1 (by omega))
    (repeat (first | refine pSeq ?_ | refine pReg ?_ | refine sRaw ?_ | refine sCons ?_ | refine sNil ?_ | refine rCons ?_ | refine rNil ?_ | refine pRow ?_ | refine pBlock ?_ | refine pSkip ?_ | refine pExit ?_ | refine pRet ?_ | refine pCond ?_ | refine gNone ?_ | refine gOn rfl ?_ | refine gOff rfl rfl ?_))
    intro d4 hd4
    (repeat (first | refine pSeq ?_ | refine pReg ?_ | refine sRaw ?_ | refine sCons ?_ | refine sNil ?_ | refine rCons ?_ | refine rNil ?_ | refine pRow ?_ | refine pBlock ?_ | refine pSkip ?_ | refine pExit ?_ | refine pRet ?_ | refine pCond ?_ | refine gNone ?_ | refine gOn rfl ?_ | refine gOff rfl rfl ?_))
    intro d5 hd5
    (repeat (first | refine pSeq ?_ | refine pReg ?_ | refine sRaw ?_ | refine sCons ?_ | refine sNil ?_ | refine rCons ?_ | refine rNil ?_ | refine pRow ?_ | refine pBlock ?_ | refine pSkip ?_ | refine pExit ?_ | refine pRet ?_ | refine pCond ?_ | refine gNone ?_ | refine gOn rfl ?_ | refine gOff rfl rfl ?_))
    intro d6 hd6
    obtain rfl : d6 = true := by rw [hd6, hd4, hd5]; exact same_dec (other_ahead a k o hl1 (by omega))
    (repeat (first | refine pSeq ?_ | refine pReg ?_ | refine sRaw ?_ | refine sCons ?_ | refine sNil ?_ | refine rCons ?_ | refine rNil ?_ | refine pRow ?_ | refine pBlock ?_ | refine pSkip ?_ | refine pExit ?_ | refine pRet ?_ | refine pCond ?_ | refine gNone ?_ | refine gOn rfl ?_ | refine gOff rfl rfl ?_))
    refine (CallW.of_ok (tells_ok (u6.gl.trans hg) (u6.blk _ _ hn hs) (Nat.le_trans hn u6.next)) ⟨rfl, rfl⟩ : CallW pr n_law02_tells _ _ fun v s' => v = _ ∧ s' = _).mono fun v s12 q => ?_
    obtain ⟨rfl, rfl⟩ := q
    (repeat (first | refine pSeq ?_ | refine pReg ?_ | refine sRaw ?_ | refine sCons ?_ | refine sNil ?_ | refine rCons ?_ | refine rNil ?_ | refine pRow ?_ | refine pBlock ?_ | refine pSkip ?_ | refine pExit ?_ | refine pRet ?_ | refine pCond ?_ | refine gNone ?_ | refine gOn rfl ?_ | refine gOff rfl rfl ?_))
    rfl
end Go.Vf.S

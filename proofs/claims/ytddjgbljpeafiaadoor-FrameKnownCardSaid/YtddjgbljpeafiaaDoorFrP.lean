import Derived.Test.YtddjgbljpeafiaaDoorFrO
/- What the law FrameBack says, from any state. -/
namespace Go.Vf.S
open Go Go.Vf Go.Vf.Fr
attribute [local irreducible] wSeq wRow wp
set_option linter.unusedVariables false
set_option linter.unusedSimpArgs false
set_option maxRecDepth 10000

set_option maxHeartbeats 1000000 in
theorem back_w {s : SS} {b1 b2 : Option Addr} {n1 n2 : Nat} {l1 l2 : List UInt8} (h1 : Arg pr s b1 n1 l1) (h2 : Arg pr s b2 n2 l2) (hg : s.gl = 1) (hs : lookH s.heap 0 = some gB) (hn : 1 ≤ s.next) (a k : BitVec 32) (cut : Nat) (hcut : cut < 65536) :
    CallW pr n_law02_FrameBack [.slice b1 n1 0, .slice b2 n2 0, .int .u32 a.toNat, .int .u32 k.toNat, .int .u16 cut] s fun v _ => v = .bool true := by
  refine CallW.run good ok_law02_FrameBack (by simp) rfl ?_
  (repeat (first | refine pSeq ?_ | refine pReg ?_ | refine sRaw ?_ | refine sCons ?_ | refine sNil ?_ | refine rCons ?_ | refine rNil ?_ | refine pRow ?_ | refine pBlock ?_ | refine pSkip ?_ | refine pExit ?_ | refine pRet ?_ | refine pCond ?_ | refine gNone ?_))
  intro z hz
  (repeat (first | refine pSeq ?_ | refine pReg ?_ | refine sRaw ?_ | refine sCons ?_ | refine sNil ?_ | refine rCons ?_ | refine rNil ?_ | refine pRow ?_ | refine pBlock ?_ | refine pSkip ?_ | refine pExit ?_ | refine pRet ?_ | refine pCond ?_ | refine gNone ?_))
  refine sl_arg rfl rfl h1 (by omega) fun b3 m1 e1 r1 => ?_
  (repeat (first | refine pSeq ?_ | refine pReg ?_ | refine sRaw ?_ | refine sCons ?_ | refine sNil ?_ | refine rCons ?_ | refine rNil ?_ | refine pRow ?_ | refine pBlock ?_ | refine pSkip ?_ | refine pExit ?_ | refine pRet ?_ | refine pCond ?_ | refine gNone ?_))
  intro z2 hz2
  (repeat (first | refine pSeq ?_ | refine pReg ?_ | refine sRaw ?_ | refine sCons ?_ | refine sNil ?_ | refine rCons ?_ | refine rNil ?_ | refine pRow ?_ | refine pBlock ?_ | refine pSkip ?_ | refine pExit ?_ | refine pRet ?_ | refine pCond ?_ | refine gNone ?_))
  refine sl_arg rfl rfl h2 (by omega) fun b4 m2 e2 r2 => ?_
  (repeat (first | refine pSeq ?_ | refine pReg ?_ | refine sRaw ?_ | refine sCons ?_ | refine sNil ?_ | refine rCons ?_ | refine rNil ?_ | refine pRow ?_ | refine pBlock ?_ | refine pSkip ?_ | refine pExit ?_ | refine pRet ?_ | refine pCond ?_ | refine gNone ?_))
  have p1 : Pre s b3 m1 (l1.take m1) := ⟨hg, hs, hn, r1.1⟩
  have hl1 := r1.1.1
  have hl2 := r2.1.1
  have hm1 : m1 ≤ 1000 := by omega
  have hm2 : m2 ≤ 1000 := by omega
  refine (sealed_w p1 (by omega) a k).mono fun v s1 q => ?_
  obtain ⟨b5, c5, rfl, r5, o5⟩ := q
  (repeat (first | refine pSeq ?_ | refine pReg ?_ | refine sRaw ?_ | refine sCons ?_ | refine sNil ?_ | refine rCons ?_ | refine rNil ?_ | refine pRow ?_ | refine pBlock ?_ | refine pSkip ?_ | refine pExit ?_ | refine pRet ?_ | refine pCond ?_ | refine gNone ?_))
  intro q hq
  obtain rfl : q = false := by rw [hq]; simp
  (repeat (first | refine pSeq ?_ | refine pReg ?_ | refine sRaw ?_ | refine sCons ?_ | refine sNil ?_ | refine rCons ?_ | refine rNil ?_ | refine pRow ?_ | refine pBlock ?_ | refine pSkip ?_ | refine pExit ?_ | refine pRet ?_ | refine pCond ?_ | refine gNone ?_ | refine gOn rfl ?_ | refine gOff rfl rfl ?_))
  intro z3 hz3
  rw [i64_id (by omega)] at hz3
  (repeat (first | refine pSeq ?_ | refine pReg ?_ | refine sRaw ?_ | refine sCons ?_ | refine sNil ?_ | refine rCons ?_ | refine rNil ?_ | refine pRow ?_ | refine pBlock ?_ | refine pSkip ?_ | refine pExit ?_ | refine pRet ?_ | refine pCond ?_ | refine gNone ?_ | refine gOn rfl ?_ | refine gOff rfl rfl ?_))
  intro q hq
  obtain rfl : q = false := by rw [hq]; simp; omega
  (repeat (first | refine pSeq ?_ | refine pReg ?_ | refine sRaw ?_ | refine sCons ?_ | refine sNil ?_ | refine rCons ?_ | refine rNil ?_ | refine pRow ?_ | refine pBlock ?_ | refine pSkip ?_ | refine pExit ?_ | refine pRet ?_ | refine pCond ?_ | refine gNone ?_ | refine gOn rfl ?_ | refine gOff rfl rfl ?_))
  have hn1 := o5.next
  refine appB_nil rfl rfl r5.1 (by omega) (by omega) ?_
  have o6 := old_cons (x := .cells (bytesV (sealS a k m1 (l1.take m1))) 5 true false) o5
  (repeat (first | refine pSeq ?_ | refine pReg ?_ | refine sRaw ?_ | refine sCons ?_ | refine sNil ?_ | refine rCons ?_ | refine rNil ?_ | refine pRow ?_ | refine pBlock ?_ | refine pSkip ?_ | refine pExit ?_ | refine pRet ?_ | refine pCond ?_ | refine gNone ?_))
  refine app_cut rfl look_head (Nat.lt_succ_self _) (by rw [sealS_len]; omega) rfl (Rdb_old r2.1 o6) (by omega) fun b7 c7 s7 r7 k7 o7 => ?_
  have w7 := (o7 s1 (old_cons (.refl _)) (Nat.le_refl _)).1
  obtain ⟨o7, n7⟩ := o7 s o6 hn1
  (repeat (first | refine pSeq ?_ | refine pReg ?_ | refine sRaw ?_ | refine sCons ?_ | refine sNil ?_ | refine rCons ?_ | refine rNil ?_ | refine pRow ?_ | refine pBlock ?_ | refine pSkip ?_ | refine pExit ?_ | refine pRet ?_ | refine pCond ?_ | refine gNone ?_))
  have T1 := told_open a k hl1 (by omega) (l2.take m2)
  refine (open_w ⟨o7.gl.trans hg, o7.blk _ _ hn hs, Nat.le_trans hn o7.next, r7.1⟩ r7 (by omega) a k).mono fun v s8 q => ?_
  obtain ⟨b8, c8, ⟨hv, r8, o8⟩, n8⟩ := q
  rw [T1.1, T1.2.1, T1.2.2.1, T1.2.2.2] at hv
  rw [T1.2.1] at r8
  subst hv
  have u8 := o7.trans o8
  (repeat (first | refine pSeq ?_ | refine pReg ?_ | refine sRaw ?_ | refine sCons ?_ | refine sNil ?_ | refine rCons ?_ | refine rNil ?_ | refine pRow ?_ | refine pBlock ?_ | refine pSkip ?_ | refine pExit ?_ | refine pRet ?_ | refine pCond ?_ | refine gNone ?_ | refine gOn rfl ?_ | refine gOff rfl rfl ?_))
  intro q hq
  obtain rfl : q = false := by rw [hq]; simp
  (repeat (first | refine pSeq ?_ | refine pReg ?_ | refine sRaw ?_ | refine sCons ?_ | refine sNil ?_ | refine rCons ?_ | refine rNil ?_ | refine pRow ?_ | refine pBlock ?_ | refine pSkip ?_ | refine pExit ?_ | refine pRet ?_ | refine pCond ?_ | refine gNone ?_ | refine gOn rfl ?_ | refine gOff rfl rfl ?_))
  refine toStr_Rdb rfl r8 ?_
  (repeat (first | refine pSeq ?_ | refine pReg ?_ | refine sRaw ?_ | refine sCons ?_ | refine sNil ?_ | refine rCons ?_ | refine rNil ?_ | refine pRow ?_ | refine pBlock ?_ | refine pSkip ?_ | refine pExit ?_ | refine pRet ?_ | refine pCond ?_ | refine gNone ?_ | refine gOn rfl ?_ | refine gOff rfl rfl ?_))
  refine toStr_Rdb rfl (Rdb_old r1.1 u8) ?_
  (repeat (first | refine pSeq ?_ | refine pReg ?_ | refine sRaw ?_ | refine sCons ?_ | refine sNil ?_ | refine rCons ?_ | refine rNil ?_ | refine pRow ?_ | refine pBlock ?_ | refine pSkip ?_ | refine pExit ?_ | refine pRet ?_ | refine pCond ?_ | refine gNone ?_ | refine gOn rfl ?_ | refine gOff rfl rfl ?_))
  intro q hq
  obtain rfl : q = false := by rw [hq]; simp
  (repeat (first | refine pSeq ?_ | refine pReg ?_ | refine sRaw ?_ | refine sCons ?_ | refine sNil ?_ | refine rCons ?_ | refine rNil ?_ | refine pRow ?_ | refine pBlock ?_ | refine pSkip ?_ | refine pExit ?_ | refine pRet ?_ | refine pCond ?_ | refine gNone ?_ | refine gOn rfl ?_ | refine gOff rfl rfl ?_))
  intro q hq
  obtain rfl : q = false := by rw [hq]; simp
  (repeat (first | refine pSeq ?_ | refine pReg ?_ | refine sRaw ?_ | refine sCons ?_ | refine sNil ?_ | refine rCons ?_ | refine rNil ?_ | refine pRow ?_ | refine pBlock ?_ | refine pSkip ?_ | refine pExit ?_ | refine pRet ?_ | refine pCond ?_ | refine gNone ?_ | refine gOn rfl ?_ | refine gOff rfl rfl ?_))
  refine (CallW.of_ok (sum_ok (p1.old u8) (by omega) a k) ⟨rfl, rfl⟩ : CallW pr n_frame_Sum _ _ fun v s' => v = _ ∧ s' = _).mono fun v s9 q => ?_
  obtain ⟨rfl, rfl⟩ := q
  (repeat (first | refine pSeq ?_ | refine pReg ?_ | refine sRaw ?_ | refine sCons ?_ | refine sNil ?_ | refine rCons ?_ | refine rNil ?_ | refine pRow ?_ | refine pBlock ?_ | refine pSkip ?_ | refine pExit ?_ | refine pRet ?_ | refine pCond ?_ | refine gNone ?_ | refine gOn rfl ?_ | refine gOff rfl rfl ?_))
  intro q hq
  obtain rfl : q = false := by rw [hq]; simp
  (repeat (first | refine pSeq ?_ | refine pReg ?_ | refine sRaw ?_ | refine sCons ?_ | refine sNil ?_ | refine rCons ?_ | refine rNil ?_ | refine pRow ?_ | refine pBlock ?_ | refine pSkip ?_ | refine pExit ?_ | refine pRet ?_ | refine pCond ?_ | refine gNone ?_ | refine gOn rfl ?_ | refine gOff rfl rfl ?_))
  intro z4 hz4
  rw [i64_id (by omega)] at hz4
  subst hz4
  (repeat (first | refine pSeq ?_ | refine pReg ?_ | refine sRaw ?_ | refine sCons ?_ | refine sNil ?_ | refine rCons ?_ | refine rNil ?_ | refine pRow ?_ | refine pBlock ?_ | refine pSkip ?_ | refine pExit ?_ | refine pRet ?_ | refine pCond ?_ | refine gNone ?_ | refine gOn rfl ?_ | refine gOff rfl rfl ?_))
  refine ⟨by omega, ?_⟩
  intro z5 hz5
  obtain rfl : z5 = ((cut % (10 + m1) : Nat) : Int) := by rw [hz5, Int.tmod_eq_emod_of_nonneg (by omega)]; omega
  have hw : cut % (10 + m1) < 10 + m1 := Nat.mod_lt _ (by omega)
  (repeat (first | refine pSeq ?_ | refine pReg ?_ | refine sRaw ?_ | refine sCons ?_ | refine sNil ?_ | refine rCons ?_ | refine rNil ?_ | refine pRow ?_ | refine pBlock ?_ | refine pSkip ?_ | refine pExit ?_ | refine pRet ?_ | refine pCond ?_ | refine gNone ?_ | refine gOn rfl ?_ | refine gOff rfl rfl ?_))
  refine slL_any 0 (cut % (10 + m1)) rfl rfl rfl (Slc_old r5 (w7.trans o8)) rfl (show ((cut % (10 + m1) : Nat) : Int) = ((0 + cut % (10 + m1) : Nat) : Int) by omega) (by omega) fun b9 c9 r9 => ?_
  have T2 := open_cut a k hl1 (by omega) hw
  have N2 := told_none (a := a) (k := k) (l := (sealS a k m1 (l1.take m1)).take (cut % (10 + m1))) (by rw [T2]; decide)
  (repeat (first | refine pSeq ?_ | refine pReg ?_ | refine sRaw ?_ | refine sCons ?_ | refine sNil ?_ | refine rCons ?_ | refine rNil ?_ | refine pRow ?_ | refine pBlock ?_ | refine pSkip ?_ | refine pExit ?_ | refine pRet ?_ | refine pCond ?_ | refine gNone ?_ | refine gOn rfl ?_ | refine gOff rfl rfl ?_))
  refine (open_w (l := (sealS a k m1 (l1.take m1)).take (cut % (10 + m1))) ⟨u8.gl.trans hg, u8.blk _ _ hn hs, Nat.le_trans hn u8.next, r9.1⟩ r9 (by omega) a k).mono fun v s10 q => ?_
  obtain ⟨b10, c10, ⟨hv, r10, o10⟩, n10⟩ := q
  rw [T2, N2.1, N2.2.1, N2.2.2] at hv
  subst hv
  have u10 := u8.trans o10
  (repeat (first | refine pSeq ?_ | refine pReg ?_ | refine sRaw ?_ | refine sCons ?_ | refine sNil ?_ | refine rCons ?_ | refine rNil ?_ | refine pRow ?_ | refine pBlock ?_ | refine pSkip ?_ | refine pExit ?_ | refine pRet ?_ | refine pCond ?_ | refine gNone ?_ | refine gOn rfl ?_ | refine gOff rfl rfl ?_))
  intro q hq
  obtain rfl : q = false := by rw [hq]; simp
  (repeat (first | refine pSeq ?_ | refine pReg ?_ | refine sRaw ?_ | refine sCons ?_ | refine sNil ?_ | refine rCons ?_ | refine rNil ?_ | refine pRow ?_ | refine pBlock ?_ | refine pSkip ?_ | refine pExit ?_ | refine pRet ?_ | refine pCond ?_ | refine gNone ?_ | refine gOn rfl ?_ | refine gOff rfl rfl ?_))
  intro q hq
  obtain rfl : q = false := by rw [hq]; simp
  (repeat (first | refine pSeq ?_ | refine pReg ?_ | refine sRaw ?_ | refine sCons ?_ | refine sNil ?_ | refine rCons ?_ | refine rNil ?_ | refine pRow ?_ | refine pBlock ?_ | refine pSkip ?_ | refine pExit ?_ | refine pRet ?_ | refine pCond ?_ | refine gNone ?_ | refine gOn rfl ?_ | refine gOff rfl rfl ?_))
  intro q hq
  obtain rfl : q = false := by rw [hq]; simp
  (repeat (first | refine pSeq ?_ | refine pReg ?_ | refine sRaw ?_ | refine sCons ?_ | refine sNil ?_ | refine rCons ?_ | refine rNil ?_ | refine pRow ?_ | refine pBlock ?_ | refine pSkip ?_ | refine pExit ?_ | refine pRet ?_ | refine pCond ?_ | refine gNone ?_ | refine gOn rfl ?_ | refine gOff rfl rfl ?_))
  intro q hq
  obtain rfl : q = false := by rw [hq]; simp
  (repeat (first | refine pSeq ?_ | refine pReg ?_ | refine sRaw ?_ | refine sCons ?_ | refine sNil ?_ | refine rCons ?_ | refine rNil ?_ | refine pRow ?_ | refine pBlock ?_ | refine pSkip ?_ | refine pExit ?_ | refine pRet ?_ | refine pCond ?_ | refine gNone ?_ | refine gOn rfl ?_ | refine gOff rfl rfl ?_))
  refine (open_w (l := l2.take m2) ⟨u10.gl.trans hg, u10.blk _ _ hn hs, Nat.le_trans hn u10.next, Rdb_old r2.1 u10⟩ (Slc_old (c := 0) r2.slc u10) (by omega) a k).mono fun v s11 q => ?_
  obtain ⟨b11, c11, ⟨hv, r11, o11⟩, n11⟩ := q
  have u11 := u10.trans o11
  by_cases hE : openE a k (l2.take m2) = 0
  · obtain ⟨x1, x2, x3⟩ := seal_open a k _ hE
    have eP : oP a k (l2.take m2) = ((l2.take m2).drop 10).take (sz (l2.take m2)) := by unfold oP; rw [if_pos hE]
    have eN : oN a k (l2.take m2) = 10 + sz (l2.take m2) := by unfold oN; rw [if_pos hE]
    have eL : (((l2.take m2).drop 10).take (sz (l2.take m2))).length = sz (l2.take m2) := by rw [List.length_take, List.length_drop]; omega
    rw [hE, eN, eP, eL] at hv
    rw [eP, eL] at r11
    subst hv
    (repeat (first | refine pSeq ?_ | refine pReg ?_ | refine sRaw ?_ | refine sCons ?_ | refine sNil ?_ | refine rCons ?_ | refine rNil ?_ | refine pRow ?_ | refine pBlock ?_ | refine pSkip ?_ | refine pExit ?_ | refine pRet ?_ | refine pCond ?_ | refine gNone ?_ | refine gOn rfl ?_ | refine gOff rfl rfl ?_))
    intro q hq
    obtain rfl : q = false := by rw [hq]; simp
    (repeat (first | refine pSeq ?_ | refine pReg ?_ | refine sRaw ?_ | refine sCons ?_ | refine sNil ?_ | refine rCons ?_ | refine rNil ?_ | refine pRow ?_ | refine pBlock ?_ | refine pSkip ?_ | refine pExit ?_ | refine pRet ?_ | refine pCond ?_ | refine gNone ?_ | refine gOn rfl ?_ | refine gOff rfl rfl ?_))
    refine (sealed_w (s := s11) ⟨u11.gl.trans hg, u11.blk _ _ hn hs, Nat.le_trans hn u11.next, r11⟩ x2 a k).mono fun v s12 q => ?_
    obtain ⟨b12, c12, rfl, r12, o12⟩ := q
    have u12 := u11.trans o12
    (repeat (first | refine pSeq ?_ | refine pReg ?_ | refine sRaw ?_ | refine sCons ?_ | refine sNil ?_ | refine rCons ?_ | refine rNil ?_ | refine pRow ?_ | refine pBlock ?_ | refine pSkip ?_ | refine pExit ?_ | refine pRet ?_ | refine pCond ?_ | refine gNone ?_ | refine gOn rfl ?_ | refine gOff rfl rfl ?_))
    intro q hq
    obtain rfl : q = true := by rw [hq]; simp
    (repeat (first | refine pSeq ?_ | refine pReg ?_ | refine sRaw ?_ | refine sCons ?_ | refine sNil ?_ | refine rCons ?_ | refine rNil ?_ | refine pRow ?_ | refine pBlock ?_ | refine pSkip ?_ | refine pExit ?_ | refine pRet ?_ | refine pCond ?_ | refine gNone ?_ | refine gOn rfl ?_ | refine gOff rfl rfl ?_))
    intro q hq
    obtain rfl : q = true := by rw [hq]; simp; omega
    (repeat (first | refine pSeq ?_ | refine pReg ?_ | refine sRaw ?_ | refine sCons ?_ | refine sNil ?_ | refine rCons ?_ | refine rNil ?_ | refine pRow ?_ | refine pBlock ?_ | refine pSkip ?_ | refine pExit ?_ | refine pRet ?_ | refine pCond ?_ | refine gNone ?_ | refine gOn rfl ?_ | refine gOff rfl rfl ?_))
    refine toStr_Rdb rfl r12.1 ?_
    (repeat (first | refine pSeq ?_ | refine pReg ?_ | refine sRaw ?_ | refine sCons ?_ | refine sNil ?_ | refine rCons ?_ | refine rNil ?_ | refine pRow ?_ | refine pBlock ?_ | refine pSkip ?_ | refine pExit ?_ | refine pRet ?_ | refine pCond ?_ | refine gNone ?_ | refine gOn rfl ?_ | refine gOff rfl rfl ?_))
    refine slL_any 0 (10 + sz (l2.take m2)) rfl rfl rfl (Slc_old (c := 0) r2.slc u12) rfl (show ((10 + sz (l2.take m2) : Nat) : Int) = ((0 + (10 + sz (l2.take m2)) : Nat) : Int) by omega) (by omega) fun b13 c13 r13 => ?_
    (repeat (first | refine pSeq ?_ | refine pReg ?_ | refine sRaw ?_ | refine sCons ?_ | refine sNil ?_ | refine rCons ?_ | refine rNil ?_ | refine pRow ?_ | refine pBlock ?_ | refine pSkip ?_ | refine pExit ?_ | refine pRet ?_ | refine pCond ?_ | refine gNone ?_ | refine gOn rfl ?_ | refine gOff rfl rfl ?_))
    refine toStr_Rdb rfl r13.1 ?_
    (repeat (first | refine pSeq ?_ | refine pReg ?_ | refine sRaw ?_ | refine sCons ?_ | refine sNil ?_ | refine rCons ?_ | refine rNil ?_ | refine pRow ?_ | refine pBlock ?_ | refine pSkip ?_ | refine pExit ?_ | refine pRet ?_ | refine pCond ?_ | refine gNone ?_ | refine gOn rfl ?_ | refine gOff rfl rfl ?_))
    intro q hq
    obtain rfl : q = true := by rw [hq, x3]; simp
    (repeat (first | refine pSeq ?_ | refine pReg ?_ | refine sRaw ?_ | refine sCons ?_ | refine sNil ?_ | refine rCons ?_ | refine rNil ?_ | refine pRow ?_ | refine pBlock ?_ | refine pSkip ?_ | refine pExit ?_ | refine pRet ?_ | refine pCond ?_ | refine gNone ?_ | refine gOn rfl ?_ | refine gOff rfl rfl ?_))
    refine ⟨_, s12, tells_ok (u12.gl.trans hg) (u12.blk _ _ hn hs) (Nat.le_trans hn u12.next), trivial, ?_⟩
    (repeat (first | refine pSeq ?_ | refine pReg ?_ | refine sRaw ?_ | refine sCons ?_ | refine sNil ?_ | refine rCons ?_ | refine rNil ?_ | refine pRow ?_ | refine pBlock ?_ | refine pSkip ?_ | refine pExit ?_ | refine pRet ?_ | refine pCond ?_ | refine gNone ?_ | refine gOn rfl ?_ | refine gOff rfl rfl ?_))
    rfl
  · have N3 := told_none hE
    rw [N3.1, N3.2.1, N3.2.2] at hv
    subst hv
    (repeat (first | refine pSeq ?_ | refine pReg ?_ | refine sRaw ?_ | refine sCons ?_ | refine sNil ?_ | refine rCons ?_ | refine rNil ?_ | refine pRow ?_ | refine pBlock ?_ | refine pSkip ?_ | refine pExit ?_ | refine pRet ?_ | refine pCond ?_ | refine gNone ?_ | refine gOn rfl ?_ | refine gOff rfl rfl ?_))
    intro q hq
    obtain rfl : q = true := by rw [hq]; simp; omega
    (repeat (first | refine pSeq ?_ | refine pReg ?_ | refine sRaw ?_ | refine sCons ?_ | refine sNil ?_ | refine rCons ?_ | refine rNil ?_ | refine pRow ?_ | refine pBlock ?_ | refine pSkip ?_ | refine pExit ?_ | refine pRet ?_ | refine pCond ?_ | refine gNone ?_ | refine gOn rfl ?_ | refine gOff rfl rfl ?_))
    intro q hq
    obtain rfl : q = true := by rw [hq]; simp
    (repeat (first | refine pSeq ?_ | refine pReg ?_ | refine sRaw ?_ | refine sCons ?_ | refine sNil ?_ | refine rCons ?_ | refine rNil ?_ | refine pRow ?_ | refine pBlock ?_ | refine pSkip ?_ | refine pExit ?_ | refine pRet ?_ | refine pCond ?_ | refine gNone ?_ | refine gOn rfl ?_ | refine gOff rfl rfl ?_))
    intro q hq
    obtain rfl : q = true := by rw [hq]; simp
    (repeat (first | refine pSeq ?_ | refine pReg ?_ | refine sRaw ?_ | refine sCons ?_ | refine sNil ?_ | refine rCons ?_ | refine rNil ?_ | refine pRow ?_ | refine pBlock ?_ | refine pSkip ?_ | refine pExit ?_ | refine pRet ?_ | refine pCond ?_ | refine gNone ?_ | refine gOn rfl ?_ | refine gOff rfl rfl ?_))
    refine (CallW.of_ok (tells_ok (u11.gl.trans hg) (u11.blk _ _ hn hs) (Nat.le_trans hn u11.next)) ⟨rfl, rfl⟩ : CallW pr n_law02_tells _ _ fun v s' => v = _ ∧ s' = _).mono fun v s12 q => ?_
    obtain ⟨rfl, rfl⟩ := q
    (repeat (first | refine pSeq ?_ | refine pReg ?_ | refine sRaw ?_ | refine sCons ?_ | refine sNil ?_ | refine rCons ?_ | refine rNil ?_ | refine pRow ?_ | refine pBlock ?_ | refine pSkip ?_ | refine pExit ?_ | refine pRet ?_ | refine pCond ?_ | refine gNone ?_ | refine gOn rfl ?_ | refine gOff rfl rfl ?_))
    rfl
end Go.Vf.S

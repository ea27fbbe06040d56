import Derived.Test.YtddjgbljpeafiaaDoorFrH
/- What the laws say, from any state. -/
namespace Go.Vf.S
open Go Go.Vf Go.Vf.Fr
attribute [local irreducible] wSeq wRow wp
set_option linter.unusedVariables false
set_option linter.unusedSimpArgs false
set_option maxRecDepth 10000

theorem tells_run : isB (aCall pr 1000 50 n_law02_tells [] (SS.st ⟨[(0, some gB)], 1, 1⟩)) true = true := by kernel_rfl

theorem glob0 {g : Nat} (h : g < 1) : ([0] : List Nat)[g]? = some g := by
  have : g = 0 := by omega
  subst this; rfl

theorem tells_ok {s : SS} (hg : s.gl = 1) (hs : lookH s.heap 0 = some gB) (hn : 1 ≤ s.next) : CallOk pr n_law02_tells [] s.st (.bool true) s.st := by
  refine CallOk.lift (c := []) (bs := []) (v' := .bool true) (τ := [0]) (sc := ⟨[(0, some gB)], 1, 1⟩) (s := s) (CallW.of_run good tells_run) rfl (by simp; omega) hg.symm (fun g h => glob0 (by omega)) rfl ?_ (by simp) ?_
  · exact ⟨⟨rfl, 0, gB, rfl, hs, by simp only [gB, rnB, rnL_plain gB_plain]; rfl⟩, trivial⟩
  · intro v s1 hv
    subst hv
    exact ⟨[], List.nodup_nil, rfl, (by simp), rfl, (by simp)⟩

theorem checks_w {s : SS} {b1 b2 : Option Addr} {n1 n2 : Nat} {l1 l2 : List UInt8} (h1 : Arg pr s b1 n1 l1) (h2 : Arg pr s b2 n2 l2) (hg : s.gl = 1) (hs : lookH s.heap 0 = some gB) (hn : 1 ≤ s.next) (a k : BitVec 32) :
    CallW pr n_law02_FrameChecks [.slice b1 n1 0, .slice b2 n2 0, .int .u32 a.toNat, .int .u32 k.toNat] s fun v _ => v = .bool true := by
  refine CallW.run good ok_law02_FrameChecks (by simp) rfl ?_
  (repeat (first | refine pSeq ?_ | refine pReg ?_ | refine sRaw ?_ | refine sCons ?_ | refine sNil ?_ | refine rCons ?_ | refine rNil ?_ | refine pRow ?_ | refine pBlock ?_ | refine pSkip ?_ | refine pExit ?_ | refine pRet ?_ | refine pCond ?_ | refine gNone ?_))
  intro z hz
  (repeat (first | refine pSeq ?_ | refine pReg ?_ | refine sRaw ?_ | refine sCons ?_ | refine sNil ?_ | refine rCons ?_ | refine rNil ?_ | refine pRow ?_ | refine pBlock ?_ | refine pSkip ?_ | refine pExit ?_ | refine pRet ?_ | refine pCond ?_ | refine gNone ?_))
  refine sl_arg rfl rfl h1 (by omega) fun b3 m1 e1 r1 => ?_
  (repeat (first | refine pSeq ?_ | refine pReg ?_ | refine sRaw ?_ | refine sCons ?_ | refine sNil ?_ | refine rCons ?_ | refine rNil ?_ | refine pRow ?_ | refine pBlock ?_ | refine pSkip ?_ | refine pExit ?_ | refine pRet ?_ | refine pCond ?_ | refine gNone ?_))
  intro z2 hz2
  (repeat (first | refine pSeq ?_ | refine pReg ?_ | refine sRaw ?_ | refine sCons ?_ | refine sNil ?_ | refine rCons ?_ | refine rNil ?_ | refine pRow ?_ | refine pBlock ?_ | refine pSkip ?_ | refine pExit ?_ | refine pRet ?_ | refine pCond ?_ | refine gNone ?_))
  refine sl_arg rfl rfl h2 (by omega) fun b4 m2 e2 r2 => ?_
  (repeat (first | refine pSeq ?_ | refine pReg ?_ | refine sRaw ?_ | refine sCons ?_ | refine sNil ?_ | refine rCons ?_ | refine rNil ?_ | refine pRow ?_ | refine pBlock ?_ | refine pSkip ?_ | refine pExit ?_ | refine pRet ?_ | refine pCond ?_ | refine gNone ?_))
  have p2 : Pre s b4 m2 (l2.take m2) := ⟨hg, hs, hn, r2.1⟩
  refine (seal_w p2 (by omega) a k).mono fun v s1 q => ?_
  obtain ⟨b5, c5, rfl, r5, o5⟩ := q
  (repeat (first | refine pSeq ?_ | refine pReg ?_ | refine sRaw ?_ | refine sCons ?_ | refine sNil ?_ | refine rCons ?_ | refine rNil ?_ | refine pRow ?_ | refine pBlock ?_ | refine pSkip ?_ | refine pExit ?_ | refine pRet ?_ | refine pCond ?_ | refine gNone ?_))
  refine (refSeal_w (p2.old o5) (by omega) a k).mono fun v s2 q => ?_
  obtain ⟨b6, c6, rfl, r6, o6⟩ := q
  (repeat (first | refine pSeq ?_ | refine pReg ?_ | refine sRaw ?_ | refine sCons ?_ | refine sNil ?_ | refine rCons ?_ | refine rNil ?_ | refine pRow ?_ | refine pBlock ?_ | refine pSkip ?_ | refine pExit ?_ | refine pRet ?_ | refine pCond ?_ | refine gNone ?_))
  have o7 := o5.trans o6
  refine (crc_w (l := l1.take m1) (Pre.old ⟨hg, hs, hn, r1.1⟩ o7) (by omega)).mono fun v s3 q => ?_
  obtain ⟨rfl, rfl⟩ := q
  (repeat (first | refine pSeq ?_ | refine pReg ?_ | refine sRaw ?_ | refine sCons ?_ | refine sNil ?_ | refine rCons ?_ | refine rNil ?_ | refine pRow ?_ | refine pBlock ?_ | refine pSkip ?_ | refine pExit ?_ | refine pRet ?_ | refine pCond ?_ | refine gNone ?_))
  refine (refCrc_w _ _ _ _ _ (Rdb_old r1.1 o7) (by omega)).mono fun v s4 q => ?_
  obtain ⟨rfl, rfl⟩ := q
  (repeat (first | refine pSeq ?_ | refine pReg ?_ | refine sRaw ?_ | refine sCons ?_ | refine sNil ?_ | refine rCons ?_ | refine rNil ?_ | refine pRow ?_ | refine pBlock ?_ | refine pSkip ?_ | refine pExit ?_ | refine pRet ?_ | refine pCond ?_ | refine gNone ?_))
  intro c hc
  obtain rfl : c = true := by rw [hc]; simp
  (repeat (first | refine pSeq ?_ | refine pReg ?_ | refine sRaw ?_ | refine sCons ?_ | refine sNil ?_ | refine rCons ?_ | refine rNil ?_ | refine pRow ?_ | refine pBlock ?_ | refine pSkip ?_ | refine pExit ?_ | refine pRet ?_ | refine pCond ?_ | refine gNone ?_))
  have o7' := o7
  have p3 : Pre s4 b4 m2 (l2.take m2) := p2.old o7
  refine (CallW.of_ok (sum_ok p3 (by omega) a k) ⟨rfl, rfl⟩ : CallW pr n_frame_Sum _ _ fun v s' => v = _ ∧ s' = _).mono fun v s5 q => ?_
  obtain ⟨rfl, rfl⟩ := q
  (repeat (first | refine pSeq ?_ | refine pReg ?_ | refine sRaw ?_ | refine sCons ?_ | refine sNil ?_ | refine rCons ?_ | refine rNil ?_ | refine pRow ?_ | refine pBlock ?_ | refine pSkip ?_ | refine pExit ?_ | refine pRet ?_ | refine pCond ?_ | refine gNone ?_))
  refine (refSum_w p3 (by omega) a k).mono fun v s6 q => ?_
  obtain ⟨rfl, o8⟩ := q
  (repeat (first | refine pSeq ?_ | refine pReg ?_ | refine sRaw ?_ | refine sCons ?_ | refine sNil ?_ | refine rCons ?_ | refine rNil ?_ | refine pRow ?_ | refine pBlock ?_ | refine pSkip ?_ | refine pExit ?_ | refine pRet ?_ | refine pCond ?_ | refine gNone ?_))
  intro c hc2
  obtain rfl : c = true := by rw [hc2]; simp
  (repeat (first | refine pSeq ?_ | refine pReg ?_ | refine sRaw ?_ | refine sCons ?_ | refine sNil ?_ | refine rCons ?_ | refine rNil ?_ | refine pRow ?_ | refine pBlock ?_ | refine pSkip ?_ | refine pExit ?_ | refine pRet ?_ | refine pCond ?_ | refine gNone ?_))
  refine gOn rfl (toStr_Rdb rfl (Rdb_old (Rdb_old r5 o6) o8) ?_)
  (repeat (first | refine pSeq ?_ | refine pReg ?_ | refine sRaw ?_ | refine sCons ?_ | refine sNil ?_ | refine rCons ?_ | refine rNil ?_ | refine pRow ?_ | refine pBlock ?_ | refine pSkip ?_ | refine pExit ?_ | refine pRet ?_ | refine pCond ?_ | refine gNone ?_))
  refine gOn rfl (toStr_Rdb rfl (Rdb_old r6 o8) ?_)
  (repeat (first | refine pSeq ?_ | refine pReg ?_ | refine sRaw ?_ | refine sCons ?_ | refine sNil ?_ | refine rCons ?_ | refine rNil ?_ | refine pRow ?_ | refine pBlock ?_ | refine pSkip ?_ | refine pExit ?_ | refine pRet ?_ | refine pCond ?_ | refine gNone ?_))
  intro c hc3
  obtain rfl : c = true := by rw [hc3]; simp
  (repeat (first | refine pSeq ?_ | refine pReg ?_ | refine sRaw ?_ | refine sCons ?_ | refine sNil ?_ | refine rCons ?_ | refine rNil ?_ | refine pRow ?_ | refine pBlock ?_ | refine pSkip ?_ | refine pExit ?_ | refine pRet ?_ | refine pCond ?_ | refine gNone ?_))
  intro c hc4
  obtain rfl : c = true := by rw [hc4]; simp
  (repeat (first | refine pSeq ?_ | refine pReg ?_ | refine sRaw ?_ | refine sCons ?_ | refine sNil ?_ | refine rCons ?_ | refine rNil ?_ | refine pRow ?_ | refine pBlock ?_ | refine pSkip ?_ | refine pExit ?_ | refine pRet ?_ | refine pCond ?_ | refine gNone ?_))
  have o9 := o7.trans o8
  refine (CallW.of_ok (tells_ok (o9.gl.trans hg) (o9.blk _ _ (by omega) hs) (Nat.le_trans hn o9.next)) ⟨rfl, rfl⟩ : CallW pr n_law02_tells _ _ fun v s' => v = _ ∧ s' = _).mono fun v s7 q => ?_
  obtain ⟨rfl, rfl⟩ := q
  (repeat (first | refine pSeq ?_ | refine pReg ?_ | refine sRaw ?_ | refine sCons ?_ | refine sNil ?_ | refine rCons ?_ | refine rNil ?_ | refine pRow ?_ | refine pBlock ?_ | refine pSkip ?_ | refine pExit ?_ | refine pRet ?_ | refine pCond ?_ | refine gNone ?_))
  rfl

end Go.Vf.S

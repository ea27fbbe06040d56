import Derived.Test.YtioildcpkcijkaaDoorFrL
/- Frames opened the document's way. -/
namespace Go.Vf.S
open Go Go.Vf Go.Vf.Fr
attribute [local irreducible] wSeq wRow wp wG
set_option linter.unusedVariables false
set_option linter.unusedSimpArgs false
set_option maxRecDepth 10000

theorem two {l : List UInt8} (h : 2 ≤ l.length) : (l.drop 0).take 2 = [l.getD 0 0, l.getD 1 0] := by
  match l, h with
  | a :: b :: r, _ => rfl

theorem refOpen_w {s : SS} {base : Option Addr} {n c : Nat} {l : List UInt8} (h : Pre s base n l) (hc : Slc pr s base n c l) (hb : n < 2 ^ 40) (a k : BitVec 32) :
    CallW pr n_ref02_Open [.int .u32 a.toNat, .int .u32 k.toNat, .slice base n c] s fun v s' => ∃ b' c', Told a k l s v s' b' c' := by
  have hnl := h.rd.1
  refine CallW.run good ok_ref02_Open (by simp) rfl ?_
  (repeat(first|refine pSeq ?_|refine pReg ?_|refine sCons ?_|refine sNil ?_|refine pSkip ?_|refine pRet ?_|refine pCond ?_|refine gNone ?_))
  intro q hq
  by_cases h10 : n < 10
  · obtain rfl : q = true := by rw [hq]; simp; omega
    (repeat(first|refine pSeq ?_|refine pReg ?_|refine sCons ?_|refine sNil ?_|refine pSkip ?_|refine pRet ?_|refine pCond ?_|refine gNone ?_))
    exact ⟨none, 0, told_err 3 (by unfold openE; rw [if_pos (by omega)]) (.refl s)⟩
  obtain rfl : q = false := by rw [hq]; simp; omega
  (repeat(first|refine pSeq ?_|refine pReg ?_|refine sCons ?_|refine sNil ?_|refine pSkip ?_|refine pRet ?_|refine pCond ?_|refine gNone ?_))
  refine slL_any 0 2 rfl rfl rfl hc rfl rfl (by omega) fun b1 c1 hc1 => ?_
  (repeat(first|refine pSeq ?_|refine pReg ?_|refine sCons ?_|refine sNil ?_|refine pSkip ?_|refine pRet ?_|refine pCond ?_|refine gNone ?_))
  refine (number_w _ _ _ _ _ hc1.1 (by omega)).mono fun v s1 q => ?_
  obtain ⟨rfl, rfl⟩ := q
  (repeat(first|refine pSeq ?_|refine pReg ?_|refine sCons ?_|refine sNil ?_|refine pSkip ?_|refine pRet ?_|refine pCond ?_|refine gNone ?_))
  intro z hz
  have hsz := sz_lt l
  have l0 := (l.getD 0 0).toNat_lt
  have l1 := (l.getD 1 0).toNat_lt
  rw [two (by omega), num2, i64_id (by omega)] at hz
  obtain rfl : z = (sz l : Int) := hz
  (repeat(first|refine pSeq ?_|refine pReg ?_|refine sCons ?_|refine sNil ?_|refine pSkip ?_|refine pRet ?_|refine pCond ?_|refine gNone ?_))
  intro q hq
  by_cases hlong : 16384 < sz l
  · obtain rfl : q = true := by rw [hq]; simp; omega
    (repeat(first|refine pSeq ?_|refine pReg ?_|refine sCons ?_|refine sNil ?_|refine pSkip ?_|refine pRet ?_|refine pCond ?_|refine gNone ?_))
    exact ⟨none, 0, told_err 2 (by unfold openE; rw [if_neg (by omega), if_pos hlong]) (.refl _)⟩
  obtain rfl : q = false := by rw [hq]; simp; omega
  (repeat(first|refine pSeq ?_|refine pReg ?_|refine sCons ?_|refine sNil ?_|refine pSkip ?_|refine pRet ?_|refine pCond ?_|refine gNone ?_))
  intro z hz
  rw [i64_id (by omega)] at hz
  obtain rfl : z = ((10 + sz l : Nat) : Int) := by rw [hz]; omega
  (repeat(first|refine pSeq ?_|refine pReg ?_|refine sCons ?_|refine sNil ?_|refine pSkip ?_|refine pRet ?_|refine pCond ?_|refine gNone ?_))
  intro q hq
  by_cases hsh : n < 10 + sz l
  · obtain rfl : q = true := by rw [hq]; simp; omega
    (repeat(first|refine pSeq ?_|refine pReg ?_|refine sCons ?_|refine sNil ?_|refine pSkip ?_|refine pRet ?_|refine pCond ?_|refine gNone ?_))
    exact ⟨none, 0, told_err 3 (by unfold openE; rw [if_neg (by omega), if_neg hlong, if_pos (by omega)]) (.refl _)⟩
  obtain rfl : q = false := by rw [hq]; simp; omega
  (repeat(first|refine pSeq ?_|refine pReg ?_|refine sCons ?_|refine sNil ?_|refine pSkip ?_|refine pRet ?_|refine pCond ?_|refine gNone ?_))
  intro z hz
  rw [i64_id (by omega)] at hz
  obtain rfl : z = ((10 + sz l : Nat) : Int) := by rw [hz]; omega
  (repeat(first|refine pSeq ?_|refine pReg ?_|refine sCons ?_|refine sNil ?_|refine pSkip ?_|refine pRet ?_|refine pCond ?_|refine gNone ?_))
  refine slL_any 10 (sz l) rfl rfl rfl hc rfl rfl (by omega) fun b2 c2 hc2 => ?_
  (repeat(first|refine pSeq ?_|refine pReg ?_|refine sCons ?_|refine sNil ?_|refine pSkip ?_|refine pRet ?_|refine pCond ?_|refine gNone ?_))
  refine (refSum_w ⟨h.gl, h.steps, h.next, hc2.1⟩ (by omega) a k).mono fun v s2 q => ?_
  obtain ⟨rfl, o2⟩ := q
  (repeat(first|refine pSeq ?_|refine pReg ?_|refine sCons ?_|refine sNil ?_|refine pSkip ?_|refine pRet ?_|refine pCond ?_|refine gNone ?_))
  refine slL_any 2 4 rfl rfl rfl (Slc_old hc o2) rfl rfl (by omega) fun b3 c3 hc3 => ?_
  (repeat(first|refine pSeq ?_|refine pReg ?_|refine sCons ?_|refine sNil ?_|refine pSkip ?_|refine pRet ?_|refine pCond ?_|refine gNone ?_))
  refine (number_w _ _ _ _ _ hc3.1 (by omega)).mono fun v s3 q => ?_
  obtain ⟨rfl, rfl⟩ := q
  rw [num4 (by omega)]
  (repeat(first|refine pSeq ?_|refine pReg ?_|refine sCons ?_|refine sNil ?_|refine pSkip ?_|refine pRet ?_|refine pCond ?_|refine gNone ?_))
  intro q hq
  by_cases hk : rd4 l 2 = k
  · obtain rfl : q = false := by rw [hq]; simp [hk]
    (repeat(first|refine pSeq ?_|refine pReg ?_|refine sCons ?_|refine sNil ?_|refine pSkip ?_|refine pRet ?_|refine pCond ?_|refine gNone ?_|refine gOn rfl ?_|refine gOff rfl rfl ?_|refine gTup rfl ?_))
    refine slL_any 6 4 rfl rfl rfl (Slc_old hc o2) rfl rfl (by omega) fun b4 c4 hc4 => ?_
    (repeat(first|refine pSeq ?_|refine pReg ?_|refine sCons ?_|refine sNil ?_|refine pSkip ?_|refine pRet ?_|refine pCond ?_|refine gNone ?_|refine gOn rfl ?_|refine gOff rfl rfl ?_|refine gTup rfl ?_))
    refine (number_w _ _ _ _ _ hc4.1 (by omega)).mono fun v s4 q => ?_
    obtain ⟨rfl, rfl⟩ := q
    rw [num4 (by omega)]
    (repeat(first|refine pSeq ?_|refine pReg ?_|refine sCons ?_|refine sNil ?_|refine pSkip ?_|refine pRet ?_|refine pCond ?_|refine gNone ?_|refine gOn rfl ?_|refine gOff rfl rfl ?_|refine gTup rfl ?_))
    intro q hq
    by_cases hs : rd4 l 6 = sumS a k (sz l) ((l.drop 10).take (sz l))
    · obtain rfl : q = false := by rw [hq]; simp [hs]
      (repeat(first|refine pSeq ?_|refine pReg ?_|refine sCons ?_|refine sNil ?_|refine pSkip ?_|refine pRet ?_|refine pCond ?_|refine gNone ?_|refine gOn rfl ?_|refine gOff rfl rfl ?_|refine gTup rfl ?_))
      intro z hz
      rw [i64_id (by omega)] at hz
      obtain rfl : z = ((10 + sz l : Nat) : Int) := by rw [hz]; omega
      (repeat(first|refine pSeq ?_|refine pReg ?_|refine sCons ?_|refine sNil ?_|refine pSkip ?_|refine pRet ?_|refine pCond ?_|refine gNone ?_|refine gOn rfl ?_|refine gOff rfl rfl ?_|refine gTup rfl ?_))
      refine slL_any 10 (sz l) rfl rfl rfl (Slc_old hc o2) rfl rfl (by omega) fun b5 c5 hc5 => ?_
      (repeat(first|refine pSeq ?_|refine pReg ?_|refine sCons ?_|refine sNil ?_|refine pSkip ?_|refine pRet ?_|refine pCond ?_|refine gNone ?_|refine gOn rfl ?_|refine gOff rfl rfl ?_|refine gTup rfl ?_))
      intro z hz
      rw [i64_id (by omega)] at hz
      obtain rfl : z = ((10 + sz l : Nat) : Int) := by rw [hz]; omega
      (repeat(first|refine pSeq ?_|refine pReg ?_|refine sCons ?_|refine sNil ?_|refine pSkip ?_|refine pRet ?_|refine pCond ?_|refine gNone ?_|refine gOn rfl ?_|refine gOff rfl rfl ?_|refine gTup rfl ?_))
      exact ⟨b5, c5, told_ok (by unfold openE; rw [if_neg (by omega), if_neg hlong, if_neg (by omega), if_neg (by simp [hk, hs])]) (by omega) hc5.1 o2⟩
    · obtain rfl : q = true := hq.trans (ne_u32 hs).symm
      (repeat(first|refine pSeq ?_|refine pReg ?_|refine sCons ?_|refine sNil ?_|refine pSkip ?_|refine pRet ?_|refine pCond ?_|refine gNone ?_|refine gOn rfl ?_|refine gOff rfl rfl ?_|refine gTup rfl ?_))
      exact ⟨none, 0, told_err 10 (by unfold openE; rw [if_neg (by omega), if_neg hlong, if_neg (by omega), if_pos (.inr hs)]) o2⟩
  · obtain rfl : q = true := hq.trans (ne_u32 hk).symm
    (repeat(first|refine pSeq ?_|refine pReg ?_|refine sCons ?_|refine sNil ?_|refine pSkip ?_|refine pRet ?_|refine pCond ?_|refine gNone ?_|refine gOn rfl ?_|refine gOff rfl rfl ?_|refine gTup rfl ?_))
    exact ⟨none, 0, told_err 10 (by unfold openE; rw [if_neg (by omega), if_neg hlong, if_neg (by omega), if_pos (.inl hk)]) o2⟩
end Go.Vf.S

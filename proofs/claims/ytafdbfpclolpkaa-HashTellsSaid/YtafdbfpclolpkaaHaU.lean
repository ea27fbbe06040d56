import Derived.Test.YtafdbfpclolpkaaHaT
/- HashTells: from any state. -/
namespace Go.Vf.S
open Go Go.Vf
attribute [local irreducible] wSeq wRow wp wG schd rnds blks blk5 sha fillF hmac
set_option linter.unusedVariables false
set_option linter.unusedSimpArgs false
set_option maxRecDepth 10000

theorem htells10_w {s : SS} {bk bl : Option Addr} {k0 l0 : List UInt8} (f : Fine s) (hk : Slc pr s bk k0.length 0 k0) (hl : Slc pr s bl l0.length 0 l0) : CallW pr n_law10_HashTells [.slice bk k0.length 0, .slice bl l0.length 0] s fun v s' => v = .bool true := by
  refine CallW.run good ok_law10_HashTells (by simp) rfl ?_
  (repeat(first|refine pSeq ?_|refine pReg ?_|refine sCons ?_|refine sNil ?_|refine rCons ?_|refine rNil ?_|refine kNo ?_|refine pRow ?_|refine pRet ?_|refine gNone ?_|refine gOn rfl ?_|refine gOff rfl rfl ?_|refine gTup rfl ?_))
  intro z hz
  (repeat(first|refine pSeq ?_|refine pReg ?_|refine sCons ?_|refine sNil ?_|refine rCons ?_|refine rNil ?_|refine kNo ?_|refine pRow ?_|refine pRet ?_|refine gNone ?_|refine gOn rfl ?_|refine gOff rfl rfl ?_|refine gTup rfl ?_))
  refine slL_same 0 (min k0.length 400) rfl rfl rfl hk rfl (show z = _ by omega) (by omega) fun b1 c1 hs1 hb1 => ?_
  rw [List.drop_zero] at hs1
  generalize hlk : k0.take (min k0.length 400) = k at hs1
  have hnk := hs1.1.1
  generalize hnb : min k0.length 400 = nk at hs1 hnk
  have hn3 : nk ≤ 400 := by omega
  clear hz hlk
  (repeat(first|refine pSeq ?_|refine pReg ?_|refine sCons ?_|refine sNil ?_|refine rCons ?_|refine rNil ?_|refine kNo ?_|refine pRow ?_|refine pRet ?_|refine gNone ?_|refine gOn rfl ?_|refine gOff rfl rfl ?_|refine gTup rfl ?_))
  intro z hz
  (repeat(first|refine pSeq ?_|refine pReg ?_|refine sCons ?_|refine sNil ?_|refine rCons ?_|refine rNil ?_|refine kNo ?_|refine pRow ?_|refine pRet ?_|refine gNone ?_|refine gOn rfl ?_|refine gOff rfl rfl ?_|refine gTup rfl ?_))
  refine slL_same 0 (min l0.length 400) rfl rfl rfl hl rfl (show z = _ by omega) (by omega) fun b2 c2 hs2 hb2 => ?_
  rw [List.drop_zero] at hs2
  generalize hll : l0.take (min l0.length 400) = l at hs2
  have hnl := hs2.1.1
  generalize hnb2 : min l0.length 400 = nl at hs2 hnl
  have hn4 : nl ≤ 400 := by omega
  clear hz hll
  (repeat(first|refine pSeq ?_|refine pReg ?_|refine sCons ?_|refine sNil ?_|refine rCons ?_|refine rNil ?_|refine kNo ?_|refine pRow ?_|refine pRet ?_|refine gNone ?_|refine gOn rfl ?_|refine gOff rfl rfl ?_|refine gTup rfl ?_))
  refine app_none rfl rfl hs1.1 (by omega) (fun _ h => h) fun b3 s3 o3 i3 c3 => ?_
  have f3 := c3.fine f
  (repeat(first|refine pSeq ?_|refine pReg ?_|refine sCons ?_|refine sNil ?_|refine rCons ?_|refine rNil ?_|refine kNo ?_|refine pRow ?_|refine pRet ?_|refine gNone ?_|refine gOn rfl ?_|refine gOff rfl rfl ?_|refine gTup rfl ?_))
  refine app_none rfl rfl (hs2.chg c3 (by simp)).1 (by omega) (fun _ h => h) fun b4 s4 o4 i4 c4 => ?_
  have f4 := c4.fine f3
  have o3 := o3.chg c4 (by simp)
  have hs1 := (hs1.chg c3 (by simp)).chg c4 (by simp)
  have hs2 := (hs2.chg c3 (by simp)).chg c4 (by simp)
  clear c3 c4 i3 i4
  have q3 := o3.slc sz_B
  have q4 := o4.slc sz_B
  rw [← hnk] at q3
  rw [← hnl] at q4
  (repeat(first|refine pSeq ?_|refine pReg ?_|refine sCons ?_|refine sNil ?_|refine rCons ?_|refine rNil ?_|refine kNo ?_|refine pRow ?_|refine pRet ?_|refine gNone ?_|refine gOn rfl ?_|refine gOff rfl rfl ?_|refine gTup rfl ?_))
  refine (sha1_w f4 q4 (by omega)).mono fun v s5 q => ?_
  obtain ⟨rfl, k5⟩ := q
  have f5 := k5.fine f4
  (repeat(first|refine pSeq ?_|refine pReg ?_|refine sCons ?_|refine sNil ?_|refine rCons ?_|refine rNil ?_|refine kNo ?_|refine pRow ?_|refine pRet ?_|refine gNone ?_|refine gOn rfl ?_|refine gOff rfl rfl ?_|refine gTup rfl ?_))
  refine (rsha1_w f5 (hs2.chg k5 (by simp)).1 (by omega)).mono fun v s6 q => ?_
  obtain ⟨rfl, k6⟩ := q
  have f6 := k6.fine f5
  have k46 := k5.nil k6
  have q3 := q3.chg k46 (by simp)
  have q4 := q4.chg k46 (by simp)
  have hs1 := hs1.chg k46 (by simp)
  have hs2 := hs2.chg k46 (by simp)
  (repeat(first|refine pSeq ?_|refine pReg ?_|refine sCons ?_|refine sNil ?_|refine rCons ?_|refine rNil ?_|refine kNo ?_|refine pRow ?_|refine pRet ?_|refine gNone ?_|refine gOn rfl ?_|refine gOff rfl rfl ?_|refine gTup rfl ?_))
  refine bin_eql20 rfl rfl (sha_len _) (sha_len _) ?_
  rw [decide_eq_true (rfl : sha l = sha l)]
  (repeat(first|refine pSeq ?_|refine pReg ?_|refine sCons ?_|refine sNil ?_|refine rCons ?_|refine rNil ?_|refine kNo ?_|refine pRow ?_|refine pRet ?_|refine gNone ?_|refine gOn rfl ?_|refine gOff rfl rfl ?_|refine gTup rfl ?_))
  refine (hmac_w f6 q3 q4 (by omega) (by omega)).mono fun v s7 q => ?_
  obtain ⟨rfl, k7⟩ := q
  have f7 := k7.fine f6
  (repeat(first|refine pSeq ?_|refine pReg ?_|refine sCons ?_|refine sNil ?_|refine rCons ?_|refine rNil ?_|refine kNo ?_|refine pRow ?_|refine pRet ?_|refine gNone ?_|refine gOn rfl ?_|refine gOff rfl rfl ?_|refine gTup rfl ?_))
  refine (rhmac_w f7 (hs1.chg k7 (by simp)).1 (hs2.chg k7 (by simp)).1 (by omega) (by omega)).mono fun v s8 q => ?_
  obtain ⟨rfl, k8⟩ := q
  have f8 := k8.fine f7
  have k68 := k7.nil k8
  have q3 := q3.chg k68 (by simp)
  have q4 := q4.chg k68 (by simp)
  have hs1 := hs1.chg k68 (by simp)
  have hs2 := hs2.chg k68 (by simp)
  (repeat(first|refine pSeq ?_|refine pReg ?_|refine sCons ?_|refine sNil ?_|refine rCons ?_|refine rNil ?_|refine kNo ?_|refine pRow ?_|refine pRet ?_|refine gNone ?_|refine gOn rfl ?_|refine gOff rfl rfl ?_|refine gTup rfl ?_))
  refine bin_eql20 rfl rfl (hmac_len _ _) (hmac_len _ _) ?_
  rw [decide_eq_true (rfl : hmac k l = hmac k l)]
  (repeat(first|refine pSeq ?_|refine pReg ?_|refine sCons ?_|refine sNil ?_|refine rCons ?_|refine rNil ?_|refine kNo ?_|refine pRow ?_|refine pRet ?_|refine gNone ?_|refine gOn rfl ?_|refine gOff rfl rfl ?_|refine gTup rfl ?_))
  refine toStr_Rdb rfl q3.1 ?_
  (repeat(first|refine pSeq ?_|refine pReg ?_|refine sCons ?_|refine sNil ?_|refine rCons ?_|refine rNil ?_|refine kNo ?_|refine pRow ?_|refine pRet ?_|refine gNone ?_|refine gOn rfl ?_|refine gOff rfl rfl ?_|refine gTup rfl ?_))
  refine toStr_Rdb rfl hs1.1 ?_
  (repeat(first|refine pSeq ?_|refine pReg ?_|refine sCons ?_|refine sNil ?_|refine rCons ?_|refine rNil ?_|refine kNo ?_|refine pRow ?_|refine pRet ?_|refine gNone ?_|refine gOn rfl ?_|refine gOff rfl rfl ?_|refine gTup rfl ?_))
  intro q hq
  obtain rfl : q = true := by rw [hq]; exact decide_eq_true rfl
  (repeat(first|refine pSeq ?_|refine pReg ?_|refine sCons ?_|refine sNil ?_|refine rCons ?_|refine rNil ?_|refine kNo ?_|refine pRow ?_|refine pRet ?_|refine gNone ?_|refine gOn rfl ?_|refine gOff rfl rfl ?_|refine gTup rfl ?_))
  refine toStr_Rdb rfl q4.1 ?_
  (repeat(first|refine pSeq ?_|refine pReg ?_|refine sCons ?_|refine sNil ?_|refine rCons ?_|refine rNil ?_|refine kNo ?_|refine pRow ?_|refine pRet ?_|refine gNone ?_|refine gOn rfl ?_|refine gOff rfl rfl ?_|refine gTup rfl ?_))
  refine toStr_Rdb rfl hs2.1 ?_
  (repeat(first|refine pSeq ?_|refine pReg ?_|refine sCons ?_|refine sNil ?_|refine rCons ?_|refine rNil ?_|refine kNo ?_|refine pRow ?_|refine pRet ?_|refine gNone ?_|refine gOn rfl ?_|refine gOff rfl rfl ?_|refine gTup rfl ?_))
  intro q hq
  obtain rfl : q = true := by rw [hq]; exact decide_eq_true rfl
  (repeat(first|refine pSeq ?_|refine pReg ?_|refine sCons ?_|refine sNil ?_|refine rCons ?_|refine rNil ?_|refine kNo ?_|refine pRow ?_|refine pRet ?_|refine gNone ?_|refine gOn rfl ?_|refine gOff rfl rfl ?_|refine gTup rfl ?_))
  refine (tells10_w f8).mono fun v s9 q => ?_
  obtain ⟨rfl, k9⟩ := q
  (repeat(first|refine pSeq ?_|refine pReg ?_|refine sCons ?_|refine sNil ?_|refine rCons ?_|refine rNil ?_|refine kNo ?_|refine pRow ?_|refine pRet ?_|refine gNone ?_|refine gOn rfl ?_|refine gOff rfl rfl ?_|refine gTup rfl ?_))
  rfl
end Go.Vf.S

import Derived.Test.YtipfcmgecdgfhaaDoorAdH
/- What wakes the laws; addresses of texts: the law. -/
namespace Go.Vf.S
open Go Go.Vf
attribute [local irreducible] wSeq wRow wp wG
set_option linter.unusedVariables false
set_option linter.unusedSimpArgs false
set_option maxRecDepth 10000

theorem few_str {l0 l : List UInt8} {n k : Nat} (h : l = (l0.drop 0).take (n - 0)) (hn : n ≤ k) : l.length ≤ k := by
  rw [h, List.length_take]
  omega

set_option maxHeartbeats 1000000 in
theorem awakes_w {s : SS} (hG : Gb s) : CallW pr n_law05_wakes [] s fun v s' => v = .bool true ∧ Chg s s' [] := by
  refine CallW.run good ok_law05_wakes (by simp) rfl ?_
  (repeat(first|refine pSeq ?_|refine pReg ?_|refine sCons ?_|refine sNil ?_|refine pRet ?_|refine gNone ?_|refine gOn rfl ?_|refine gOff rfl rfl ?_|refine gTup rfl ?_))
  refine (parse_w (l := [34, 97, 32, 98, 34, 64, 68, 46, 111, 114, 103]) hG (by decide)).mono fun v s1 q => ?_
  obtain ⟨rfl, c1⟩ := q
  rw [show parseF [34, 97, 32, 98, 34, 64, 68, 46, 111, 114, 103] = ([97, 32, 98], [68, 46, 111, 114, 103], 0) by decide +kernel]
  (repeat(first|refine pSeq ?_|refine pReg ?_|refine sCons ?_|refine sNil ?_|refine pRet ?_|refine gNone ?_|refine gOn rfl ?_|refine gOff rfl rfl ?_|refine gTup rfl ?_))
  refine st_abs (cs' := [str [97, 32, 98], str [68, 46, 111, 114, 103]]) rfl rfl lkH (Nat.lt_succ_self _) rfl rfl fun s2 e2 c2 n2 => ?_
  have d2 : Chg s s2 [] := c1.nil ((Chg.new []).fresh c2 (by simp))
  have l2 : s1.next < s2.next := by rw [n2]; exact Nat.lt_succ_self _
  (repeat(first|refine pSeq ?_|refine pReg ?_|refine sCons ?_|refine sNil ?_|refine pRet ?_|refine gNone ?_|refine gOn rfl ?_|refine gOff rfl rfl ?_|refine gTup rfl ?_))
  refine (parse_w (l := [80, 111, 115, 116, 77, 97, 115, 116, 101, 114, 64, 120]) (hG.chg d2 (by simp)) (by decide)).mono fun v s3 q => ?_
  obtain ⟨rfl, c3⟩ := q
  rw [show parseF [80, 111, 115, 116, 77, 97, 115, 116, 101, 114, 64, 120] = ([80, 111, 115, 116, 77, 97, 115, 116, 101, 114], [120], 0) by decide +kernel]
  have e3 := c3.blk _ _ l2 (by simp) e2
  have l3 := Nat.lt_of_lt_of_le l2 c3.next
  (repeat(first|refine pSeq ?_|refine pReg ?_|refine sCons ?_|refine sNil ?_|refine pRet ?_|refine gNone ?_|refine gOn rfl ?_|refine gOff rfl rfl ?_|refine gTup rfl ?_))
  refine st_abs (cs' := [str [80, 111, 115, 116, 77, 97, 115, 116, 101, 114], str [120]]) rfl rfl lkH (Nat.lt_succ_self _) rfl rfl fun s4 e4 c4 n4 => ?_
  have c34 : Chg s3 s4 [] := (Chg.new []).fresh c4 (by simp)
  have d4 : Chg s s4 [] := (d2.nil c3).nil c34
  have l4 : s3.next < s4.next := by rw [n4]; exact Nat.lt_succ_self _
  have e5 := c34.blk _ _ l3 (by simp) e3
  have l5 := Nat.lt_of_lt_of_le l3 c34.next
  (repeat(first|refine pSeq ?_|refine pReg ?_|refine sCons ?_|refine sNil ?_|refine pRet ?_|refine gNone ?_|refine gOn rfl ?_|refine gOff rfl rfl ?_|refine gTup rfl ?_))
  refine (asplit_w (l := [117, 43, 120, 43, 121]) (by decide)).mono fun v s6 q => ?_
  obtain ⟨rfl, c6⟩ := q
  rw [show spF [117, 43, 120, 43, 121] = ([117], [120, 43, 121], true) by decide +kernel]
  (repeat(first|refine pSeq ?_|refine pReg ?_|refine sCons ?_|refine sNil ?_|refine pRet ?_|refine gNone ?_|refine gOn rfl ?_|refine gOff rfl rfl ?_|refine gTup rfl ?_))
  refine (asplit_w (l := [43, 117]) (by decide)).mono fun v s7 q => ?_
  obtain ⟨rfl, c7⟩ := q
  rw [show spF [43, 117] = ([43, 117], [], false) by decide +kernel]
  have c67 := c6.nil c7
  have e6 := c67.blk _ _ l5 (by simp) e5
  have l6 := Nat.lt_of_lt_of_le l5 c67.next
  have e7 := c67.blk _ _ l4 (by simp) e4
  have l7 := Nat.lt_of_lt_of_le l4 c67.next
  have d7 := d4.nil c67
  (repeat(first|refine pSeq ?_|refine pReg ?_|refine sCons ?_|refine sNil ?_|refine pRet ?_|refine gNone ?_|refine gOn rfl ?_|refine gOff rfl rfl ?_|refine gTup rfl ?_))
  intro q hq; obtain rfl : q = true := (by rw [hq]; simp <;> omega); (repeat(first|refine pSeq ?_|refine pReg ?_|refine sCons ?_|refine sNil ?_|refine pRet ?_|refine gNone ?_|refine gOn rfl ?_|refine gOff rfl rfl ?_|refine gTup rfl ?_))
  refine ldN_is rfl e6 agg2 ?_
  (repeat(first|refine pSeq ?_|refine pReg ?_|refine sCons ?_|refine sNil ?_|refine pRet ?_|refine gNone ?_|refine gOn rfl ?_|refine gOff rfl rfl ?_|refine gTup rfl ?_))
  intro q hq
  obtain rfl : q = true := hq
  (repeat(first|refine pSeq ?_|refine pReg ?_|refine sCons ?_|refine sNil ?_|refine pRet ?_|refine gNone ?_|refine gOn rfl ?_|refine gOff rfl rfl ?_|refine gTup rfl ?_))
  refine ldN_is rfl e6 agg2 ?_
  (repeat(first|refine pSeq ?_|refine pReg ?_|refine sCons ?_|refine sNil ?_|refine pRet ?_|refine gNone ?_|refine gOn rfl ?_|refine gOff rfl rfl ?_|refine gTup rfl ?_))
  refine (normal_w (by decide) (by decide)).mono fun v s8 q => ?_
  obtain ⟨rfl, c8⟩ := q
  rw [show ([68, 46, 111, 114, 103] : List UInt8).map lowB = [100, 46, 111, 114, 103] by decide]
  have e8 := c8.blk _ _ l7 (by simp) e7
  (repeat(first|refine pSeq ?_|refine pReg ?_|refine sCons ?_|refine sNil ?_|refine pRet ?_|refine gNone ?_|refine gOn rfl ?_|refine gOff rfl rfl ?_|refine gTup rfl ?_))
  intro q hq; obtain rfl : q = true := (by rw [hq]; simp <;> omega); (repeat(first|refine pSeq ?_|refine pReg ?_|refine sCons ?_|refine sNil ?_|refine pRet ?_|refine gNone ?_|refine gOn rfl ?_|refine gOff rfl rfl ?_|refine gTup rfl ?_))
  intro q hq; obtain rfl : q = true := (by rw [hq]; simp <;> omega); (repeat(first|refine pSeq ?_|refine pReg ?_|refine sCons ?_|refine sNil ?_|refine pRet ?_|refine gNone ?_|refine gOn rfl ?_|refine gOff rfl rfl ?_|refine gTup rfl ?_))
  refine ldN_is rfl e8 agg2 ?_
  (repeat(first|refine pSeq ?_|refine pReg ?_|refine sCons ?_|refine sNil ?_|refine pRet ?_|refine gNone ?_|refine gOn rfl ?_|refine gOff rfl rfl ?_|refine gTup rfl ?_))
  refine (normal_w (by decide) (by decide)).mono fun v s9 q => ?_
  obtain ⟨rfl, c9⟩ := q
  rw [show nrmL [80, 111, 115, 116, 77, 97, 115, 116, 101, 114] = postL by decide +kernel, show ([120] : List UInt8).map lowB = [120] by decide]
  have d9 := (d7.nil c8).nil c9
  (repeat(first|refine pSeq ?_|refine pReg ?_|refine sCons ?_|refine sNil ?_|refine pRet ?_|refine gNone ?_|refine gOn rfl ?_|refine gOff rfl rfl ?_|refine gTup rfl ?_))
  refine (text_w (hG.chg d9 (by simp)) (by decide) (by decide)).mono fun v s10 q => ?_
  obtain ⟨rfl, c10⟩ := q
  rw [show textF postL [120] = [112, 111, 115, 116, 109, 97, 115, 116, 101, 114, 64, 120] by decide +kernel]
  (repeat(first|refine pSeq ?_|refine pReg ?_|refine sCons ?_|refine sNil ?_|refine pRet ?_|refine gNone ?_|refine gOn rfl ?_|refine gOff rfl rfl ?_|refine gTup rfl ?_))
  intro q hq; obtain rfl : q = true := (by rw [hq]; simp <;> omega); (repeat(first|refine pSeq ?_|refine pReg ?_|refine sCons ?_|refine sNil ?_|refine pRet ?_|refine gNone ?_|refine gOn rfl ?_|refine gOff rfl rfl ?_|refine gTup rfl ?_))
  intro q hq; obtain rfl : q = true := (by rw [hq]; simp <;> omega); (repeat(first|refine pSeq ?_|refine pReg ?_|refine sCons ?_|refine sNil ?_|refine pRet ?_|refine gNone ?_|refine gOn rfl ?_|refine gOff rfl rfl ?_|refine gTup rfl ?_))
  intro q hq; obtain rfl : q = true := (by rw [hq]; simp <;> omega); (repeat(first|refine pSeq ?_|refine pReg ?_|refine sCons ?_|refine sNil ?_|refine pRet ?_|refine gNone ?_|refine gOn rfl ?_|refine gOff rfl rfl ?_|refine gTup rfl ?_))
  intro q hq; obtain rfl : q = true := (by rw [hq]; simp <;> omega); (repeat(first|refine pSeq ?_|refine pReg ?_|refine sCons ?_|refine sNil ?_|refine pRet ?_|refine gNone ?_|refine gOn rfl ?_|refine gOff rfl rfl ?_|refine gTup rfl ?_))
  exact ⟨rfl, d9.nil c10⟩
end Go.Vf.S

import Derived.Test.YtgdkekacalmjoaaDoorPaJ
/- Paths: the chapter's rows. -/
namespace Go.Vf.S
open Go Go.Vf
attribute [local irreducible] wSeq wRow wp wG
set_option linter.unusedVariables false
set_option linter.unusedSimpArgs false
set_option maxRecDepth 10000

theorem row1 : fromF [60, 97, 64, 98, 46, 99, 62, 32, 83, 73, 90, 69, 61, 53] = (⟨false, false, [], [97], [98, 46, 99]⟩, ⟨true, false, 5⟩, 0) := by kernel_rfl
theorem row2 : fromF [60, 64, 120, 44, 64, 121, 58, 97, 64, 98, 46, 99, 62] = (⟨false, false, [[120], [121]], [97], [98, 46, 99]⟩, pv0, 0) := by kernel_rfl
theorem row3 : fromF [60, 62] = (⟨true, false, [], [], []⟩, pv0, 0) := by kernel_rfl
theorem row4 : toF [60, 112, 111, 115, 116, 77, 97, 115, 116, 101, 114, 62] = (⟨false, true, [], [], []⟩, 0) := by kernel_rfl
theorem row5 : toF [60, 62] = (ptZ, 5) := by kernel_rfl

set_option maxHeartbeats 2000000 in
theorem ptells_w {s : SS} (hG : Gb s) (hf : Fine s) : CallW pr n_law06_tells [] s fun v s' => v = .bool true ∧ Chg s s' [] := by
  refine CallW.run good ok_law06_tells (by simp) rfl ?_
  have c0 : Chg s s [] := .refl _ _

  (repeat(first|refine pSeq ?_|refine pReg ?_|refine sCons ?_|refine sNil ?_|refine pRet ?_|refine gNone ?_|refine gOn rfl ?_|refine gOff rfl rfl ?_|refine gTup rfl ?_))
  refine (from_w (hG.chg c0 (by simp)) (c0.fine hf) (by simp)).mono fun v s1 q => ?_
  obtain ⟨W1, cw1, rfl, o1, d1, hW1⟩ := q
  rw [row1]
  rw [row1] at o1
  have ns1 := d1.next
  have cs1 := c0.nil d1
  dsimp only at o1 ⊢
  (repeat(first|refine pSeq ?_|refine pReg ?_|refine sCons ?_|refine sNil ?_|refine pRet ?_|refine gNone ?_|refine gOn rfl ?_|refine gOff rfl rfl ?_|refine gTup rfl ?_))
  refine st_abs (cs' := ptCells ⟨false, false, [], [97], [98, 46, 99]⟩ W1 cw1) rfl rfl (lkT (by show s1.next + 1 ≠ s1.next; omega) lkH) (by show s1.next < s1.next + 1 + 1; omega) rfl rfl fun s2 x1 f1 m1 => ?_
  have ns2 : s2.next = s1.next + 2 := m1
  have x1 : lookH s2.heap s1.next = some (.cells (ptCells ⟨false, false, [], [97], [98, 46, 99]⟩ W1 cw1) tPt false false) := x1
  have y1 := f1.blk (s1.next + 1) _ (by show s1.next + 1 < s1.next + 1 + 1; omega) (by simp) lkH
  have g1 : Chg s1 s2 [] := ((Chg.new []).nil (Chg.new [])).fresh f1 (by simp)
  clear f1 m1
  (repeat(first|refine pSeq ?_|refine pReg ?_|refine sCons ?_|refine sNil ?_|refine pRet ?_|refine gNone ?_|refine gOn rfl ?_|refine gOff rfl rfl ?_|refine gTup rfl ?_))
  refine st_abs (cs' := pvCells ⟨true, false, 5⟩) rfl rfl y1 (by show s1.next + 1 < s2.next; omega) rfl rfl fun s3 z1 f1 m1 => ?_
  have z1 : lookH s3.heap (s1.next + 1) = some (.cells (pvCells ⟨true, false, 5⟩) tPm false false) := z1
  have x1 := f1.blk _ _ (by omega) (by simp) x1
  have g1 : Chg s1 s3 [] := g1.fresh f1 (by simp)
  have ns3 : s3.next = s1.next + 2 := by omega
  clear f1 m1 y1 ns2
  have cs3 := cs1.nil g1
  (repeat(first|refine pSeq ?_|refine pReg ?_|refine sCons ?_|refine sNil ?_|refine pRet ?_|refine gNone ?_|refine gOn rfl ?_|refine gOff rfl rfl ?_|refine gTup rfl ?_))
  refine (from_w (hG.chg cs3 (by simp)) (cs3.fine hf) (by simp)).mono fun v s4 q => ?_
  obtain ⟨W2, cw2, rfl, o2, d2, hW2⟩ := q
  rw [row2]
  rw [row2] at o2
  have ns4 := d2.next
  have cs4 := cs3.nil d2
  have x1 := d2.blk _ _ (by omega) (by simp) x1
  have z1 := d2.blk _ _ (by omega) (by simp) z1
  dsimp only at o2 ⊢
  (repeat(first|refine pSeq ?_|refine pReg ?_|refine sCons ?_|refine sNil ?_|refine pRet ?_|refine gNone ?_|refine gOn rfl ?_|refine gOff rfl rfl ?_|refine gTup rfl ?_))
  refine st_abs (cs' := ptCells ⟨false, false, [[120], [121]], [97], [98, 46, 99]⟩ W2 cw2) rfl rfl (lkT (by show s4.next + 1 ≠ s4.next; omega) lkH) (by show s4.next < s4.next + 1 + 1; omega) rfl rfl fun s5 x2 f2 m2 => ?_
  have ns5 : s5.next = s4.next + 2 := m2
  have x2 : lookH s5.heap s4.next = some (.cells (ptCells ⟨false, false, [[120], [121]], [97], [98, 46, 99]⟩ W2 cw2) tPt false false) := x2
  have y2 := f2.blk (s4.next + 1) _ (by show s4.next + 1 < s4.next + 1 + 1; omega) (by simp) lkH
  have g2 : Chg s4 s5 [] := ((Chg.new []).nil (Chg.new [])).fresh f2 (by simp)
  clear f2 m2
  (repeat(first|refine pSeq ?_|refine pReg ?_|refine sCons ?_|refine sNil ?_|refine pRet ?_|refine gNone ?_|refine gOn rfl ?_|refine gOff rfl rfl ?_|refine gTup rfl ?_))
  refine st_abs (cs' := pvCells pv0) rfl rfl y2 (by show s4.next + 1 < s5.next; omega) rfl rfl fun s6 z2 f2 m2 => ?_
  have z2 : lookH s6.heap (s4.next + 1) = some (.cells (pvCells pv0) tPm false false) := z2
  have x2 := f2.blk _ _ (by omega) (by simp) x2
  have g2 : Chg s4 s6 [] := g2.fresh f2 (by simp)
  have ns6 : s6.next = s4.next + 2 := by omega
  clear f2 m2 y2 ns5
  have cs6 := cs4.nil g2
  have x1 := g2.blk _ _ (by omega) (by simp) x1
  have z1 := g2.blk _ _ (by omega) (by simp) z1
  have o2 := o2.chg g2 (by simp)
  (repeat(first|refine pSeq ?_|refine pReg ?_|refine sCons ?_|refine sNil ?_|refine pRet ?_|refine gNone ?_|refine gOn rfl ?_|refine gOff rfl rfl ?_|refine gTup rfl ?_))
  refine (from_w (hG.chg cs6 (by simp)) (cs6.fine hf) (by simp)).mono fun v s7 q => ?_
  obtain ⟨W3, cw3, rfl, o3, d3, hW3⟩ := q
  rw [row3]
  rw [row3] at o3
  have ns7 := d3.next
  have cs7 := cs6.nil d3
  have x1 := d3.blk _ _ (by omega) (by simp) x1
  have z1 := d3.blk _ _ (by omega) (by simp) z1
  have x2 := d3.blk _ _ (by omega) (by simp) x2
  have z2 := d3.blk _ _ (by omega) (by simp) z2
  have o2 := o2.chg d3 (by simp)
  dsimp only at o3 ⊢
  (repeat(first|refine pSeq ?_|refine pReg ?_|refine sCons ?_|refine sNil ?_|refine pRet ?_|refine gNone ?_|refine gOn rfl ?_|refine gOff rfl rfl ?_|refine gTup rfl ?_))
  refine st_abs (cs' := ptCells ⟨true, false, [], [], []⟩ W3 cw3) rfl rfl (lkT (by show s7.next + 1 ≠ s7.next; omega) lkH) (by show s7.next < s7.next + 1 + 1; omega) rfl rfl fun s8 x3 f3 m3 => ?_
  have ns8 : s8.next = s7.next + 2 := m3
  have x3 : lookH s8.heap s7.next = some (.cells (ptCells ⟨true, false, [], [], []⟩ W3 cw3) tPt false false) := x3
  have y3 := f3.blk (s7.next + 1) _ (by show s7.next + 1 < s7.next + 1 + 1; omega) (by simp) lkH
  have g3 : Chg s7 s8 [] := ((Chg.new []).nil (Chg.new [])).fresh f3 (by simp)
  clear f3 m3
  (repeat(first|refine pSeq ?_|refine pReg ?_|refine sCons ?_|refine sNil ?_|refine pRet ?_|refine gNone ?_|refine gOn rfl ?_|refine gOff rfl rfl ?_|refine gTup rfl ?_))
  refine st_abs (cs' := pvCells pv0) rfl rfl y3 (by show s7.next + 1 < s8.next; omega) rfl rfl fun s9 z3 f3 m3 => ?_
  have z3 : lookH s9.heap (s7.next + 1) = some (.cells (pvCells pv0) tPm false false) := z3
  have x3 := f3.blk _ _ (by omega) (by simp) x3
  have g3 : Chg s7 s9 [] := g3.fresh f3 (by simp)
  have ns9 : s9.next = s7.next + 2 := by omega
  clear f3 m3 y3 ns8
  have cs9 := cs7.nil g3
  have x1 := g3.blk _ _ (by omega) (by simp) x1
  have z1 := g3.blk _ _ (by omega) (by simp) z1
  have x2 := g3.blk _ _ (by omega) (by simp) x2
  have z2 := g3.blk _ _ (by omega) (by simp) z2
  have o2 := o2.chg g3 (by simp)
  (repeat(first|refine pSeq ?_|refine pReg ?_|refine sCons ?_|refine sNil ?_|refine pRet ?_|refine gNone ?_|refine gOn rfl ?_|refine gOff rfl rfl ?_|refine gTup rfl ?_))
  refine (to_w (hG.chg cs9 (by simp)) (cs9.fine hf) (by simp)).mono fun v s10 q => ?_
  obtain ⟨W4, cw4, rfl, o4, d4, hW4⟩ := q
  rw [row4]
  rw [row4] at o4
  have ns10 := d4.next
  have cs10 := cs9.nil d4
  have x1 := d4.blk _ _ (by omega) (by simp) x1
  have z1 := d4.blk _ _ (by omega) (by simp) z1
  have x2 := d4.blk _ _ (by omega) (by simp) x2
  have z2 := d4.blk _ _ (by omega) (by simp) z2
  have x3 := d4.blk _ _ (by omega) (by simp) x3
  have z3 := d4.blk _ _ (by omega) (by simp) z3
  have o2 := o2.chg d4 (by simp)
  dsimp only at o4 ⊢
  (repeat(first|refine pSeq ?_|refine pReg ?_|refine sCons ?_|refine sNil ?_|refine pRet ?_|refine gNone ?_|refine gOn rfl ?_|refine gOff rfl rfl ?_|refine gTup rfl ?_))
  refine st_abs (cs' := ptCells ⟨false, true, [], [], []⟩ W4 cw4) rfl rfl lkH (Nat.lt_succ_self _) rfl rfl fun s12 x4 f4 m4 => ?_
  have ns12 : s12.next = s10.next + 1 := m4
  have x4 : lookH s12.heap s10.next = some (.cells (ptCells ⟨false, true, [], [], []⟩ W4 cw4) tPt false false) := x4
  have g4 : Chg s10 s12 [] := (Chg.new []).fresh f4 (by simp)
  clear f4 m4
  have cs12 := cs10.nil g4
  have x1 := g4.blk _ _ (by omega) (by simp) x1
  have z1 := g4.blk _ _ (by omega) (by simp) z1
  have x2 := g4.blk _ _ (by omega) (by simp) x2
  have z2 := g4.blk _ _ (by omega) (by simp) z2
  have x3 := g4.blk _ _ (by omega) (by simp) x3
  have z3 := g4.blk _ _ (by omega) (by simp) z3
  have o2 := o2.chg g4 (by simp)
  (repeat(first|refine pSeq ?_|refine pReg ?_|refine sCons ?_|refine sNil ?_|refine pRet ?_|refine gNone ?_|refine gOn rfl ?_|refine gOff rfl rfl ?_|refine gTup rfl ?_))
  refine (to_w (hG.chg cs12 (by simp)) (cs12.fine hf) (by simp)).mono fun v s13 q => ?_
  obtain ⟨W5, cw5, rfl, o5, d5, hW5⟩ := q
  rw [row5]
  rw [row5] at o5
  have ns13 := d5.next
  have cs13 := cs12.nil d5
  have x1 := d5.blk _ _ (by omega) (by simp) x1
  have z1 := d5.blk _ _ (by omega) (by simp) z1
  have x2 := d5.blk _ _ (by omega) (by simp) x2
  have z2 := d5.blk _ _ (by omega) (by simp) z2
  have x3 := d5.blk _ _ (by omega) (by simp) x3
  have z3 := d5.blk _ _ (by omega) (by simp) z3
  have x4 := d5.blk _ _ (by omega) (by simp) x4
  have o2 := o2.chg d5 (by simp)
  dsimp only at o5 ⊢
  (repeat(first|refine pSeq ?_|refine pReg ?_|refine sCons ?_|refine sNil ?_|refine pRet ?_|refine gNone ?_|refine gOn rfl ?_|refine gOff rfl rfl ?_|refine gTup rfl ?_))
  refine st_abs (cs' := ptCells ptZ W5 cw5) rfl rfl lkH (Nat.lt_succ_self _) rfl rfl fun s15 x5 f5 m5 => ?_
  have ns15 : s15.next = s13.next + 1 := m5
  have x5 : lookH s15.heap s13.next = some (.cells (ptCells ptZ W5 cw5) tPt false false) := x5
  have g5 : Chg s13 s15 [] := (Chg.new []).fresh f5 (by simp)
  clear f5 m5
  have cs15 := cs13.nil g5
  have x1 := g5.blk _ _ (by omega) (by simp) x1
  have z1 := g5.blk _ _ (by omega) (by simp) z1
  have x2 := g5.blk _ _ (by omega) (by simp) x2
  have z2 := g5.blk _ _ (by omega) (by simp) z2
  have x3 := g5.blk _ _ (by omega) (by simp) x3
  have z3 := g5.blk _ _ (by omega) (by simp) z3
  have x4 := g5.blk _ _ (by omega) (by simp) x4
  have o2 := o2.chg g5 (by simp)
  (repeat(first|refine pSeq ?_|refine pReg ?_|refine sCons ?_|refine sNil ?_|refine pRet ?_|refine gNone ?_|refine gOn rfl ?_|refine gOff rfl rfl ?_|refine gTup rfl ?_))
  obtain ⟨b2, g2, rfl, e2⟩ := o2.1.pos (by simp)
  intro q hq
  obtain rfl : q = true := by rw [hq]; rfl
  (repeat(first|refine pSeq ?_|refine pReg ?_|refine sCons ?_|refine sNil ?_|refine pRet ?_|refine gNone ?_|refine gOn rfl ?_|refine gOff rfl rfl ?_|refine gTup rfl ?_))
  refine ldN_is (new := [str [97], str [98, 46, 99]]) rfl x1 rfl ?_
  (repeat(first|refine pSeq ?_|refine pReg ?_|refine sCons ?_|refine sNil ?_|refine pRet ?_|refine gNone ?_|refine gOn rfl ?_|refine gOff rfl rfl ?_|refine gTup rfl ?_))
  intro q hq
  obtain rfl : q = true := by rw [hq]; rfl
  (repeat(first|refine pSeq ?_|refine pReg ?_|refine sCons ?_|refine sNil ?_|refine pRet ?_|refine gNone ?_|refine gOn rfl ?_|refine gOff rfl rfl ?_|refine gTup rfl ?_))
  refine ldI_is rfl z1 rfl ?_
  (repeat(first|refine pSeq ?_|refine pReg ?_|refine sCons ?_|refine sNil ?_|refine pRet ?_|refine gNone ?_|refine gOn rfl ?_|refine gOff rfl rfl ?_|refine gTup rfl ?_))
  intro q hq
  obtain rfl : q = true := by rw [hq]; rfl
  (repeat(first|refine pSeq ?_|refine pReg ?_|refine sCons ?_|refine sNil ?_|refine pRet ?_|refine gNone ?_|refine gOn rfl ?_|refine gOff rfl rfl ?_|refine gTup rfl ?_))
  refine ldB_is rfl z1 rfl ?_
  (repeat(first|refine pSeq ?_|refine pReg ?_|refine sCons ?_|refine sNil ?_|refine pRet ?_|refine gNone ?_|refine gOn rfl ?_|refine gOff rfl rfl ?_|refine gTup rfl ?_))
  intro q hq
  obtain rfl : q = true := by rw [hq]; rfl
  (repeat(first|refine pSeq ?_|refine pReg ?_|refine sCons ?_|refine sNil ?_|refine pRet ?_|refine gNone ?_|refine gOn rfl ?_|refine gOff rfl rfl ?_|refine gTup rfl ?_))
  refine ld1_is rfl x2 rfl ?_
  (repeat(first|refine pSeq ?_|refine pReg ?_|refine sCons ?_|refine sNil ?_|refine pRet ?_|refine gNone ?_|refine gOn rfl ?_|refine gOff rfl rfl ?_|refine gTup rfl ?_))
  intro q hq
  obtain rfl : q = true := by rw [hq]; rfl
  (repeat(first|refine pSeq ?_|refine pReg ?_|refine sCons ?_|refine sNil ?_|refine pRet ?_|refine gNone ?_|refine gOn rfl ?_|refine gOff rfl rfl ?_|refine gTup rfl ?_))
  refine ld1_is rfl x2 rfl ?_
  (repeat(first|refine pSeq ?_|refine pReg ?_|refine sCons ?_|refine sNil ?_|refine pRet ?_|refine gNone ?_|refine gOn rfl ?_|refine gOff rfl rfl ?_|refine gTup rfl ?_))
  refine ⟨by simp, ?_⟩
  intro m hm o ho
  obtain rfl : m = 1 := by omega
  obtain rfl : o = 1 := by omega
  (repeat(first|refine pSeq ?_|refine pReg ?_|refine sCons ?_|refine sNil ?_|refine pRet ?_|refine gNone ?_|refine gOn rfl ?_|refine gOff rfl rfl ?_|refine gTup rfl ?_))
  refine ldS_is (l := [121]) rfl e2 rfl ?_
  (repeat(first|refine pSeq ?_|refine pReg ?_|refine sCons ?_|refine sNil ?_|refine pRet ?_|refine gNone ?_|refine gOn rfl ?_|refine gOff rfl rfl ?_|refine gTup rfl ?_))
  intro q hq
  obtain rfl : q = true := by rw [hq]; rfl
  (repeat(first|refine pSeq ?_|refine pReg ?_|refine sCons ?_|refine sNil ?_|refine pRet ?_|refine gNone ?_|refine gOn rfl ?_|refine gOff rfl rfl ?_|refine gTup rfl ?_))
  intro q hq
  obtain rfl : q = true := by rw [hq]; rfl
  (repeat(first|refine pSeq ?_|refine pReg ?_|refine sCons ?_|refine sNil ?_|refine pRet ?_|refine gNone ?_|refine gOn rfl ?_|refine gOff rfl rfl ?_|refine gTup rfl ?_))
  refine ldB_is rfl x3 rfl ?_
  (repeat(first|refine pSeq ?_|refine pReg ?_|refine sCons ?_|refine sNil ?_|refine pRet ?_|refine gNone ?_|refine gOn rfl ?_|refine gOff rfl rfl ?_|refine gTup rfl ?_))
  intro q hq
  obtain rfl : q = true := by rw [hq]; rfl
  (repeat(first|refine pSeq ?_|refine pReg ?_|refine sCons ?_|refine sNil ?_|refine pRet ?_|refine gNone ?_|refine gOn rfl ?_|refine gOff rfl rfl ?_|refine gTup rfl ?_))
  refine ldB_is rfl x4 rfl ?_
  (repeat(first|refine pSeq ?_|refine pReg ?_|refine sCons ?_|refine sNil ?_|refine pRet ?_|refine gNone ?_|refine gOn rfl ?_|refine gOff rfl rfl ?_|refine gTup rfl ?_))
  intro q hq
  obtain rfl : q = true := by rw [hq]; rfl
  (repeat(first|refine pSeq ?_|refine pReg ?_|refine sCons ?_|refine sNil ?_|refine pRet ?_|refine gNone ?_|refine gOn rfl ?_|refine gOff rfl rfl ?_|refine gTup rfl ?_))
  exact ⟨rfl, cs15⟩
end Go.Vf.S

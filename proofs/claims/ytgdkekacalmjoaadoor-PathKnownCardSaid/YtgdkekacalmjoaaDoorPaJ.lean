import Derived.Test.YtgdkekacalmjoaaDoorPaI
/- Paths: what MAIL and RCPT say. -/
namespace Go.Vf.S
open Go Go.Vf
attribute [local irreducible] wSeq wRow wp wG
set_option linter.unusedVariables false
set_option linter.unusedSimpArgs false
set_option maxRecDepth 10000

theorem path_rest_len (l : List UInt8) : (pathF l).2.1.length ≤ l.length := by
  have la := atL_len l
  have lr := route_len (atL l)
  have lb := rest_len (routeF (atL l)).2.1
  unfold pathF
  split
  · simp
  split
  · show (restP _).length ≤ _
    omega
  · simp

def fromF (l : List UInt8) : Pth × Pv × Int :=
  if (pathF l).2.2 ≠ 0 then (ptZ, pv0, (pathF l).2.2) else if (pathF l).1.post = true then (ptZ, pv0, 5) else if (paramsF (pathF l).2.1).2 ≠ 0 then (ptZ, pv0, (paramsF (pathF l).2.1).2) else ((pathF l).1, (paramsF (pathF l).2.1).1, 0)
def toF (l : List UInt8) : Pth × Int :=
  if (pathF l).2.2 ≠ 0 then (ptZ, (pathF l).2.2) else if (pathF l).1.null = true then (ptZ, 5) else if (paramsF (pathF l).2.1).2 = 5 then (ptZ, 5) else if (pathF l).2.1 ≠ [] then (ptZ, 1) else ((pathF l).1, 0)

set_option maxHeartbeats 1000000 in
theorem from_w {s : SS} {l : List UInt8} (hG : Gb s) (hf : Fine s) (hl : l.length ≤ 700000) :
    CallW pr n_path_From [str l] s fun v s' => ∃ W cw, v = .tuple ⟨[ptV (fromF l).1 W cw, pmV (fromF l).2.1, .int .i64 (fromF l).2.2]⟩ ∧ RowAt6 s' W cw (fromF l).1.route ∧ Chg s s' [] ∧ ∀ id ∈ blkOf W, s.next ≤ id := by
  have eF : fromF l = if (pathF l).2.2 ≠ 0 then (ptZ, pv0, ((pathF l).2.2 : Int)) else if (pathF l).1.post = true then (ptZ, pv0, 5) else if (paramsF (pathF l).2.1).2 ≠ 0 then (ptZ, pv0, (paramsF (pathF l).2.1).2) else ((pathF l).1, (paramsF (pathF l).2.1).1, 0) := rfl
  have lp := path_rest_len l
  refine CallW.run good ok_path_From (by simp) rfl ?_
  (repeat(first|refine pSeq ?_|refine pReg ?_|refine sCons ?_|refine sNil ?_|refine rCons ?_|refine rNil ?_|refine kNo ?_|refine pRow ?_|refine pSkip ?_|refine pRet ?_|refine pCond ?_|refine gNone ?_))
  refine (path_w ((hG.chg (Chg.new (A := [])) (by simp)).chg (Chg.new (A := [])) (by simp)) hl).mono fun v s1 q => ?_
  obtain ⟨W, cw, rfl, o1, c01, hW⟩ := q
  have hW : ∀ id ∈ blkOf W, s.next + 2 ≤ id := hW
  have c1 : Chg s s1 [] := ((Chg.new []).nil (Chg.new [])).nil c01
  have k1 : lookH s1.heap s.next = some (.cells (ptCells ptZ none 0) tPt false false) := c01.blk _ _ (by show s.next < s.next + 1 + 1; omega) (by simp) ((Chg.new []).blk _ _ (Nat.lt_succ_self _) (by simp) lkH)
  have q1 : lookH s1.heap (s.next + 1) = some (.cells (pvCells pv0) tPm false false) := c01.blk _ _ (by show s.next + 1 < s.next + 1 + 1; omega) (by simp) lkH
  have n1 : s.next + 2 ≤ s1.next := c01.next
  clear c01
  generalize pathF l = M at *
  obtain ⟨p, rest, e⟩ := M
  dsimp only at eF o1 lp ⊢
  (repeat(first|refine pSeq ?_|refine pReg ?_|refine sCons ?_|refine sNil ?_|refine rCons ?_|refine rNil ?_|refine kNo ?_|refine pRow ?_|refine pSkip ?_|refine pRet ?_|refine pCond ?_|refine gNone ?_))
  refine st_abs (cs' := ptCells p W cw) rfl rfl lkH (Nat.lt_succ_self _) rfl rfl fun s2 e2 c2 n2 => ?_
  have c12 : Chg s1 s2 [] := (Chg.new []).fresh c2 (by simp)
  have n2' : s2.next = s1.next + 1 := n2
  have k2 := c12.blk _ _ (by omega) (by simp) k1
  have q2 := c12.blk _ _ (by omega) (by simp) q1
  have o2 := o1.chg c12 (by simp)
  have c02 := c1.nil c12
  (repeat(first|refine pSeq ?_|refine pReg ?_|refine sCons ?_|refine sNil ?_|refine rCons ?_|refine rNil ?_|refine kNo ?_|refine pRow ?_|refine pSkip ?_|refine pRet ?_|refine pCond ?_|refine gNone ?_))
  intro q hq
  by_cases h0 : e = 0
  · subst h0
    obtain rfl : q = false := by rw [hq]; rfl
    rw [if_neg (by simp)] at eF
    (repeat(first|refine pSeq ?_|refine pReg ?_|refine sCons ?_|refine sNil ?_|refine rCons ?_|refine rNil ?_|refine kNo ?_|refine pRow ?_|refine pSkip ?_|refine pRet ?_|refine pCond ?_|refine gNone ?_))
    refine ldB_is rfl e2 rfl ?_
    cases hpost : p.post with
    | true =>
      rw [hpost, if_pos rfl] at eF
      rw [eF]
      (repeat(first|refine pSeq ?_|refine pReg ?_|refine sCons ?_|refine sNil ?_|refine rCons ?_|refine rNil ?_|refine kNo ?_|refine pRow ?_|refine pSkip ?_|refine pRet ?_|refine pCond ?_|refine gNone ?_))
      refine st_abs (cs' := ptCells ptZ none 0) rfl rfl k2 (by omega) rfl rfl fun s3 e3 c3 n3 => ?_
      have q3 := c3.blk _ _ (by omega) (by simp) q2
      (repeat(first|refine pSeq ?_|refine pReg ?_|refine sCons ?_|refine sNil ?_|refine rCons ?_|refine rNil ?_|refine kNo ?_|refine pRow ?_|refine pSkip ?_|refine pRet ?_|refine pCond ?_|refine gNone ?_))
      refine st_abs (cs' := pvCells pv0) rfl rfl q3 (by omega) rfl rfl fun s4 e4 c4 n4 => ?_
      have k4 := c4.blk _ _ (by omega) (by simp) e3
      (repeat(first|refine pSeq ?_|refine pReg ?_|refine sCons ?_|refine sNil ?_|refine rCons ?_|refine rNil ?_|refine kNo ?_|refine pRow ?_|refine pSkip ?_|refine pRet ?_|refine pCond ?_|refine gNone ?_))
      (repeat (first | with_reducible refine sqRet ?_ | with_reducible refine bkRet ?_ | with_reducible refine hdRet ?_))
      exact ret_res (resS_cell agg_Pt sz_Pt rfl k4 agg5 (resS_cell agg_Pm sz_Pm rfl e4 agg3 rfl)) ⟨none, 0, rfl, row_none, (c02.fresh c3 (by simp)).fresh c4 (by simp), by simp [blkOf]⟩
    | false =>
      rw [hpost, if_neg (by simp)] at eF
      (repeat(first|refine pSeq ?_|refine pReg ?_|refine sCons ?_|refine sNil ?_|refine rCons ?_|refine rNil ?_|refine kNo ?_|refine pRow ?_|refine pSkip ?_|refine pRet ?_|refine pCond ?_|refine gNone ?_))
      refine (params_w (l := rest) (c02.fine hf) (by omega)).mono fun v s3 q => ?_
      obtain ⟨rfl, c23⟩ := q
      have n3 := c23.next
      have k3 := c23.blk _ _ (by omega) (by simp) k2
      have q3 := c23.blk _ _ (by omega) (by simp) q2
      have e3 := c23.blk _ _ (by omega) (by simp) e2
      have o3 := o2.chg c23 (by simp)
      have c03 := c02.nil c23
      generalize paramsF rest = Q at *
      obtain ⟨pm, f⟩ := Q
      dsimp only at eF ⊢
      (repeat(first|refine pSeq ?_|refine pReg ?_|refine sCons ?_|refine sNil ?_|refine rCons ?_|refine rNil ?_|refine kNo ?_|refine pRow ?_|refine pSkip ?_|refine pRet ?_|refine pCond ?_|refine gNone ?_))
      refine st_abs (cs' := pvCells pm) rfl rfl lkH (Nat.lt_succ_self _) rfl rfl fun s4 e4 c4 n4 => ?_
      have c34 : Chg s3 s4 [] := (Chg.new []).fresh c4 (by simp)
      have n4' : s4.next = s3.next + 1 := n4
      have k4 := c34.blk _ _ (by omega) (by simp) k3
      have q4 := c34.blk _ _ (by omega) (by simp) q3
      have p4 := c34.blk _ _ (by omega) (by simp) e3
      have o4 := o3.chg c34 (by simp)
      have c04 := c03.nil c34
      (repeat(first|refine pSeq ?_|refine pReg ?_|refine sCons ?_|refine sNil ?_|refine rCons ?_|refine rNil ?_|refine kNo ?_|refine pRow ?_|refine pSkip ?_|refine pRet ?_|refine pCond ?_|refine gNone ?_))
      intro q hq
      by_cases hf0 : f = 0
      · subst hf0
        obtain rfl : q = false := by rw [hq]; rfl
        rw [if_neg (by simp)] at eF
        rw [eF]
        (repeat(first|refine pSeq ?_|refine pReg ?_|refine sCons ?_|refine sNil ?_|refine rCons ?_|refine rNil ?_|refine kNo ?_|refine pRow ?_|refine pSkip ?_|refine pRet ?_|refine pCond ?_|refine gNone ?_))
        refine ldN_is rfl p4 agg5 ?_
        (repeat(first|refine pSeq ?_|refine pReg ?_|refine sCons ?_|refine sNil ?_|refine rCons ?_|refine rNil ?_|refine kNo ?_|refine pRow ?_|refine pSkip ?_|refine pRet ?_|refine pCond ?_|refine gNone ?_))
        refine ldN_is rfl e4 agg3 ?_
        (repeat(first|refine pSeq ?_|refine pReg ?_|refine sCons ?_|refine sNil ?_|refine rCons ?_|refine rNil ?_|refine kNo ?_|refine pRow ?_|refine pSkip ?_|refine pRet ?_|refine pCond ?_|refine gNone ?_))
        refine st_abs (cs' := ptCells p W cw) rfl rfl k4 (by omega) rfl rfl fun s5 e5 c5 n5 => ?_
        have q5 := c5.blk _ _ (by omega) (by simp) q4
        have p5 := c5.blk _ _ (by omega) (by simp; omega) p4
        have r5 := c5.blk _ _ (by omega) (by simp; omega) e4
        refine kEach ⟨fun _ => ldN_is rfl r5 agg3 rfl, trivial⟩ ?_
        (repeat(first|refine pSeq ?_|refine pReg ?_|refine sCons ?_|refine sNil ?_|refine rCons ?_|refine rNil ?_|refine kNo ?_|refine pRow ?_|refine pSkip ?_|refine pRet ?_|refine pCond ?_|refine gNone ?_))
        refine st_abs (cs' := pvCells pm) rfl rfl q5 (by omega) rfl rfl fun s6 e6 c6 n6 => ?_
        have k6 := c6.blk _ _ (by omega) (by simp) e5
        have o5 : RowAt6 s5 W cw p.route := o4.chg c5 (fun id hid q => by have := hW id hid; simp at q; omega)
        have o6 : RowAt6 s6 W cw p.route := o5.chg c6 (fun id hid q => by have := hW id hid; simp at q; omega)
        (repeat(first|refine pSeq ?_|refine pReg ?_|refine sCons ?_|refine sNil ?_|refine rCons ?_|refine rNil ?_|refine kNo ?_|refine pRow ?_|refine pSkip ?_|refine pRet ?_|refine pCond ?_|refine gNone ?_))
        (repeat (first | with_reducible refine sqRet ?_ | with_reducible refine bkRet ?_ | with_reducible refine hdRet ?_))
        exact ret_res (resS_cell agg_Pt sz_Pt rfl k6 agg5 (resS_cell agg_Pm sz_Pm rfl e6 agg3 rfl)) ⟨W, cw, rfl, o6, (c04.fresh c5 (by simp)).fresh c6 (by simp), fun id hid => by have := hW id hid; omega⟩
      · obtain rfl : q = true := by rw [hq]; simpa using hf0
        rw [if_pos hf0] at eF
        rw [eF]
        (repeat(first|refine pSeq ?_|refine pReg ?_|refine sCons ?_|refine sNil ?_|refine rCons ?_|refine rNil ?_|refine kNo ?_|refine pRow ?_|refine pSkip ?_|refine pRet ?_|refine pCond ?_|refine gNone ?_))
        refine st_abs (cs' := ptCells ptZ none 0) rfl rfl k4 (by omega) rfl rfl fun s5 e5 c5 n5 => ?_
        have q5 := c5.blk _ _ (by omega) (by simp) q4
        (repeat(first|refine pSeq ?_|refine pReg ?_|refine sCons ?_|refine sNil ?_|refine rCons ?_|refine rNil ?_|refine kNo ?_|refine pRow ?_|refine pSkip ?_|refine pRet ?_|refine pCond ?_|refine gNone ?_))
        refine st_abs (cs' := pvCells pv0) rfl rfl q5 (by omega) rfl rfl fun s6 e6 c6 n6 => ?_
        have k6 := c6.blk _ _ (by omega) (by simp) e5
        (repeat(first|refine pSeq ?_|refine pReg ?_|refine sCons ?_|refine sNil ?_|refine rCons ?_|refine rNil ?_|refine kNo ?_|refine pRow ?_|refine pSkip ?_|refine pRet ?_|refine pCond ?_|refine gNone ?_))
        (repeat (first | with_reducible refine sqRet ?_ | with_reducible refine bkRet ?_ | with_reducible refine hdRet ?_))
        exact ret_res (resS_cell agg_Pt sz_Pt rfl k6 agg5 (resS_cell agg_Pm sz_Pm rfl e6 agg3 rfl)) ⟨none, 0, rfl, row_none, (c04.fresh c5 (by simp)).fresh c6 (by simp), by simp [blkOf]⟩
  · obtain rfl : q = true := by rw [hq]; simp; omega
    rw [if_pos h0] at eF
    rw [eF]
    (repeat(first|refine pSeq ?_|refine pReg ?_|refine sCons ?_|refine sNil ?_|refine rCons ?_|refine rNil ?_|refine kNo ?_|refine pRow ?_|refine pSkip ?_|refine pRet ?_|refine pCond ?_|refine gNone ?_))
    refine st_abs (cs' := ptCells ptZ none 0) rfl rfl k2 (by omega) rfl rfl fun s3 e3 c3 n3 => ?_
    have q3 := c3.blk _ _ (by omega) (by simp) q2
    (repeat(first|refine pSeq ?_|refine pReg ?_|refine sCons ?_|refine sNil ?_|refine rCons ?_|refine rNil ?_|refine kNo ?_|refine pRow ?_|refine pSkip ?_|refine pRet ?_|refine pCond ?_|refine gNone ?_))
    refine st_abs (cs' := pvCells pv0) rfl rfl q3 (by omega) rfl rfl fun s4 e4 c4 n4 => ?_
    have k4 := c4.blk _ _ (by omega) (by simp) e3
    (repeat(first|refine pSeq ?_|refine pReg ?_|refine sCons ?_|refine sNil ?_|refine rCons ?_|refine rNil ?_|refine kNo ?_|refine pRow ?_|refine pSkip ?_|refine pRet ?_|refine pCond ?_|refine gNone ?_))
    (repeat (first | with_reducible refine sqRet ?_ | with_reducible refine bkRet ?_ | with_reducible refine hdRet ?_))
    exact ret_res (resS_cell agg_Pt sz_Pt rfl k4 agg5 (resS_cell agg_Pm sz_Pm rfl e4 agg3 rfl)) ⟨none, 0, rfl, row_none, (c02.fresh c3 (by simp)).fresh c4 (by simp), by simp [blkOf]⟩

set_option maxHeartbeats 1000000 in
theorem to_w {s : SS} {l : List UInt8} (hG : Gb s) (hf : Fine s) (hl : l.length ≤ 700000) :
    CallW pr n_path_To [str l] s fun v s' => ∃ W cw, v = .tuple ⟨[ptV (toF l).1 W cw, .int .i64 (toF l).2]⟩ ∧ RowAt6 s' W cw (toF l).1.route ∧ Chg s s' [] ∧ ∀ id ∈ blkOf W, s.next ≤ id := by
  have eF : toF l = if (pathF l).2.2 ≠ 0 then (ptZ, ((pathF l).2.2 : Int)) else if (pathF l).1.null = true then (ptZ, 5) else if (paramsF (pathF l).2.1).2 = 5 then (ptZ, 5) else if (pathF l).2.1 ≠ [] then (ptZ, 1) else ((pathF l).1, 0) := rfl
  have lp := path_rest_len l
  refine CallW.run good ok_path_To (by simp) rfl ?_
  (repeat(first|refine pSeq ?_|refine pReg ?_|refine sCons ?_|refine sNil ?_|refine pSkip ?_|refine pRet ?_|refine pCond ?_|refine gNone ?_))
  refine (path_w (hG.chg (Chg.new (A := [])) (by simp)) hl).mono fun v s1 q => ?_
  obtain ⟨W, cw, rfl, o1, c01, hW⟩ := q
  have hW : ∀ id ∈ blkOf W, s.next + 1 ≤ id := hW
  have c1 : Chg s s1 [] := (Chg.new []).nil c01
  have k1 : lookH s1.heap s.next = some (.cells (ptCells ptZ none 0) tPt false false) := c01.blk _ _ (Nat.lt_succ_self _) (by simp) lkH
  have n1 : s.next + 1 ≤ s1.next := c01.next
  clear c01
  generalize pathF l = M at *
  obtain ⟨p, rest, e⟩ := M
  dsimp only at eF o1 lp ⊢
  (repeat(first|refine pSeq ?_|refine pReg ?_|refine sCons ?_|refine sNil ?_|refine pSkip ?_|refine pRet ?_|refine pCond ?_|refine gNone ?_))
  refine st_abs (cs' := ptCells p W cw) rfl rfl lkH (Nat.lt_succ_self _) rfl rfl fun s2 e2 c2 n2 => ?_
  have c12 : Chg s1 s2 [] := (Chg.new []).fresh c2 (by simp)
  have n2' : s2.next = s1.next + 1 := n2
  have k2 := c12.blk _ _ (by omega) (by simp) k1
  have o2 := o1.chg c12 (by simp)
  have c02 := c1.nil c12
  (repeat(first|refine pSeq ?_|refine pReg ?_|refine sCons ?_|refine sNil ?_|refine pSkip ?_|refine pRet ?_|refine pCond ?_|refine gNone ?_))
  intro q hq
  by_cases h0 : e = 0
  · subst h0
    obtain rfl : q = false := by rw [hq]; rfl
    rw [if_neg (by simp)] at eF
    (repeat(first|refine pSeq ?_|refine pReg ?_|refine sCons ?_|refine sNil ?_|refine pSkip ?_|refine pRet ?_|refine pCond ?_|refine gNone ?_))
    refine ldB_is rfl e2 rfl ?_
    cases hnull : p.null with
    | true =>
      rw [hnull, if_pos rfl] at eF
      rw [eF]
      (repeat(first|refine pSeq ?_|refine pReg ?_|refine sCons ?_|refine sNil ?_|refine pSkip ?_|refine pRet ?_|refine pCond ?_|refine gNone ?_))
      refine st_abs (cs' := ptCells ptZ none 0) rfl rfl k2 (by omega) rfl rfl fun s3 e3 c3 n3 => ?_
      (repeat(first|refine pSeq ?_|refine pReg ?_|refine sCons ?_|refine sNil ?_|refine pSkip ?_|refine pRet ?_|refine pCond ?_|refine gNone ?_))
      (repeat (first | with_reducible refine sqRet ?_ | with_reducible refine bkRet ?_ | with_reducible refine hdRet ?_))
      exact ret_res (resS_cell agg_Pt sz_Pt rfl e3 agg5 rfl) ⟨none, 0, rfl, row_none, c02.fresh c3 (by simp), by simp [blkOf]⟩
    | false =>
      rw [hnull, if_neg (by simp)] at eF
      (repeat(first|refine pSeq ?_|refine pReg ?_|refine sCons ?_|refine sNil ?_|refine pSkip ?_|refine pRet ?_|refine pCond ?_|refine gNone ?_))
      refine (params_w (l := rest) (c02.fine hf) (by omega)).mono fun v s3 q => ?_
      obtain ⟨rfl, c23⟩ := q
      have n3 := c23.next
      have k3 := c23.blk _ _ (by omega) (by simp) k2
      have e3 := c23.blk _ _ (by omega) (by simp) e2
      have o3 := o2.chg c23 (by simp)
      have c03 := c02.nil c23
      generalize paramsF rest = Q at *
      obtain ⟨pm, f⟩ := Q
      dsimp only at eF ⊢
      (repeat(first|refine pSeq ?_|refine pReg ?_|refine sCons ?_|refine sNil ?_|refine pSkip ?_|refine pRet ?_|refine pCond ?_|refine gNone ?_))
      refine st_abs (cs' := pvCells pm) rfl rfl lkH (Nat.lt_succ_self _) rfl rfl fun s4 e4 c4 n4 => ?_
      have c34 : Chg s3 s4 [] := (Chg.new []).fresh c4 (by simp)
      have n4' : s4.next = s3.next + 1 := n4
      have k4 := c34.blk _ _ (by omega) (by simp) k3
      have p4 := c34.blk _ _ (by omega) (by simp) e3
      have o4 := o3.chg c34 (by simp)
      have c04 := c03.nil c34
      (repeat(first|refine pSeq ?_|refine pReg ?_|refine sCons ?_|refine sNil ?_|refine pSkip ?_|refine pRet ?_|refine pCond ?_|refine gNone ?_))
      intro q hq
      by_cases h5 : f = 5
      · subst h5
        obtain rfl : q = true := by rw [hq]; rfl
        rw [if_pos rfl] at eF
        rw [eF]
        (repeat(first|refine pSeq ?_|refine pReg ?_|refine sCons ?_|refine sNil ?_|refine pSkip ?_|refine pRet ?_|refine pCond ?_|refine gNone ?_))
        refine st_abs (cs' := ptCells ptZ none 0) rfl rfl k4 (by omega) rfl rfl fun s5 e5 c5 n5 => ?_
        (repeat(first|refine pSeq ?_|refine pReg ?_|refine sCons ?_|refine sNil ?_|refine pSkip ?_|refine pRet ?_|refine pCond ?_|refine gNone ?_))
        (repeat (first | with_reducible refine sqRet ?_ | with_reducible refine bkRet ?_ | with_reducible refine hdRet ?_))
        exact ret_res (resS_cell agg_Pt sz_Pt rfl e5 agg5 rfl) ⟨none, 0, rfl, row_none, c04.fresh c5 (by simp), by simp [blkOf]⟩
      · obtain rfl : q = false := by rw [hq]; simpa using h5
        rw [if_neg h5] at eF
        (repeat(first|refine pSeq ?_|refine pReg ?_|refine sCons ?_|refine sNil ?_|refine pSkip ?_|refine pRet ?_|refine pCond ?_|refine gNone ?_))
        intro q hq
        by_cases hr : rest = []
        · obtain rfl : q = false := by rw [hq, hr]; rfl
          rw [if_neg (by simpa using hr)] at eF
          rw [eF]
          (repeat(first|refine pSeq ?_|refine pReg ?_|refine sCons ?_|refine sNil ?_|refine pSkip ?_|refine pRet ?_|refine pCond ?_|refine gNone ?_))
          refine ldN_is rfl p4 agg5 ?_
          (repeat(first|refine pSeq ?_|refine pReg ?_|refine sCons ?_|refine sNil ?_|refine pSkip ?_|refine pRet ?_|refine pCond ?_|refine gNone ?_))
          refine st_abs (cs' := ptCells p W cw) rfl rfl k4 (by omega) rfl rfl fun s5 e5 c5 n5 => ?_
          (repeat(first|refine pSeq ?_|refine pReg ?_|refine sCons ?_|refine sNil ?_|refine pSkip ?_|refine pRet ?_|refine pCond ?_|refine gNone ?_))
          (repeat (first | with_reducible refine sqRet ?_ | with_reducible refine bkRet ?_ | with_reducible refine hdRet ?_))
          exact ret_res (resS_cell agg_Pt sz_Pt rfl e5 agg5 rfl) ⟨W, cw, rfl, o4.chg c5 (fun id hid q => by have := hW id hid; simp at q; omega), c04.fresh c5 (by simp), fun id hid => by have := hW id hid; omega⟩
        · obtain rfl : q = true := by rw [hq]; simpa using hr
          rw [if_pos hr] at eF
          rw [eF]
          (repeat(first|refine pSeq ?_|refine pReg ?_|refine sCons ?_|refine sNil ?_|refine pSkip ?_|refine pRet ?_|refine pCond ?_|refine gNone ?_))
          refine st_abs (cs' := ptCells ptZ none 0) rfl rfl k4 (by omega) rfl rfl fun s5 e5 c5 n5 => ?_
          (repeat(first|refine pSeq ?_|refine pReg ?_|refine sCons ?_|refine sNil ?_|refine pSkip ?_|refine pRet ?_|refine pCond ?_|refine gNone ?_))
          (repeat (first | with_reducible refine sqRet ?_ | with_reducible refine bkRet ?_ | with_reducible refine hdRet ?_))
          exact ret_res (resS_cell agg_Pt sz_Pt rfl e5 agg5 rfl) ⟨none, 0, rfl, row_none, c04.fresh c5 (by simp), by simp [blkOf]⟩
  · obtain rfl : q = true := by rw [hq]; simp; omega
    rw [if_pos h0] at eF
    rw [eF]
    (repeat(first|refine pSeq ?_|refine pReg ?_|refine sCons ?_|refine sNil ?_|refine pSkip ?_|refine pRet ?_|refine pCond ?_|refine gNone ?_))
    refine st_abs (cs' := ptCells ptZ none 0) rfl rfl k2 (by omega) rfl rfl fun s3 e3 c3 n3 => ?_
    (repeat(first|refine pSeq ?_|refine pReg ?_|refine sCons ?_|refine sNil ?_|refine pSkip ?_|refine pRet ?_|refine pCond ?_|refine gNone ?_))
    (repeat (first | with_reducible refine sqRet ?_ | with_reducible refine bkRet ?_ | with_reducible refine hdRet ?_))
    exact ret_res (resS_cell agg_Pt sz_Pt rfl e3 agg5 rfl) ⟨none, 0, rfl, row_none, c02.fresh c3 (by simp), by simp [blkOf]⟩
end Go.Vf.S

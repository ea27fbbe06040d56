import Derived.Test.YtgdkekacalmjoaaDoorPaH
/- Paths: what is read at the front. -/
namespace Go.Vf.S
open Go Go.Vf
attribute [local irreducible] wSeq wRow wp wG
set_option linter.unusedVariables false
set_option linter.unusedSimpArgs false
set_option maxRecDepth 10000

theorem ret_res {P : Program} {T : TL} {s : SS} {K : Value → SS → Prop} {res : List ResultVar} {l : List Value} (h : resS P T s res = some l) (hK : K (one l) s) : runQ P res K .ret T s := by
  unfold runQ
  simp only [h]
  exact hK
theorem resS_cell {P : Program} {T : TL} {s : SS} {a : Tmp} {t : TypeId} {n c off : Nat} {cs l l' : List Value} {e : TypeId} {g r : Bool} {rs : List ResultVar} (hA : aggB P t = some true) (hz : sizeB P t = some n)
    (ha : look T a = some (.pointer (some ⟨c, off, none⟩))) (hb : lookH s.heap c = some (.cells cs e g r)) (hl : takeN n (cs.drop off) = some l) (hr : resS P T s rs = some l') : resS P T s (.cell a t :: rs) = some (.agg ⟨l⟩ :: l') := by
  have h1 : aOp P (toTr T) s.st (.load t (.tmp a)) = some (.val (.agg ⟨l⟩)) := by
    simp only [aOp, operand, toTr_get, ha, hA, hz, loadRow, SS.get, hb, hl]
    rfl
  simp only [resS, h1, hr]

def atL (l : List UInt8) : List UInt8 := if l.take 1 = [60] then l.drop 1 else l
/-- What stands behind a path's end, if there is one. -/
def restP (l : List UInt8) : List UInt8 := (cutF 62 (l.drop (manyP l))).2.1
def shutP (l : List UInt8) : Bool := (cutF 62 (l.drop (manyP l))).2.2
def errP (n : Nat) (w e : Nat) : Nat := if e = 0 ∧ (256 < n ∨ w = 3) then 3 else e
def pathF (l : List UInt8) : Pth × List UInt8 × Nat :=
  if l.take 1 ≠ [60] ∨ shutP (routeF (atL l)).2.1 = false ∨ (routeF (atL l)).2.2 = 5 then (ptZ, [], 5)
  else if errP (l.length - (restP (routeF (atL l)).2.1).length) (routeF (atL l)).2.2 (madeF (routeF (atL l)).1 (insideP (routeF (atL l)).2.1)).2 = 0 then ((madeF (routeF (atL l)).1 (insideP (routeF (atL l)).2.1)).1, restP (routeF (atL l)).2.1, 0)
  else (ptZ, [], errP (l.length - (restP (routeF (atL l)).2.1).length) (routeF (atL l)).2.2 (madeF (routeF (atL l)).1 (insideP (routeF (atL l)).2.1)).2)

theorem atL_len (l : List UInt8) : (atL l).length ≤ l.length := by unfold atL; split <;> simp
theorem route_len (l : List UInt8) : (routeF l).2.1.length ≤ l.length := by
  unfold routeF
  split
  · simp
  split
  · simp
  have := (cut_len 58 l).2
  split <;> simp_all
theorem rest_len (l : List UInt8) : (restP l).length ≤ l.length := by
  have := (cut_len 62 (l.drop (manyP l))).2
  rw [List.length_drop] at this
  unfold restP; omega
theorem inside_len (l : List UInt8) : (insideP l).length ≤ l.length := by
  have h := quoted_len l
  have := (cut_len 62 (l.drop (manyP l))).1
  unfold insideP
  unfold manyP at *
  rw [List.length_drop] at this
  rw [List.length_append, List.length_take]
  omega
theorem parse_vals (l : List UInt8) : (parseF l).2.2 = 0 ∨ (parseF l).2.2 = 3 ∨ (parseF l).2.2 = 5 := by
  unfold parseF
  split
  · simp
  split
  · exact dom_vals _
  split <;> simp

set_option maxHeartbeats 1000000 in
theorem path_w {s : SS} {l : List UInt8} (hG : Gb s) (hl : l.length ≤ 700000) :
    CallW pr n_path_Parse [str l] s fun v s' => ∃ W cw, v = .tuple ⟨[ptV (pathF l).1 W cw, str (pathF l).2.1, .int .i64 (pathF l).2.2]⟩ ∧ RowAt6 s' W cw (pathF l).1.route ∧ Chg s s' [] ∧ ∀ id ∈ blkOf W, s.next ≤ id := by
  have eF : pathF l = if l.take 1 ≠ [60] ∨ shutP (routeF (atL l)).2.1 = false ∨ (routeF (atL l)).2.2 = 5 then (ptZ, [], 5)
    else if errP (l.length - (restP (routeF (atL l)).2.1).length) (routeF (atL l)).2.2 (madeF (routeF (atL l)).1 (insideP (routeF (atL l)).2.1)).2 = 0 then ((madeF (routeF (atL l)).1 (insideP (routeF (atL l)).2.1)).1, restP (routeF (atL l)).2.1, 0)
    else (ptZ, [], errP (l.length - (restP (routeF (atL l)).2.1).length) (routeF (atL l)).2.2 (madeF (routeF (atL l)).1 (insideP (routeF (atL l)).2.1)).2) := rfl
  have la := atL_len l
  have lr := route_len (atL l)
  have li := inside_len (routeF (atL l)).2.1
  have lb := rest_len (routeF (atL l)).2.1
  refine CallW.run good ok_path_Parse (by simp) rfl ?_
  have cA : Chg s { s with heap := (s.next, some (.cells (ptCells ptZ none 0) tPt false false)) :: s.heap, next := s.next + 1 } [] := .new _
  have eA : lookH ({ s with heap := (s.next, some (.cells (ptCells ptZ none 0) tPt false false)) :: s.heap, next := s.next + 1 } : SS).heap s.next = some (.cells (ptCells ptZ none 0) tPt false false) := lkH
  have nA : ({ s with heap := (s.next, some (.cells (ptCells ptZ none 0) tPt false false)) :: s.heap, next := s.next + 1 } : SS).next = s.next + 1 := rfl
  (repeat(first|refine pSeq ?_|refine pReg ?_|refine sCons ?_|refine sNil ?_|refine pSkip ?_|refine pRet ?_|refine pCond ?_|refine gNone ?_|refine gOn rfl ?_|refine gOff rfl rfl ?_|refine gTup rfl ?_))
  refine cutP_w.mono fun v s0 q => ?_
  obtain ⟨rfl, e0⟩ := q
  rw [← show s0 = ({ s with heap := (s.next, some (.cells (ptCells ptZ none 0) tPt false false)) :: s.heap, next := s.next + 1 } : SS) from e0] at cA eA nA
  clear e0
  have e2 : (if l.take [(60 : UInt8)].length = [60] then l.drop [(60 : UInt8)].length else l) = atL l := rfl
  have e3 : l.take [(60 : UInt8)].length = l.take 1 := rfl
  rw [e2, e3]
  (repeat(first|refine pSeq ?_|refine pReg ?_|refine sCons ?_|refine sNil ?_|refine pSkip ?_|refine pRet ?_|refine pCond ?_|refine gNone ?_|refine gOn rfl ?_|refine gOff rfl rfl ?_|refine gTup rfl ?_))
  refine (cutRoute_w (hG.chg cA (by simp)) (by omega)).mono fun v s1 q => ?_
  obtain ⟨W, cw, rfl, o1, c1, hW⟩ := q
  generalize routeF (atL l) = R at *
  obtain ⟨route, more, w⟩ := R
  dsimp only at eF o1 lr li lb ⊢
  (repeat(first|refine pSeq ?_|refine pReg ?_|refine sCons ?_|refine sNil ?_|refine pSkip ?_|refine pRet ?_|refine pCond ?_|refine gNone ?_|refine gOn rfl ?_|refine gOff rfl rfl ?_|refine gTup rfl ?_))
  refine (cutAddress_w (l := more) (by omega)).mono fun v s2 q => ?_
  obtain ⟨rfl, c2⟩ := q
  rw [show (cutF 62 (more.drop (manyP more))).2.1 = restP more from rfl, show (cutF 62 (more.drop (manyP more))).2.2 = shutP more from rfl]
  have o2 := o1.chg c2 (by simp)
  have c02 : Chg s s2 [] := (cA.nil c1).nil c2
  have k2 := (c1.nil c2).blk _ _ (by omega) (by simp) eA
  have n2 := (c1.nil c2).next
  generalize insideP more = inside at *
  generalize restP more = rest at *
  generalize shutP more = shut at *
  by_cases h60 : l.take 1 = [60]
  · rw [decide_eq_true h60]
    (repeat(first|refine pSeq ?_|refine pReg ?_|refine sCons ?_|refine sNil ?_|refine pSkip ?_|refine pRet ?_|refine pCond ?_|refine gNone ?_|refine gOn rfl ?_|refine gOff rfl rfl ?_|refine gTup rfl ?_))
    intro q hq
    obtain rfl : q = false := hq
    cases shut with
    | false =>
      rw [if_pos (by simp)] at eF
      rw [eF]
      (repeat(first|refine pSeq ?_|refine pReg ?_|refine sCons ?_|refine sNil ?_|refine pSkip ?_|refine pRet ?_|refine pCond ?_|refine gNone ?_|refine gOn rfl ?_|refine gOff rfl rfl ?_|refine gTup rfl ?_))
      intro q hq
      obtain rfl : q = true := hq
      (repeat(first|refine pSeq ?_|refine pReg ?_|refine sCons ?_|refine sNil ?_|refine pSkip ?_|refine pRet ?_|refine pCond ?_|refine gNone ?_|refine gOn rfl ?_|refine gOff rfl rfl ?_|refine gTup rfl ?_))
      refine st_abs (cs' := ptCells ptZ none 0) rfl rfl k2 (by omega) rfl rfl fun s3 e3 c3 n3 => ?_
      (repeat(first|refine pSeq ?_|refine pReg ?_|refine sCons ?_|refine sNil ?_|refine pSkip ?_|refine pRet ?_|refine pCond ?_|refine gNone ?_|refine gOn rfl ?_|refine gOff rfl rfl ?_|refine gTup rfl ?_))
      (repeat (first | with_reducible refine sqRet ?_ | with_reducible refine bkRet ?_ | with_reducible refine hdRet ?_))
      exact ret_res (resS_cell agg_Pt sz_Pt rfl e3 agg5 rfl) ⟨none, 0, rfl, row_none, c02.fresh c3 (by simp), by simp [blkOf]⟩
    | true =>
      (repeat(first|refine pSeq ?_|refine pReg ?_|refine sCons ?_|refine sNil ?_|refine pSkip ?_|refine pRet ?_|refine pCond ?_|refine gNone ?_|refine gOn rfl ?_|refine gOff rfl rfl ?_|refine gTup rfl ?_))
      intro q hq
      obtain rfl : q = false := hq
      (repeat(first|refine pSeq ?_|refine pReg ?_|refine sCons ?_|refine sNil ?_|refine pSkip ?_|refine pRet ?_|refine pCond ?_|refine gNone ?_|refine gOn rfl ?_|refine gOff rfl rfl ?_|refine gTup rfl ?_))
      intro q hq
      by_cases h5 : w = 5
      · obtain rfl : q = true := by rw [hq, h5]; rfl
        rw [if_pos (.inr (.inr h5))] at eF
        rw [eF]
        (repeat(first|refine pSeq ?_|refine pReg ?_|refine sCons ?_|refine sNil ?_|refine pSkip ?_|refine pRet ?_|refine pCond ?_|refine gNone ?_|refine gOn rfl ?_|refine gOff rfl rfl ?_|refine gTup rfl ?_))
        refine st_abs (cs' := ptCells ptZ none 0) rfl rfl k2 (by omega) rfl rfl fun s3 e3 c3 n3 => ?_
        (repeat(first|refine pSeq ?_|refine pReg ?_|refine sCons ?_|refine sNil ?_|refine pSkip ?_|refine pRet ?_|refine pCond ?_|refine gNone ?_|refine gOn rfl ?_|refine gOff rfl rfl ?_|refine gTup rfl ?_))
        (repeat (first | with_reducible refine sqRet ?_ | with_reducible refine bkRet ?_ | with_reducible refine hdRet ?_))
        exact ret_res (resS_cell agg_Pt sz_Pt rfl e3 agg5 rfl) ⟨none, 0, rfl, row_none, c02.fresh c3 (by simp), by simp [blkOf]⟩
      · obtain rfl : q = false := by rw [hq]; simp; omega
        rw [if_neg (by simp [h60, h5])] at eF
        (repeat(first|refine pSeq ?_|refine pReg ?_|refine sCons ?_|refine sNil ?_|refine pSkip ?_|refine pRet ?_|refine pCond ?_|refine gNone ?_|refine gOn rfl ?_|refine gOff rfl rfl ?_|refine gTup rfl ?_))
        refine (pmade_w (l := inside) (hG.chg c02 (by simp)) o2 (by omega)).mono fun v s3 q => ?_
        obtain ⟨W', cw', rfl, o3, c3, hW'⟩ := q
        have hB' : ∀ id ∈ blkOf W', s.next + 1 ≤ id := by
          rcases hW' with rfl | rfl
          · simp [blkOf]
          · intro id hid; have := hW id hid; omega
        have lt' := o3.1.lt
        have k3 := c3.blk _ _ (by omega) (by simp) k2
        have n3 := c3.next
        have c03 := c02.nil c3
        generalize madeF route inside = M at *
        obtain ⟨p, e⟩ := M
        dsimp only at eF o3 ⊢
        (repeat(first|refine pSeq ?_|refine pReg ?_|refine sCons ?_|refine sNil ?_|refine pSkip ?_|refine pRet ?_|refine pCond ?_|refine gNone ?_|refine gOn rfl ?_|refine gOff rfl rfl ?_|refine gTup rfl ?_))
        refine st_abs (cs' := ptCells p W' cw') rfl rfl lkH (Nat.lt_succ_self _) rfl rfl fun s4 e4 c4 n4 => ?_
        have c34 : Chg s3 s4 [] := (Chg.new []).fresh c4 (by simp)
        have n4' : s4.next = s3.next + 1 := n4
        have k4 := c34.blk _ _ (by omega) (by simp) k3
        have o4 := o3.chg c34 (by simp)
        have c04 := c03.nil c34
        (repeat(first|refine pSeq ?_|refine pReg ?_|refine sCons ?_|refine sNil ?_|refine pSkip ?_|refine pRet ?_|refine pCond ?_|refine gNone ?_|refine gOn rfl ?_|refine gOff rfl rfl ?_|refine gTup rfl ?_))
        intro q hq
        by_cases h0 : e = 0
        · subst h0
          obtain rfl : q = true := by rw [hq]; rfl
          (repeat(first|refine pSeq ?_|refine pReg ?_|refine sCons ?_|refine sNil ?_|refine pSkip ?_|refine pRet ?_|refine pCond ?_|refine gNone ?_|refine gOn rfl ?_|refine gOff rfl rfl ?_|refine gTup rfl ?_))
          intro n hn
          (repeat(first|refine pSeq ?_|refine pReg ?_|refine sCons ?_|refine sNil ?_|refine pSkip ?_|refine pRet ?_|refine pCond ?_|refine gNone ?_|refine gOn rfl ?_|refine gOff rfl rfl ?_|refine gTup rfl ?_))
          intro n2 hn2
          (repeat(first|refine pSeq ?_|refine pReg ?_|refine sCons ?_|refine sNil ?_|refine pSkip ?_|refine pRet ?_|refine pCond ?_|refine gNone ?_|refine gOn rfl ?_|refine gOff rfl rfl ?_|refine gTup rfl ?_))
          intro z hz
          rw [i64_id (by omega)] at hz
          (repeat(first|refine pSeq ?_|refine pReg ?_|refine sCons ?_|refine sNil ?_|refine pSkip ?_|refine pRet ?_|refine pCond ?_|refine gNone ?_|refine gOn rfl ?_|refine gOff rfl rfl ?_|refine gTup rfl ?_))
          intro q hq
          by_cases hlong : 256 < l.length - rest.length
          · obtain rfl : q = true := by rw [hq]; simp <;> omega
            have e3 : errP (l.length - rest.length) w 0 = 3 := by unfold errP; rw [if_pos ⟨rfl, .inl hlong⟩]
            rw [e3, if_neg (by simp)] at eF
            rw [eF]
            (repeat(first|refine pSeq ?_|refine pReg ?_|refine sCons ?_|refine sNil ?_|refine pSkip ?_|refine pRet ?_|refine pCond ?_|refine gNone ?_|refine gOn rfl ?_|refine gOff rfl rfl ?_|refine gTup rfl ?_))
            intro q hq
            obtain rfl : q = true := by rw [hq]; rfl
            (repeat(first|refine pSeq ?_|refine pReg ?_|refine sCons ?_|refine sNil ?_|refine pSkip ?_|refine pRet ?_|refine pCond ?_|refine gNone ?_|refine gOn rfl ?_|refine gOff rfl rfl ?_|refine gTup rfl ?_))
            refine st_abs (cs' := ptCells ptZ none 0) rfl rfl k4 (by omega) rfl rfl fun s5 e5 c5 n5 => ?_
            (repeat(first|refine pSeq ?_|refine pReg ?_|refine sCons ?_|refine sNil ?_|refine pSkip ?_|refine pRet ?_|refine pCond ?_|refine gNone ?_|refine gOn rfl ?_|refine gOff rfl rfl ?_|refine gTup rfl ?_))
            (repeat (first | with_reducible refine sqRet ?_ | with_reducible refine bkRet ?_ | with_reducible refine hdRet ?_))
            exact ret_res (resS_cell agg_Pt sz_Pt rfl e5 agg5 rfl) ⟨none, 0, rfl, row_none, c04.fresh c5 (by simp), by simp [blkOf]⟩
          · obtain rfl : q = false := by rw [hq]; simp <;> omega
            (repeat(first|refine pSeq ?_|refine pReg ?_|refine sCons ?_|refine sNil ?_|refine pSkip ?_|refine pRet ?_|refine pCond ?_|refine gNone ?_|refine gOn rfl ?_|refine gOff rfl rfl ?_|refine gTup rfl ?_))
            intro q hq
            by_cases hw3 : w = 3
            · obtain rfl : q = true := by rw [hq, hw3]; rfl
              have e3 : errP (l.length - rest.length) w 0 = 3 := by unfold errP; rw [if_pos ⟨rfl, .inr hw3⟩]
              rw [e3, if_neg (by simp)] at eF
              rw [eF]
              (repeat(first|refine pSeq ?_|refine pReg ?_|refine sCons ?_|refine sNil ?_|refine pSkip ?_|refine pRet ?_|refine pCond ?_|refine gNone ?_|refine gOn rfl ?_|refine gOff rfl rfl ?_|refine gTup rfl ?_))
              intro q hq
              obtain rfl : q = true := by rw [hq]; rfl
              (repeat(first|refine pSeq ?_|refine pReg ?_|refine sCons ?_|refine sNil ?_|refine pSkip ?_|refine pRet ?_|refine pCond ?_|refine gNone ?_|refine gOn rfl ?_|refine gOff rfl rfl ?_|refine gTup rfl ?_))
              refine st_abs (cs' := ptCells ptZ none 0) rfl rfl k4 (by omega) rfl rfl fun s5 e5 c5 n5 => ?_
              (repeat(first|refine pSeq ?_|refine pReg ?_|refine sCons ?_|refine sNil ?_|refine pSkip ?_|refine pRet ?_|refine pCond ?_|refine gNone ?_|refine gOn rfl ?_|refine gOff rfl rfl ?_|refine gTup rfl ?_))
              (repeat (first | with_reducible refine sqRet ?_ | with_reducible refine bkRet ?_ | with_reducible refine hdRet ?_))
              exact ret_res (resS_cell agg_Pt sz_Pt rfl e5 agg5 rfl) ⟨none, 0, rfl, row_none, c04.fresh c5 (by simp), by simp [blkOf]⟩
            · obtain rfl : q = false := by rw [hq]; simp; omega
              have e3 : errP (l.length - rest.length) w 0 = 0 := by unfold errP; rw [if_neg (by rintro ⟨-, r | r⟩ <;> omega)]
              rw [e3, if_pos rfl] at eF
              rw [eF]
              (repeat(first|refine pSeq ?_|refine pReg ?_|refine sCons ?_|refine sNil ?_|refine pSkip ?_|refine pRet ?_|refine pCond ?_|refine gNone ?_|refine gOn rfl ?_|refine gOff rfl rfl ?_|refine gTup rfl ?_))
              intro q hq
              obtain rfl : q = false := by rw [hq]; rfl
              (repeat(first|refine pSeq ?_|refine pReg ?_|refine sCons ?_|refine sNil ?_|refine pSkip ?_|refine pRet ?_|refine pCond ?_|refine gNone ?_|refine gOn rfl ?_|refine gOff rfl rfl ?_|refine gTup rfl ?_))
              refine ldN_is rfl e4 agg5 ?_
              (repeat(first|refine pSeq ?_|refine pReg ?_|refine sCons ?_|refine sNil ?_|refine pSkip ?_|refine pRet ?_|refine pCond ?_|refine gNone ?_|refine gOn rfl ?_|refine gOff rfl rfl ?_|refine gTup rfl ?_))
              refine st_abs (cs' := ptCells p W' cw') rfl rfl k4 (by omega) rfl rfl fun s5 e5 c5 n5 => ?_
              (repeat(first|refine pSeq ?_|refine pReg ?_|refine sCons ?_|refine sNil ?_|refine pSkip ?_|refine pRet ?_|refine pCond ?_|refine gNone ?_|refine gOn rfl ?_|refine gOff rfl rfl ?_|refine gTup rfl ?_))
              (repeat (first | with_reducible refine sqRet ?_ | with_reducible refine bkRet ?_ | with_reducible refine hdRet ?_))
              exact ret_res (resS_cell agg_Pt sz_Pt rfl e5 agg5 rfl) ⟨W', cw', rfl, ⟨o4.1.chg c5 (fun id hid q => by have := hB' id hid; simp at q; omega), o4.2⟩, c04.fresh c5 (by simp), fun id hid => Nat.le_of_succ_le (hB' id hid)⟩
        · obtain rfl : q = false := by rw [hq]; simp; omega
          have e3 : errP (l.length - rest.length) w e = e := by unfold errP; rw [if_neg (by rintro ⟨r, -⟩; exact h0 r)]
          rw [e3, if_neg h0] at eF
          rw [eF]
          (repeat(first|refine pSeq ?_|refine pReg ?_|refine sCons ?_|refine sNil ?_|refine pSkip ?_|refine pRet ?_|refine pCond ?_|refine gNone ?_|refine gOn rfl ?_|refine gOff rfl rfl ?_|refine gTup rfl ?_))
          intro q hq
          obtain rfl : q = true := by rw [hq]; simp; omega
          (repeat(first|refine pSeq ?_|refine pReg ?_|refine sCons ?_|refine sNil ?_|refine pSkip ?_|refine pRet ?_|refine pCond ?_|refine gNone ?_|refine gOn rfl ?_|refine gOff rfl rfl ?_|refine gTup rfl ?_))
          refine st_abs (cs' := ptCells ptZ none 0) rfl rfl k4 (by omega) rfl rfl fun s5 e5 c5 n5 => ?_
          (repeat(first|refine pSeq ?_|refine pReg ?_|refine sCons ?_|refine sNil ?_|refine pSkip ?_|refine pRet ?_|refine pCond ?_|refine gNone ?_|refine gOn rfl ?_|refine gOff rfl rfl ?_|refine gTup rfl ?_))
          (repeat (first | with_reducible refine sqRet ?_ | with_reducible refine bkRet ?_ | with_reducible refine hdRet ?_))
          exact ret_res (resS_cell agg_Pt sz_Pt rfl e5 agg5 rfl) ⟨none, 0, rfl, row_none, c04.fresh c5 (by simp), by simp [blkOf]⟩
  · rw [decide_eq_false h60]
    rw [if_pos (.inl h60)] at eF
    rw [eF]
    (repeat(first|refine pSeq ?_|refine pReg ?_|refine sCons ?_|refine sNil ?_|refine pSkip ?_|refine pRet ?_|refine pCond ?_|refine gNone ?_|refine gOn rfl ?_|refine gOff rfl rfl ?_|refine gTup rfl ?_))
    intro q hq
    obtain rfl : q = true := hq
    (repeat(first|refine pSeq ?_|refine pReg ?_|refine sCons ?_|refine sNil ?_|refine pSkip ?_|refine pRet ?_|refine pCond ?_|refine gNone ?_|refine gOn rfl ?_|refine gOff rfl rfl ?_|refine gTup rfl ?_))
    refine st_abs (cs' := ptCells ptZ none 0) rfl rfl k2 (by omega) rfl rfl fun s3 e3 c3 n3 => ?_
    (repeat(first|refine pSeq ?_|refine pReg ?_|refine sCons ?_|refine sNil ?_|refine pSkip ?_|refine pRet ?_|refine pCond ?_|refine gNone ?_|refine gOn rfl ?_|refine gOff rfl rfl ?_|refine gTup rfl ?_))
    (repeat (first | with_reducible refine sqRet ?_ | with_reducible refine bkRet ?_ | with_reducible refine hdRet ?_))
    exact ret_res (resS_cell agg_Pt sz_Pt rfl e3 agg5 rfl) ⟨none, 0, rfl, row_none, c02.fresh c3 (by simp), by simp [blkOf]⟩
end Go.Vf.S

import Derived.Test.YtafdbfpclolpkaaHaG
/- Blocks. -/
namespace Go.Vf.S
open Go Go.Vf
attribute [local irreducible] wSeq wRow wp wG schd rnds blks blk5
set_option linter.unusedVariables false
set_option linter.unusedSimpArgs false
set_option maxRecDepth 10000

structure TkS where
  j : Nat
  x : W5
  b : Option Addr
  c : Nat
  l : List UInt8
  s : SS

set_option maxHeartbeats 1000000 in
theorem take10_w {s : SS} {x : W5} {base : Option Addr} {n cap m : Nat} {l : List UInt8} (f : Fine s) (hr : Slc pr s base n cap l) (hn : n = 64 * m) : CallW pr n_hash_words_take [x.V, .slice base n cap] s fun v s' => v = (blks m x l).V ∧ Chg s s' [] := by
  have hl := hr.1.1
  have hlt := hr.1.lt
  refine CallW.run good ok_hash_words_take (by simp) rfl ?_
  obtain ⟨h0, h1, c0, f0⟩ := new2_at f (.cells (wdsV x.l) tW5 false false) (.cells (wdsV [0, 0, 0, 0, 0]) tW5 false false)
  (repeat(first|refine pSeq ?_|refine pReg ?_|refine sCons ?_|refine sNil ?_|refine rCons ?_|refine rNil ?_|refine kNo ?_|refine pRow ?_|refine pBlock ?_|refine pSkip ?_|refine pExit ?_|refine pRet ?_|refine pCond ?_|refine gNone ?_))
  refine (parts_w f0).mono fun v s1 q => ?_
  obtain ⟨rfl, c1⟩ := q
  have n1 := c1.next
  replace n1 : s.next + 1 + 1 ≤ s1.next := n1
  replace h0 := c1.blk _ _ (show s.next < s.next + 1 + 1 by omega) (by simp) h0
  replace h1 := c1.blk _ _ (show s.next + 1 < s.next + 1 + 1 by omega) (by simp) h1
  have f1 := c1.fine f0
  replace c0 := c0.nil c1
  (repeat(first|refine pSeq ?_|refine pReg ?_|refine sCons ?_|refine sNil ?_|refine rCons ?_|refine rNil ?_|refine kNo ?_|refine pRow ?_|refine pBlock ?_|refine pSkip ?_|refine pExit ?_|refine pRet ?_|refine pCond ?_|refine gNone ?_))
  obtain ⟨k0, k1, k2⟩ := new1_at f1 (.cells [.nilFunc, wv 0, .nilFunc, wv 0, .nilFunc, wv 0, .nilFunc, wv 0] tP4 false false)
  refine st_abs (cs' := ptsL) rfl rfl k0 (Nat.lt_succ_self _) rfl rfl fun s2 e2 c2 n2 => ?_
  replace n2 : s2.next = s1.next + 1 := n2
  replace h0 := c2.blk _ _ (show s.next < s1.next + 1 by omega) (by simp; omega) (k1.blk _ _ (by omega) (by simp) h0)
  replace h1 := c2.blk _ _ (show s.next + 1 < s1.next + 1 by omega) (by simp; omega) (k1.blk _ _ (by omega) (by simp) h1)
  replace c2 := k1.fresh c2 (by simp)
  have f2 := c2.fine f1
  replace c0 := c0.nil c2
  (repeat(first|refine pSeq ?_|refine pReg ?_|refine sCons ?_|refine sNil ?_|refine rCons ?_|refine rNil ?_|refine kNo ?_|refine pRow ?_|refine pBlock ?_|refine pSkip ?_|refine pExit ?_|refine pRet ?_|refine pCond ?_|refine gNone ?_))
  refine pLoop (MW.head good (fun p : TkS => p.j) (fun p => p.l.length = 64 * p.j ∧ blks p.j p.x p.l = blks m x l ∧ Slc pr p.s p.b (64 * p.j) p.c p.l ∧ lookH p.s.heap s.next = some (.cells (wdsV p.x.l) tW5 false false) ∧ lookH p.s.heap (s.next + 1) = some (.cells (wdsV [0, 0, 0, 0, 0]) tW5 false false)
      ∧ lookH p.s.heap s1.next = some (.cells ptsL tP4 false false) ∧ (∀ id ∈ blkOf p.b, id < s.next) ∧ Chg s p.s [] ∧ s1.next < p.s.next ∧ Fine p.s)
    (fun p => [(1, .slice p.b (64 * p.j : Nat) p.c), (2, ptrV s.next), (4, ptrV (s.next + 1)), (5, ptrV s1.next)]) (fun p => p.s) ⟨m, x, base, cap, l, s2⟩ ⟨by rw [← hl, hn], rfl, by rw [← hn]; exact hr.chg c0 (by simp), h0, h1, e2, hlt, c0, by show s1.next < s2.next; omega, f2⟩ (Wk.same ⟨by rw [hn]; rfl, rfl, rfl, rfl, trivial⟩) ?_)
  clear h0 h1 e2 c0 f2 c2 n2 k0 k1 k2 f1 f0 c1
  intro ⟨j, y, bb, cc, z, s3⟩ ⟨hj, hb, hs, h0, h1, e2, hid, c0, n2, f2⟩
  dsimp only at hj hb hs h0 h1 e2 hid c0 n2 f2 ⊢
  (repeat(first|refine pSeq ?_|refine pReg ?_|refine sCons ?_|refine sNil ?_|refine rCons ?_|refine rNil ?_|refine kNo ?_|refine pRow ?_|refine pBlock ?_|refine pSkip ?_|refine pExit ?_|refine pRet ?_|refine pCond ?_|refine gNone ?_))
  intro q hq
  by_cases h5 : j = 0
  · subst h5
    obtain rfl : q = false := by rw [hq]; simp <;> omega
    (repeat(first|refine pSeq ?_|refine pReg ?_|refine sCons ?_|refine sNil ?_|refine rCons ?_|refine rNil ?_|refine kNo ?_|refine pRow ?_|refine pBlock ?_|refine pSkip ?_|refine pExit ?_|refine pRet ?_|refine pCond ?_|refine gNone ?_))
    rw [show blks (TkS.mk 0 y bb cc z s3).j y z = y from blks_0 y z] at hb
    subst hb
    refine ldN_is rfl h0 (wds_take rfl) ?_
    (repeat(first|refine pSeq ?_|refine pReg ?_|refine sCons ?_|refine sNil ?_|refine rCons ?_|refine rNil ?_|refine kNo ?_|refine pRow ?_|refine pBlock ?_|refine pSkip ?_|refine pExit ?_|refine pRet ?_|refine pCond ?_|refine gNone ?_))
    refine st_abs (cs' := wdsV (blks m x l).l) rfl rfl h1 (by omega) rfl rfl fun s4 e4 c4 n4 => ?_
    (repeat(first|refine pSeq ?_|refine pReg ?_|refine sCons ?_|refine sNil ?_|refine rCons ?_|refine rNil ?_|refine kNo ?_|refine pRow ?_|refine pBlock ?_|refine pSkip ?_|refine pExit ?_|refine pRet ?_|refine pCond ?_|refine gNone ?_))
    (repeat (first | with_reducible refine sqRet ?_ | with_reducible refine bkRet ?_ | with_reducible refine hdRet ?_))
    exact ret_cell1 agg_W5 sz_W5 rfl e4 (wds_take rfl) ⟨rfl, c0.fresh c4 (by simp)⟩
  · obtain rfl : q = true := by rw [hq]; simp <;> omega
    (repeat(first|refine pSeq ?_|refine pReg ?_|refine sCons ?_|refine sNil ?_|refine rCons ?_|refine rNil ?_|refine kNo ?_|refine pRow ?_|refine pBlock ?_|refine pSkip ?_|refine pExit ?_|refine pRet ?_|refine pCond ?_|refine gNone ?_))
    refine ldN_is rfl h0 (wds_take rfl) ?_
    (repeat(first|refine pSeq ?_|refine pReg ?_|refine sCons ?_|refine sNil ?_|refine rCons ?_|refine rNil ?_|refine kNo ?_|refine pRow ?_|refine pBlock ?_|refine pSkip ?_|refine pExit ?_|refine pRet ?_|refine pCond ?_|refine gNone ?_))
    refine ldN_is rfl h0 (wds_take rfl) ?_
    (repeat(first|refine pSeq ?_|refine pReg ?_|refine sCons ?_|refine sNil ?_|refine rCons ?_|refine rNil ?_|refine kNo ?_|refine pRow ?_|refine pBlock ?_|refine pSkip ?_|refine pExit ?_|refine pRet ?_|refine pCond ?_|refine gNone ?_))
    refine ldN_is rfl e2 pts_take ?_
    (repeat(first|refine pSeq ?_|refine pReg ?_|refine sCons ?_|refine sNil ?_|refine rCons ?_|refine rNil ?_|refine kNo ?_|refine pRow ?_|refine pBlock ?_|refine pSkip ?_|refine pExit ?_|refine pRet ?_|refine pCond ?_|refine gNone ?_))
    refine (spread_w f2 hs (by omega)).mono fun v s4 q => ?_
    obtain ⟨rfl, c4⟩ := q
    have n4 := c4.next
    refine kAll (c4.keep f2) ?_
    (repeat(first|refine pSeq ?_|refine pReg ?_|refine sCons ?_|refine sNil ?_|refine rCons ?_|refine rNil ?_|refine kNo ?_|refine pRow ?_|refine pBlock ?_|refine pSkip ?_|refine pExit ?_|refine pRet ?_|refine pCond ?_|refine gNone ?_))
    refine (turn_w (c4.fine f2) (schd_len z 80)).mono fun v s5 q => ?_
    obtain ⟨rfl, c5⟩ := q
    have n5 := c5.next
    refine kAll (c5.keep (c4.fine f2)) ?_
    (repeat(first|refine pSeq ?_|refine pReg ?_|refine sCons ?_|refine sNil ?_|refine rCons ?_|refine rNil ?_|refine kNo ?_|refine pRow ?_|refine pBlock ?_|refine pSkip ?_|refine pExit ?_|refine pRet ?_|refine pCond ?_|refine gNone ?_))
    refine (addw_w (c5.fine (c4.fine f2))).mono fun v s6 q => ?_
    obtain ⟨rfl, c6⟩ := q
    have n6 := c6.next
    have c46 := (c4.nil c5).nil c6
    have eb : y.add (rnds (schd z 80) 80 y) = blk5 y (z.take 64) := by rw [blk5_eq, schd_64]
    rw [eb]
    generalize hy : blk5 y (z.take 64) = y'
    (repeat(first|refine pSeq ?_|refine pReg ?_|refine sCons ?_|refine sNil ?_|refine rCons ?_|refine rNil ?_|refine kNo ?_|refine pRow ?_|refine pBlock ?_|refine pSkip ?_|refine pExit ?_|refine pRet ?_|refine pCond ?_|refine gNone ?_))
    refine st_abs (cs' := wdsV y'.l) rfl rfl (c46.blk _ _ (by omega) (by simp) h0) (by omega) rfl (W5_lay y y') fun s7 e7 c7 n7 => ?_
    (repeat(first|refine pSeq ?_|refine pReg ?_|refine sCons ?_|refine sNil ?_|refine rCons ?_|refine rNil ?_|refine kNo ?_|refine pRow ?_|refine pBlock ?_|refine pSkip ?_|refine pExit ?_|refine pRet ?_|refine pCond ?_|refine gNone ?_))
    have c37 := c46.trans' (C := [s.next]) c7 (by simp) (by simp)
    have hs7 := hs.chg c37 (fun id h h' => by
      rw [List.mem_singleton] at h'
      have := hid id h
      omega)
    refine slL_same 64 (64 * (j - 1)) rfl rfl rfl hs7 rfl (show 64 + 64 * (j - 1) = 64 * j by omega) (by omega) fun b' c' hs' hb' => ?_
    (repeat(first|refine pSeq ?_|refine pReg ?_|refine sCons ?_|refine sNil ?_|refine rCons ?_|refine rNil ?_|refine kNo ?_|refine pRow ?_|refine pBlock ?_|refine pSkip ?_|refine pExit ?_|refine pRet ?_|refine pCond ?_|refine gNone ?_))
    have ed : (z.drop 64).take (64 * (j - 1)) = z.drop 64 := List.take_of_length_le (by rw [List.length_drop]; omega)
    rw [ed] at hs'
    refine ⟨⟨j - 1, y', b', c', z.drop 64, s7⟩, ⟨by show (z.drop 64).length = 64 * (j - 1); rw [List.length_drop]; omega, ?_, hs', e7, c37.blk _ _ (by omega) (by simp) h1, c37.blk _ _ (by omega) (by simp; omega) e2, fun id h => hid id (hb' id h), c0.fresh c37 (by simp), by show s1.next < s7.next; omega, c37.fine f2⟩, by show j - 1 < j; omega, Wk.same ⟨rfl, rfl, rfl, rfl, trivial⟩⟩
    rw [← hb, ← hy]
    show blks (j - 1) (blk5 y (z.take 64)) (z.drop 64) = blks j y z
    rw [← blks_next, show j - 1 + 1 = j by omega]
end Go.Vf.S

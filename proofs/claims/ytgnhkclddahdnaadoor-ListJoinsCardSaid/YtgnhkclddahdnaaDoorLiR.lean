import Derived.Test.YtgnhkclddahdnaaDoorLiQ
/- Lists of addresses: the law ListJoins, from any state: its front. -/
namespace Go.Vf.S
open Go Go.Vf Go.Proofs Go.RowKit
attribute [local irreducible] wSeq wRow wp wG
set_option linter.unusedVariables false
set_option linter.unusedSimpArgs false
set_option maxRecDepth 10000

theorem sps_up {xs : List Spt} {k i : Nat} {x : Spt} (h : xs[i]? = some x) : (xs.map (upS k))[i]? = some (upS k x) := by rw [List.getElem?_map, h]; rfl

set_option maxHeartbeats 4000000 in
theorem lj_cb {s : SS} {k : Nat} {l1 l2 : List UInt8} {W1 W2 W3 : Option Addr} {cw1 cw2 cw3 : Nat} (hG : Gb s) (hF : Fine s) (hl1 : l1.length ≤ 300) (hl2 : l2.length ≤ 300)
    (o1 : SpO s W1 cw1 (findF l1).1) (o2 : SpO s W2 cw2 (findF l2).1) (o3 : SpO s W3 cw3 (findF (l1 ++ 44 :: l2)).1) :
    W pr 178 k (.seq code_LJ_CB (.seq code_LJ_WA (.seq code_LJ_WB code_LJ_WC))) [(0, str l1), (5, .slice W1 (findF l1).1.length cw1), (6, .int .i64 (findF l1).2), (7, .slice W2 (findF l2).1.length cw2), (8, .int .i64 (findF l2).2), (9, .slice W3 (findF (l1 ++ 44 :: l2)).1.length cw3), (10, .int .i64 (findF (l1 ++ 44 :: l2)).2)] s (runQ pr [.tmp 4] fun v s' => v = .bool true) := by
  have hj := @find_join l1 l2
  have hi1 := find_in l1
  have hi2 := find_in l2
  have hx1 := find_few l1
  have hx2 := find_few l2
  have hx3 := find_few (l1 ++ 44 :: l2)
  have fin : ∀ {s2 : SS}, Chg s s2 [] → W pr 178 k (.seq code_LJ_WA (.seq code_LJ_WB code_LJ_WC)) [(0, str l1), (5, .slice W1 (findF l1).1.length cw1), (6, .int .i64 (findF l1).2)] s2 (runQ pr [.tmp 4] fun v s' => v = .bool true) :=
    fun {s2} c => lj_ab (hG.chg c (by simp)) (c.fine hF) hl1 (o1.chg c (by simp))
  generalize findF (l1 ++ 44 :: l2) = Z at *
  generalize findF l1 = X at *
  generalize findF l2 = Y at *
  obtain ⟨xs, e⟩ := X
  obtain ⟨ys, f⟩ := Y
  obtain ⟨zs, g⟩ := Z
  dsimp only at hj hi1 hi2 hx1 hx2 hx3 o1 o2 o3 fin ⊢
  have fin0 := fun {T : TL} (h : Wk pr 178 k T s [(0, str l1), (5, .slice W1 xs.length cw1), (6, .int .i64 e)] s) => W.weak h (fin (.refl _ _))
  refine W.seq (comp_ok good ok_LJ_CB (Box.out (p := wp pr 178 k _ _ _ _) ?_))
  (repeat(first|refine pSeq ?_|refine pReg ?_|refine sCons ?_|refine sNil ?_|refine rCons ?_|refine rNil ?_|refine kNo ?_|refine pRow ?_|refine pBlock ?_|refine pSkip ?_|refine pExit ?_|refine pRet ?_|refine pCond ?_|refine gNone ?_|refine gOn rfl ?_|refine gOff rfl rfl ?_|refine gTup rfl ?_))
  intro q hq
  by_cases he : e = 0
  · obtain rfl : q = true := by rw [hq, he]; rfl
    (repeat(first|refine pSeq ?_|refine pReg ?_|refine sCons ?_|refine sNil ?_|refine rCons ?_|refine rNil ?_|refine kNo ?_|refine pRow ?_|refine pBlock ?_|refine pSkip ?_|refine pExit ?_|refine pRet ?_|refine pCond ?_|refine gNone ?_|refine gOn rfl ?_|refine gOff rfl rfl ?_|refine gTup rfl ?_))
    intro q hq
    by_cases hf : f = 0
    · obtain rfl : q = true := by rw [hq, hf]; rfl
      (repeat(first|refine pSeq ?_|refine pReg ?_|refine sCons ?_|refine sNil ?_|refine rCons ?_|refine rNil ?_|refine kNo ?_|refine pRow ?_|refine pBlock ?_|refine pSkip ?_|refine pExit ?_|refine pRet ?_|refine pCond ?_|refine gNone ?_|refine gOn rfl ?_|refine gOff rfl rfl ?_|refine gTup rfl ?_))
      intro z hz
      rw [i64_id (by omega)] at hz
      (repeat(first|refine pSeq ?_|refine pReg ?_|refine sCons ?_|refine sNil ?_|refine rCons ?_|refine rNil ?_|refine kNo ?_|refine pRow ?_|refine pBlock ?_|refine pSkip ?_|refine pExit ?_|refine pRet ?_|refine pCond ?_|refine gNone ?_|refine gOn rfl ?_|refine gOff rfl rfl ?_|refine gTup rfl ?_))
      intro q hq
      by_cases hn : xs.length + ys.length ≤ 64
      · obtain rfl : q = true := by rw [hq, hz]; simp; omega
        have hj := hj he hf hn
        have hg : g = 0 := (Prod.ext_iff.1 hj).2
        have hzs : zs = xs ++ ys.map (upS (l1.length + 1)) := (Prod.ext_iff.1 hj).1
        have hzl : zs.length = xs.length + ys.length := by rw [hzs, List.length_append, List.length_map]
        (repeat(first|refine pSeq ?_|refine pReg ?_|refine sCons ?_|refine sNil ?_|refine rCons ?_|refine rNil ?_|refine kNo ?_|refine pRow ?_|refine pBlock ?_|refine pSkip ?_|refine pExit ?_|refine pRet ?_|refine pCond ?_|refine gNone ?_|refine gOn rfl ?_|refine gOff rfl rfl ?_|refine gTup rfl ?_))
        intro q hq
        obtain rfl : q = false := by rw [hq, hg]; rfl
        (repeat(first|refine pSeq ?_|refine pReg ?_|refine sCons ?_|refine sNil ?_|refine rCons ?_|refine rNil ?_|refine kNo ?_|refine pRow ?_|refine pBlock ?_|refine pSkip ?_|refine pExit ?_|refine pRet ?_|refine pCond ?_|refine gNone ?_|refine gOn rfl ?_|refine gOff rfl rfl ?_|refine gTup rfl ?_))
        intro z2 hz2
        rw [i64_id (by omega)] at hz2
        (repeat(first|refine pSeq ?_|refine pReg ?_|refine sCons ?_|refine sNil ?_|refine rCons ?_|refine rNil ?_|refine kNo ?_|refine pRow ?_|refine pBlock ?_|refine pSkip ?_|refine pExit ?_|refine pRet ?_|refine pCond ?_|refine gNone ?_|refine gOn rfl ?_|refine gOff rfl rfl ?_|refine gTup rfl ?_))
        intro q hq
        obtain rfl : q = false := by rw [hq, hz2, hzl]; simp
        (repeat(first|refine pSeq ?_|refine pReg ?_|refine sCons ?_|refine sNil ?_|refine rCons ?_|refine rNil ?_|refine kNo ?_|refine pRow ?_|refine pBlock ?_|refine pSkip ?_|refine pExit ?_|refine pRet ?_|refine pCond ?_|refine gNone ?_|refine gOn rfl ?_|refine gOff rfl rfl ?_|refine gTup rfl ?_))
        refine pLoop (MW.head good (fun x : Nat × SS => zs.length - x.1) (fun x => x.1 ≤ zs.length ∧ Chg s x.2 []) (fun x => [(0, str l1), (5, .slice W1 xs.length cw1), (6, .int .i64 e), (7, .slice W2 ys.length cw2), (72, .slice W3 zs.length cw3), (73, .int .i64 (zs.length : Nat)), (74, .int .i64 x.1)]) (fun x => x.2) (0, s) ⟨Nat.zero_le _, .refl _ _⟩ (Wk.same ⟨rfl, rfl, rfl, rfl, rfl, rfl, rfl, trivial⟩) ?_)
        intro ⟨i, s1⟩ ⟨hi, c1⟩
        dsimp only at hi c1 ⊢
        replace o1 := o1.chg c1 (by simp)
        replace o2 := o2.chg c1 (by simp)
        replace o3 := o3.chg c1 (by simp)
        (repeat(first|refine pSeq ?_|refine pReg ?_|refine sCons ?_|refine sNil ?_|refine rCons ?_|refine rNil ?_|refine kNo ?_|refine pRow ?_|refine pBlock ?_|refine pSkip ?_|refine pExit ?_|refine pRet ?_|refine pCond ?_|refine gNone ?_|refine gOn rfl ?_|refine gOff rfl rfl ?_|refine gTup rfl ?_))
        intro q hq
        by_cases hlt : i < zs.length
        · obtain rfl : q = true := by rw [hq]; simp <;> omega
          obtain ⟨y, hy⟩ : ∃ y, zs[i]? = some y := ⟨_, List.getElem?_eq_getElem hlt⟩
          obtain ⟨b3, g3, rfl, k3⟩ := o3.pos (by omega)
          (repeat(first|refine pSeq ?_|refine pReg ?_|refine sCons ?_|refine sNil ?_|refine rCons ?_|refine rNil ?_|refine kNo ?_|refine pRow ?_|refine pBlock ?_|refine pSkip ?_|refine pExit ?_|refine pRet ?_|refine pCond ?_|refine gNone ?_|refine gOn rfl ?_|refine gOff rfl rfl ?_|refine gTup rfl ?_))
          refine ⟨by omega, ?_⟩
          intro m hm o ho
          obtain rfl : m = i := by omega
          rw [Nat.zero_add] at ho
          subst ho
          (repeat(first|refine pSeq ?_|refine pReg ?_|refine sCons ?_|refine sNil ?_|refine rCons ?_|refine rNil ?_|refine kNo ?_|refine pRow ?_|refine pBlock ?_|refine pSkip ?_|refine pExit ?_|refine pRet ?_|refine pCond ?_|refine gNone ?_|refine gOn rfl ?_|refine gOff rfl rfl ?_|refine gTup rfl ?_))
          refine ldN_is rfl k3 (sps_take hy) ?_
          (repeat(first|refine pSeq ?_|refine pReg ?_|refine sCons ?_|refine sNil ?_|refine rCons ?_|refine rNil ?_|refine kNo ?_|refine pRow ?_|refine pBlock ?_|refine pSkip ?_|refine pExit ?_|refine pRet ?_|refine pCond ?_|refine gNone ?_|refine gOn rfl ?_|refine gOff rfl rfl ?_|refine gTup rfl ?_))
          refine st_abs (cs' := spC y) rfl rfl lkH (Nat.lt_succ_self _) rfl rfl fun s2 e2 c2 n2 => ?_
          have c12 : Chg s1 s2 [] := (Chg.new []).fresh c2 (by simp)
          have e2 : lookH s2.heap s1.next = some (.cells (spC y) tSp false false) := e2
          have n2 : s2.next = s1.next + 1 := n2
          replace o1 := o1.chg c12 (by simp)
          replace o2 := o2.chg c12 (by simp)
          (repeat(first|refine pSeq ?_|refine pReg ?_|refine sCons ?_|refine sNil ?_|refine rCons ?_|refine rNil ?_|refine kNo ?_|refine pRow ?_|refine pBlock ?_|refine pSkip ?_|refine pExit ?_|refine pRet ?_|refine pCond ?_|refine gNone ?_|refine gOn rfl ?_|refine gOff rfl rfl ?_|refine gTup rfl ?_))
          intro q hq
          by_cases hlx : m < xs.length
          · obtain rfl : q = true := by rw [hq]; simp; omega
            obtain ⟨x, hxx⟩ : ∃ x, xs[m]? = some x := ⟨_, List.getElem?_eq_getElem hlx⟩
            have hyx : y = x := by
              rw [hzs, List.getElem?_append_left hlx, hxx] at hy
              exact (Option.some.inj hy).symm
            obtain ⟨b1, g1, rfl, k1⟩ := o1.pos (by omega)
            (repeat(first|refine pSeq ?_|refine pReg ?_|refine sCons ?_|refine sNil ?_|refine rCons ?_|refine rNil ?_|refine kNo ?_|refine pRow ?_|refine pBlock ?_|refine pSkip ?_|refine pExit ?_|refine pRet ?_|refine pCond ?_|refine gNone ?_|refine gOn rfl ?_|refine gOff rfl rfl ?_|refine gTup rfl ?_))
            refine ldN_is rfl e2 (agg4 y) ?_
            (repeat(first|refine pSeq ?_|refine pReg ?_|refine sCons ?_|refine sNil ?_|refine rCons ?_|refine rNil ?_|refine kNo ?_|refine pRow ?_|refine pBlock ?_|refine pSkip ?_|refine pExit ?_|refine pRet ?_|refine pCond ?_|refine gNone ?_|refine gOn rfl ?_|refine gOff rfl rfl ?_|refine gTup rfl ?_))
            refine ⟨by omega, ?_⟩
            intro m2 hm2 o ho
            obtain rfl : m2 = m := by omega
            rw [Nat.zero_add] at ho
            subst ho
            (repeat(first|refine pSeq ?_|refine pReg ?_|refine sCons ?_|refine sNil ?_|refine rCons ?_|refine rNil ?_|refine kNo ?_|refine pRow ?_|refine pBlock ?_|refine pSkip ?_|refine pExit ?_|refine pRet ?_|refine pCond ?_|refine gNone ?_|refine gOn rfl ?_|refine gOff rfl rfl ?_|refine gTup rfl ?_))
            refine ldN_is rfl k1 (sps_take hxx) ?_
            (repeat(first|refine pSeq ?_|refine pReg ?_|refine sCons ?_|refine sNil ?_|refine rCons ?_|refine rNil ?_|refine kNo ?_|refine pRow ?_|refine pBlock ?_|refine pSkip ?_|refine pExit ?_|refine pRet ?_|refine pCond ?_|refine gNone ?_|refine gOn rfl ?_|refine gOff rfl rfl ?_|refine gTup rfl ?_))
            intro q hq
            obtain rfl : q = false := by rw [hq, hyx]; simp
            (repeat(first|refine pSeq ?_|refine pReg ?_|refine sCons ?_|refine sNil ?_|refine rCons ?_|refine rNil ?_|refine kNo ?_|refine pRow ?_|refine pBlock ?_|refine pSkip ?_|refine pExit ?_|refine pRet ?_|refine pCond ?_|refine gNone ?_|refine gOn rfl ?_|refine gOff rfl rfl ?_|refine gTup rfl ?_))
            intro q hq
            obtain rfl : q = false := by rw [hq]; simp; omega
            (repeat(first|refine pSeq ?_|refine pReg ?_|refine sCons ?_|refine sNil ?_|refine rCons ?_|refine rNil ?_|refine kNo ?_|refine pRow ?_|refine pBlock ?_|refine pSkip ?_|refine pExit ?_|refine pRet ?_|refine pCond ?_|refine gNone ?_|refine gOn rfl ?_|refine gOff rfl rfl ?_|refine gTup rfl ?_))
            intro z hz
            rw [i64_id (by omega)] at hz
            obtain rfl : z = ((m2 + 1 : Nat) : Int) := by omega
            (repeat(first|refine pSeq ?_|refine pReg ?_|refine sCons ?_|refine sNil ?_|refine rCons ?_|refine rNil ?_|refine kNo ?_|refine pRow ?_|refine pBlock ?_|refine pSkip ?_|refine pExit ?_|refine pRet ?_|refine pCond ?_|refine gNone ?_|refine gOn rfl ?_|refine gOff rfl rfl ?_|refine gTup rfl ?_))
            exact ⟨(m2 + 1, s2), ⟨hlt, c1.nil c12⟩, by show zs.length - (m2 + 1) < zs.length - m2; omega, Wk.same ⟨rfl, rfl, rfl, rfl, rfl, rfl, rfl, trivial⟩⟩
          · obtain rfl : q = false := by rw [hq]; simp; omega
            obtain ⟨x, hxx⟩ : ∃ x, ys[m - xs.length]? = some x := ⟨_, List.getElem?_eq_getElem (by omega)⟩
            have hyx : y = upS (l1.length + 1) x := by
              rw [hzs, List.getElem?_append_right (by omega), sps_up hxx] at hy
              exact (Option.some.inj hy).symm
            have hxi := hi2 x (List.mem_of_getElem? hxx)
            obtain ⟨b2, g2, rfl, k2⟩ := o2.pos (by omega)
            (repeat(first|refine pSeq ?_|refine pReg ?_|refine sCons ?_|refine sNil ?_|refine rCons ?_|refine rNil ?_|refine kNo ?_|refine pRow ?_|refine pBlock ?_|refine pSkip ?_|refine pExit ?_|refine pRet ?_|refine pCond ?_|refine gNone ?_|refine gOn rfl ?_|refine gOff rfl rfl ?_|refine gTup rfl ?_))
            intro q hq
            obtain rfl : q = true := by rw [hq]; simp; omega
            (repeat(first|refine pSeq ?_|refine pReg ?_|refine sCons ?_|refine sNil ?_|refine rCons ?_|refine rNil ?_|refine kNo ?_|refine pRow ?_|refine pBlock ?_|refine pSkip ?_|refine pExit ?_|refine pRet ?_|refine pCond ?_|refine gNone ?_|refine gOn rfl ?_|refine gOff rfl rfl ?_|refine gTup rfl ?_))
            intro z hz
            rw [i64_id (by omega)] at hz
            obtain rfl : z = ((m - xs.length : Nat) : Int) := by omega
            (repeat(first|refine pSeq ?_|refine pReg ?_|refine sCons ?_|refine sNil ?_|refine rCons ?_|refine rNil ?_|refine kNo ?_|refine pRow ?_|refine pBlock ?_|refine pSkip ?_|refine pExit ?_|refine pRet ?_|refine pCond ?_|refine gNone ?_|refine gOn rfl ?_|refine gOff rfl rfl ?_|refine gTup rfl ?_))
            refine ⟨by omega, ?_⟩
            intro m2 hm2 o ho
            obtain rfl : m2 = m - xs.length := by omega
            rw [Nat.zero_add] at ho
            subst ho
            (repeat(first|refine pSeq ?_|refine pReg ?_|refine sCons ?_|refine sNil ?_|refine rCons ?_|refine rNil ?_|refine kNo ?_|refine pRow ?_|refine pBlock ?_|refine pSkip ?_|refine pExit ?_|refine pRet ?_|refine pCond ?_|refine gNone ?_|refine gOn rfl ?_|refine gOff rfl rfl ?_|refine gTup rfl ?_))
            refine ldN_is rfl k2 (sps_take hxx) ?_
            (repeat(first|refine pSeq ?_|refine pReg ?_|refine sCons ?_|refine sNil ?_|refine rCons ?_|refine rNil ?_|refine kNo ?_|refine pRow ?_|refine pBlock ?_|refine pSkip ?_|refine pExit ?_|refine pRet ?_|refine pCond ?_|refine gNone ?_|refine gOn rfl ?_|refine gOff rfl rfl ?_|refine gTup rfl ?_))
            refine st_abs (cs' := spC x) rfl rfl lkH (Nat.lt_succ_self _) rfl rfl fun s3 e3 c3 n3 => ?_
            have c23 : Chg s2 s3 [] := (Chg.new []).fresh c3 (by simp)
            have e3 : lookH s3.heap s2.next = some (.cells (spC x) tSp false false) := e3
            have k2' := c23.blk _ _ (by omega) (by simp) e2
            (repeat(first|refine pSeq ?_|refine pReg ?_|refine sCons ?_|refine sNil ?_|refine rCons ?_|refine rNil ?_|refine kNo ?_|refine pRow ?_|refine pBlock ?_|refine pSkip ?_|refine pExit ?_|refine pRet ?_|refine pCond ?_|refine gNone ?_|refine gOn rfl ?_|refine gOff rfl rfl ?_|refine gTup rfl ?_))
            refine ldN_is rfl k2' (agg4 y) ?_
            (repeat(first|refine pSeq ?_|refine pReg ?_|refine sCons ?_|refine sNil ?_|refine rCons ?_|refine rNil ?_|refine kNo ?_|refine pRow ?_|refine pBlock ?_|refine pSkip ?_|refine pExit ?_|refine pRet ?_|refine pCond ?_|refine gNone ?_|refine gOn rfl ?_|refine gOff rfl rfl ?_|refine gTup rfl ?_))
            refine ldI_is rfl e3 rfl ?_
            (repeat(first|refine pSeq ?_|refine pReg ?_|refine sCons ?_|refine sNil ?_|refine rCons ?_|refine rNil ?_|refine kNo ?_|refine pRow ?_|refine pBlock ?_|refine pSkip ?_|refine pExit ?_|refine pRet ?_|refine pCond ?_|refine gNone ?_|refine gOn rfl ?_|refine gOff rfl rfl ?_|refine gTup rfl ?_))
            intro n hn
            (repeat(first|refine pSeq ?_|refine pReg ?_|refine sCons ?_|refine sNil ?_|refine rCons ?_|refine rNil ?_|refine kNo ?_|refine pRow ?_|refine pBlock ?_|refine pSkip ?_|refine pExit ?_|refine pRet ?_|refine pCond ?_|refine gNone ?_|refine gOn rfl ?_|refine gOff rfl rfl ?_|refine gTup rfl ?_))
            intro z hz
            rw [i64_id (by omega)] at hz
            (repeat(first|refine pSeq ?_|refine pReg ?_|refine sCons ?_|refine sNil ?_|refine rCons ?_|refine rNil ?_|refine kNo ?_|refine pRow ?_|refine pBlock ?_|refine pSkip ?_|refine pExit ?_|refine pRet ?_|refine pCond ?_|refine gNone ?_|refine gOn rfl ?_|refine gOff rfl rfl ?_|refine gTup rfl ?_))
            intro z2 hz2
            rw [i64_id (by omega)] at hz2
            (repeat(first|refine pSeq ?_|refine pReg ?_|refine sCons ?_|refine sNil ?_|refine rCons ?_|refine rNil ?_|refine kNo ?_|refine pRow ?_|refine pBlock ?_|refine pSkip ?_|refine pExit ?_|refine pRet ?_|refine pCond ?_|refine gNone ?_|refine gOn rfl ?_|refine gOff rfl rfl ?_|refine gTup rfl ?_))
            refine ldI_is rfl e3 rfl ?_
            (repeat(first|refine pSeq ?_|refine pReg ?_|refine sCons ?_|refine sNil ?_|refine rCons ?_|refine rNil ?_|refine kNo ?_|refine pRow ?_|refine pBlock ?_|refine pSkip ?_|refine pExit ?_|refine pRet ?_|refine pCond ?_|refine gNone ?_|refine gOn rfl ?_|refine gOff rfl rfl ?_|refine gTup rfl ?_))
            intro n2 hn2
            (repeat(first|refine pSeq ?_|refine pReg ?_|refine sCons ?_|refine sNil ?_|refine rCons ?_|refine rNil ?_|refine kNo ?_|refine pRow ?_|refine pBlock ?_|refine pSkip ?_|refine pExit ?_|refine pRet ?_|refine pCond ?_|refine gNone ?_|refine gOn rfl ?_|refine gOff rfl rfl ?_|refine gTup rfl ?_))
            intro z3 hz3
            rw [i64_id (by omega)] at hz3
            (repeat(first|refine pSeq ?_|refine pReg ?_|refine sCons ?_|refine sNil ?_|refine rCons ?_|refine rNil ?_|refine kNo ?_|refine pRow ?_|refine pBlock ?_|refine pSkip ?_|refine pExit ?_|refine pRet ?_|refine pCond ?_|refine gNone ?_|refine gOn rfl ?_|refine gOff rfl rfl ?_|refine gTup rfl ?_))
            intro z4 hz4
            rw [i64_id (by omega)] at hz4
            (repeat(first|refine pSeq ?_|refine pReg ?_|refine sCons ?_|refine sNil ?_|refine rCons ?_|refine rNil ?_|refine kNo ?_|refine pRow ?_|refine pBlock ?_|refine pSkip ?_|refine pExit ?_|refine pRet ?_|refine pCond ?_|refine gNone ?_|refine gOn rfl ?_|refine gOff rfl rfl ?_|refine gTup rfl ?_))
            refine ldN_is rfl e3 rfl ?_
            (repeat(first|refine pSeq ?_|refine pReg ?_|refine sCons ?_|refine sNil ?_|refine rCons ?_|refine rNil ?_|refine kNo ?_|refine pRow ?_|refine pBlock ?_|refine pSkip ?_|refine pExit ?_|refine pRet ?_|refine pCond ?_|refine gNone ?_|refine gOn rfl ?_|refine gOff rfl rfl ?_|refine gTup rfl ?_))
            intro q hq
            obtain rfl : q = false := by
              have a1 : z2 = ((x.f + (l1.length + 1) : Nat) : Int) := by omega
              have a2 : z4 = ((x.t + (l1.length + 1) : Nat) : Int) := by omega
              rw [hq, hyx, a1, a2]
              simp [upS]
            (repeat(first|refine pSeq ?_|refine pReg ?_|refine sCons ?_|refine sNil ?_|refine rCons ?_|refine rNil ?_|refine kNo ?_|refine pRow ?_|refine pBlock ?_|refine pSkip ?_|refine pExit ?_|refine pRet ?_|refine pCond ?_|refine gNone ?_|refine gOn rfl ?_|refine gOff rfl rfl ?_|refine gTup rfl ?_))
            intro z hz
            rw [i64_id (by omega)] at hz
            obtain rfl : z = ((m + 1 : Nat) : Int) := by omega
            (repeat(first|refine pSeq ?_|refine pReg ?_|refine sCons ?_|refine sNil ?_|refine rCons ?_|refine rNil ?_|refine kNo ?_|refine pRow ?_|refine pBlock ?_|refine pSkip ?_|refine pExit ?_|refine pRet ?_|refine pCond ?_|refine gNone ?_|refine gOn rfl ?_|refine gOff rfl rfl ?_|refine gTup rfl ?_))
            exact ⟨(m + 1, s3), ⟨hlt, (c1.nil c12).nil c23⟩, by show zs.length - (m + 1) < zs.length - m; omega, Wk.same ⟨rfl, rfl, rfl, rfl, rfl, rfl, rfl, trivial⟩⟩
        · obtain rfl : q = false := by rw [hq]; simp <;> omega
          (repeat(first|refine pSeq ?_|refine pReg ?_|refine sCons ?_|refine sNil ?_|refine rCons ?_|refine rNil ?_|refine kNo ?_|refine pRow ?_|refine pBlock ?_|refine pSkip ?_|refine pExit ?_|refine pRet ?_|refine pCond ?_|refine gNone ?_|refine gOn rfl ?_|refine gOff rfl rfl ?_|refine gTup rfl ?_))
          show W pr 178 k (.seq code_LJ_WA (.seq code_LJ_WB code_LJ_WC)) _ _ _
          exact W.weak (k := k) (T' := [(0, str l1), (5, .slice W1 xs.length cw1), (6, .int .i64 e)]) (s' := s1) (Wk.same ⟨rfl, rfl, rfl, trivial⟩) (fin c1)
      · obtain rfl : q = false := by rw [hq, hz]; simp; omega
        (repeat(first|refine pSeq ?_|refine pReg ?_|refine sCons ?_|refine sNil ?_|refine rCons ?_|refine rNil ?_|refine kNo ?_|refine pRow ?_|refine pBlock ?_|refine pSkip ?_|refine pExit ?_|refine pRet ?_|refine pCond ?_|refine gNone ?_|refine gOn rfl ?_|refine gOff rfl rfl ?_|refine gTup rfl ?_))
        show W pr 178 k (.seq code_LJ_WA (.seq code_LJ_WB code_LJ_WC)) _ _ _
        exact fin0 (Wk.same ⟨rfl, rfl, rfl, trivial⟩)
    · obtain rfl : q = false := by rw [hq]; simp; omega
      (repeat(first|refine pSeq ?_|refine pReg ?_|refine sCons ?_|refine sNil ?_|refine rCons ?_|refine rNil ?_|refine kNo ?_|refine pRow ?_|refine pBlock ?_|refine pSkip ?_|refine pExit ?_|refine pRet ?_|refine pCond ?_|refine gNone ?_|refine gOn rfl ?_|refine gOff rfl rfl ?_|refine gTup rfl ?_))
      show W pr 178 k (.seq code_LJ_WA (.seq code_LJ_WB code_LJ_WC)) _ _ _
      exact fin0 (Wk.same ⟨rfl, rfl, rfl, trivial⟩)
  · obtain rfl : q = false := by rw [hq]; simp; omega
    (repeat(first|refine pSeq ?_|refine pReg ?_|refine sCons ?_|refine sNil ?_|refine rCons ?_|refine rNil ?_|refine kNo ?_|refine pRow ?_|refine pBlock ?_|refine pSkip ?_|refine pExit ?_|refine pRet ?_|refine pCond ?_|refine gNone ?_|refine gOn rfl ?_|refine gOff rfl rfl ?_|refine gTup rfl ?_))
    show W pr 178 k (.seq code_LJ_WA (.seq code_LJ_WB code_LJ_WC)) _ _ _
    exact fin0 (Wk.same ⟨rfl, rfl, rfl, trivial⟩)

set_option maxHeartbeats 2000000 in
theorem ljoins_w {s : SS} {a b : List UInt8} (hG : Gb s) (hF : Fine s) : CallW pr n_law08_ListJoins [str a, str b] s fun v s' => v = .bool true := by
  refine CallW.pieces (nt := 178) (res := [.tmp 4]) (c := .seq code_LJ_R0 (.seq code_LJ_R1 (.seq code_LJ_R2 (.seq code_LJ_R3 (.seq code_LJ_R4 (.seq code_LJ_CB (.seq code_LJ_WA (.seq code_LJ_WB code_LJ_WC)))))))) (by kernel_rfl) (by kernel_rfl) (by kernel_rfl) (by kernel_rfl) (by simp) ?_
  refine W.seq (comp_ok good ok_LJ_R0 (Box.out (p := wp pr 178 s.next _ _ _ _) ?_))
  (repeat(first|refine pReg ?_|refine sCons ?_|refine sNil ?_|refine rCons ?_|refine rNil ?_|refine kNo ?_|refine pRow ?_|refine gNone ?_))
  show W pr 178 s.next _ _ _ _
  refine W.seq (comp_ok good ok_LJ_R1 (Box.out (p := wp pr 178 s.next _ _ _ _) ?_))
  (repeat(first|refine pReg ?_|refine sCons ?_|refine sNil ?_|refine rCons ?_|refine rNil ?_|refine kNo ?_|refine pRow ?_|refine gNone ?_))
  intro n hn
  (repeat(first|refine pReg ?_|refine sCons ?_|refine sNil ?_|refine rCons ?_|refine rNil ?_|refine kNo ?_|refine pRow ?_|refine gNone ?_))
  intro z hz
  (repeat(first|refine pReg ?_|refine sCons ?_|refine sNil ?_|refine rCons ?_|refine rNil ?_|refine kNo ?_|refine pRow ?_|refine gNone ?_))
  refine ⟨by omega, ?_⟩
  intro m hm l1 h1
  have hl1 : l1.length ≤ 300 := few_str h1 (by omega)
  (repeat(first|refine pReg ?_|refine sCons ?_|refine sNil ?_|refine rCons ?_|refine rNil ?_|refine kNo ?_|refine pRow ?_|refine gNone ?_))
  intro n2 hn2
  (repeat(first|refine pReg ?_|refine sCons ?_|refine sNil ?_|refine rCons ?_|refine rNil ?_|refine kNo ?_|refine pRow ?_|refine gNone ?_))
  intro z2 hz2
  (repeat(first|refine pReg ?_|refine sCons ?_|refine sNil ?_|refine rCons ?_|refine rNil ?_|refine kNo ?_|refine pRow ?_|refine gNone ?_))
  refine ⟨by omega, ?_⟩
  intro m2 hm2 l2 h2
  have hl2 : l2.length ≤ 300 := few_str h2 (by omega)
  clear h1 h2 hm hm2 hz hz2 hn hn2
  (repeat(first|refine pReg ?_|refine sCons ?_|refine sNil ?_|refine rCons ?_|refine rNil ?_|refine kNo ?_|refine pRow ?_|refine gNone ?_))
  show W pr 178 s.next _ _ _ _
  refine W.weak (k := s.next) (T' := [(0, str l1), (1, str l2)]) (s' := s) (Wk.same ⟨rfl, rfl, trivial⟩) ?_
  refine W.seq (comp_ok good ok_LJ_R2 (Box.out (p := wp pr 178 s.next _ _ _ _) ?_))
  (repeat(first|refine pReg ?_|refine sCons ?_|refine sNil ?_|refine rCons ?_|refine rNil ?_|refine kNo ?_|refine pRow ?_|refine gNone ?_))
  refine (find_w hF hG (by omega)).mono fun v s1 q => ?_
  obtain ⟨W1, cw1, rfl, o1, c1, -⟩ := q
  (repeat(first|refine pReg ?_|refine sCons ?_|refine sNil ?_|refine rCons ?_|refine rNil ?_|refine kNo ?_|refine pRow ?_|refine gNone ?_))
  show W pr 178 s.next _ _ _ _
  refine W.seq (comp_ok good ok_LJ_R3 (Box.out (p := wp pr 178 s.next _ _ _ _) ?_))
  (repeat(first|refine pReg ?_|refine sCons ?_|refine sNil ?_|refine rCons ?_|refine rNil ?_|refine kNo ?_|refine pRow ?_|refine gNone ?_))
  refine (find_w (c1.fine hF) (hG.chg c1 (by simp)) (by omega)).mono fun v s2 q => ?_
  obtain ⟨W2, cw2, rfl, o2, c2, -⟩ := q
  replace o1 := o1.chg c2 (by simp)
  have c12 := c1.nil c2
  (repeat(first|refine pReg ?_|refine sCons ?_|refine sNil ?_|refine rCons ?_|refine rNil ?_|refine kNo ?_|refine pRow ?_|refine gNone ?_))
  show W pr 178 s.next _ _ _ _
  refine W.seq (comp_ok good ok_LJ_R4 (Box.out (p := wp pr 178 s.next _ _ _ _) ?_))
  (repeat(first|refine pReg ?_|refine sCons ?_|refine sNil ?_|refine rCons ?_|refine rNil ?_|refine kNo ?_|refine pRow ?_|refine gNone ?_))
  refine ⟨by simp; omega, ?_⟩
  intro w1 hw1
  subst hw1
  (repeat(first|refine pReg ?_|refine sCons ?_|refine sNil ?_|refine rCons ?_|refine rNil ?_|refine kNo ?_|refine pRow ?_|refine gNone ?_))
  refine ⟨by simp; omega, ?_⟩
  intro w2 hw2
  obtain rfl : w2 = l1 ++ 44 :: l2 := by rw [hw2]; simp
  clear hw2
  (repeat(first|refine pReg ?_|refine sCons ?_|refine sNil ?_|refine rCons ?_|refine rNil ?_|refine kNo ?_|refine pRow ?_|refine gNone ?_))
  refine (find_w (c12.fine hF) (hG.chg c12 (by simp)) (by simp; omega)).mono fun v s3 q => ?_
  obtain ⟨W3, cw3, rfl, o3, c3, -⟩ := q
  replace o1 := o1.chg c3 (by simp)
  replace o2 := o2.chg c3 (by simp)
  have c13 := c12.nil c3
  (repeat(first|refine pReg ?_|refine sCons ?_|refine sNil ?_|refine rCons ?_|refine rNil ?_|refine kNo ?_|refine pRow ?_|refine gNone ?_))
  show W pr 178 s.next _ _ _ _
  refine W.weak (k := s.next) (T' := [(0, str l1), (5, .slice W1 (findF l1).1.length cw1), (6, .int .i64 (findF l1).2), (7, .slice W2 (findF l2).1.length cw2), (8, .int .i64 (findF l2).2), (9, .slice W3 (findF (l1 ++ 44 :: l2)).1.length cw3), (10, .int .i64 (findF (l1 ++ 44 :: l2)).2)]) (s' := s3) (Wk.same ⟨rfl, rfl, rfl, rfl, rfl, rfl, rfl, trivial⟩) ?_
  exact lj_cb (hG.chg c13 (by simp)) (c13.fine hF) hl1 hl2 o1 o2 o3
end Go.Vf.S

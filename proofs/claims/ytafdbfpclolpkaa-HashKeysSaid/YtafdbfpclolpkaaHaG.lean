import Derived.Test.YtafdbfpclolpkaaHaF
/- The rounds of a block; blocks. -/
namespace Go.Vf.S
open Go Go.Vf
attribute [local irreducible] wSeq wRow wp wG schd rnds
set_option linter.unusedVariables false
set_option linter.unusedSimpArgs false
set_option maxRecDepth 10000

abbrev tPt : TypeId := 51
abbrev tP4 : TypeId := 52
theorem agg_P4 : aggB pr tP4 = some true := by kernel_rfl
theorem sz_P4 : sizeB pr tP4 = some 8 := by kernel_rfl
abbrev fnV (n : Nat) : Value := .func (.func n) #[] #[]
def ptsL : List Value := [fnV n_hash_choice, wv 0x5a827999, fnV n_hash_oddness, wv 0x6ed9eba1, fnV n_hash_majority, wv 0x8f1bbcdc, fnV n_hash_oddness, wv 0xca62c1d6]
theorem pts_take : takeN 8 (ptsL.drop 0) = some ptsL := rfl

theorem parts_w {s : SS} (f : Fine s) : CallW pr n_hash_parts [] s fun v s' => v = .agg ⟨ptsL⟩ ∧ Chg s s' [] := by
  refine CallW.run good ok_hash_parts (by simp) rfl ?_
  (repeat(first|refine pSeq ?_|refine pReg ?_|refine sCons ?_|refine sNil ?_|refine pRet ?_|refine gNone ?_))
  refine st_abs (cs' := ptsL) rfl rfl lkH (Nat.lt_succ_self _) rfl rfl fun s1 e1 c1 n1 => ?_
  (repeat(first|refine pSeq ?_|refine pReg ?_|refine sCons ?_|refine sNil ?_|refine pRet ?_|refine gNone ?_))
  (repeat (first | with_reducible refine sqRet ?_ | with_reducible refine bkRet ?_ | with_reducible refine hdRet ?_))
  exact ret_cell1 agg_P4 sz_P4 rfl e1 pts_take ⟨rfl, (Chg.new []).fresh c1 (by simp)⟩

/-- Which f is asked. -/
def fOf (q : Nat) : Nat := if q = 0 then n_hash_choice else if q = 2 then n_hash_majority else n_hash_oddness
theorem pts_cut {q : Nat} (h : q < 4) (t : Nat) (ht : t / 20 = q) : takeN 2 (ptsL.drop (q * 2)) = some [fnV (fOf q), wv (kT t)] := by
  match q, h with
  | 0, _ => unfold kT; rw [if_pos (by omega)]; rfl
  | 1, _ => unfold kT; rw [if_neg (by omega), if_pos (by omega)]; rfl
  | 2, _ => unfold kT; rw [if_neg (by omega), if_neg (by omega), if_pos (by omega)]; rfl
  | 3, _ => unfold kT; rw [if_neg (by omega), if_neg (by omega), if_neg (by omega)]; rfl
theorem f_w {s : SS} {b c d : Wd} {q : Nat} (h : q < 4) (t : Nat) (ht : t / 20 = q) : CallW pr (fOf q) [wv b, wv c, wv d] s fun v s' => v = wv (fT t b c d) ∧ s' = s := by
  match q, h with
  | 0, _ => unfold fT; rw [if_pos (by omega)]; exact choice_w
  | 1, _ => unfold fT; rw [if_neg (by omega), if_pos (by omega)]; exact odd_w
  | 2, _ => unfold fT; rw [if_neg (by omega), if_neg (by omega), if_pos (by omega)]; exact maj_w
  | 3, _ => unfold fT; rw [if_neg (by omega), if_neg (by omega), if_neg (by omega)]; exact odd_w

abbrev tU32 : TypeId := 34
theorem un_W80 : pr.underlying tW80 = some (.array 80 tU32) := by kernel_rfl
theorem sz_U32 : sizeB pr tU32 = some 1 := by kernel_rfl
theorem agg_U32 : aggB pr tU32 = some false := by kernel_rfl
/-- A thing of an array that is a value. -/
theorem gen_ix {T : TL} {s : SS} {K : RR → Prop} {t elem : TypeId} {len : Nat} {x i : Tmp} {cs : List Value} {k : IntKind} {n : Nat} {v : Value} (hu : pr.underlying t = some (.array len elem)) (hz : sizeB pr elem = some 1) (ha : aggB pr elem = some false)
    (hx : look T x = some (.agg ⟨cs⟩)) (hi : look T i = some (.int k (n : Int))) (hn : n < len) (hv : cs[n]? = some v) (h : K (.val v)) : wN pr (.gen (.index t (.tmp x) (.tmp i))) T s K := by
  refine ⟨.val v, ?_, h⟩
  have e : idx (.int k (n : Int)) len = some n := by
    show (bif Nat.blt n len then some n else none) = _
    rw [show Nat.blt n len = true from by rw [Nat.blt_eq]; exact hn]; rfl
  simp only [aOp, operand, toTr_get, hx, hi, hu, e, hz, partB, ha, Nat.mul_one, hv]
  rfl
theorem f_call {q : Nat} (h : q < 4) (vs : List Value) : callV pr (fnV (fOf q)) vs = some (.enter (fOf q) ([] ++ vs ++ [])) := by
  match q, h with
  | 0, _ => exact (show callV pr (fnV n_hash_choice) vs = some (.enter n_hash_choice ([] ++ vs ++ [])) by kernel_rfl)
  | 1, _ => exact (show callV pr (fnV n_hash_oddness) vs = some (.enter n_hash_oddness ([] ++ vs ++ [])) by kernel_rfl)
  | 2, _ => exact (show callV pr (fnV n_hash_majority) vs = some (.enter n_hash_majority ([] ++ vs ++ [])) by kernel_rfl)
  | 3, _ => exact (show callV pr (fnV n_hash_oddness) vs = some (.enter n_hash_oddness ([] ++ vs ++ [])) by kernel_rfl)
/-- A function that stands in a variable. -/
theorem gen_f {T : TL} {s : SS} {K : RR → Prop} {x a b c : Tmp} {ts : Array TypeId} {q : Nat} {u v w : Value} (h : q < 4) (hx : look T x = some (fnV (fOf q))) (ha : look T a = some u) (hb : look T b = some v) (hc : look T c = some w)
    (hK : K (.call (fOf q) [u, v, w])) : wN pr (.gen (.call ⟨.value (.tmp x), #[.tmp a, .tmp b, .tmp c], ts⟩)) T s K := by
  refine ⟨.call (fOf q) [u, v, w], ?_, hK⟩
  simp only [aOp, operand, operands, toTr_get, hx, ha, hb, hc, f_call h]
  rfl

set_option maxHeartbeats 1000000 in
theorem turn_w {s : SS} {x : W5} {ws : List Wd} (f : Fine s) (hw : ws.length = 80) : CallW pr n_hash_words_turn [x.V, .agg ⟨ptsL⟩, .agg ⟨wdsV ws⟩] s fun v s' => v = (rnds ws 80 x).V ∧ Chg s s' [] := by
  refine CallW.run good ok_hash_words_turn (by simp) rfl ?_
  obtain ⟨h0, h1, h2, h3, c0, f0⟩ := new4_at f (.cells (wdsV x.l) tW5 false false) (.cells ptsL tP4 false false) (.cells (wdsV ws) tW80 false false) (.cells (wdsV [0, 0, 0, 0, 0]) tW5 false false)
  (repeat(first|refine pSeq ?_|refine pReg ?_|refine sCons ?_|refine sNil ?_|refine rCons ?_|refine rNil ?_|refine kNo ?_|refine pRow ?_|refine pBlock ?_|refine pSkip ?_|refine pExit ?_|refine pRet ?_|refine pCond ?_|refine gNone ?_))
  refine ⟨by decide, ?_⟩
  intro m hm o ho
  obtain rfl : m = 0 := by omega
  obtain rfl : o = 0 := by omega
  (repeat(first|refine pSeq ?_|refine pReg ?_|refine sCons ?_|refine sNil ?_|refine rCons ?_|refine rNil ?_|refine kNo ?_|refine pRow ?_|refine pBlock ?_|refine pSkip ?_|refine pExit ?_|refine pRet ?_|refine pCond ?_|refine gNone ?_))
  refine ldI_is rfl h0 (show _ = some (wv x.a) from rfl) ?_
  (repeat(first|refine pSeq ?_|refine pReg ?_|refine sCons ?_|refine sNil ?_|refine rCons ?_|refine rNil ?_|refine kNo ?_|refine pRow ?_|refine pBlock ?_|refine pSkip ?_|refine pExit ?_|refine pRet ?_|refine pCond ?_|refine gNone ?_))
  refine ⟨by decide, ?_⟩
  intro m hm o ho
  obtain rfl : m = 1 := by omega
  obtain rfl : o = 1 := by omega
  (repeat(first|refine pSeq ?_|refine pReg ?_|refine sCons ?_|refine sNil ?_|refine rCons ?_|refine rNil ?_|refine kNo ?_|refine pRow ?_|refine pBlock ?_|refine pSkip ?_|refine pExit ?_|refine pRet ?_|refine pCond ?_|refine gNone ?_))
  refine ldI_is rfl h0 (show _ = some (wv x.b) from rfl) ?_
  (repeat(first|refine pSeq ?_|refine pReg ?_|refine sCons ?_|refine sNil ?_|refine rCons ?_|refine rNil ?_|refine kNo ?_|refine pRow ?_|refine pBlock ?_|refine pSkip ?_|refine pExit ?_|refine pRet ?_|refine pCond ?_|refine gNone ?_))
  refine ⟨by decide, ?_⟩
  intro m hm o ho
  obtain rfl : m = 2 := by omega
  obtain rfl : o = 2 := by omega
  (repeat(first|refine pSeq ?_|refine pReg ?_|refine sCons ?_|refine sNil ?_|refine rCons ?_|refine rNil ?_|refine kNo ?_|refine pRow ?_|refine pBlock ?_|refine pSkip ?_|refine pExit ?_|refine pRet ?_|refine pCond ?_|refine gNone ?_))
  refine ldI_is rfl h0 (show _ = some (wv x.c) from rfl) ?_
  (repeat(first|refine pSeq ?_|refine pReg ?_|refine sCons ?_|refine sNil ?_|refine rCons ?_|refine rNil ?_|refine kNo ?_|refine pRow ?_|refine pBlock ?_|refine pSkip ?_|refine pExit ?_|refine pRet ?_|refine pCond ?_|refine gNone ?_))
  refine ⟨by decide, ?_⟩
  intro m hm o ho
  obtain rfl : m = 3 := by omega
  obtain rfl : o = 3 := by omega
  (repeat(first|refine pSeq ?_|refine pReg ?_|refine sCons ?_|refine sNil ?_|refine rCons ?_|refine rNil ?_|refine kNo ?_|refine pRow ?_|refine pBlock ?_|refine pSkip ?_|refine pExit ?_|refine pRet ?_|refine pCond ?_|refine gNone ?_))
  refine ldI_is rfl h0 (show _ = some (wv x.d) from rfl) ?_
  (repeat(first|refine pSeq ?_|refine pReg ?_|refine sCons ?_|refine sNil ?_|refine rCons ?_|refine rNil ?_|refine kNo ?_|refine pRow ?_|refine pBlock ?_|refine pSkip ?_|refine pExit ?_|refine pRet ?_|refine pCond ?_|refine gNone ?_))
  refine ⟨by decide, ?_⟩
  intro m hm o ho
  obtain rfl : m = 4 := by omega
  obtain rfl : o = 4 := by omega
  (repeat(first|refine pSeq ?_|refine pReg ?_|refine sCons ?_|refine sNil ?_|refine rCons ?_|refine rNil ?_|refine kNo ?_|refine pRow ?_|refine pBlock ?_|refine pSkip ?_|refine pExit ?_|refine pRet ?_|refine pCond ?_|refine gNone ?_))
  refine ldI_is rfl h0 (show _ = some (wv x.e) from rfl) ?_
  (repeat(first|refine pSeq ?_|refine pReg ?_|refine sCons ?_|refine sNil ?_|refine rCons ?_|refine rNil ?_|refine kNo ?_|refine pRow ?_|refine pBlock ?_|refine pSkip ?_|refine pExit ?_|refine pRet ?_|refine pCond ?_|refine gNone ?_))
  refine ldN_is rfl h2 (wds_take hw) ?_
  (repeat(first|refine pSeq ?_|refine pReg ?_|refine sCons ?_|refine sNil ?_|refine rCons ?_|refine rNil ?_|refine kNo ?_|refine pRow ?_|refine pBlock ?_|refine pSkip ?_|refine pExit ?_|refine pRet ?_|refine pCond ?_|refine gNone ?_))
  refine pLoop (MW.head good (fun p : Nat × SS => 80 - p.1) (fun p => p.1 ≤ 80 ∧ lookH p.2.heap (s.next + 1) = some (.cells ptsL tP4 false false) ∧ lookH p.2.heap (s.next + 1 + 1 + 1) = some (.cells (wdsV [0, 0, 0, 0, 0]) tW5 false false) ∧ Chg s p.2 [] ∧ s.next + 1 + 1 + 1 + 1 ≤ p.2.next ∧ Fine p.2)
    (fun p => [(4, ptrV (s.next + 1)), (6, ptrV (s.next + 1 + 1 + 1)), (7, wv (rnds ws p.1 x).a), (8, wv (rnds ws p.1 x).b), (9, wv (rnds ws p.1 x).c), (10, wv (rnds ws p.1 x).d), (11, wv (rnds ws p.1 x).e), (25, .agg ⟨wdsV ws⟩), (26, .int .i64 p.1)])
    (fun p => p.2) (0, _) ⟨Nat.zero_le _, h1, h3, c0, Nat.le_refl _, f0⟩ (Wk.same ⟨rfl, rfl, by show _ = some (wv (rnds ws 0 x).a); rw [rnds_0]; rfl, by show _ = some (wv (rnds ws 0 x).b); rw [rnds_0]; rfl, by show _ = some (wv (rnds ws 0 x).c); rw [rnds_0]; rfl, by show _ = some (wv (rnds ws 0 x).d); rw [rnds_0]; rfl, by show _ = some (wv (rnds ws 0 x).e); rw [rnds_0]; rfl, rfl, rfl, trivial⟩) ?_)
  clear h0 h1 h2 h3 c0 f0
  intro ⟨p, s1⟩ ⟨hp, h1, h3, c1, n1, f1⟩
  dsimp only at hp h1 h3 c1 n1 f1 ⊢
  generalize hR : rnds ws p x = r
  (repeat(first|refine pSeq ?_|refine pReg ?_|refine sCons ?_|refine sNil ?_|refine rCons ?_|refine rNil ?_|refine kNo ?_|refine pRow ?_|refine pBlock ?_|refine pSkip ?_|refine pExit ?_|refine pRet ?_|refine pCond ?_|refine gNone ?_))
  intro q hq
  by_cases h5 : p = 80
  · subst h5
    obtain rfl : q = false := by rw [hq]; simp <;> omega
    (repeat(first|refine pSeq ?_|refine pReg ?_|refine sCons ?_|refine sNil ?_|refine rCons ?_|refine rNil ?_|refine kNo ?_|refine pRow ?_|refine pBlock ?_|refine pSkip ?_|refine pExit ?_|refine pRet ?_|refine pCond ?_|refine gNone ?_))
    refine st_abs (cs' := wdsV r.l) rfl rfl h3 (by omega) rfl rfl fun s2 e2 c2 n2 => ?_
    (repeat(first|refine pSeq ?_|refine pReg ?_|refine sCons ?_|refine sNil ?_|refine rCons ?_|refine rNil ?_|refine kNo ?_|refine pRow ?_|refine pBlock ?_|refine pSkip ?_|refine pExit ?_|refine pRet ?_|refine pCond ?_|refine gNone ?_))
    (repeat (first | with_reducible refine sqRet ?_ | with_reducible refine bkRet ?_ | with_reducible refine hdRet ?_))
    rw [hR]
    exact ret_cell1 agg_W5 sz_W5 rfl e2 (wds_take rfl) ⟨rfl, c1.fresh c2 (by simp; omega)⟩
  · obtain rfl : q = true := by rw [hq]; simp <;> omega
    (repeat(first|refine pSeq ?_|refine pReg ?_|refine sCons ?_|refine sNil ?_|refine rCons ?_|refine rNil ?_|refine kNo ?_|refine pRow ?_|refine pBlock ?_|refine pSkip ?_|refine pExit ?_|refine pRet ?_|refine pCond ?_|refine gNone ?_))
    refine gen_ix un_W80 sz_U32 agg_U32 rfl rfl (show p < 80 by omega) (wds_get (by omega)) ?_
    (repeat(first|refine pSeq ?_|refine pReg ?_|refine sCons ?_|refine sNil ?_|refine rCons ?_|refine rNil ?_|refine kNo ?_|refine pRow ?_|refine pBlock ?_|refine pSkip ?_|refine pExit ?_|refine pRet ?_|refine pCond ?_|refine gNone ?_))
    refine ⟨by decide, ?_⟩
    intro z hz
    obtain rfl : z = ((p / 20 : Nat) : Int) := by
      rw [hz, show (p : Int).tdiv 20 = ((p / 20 : Nat) : Int) from (Int.ofNat_tdiv p 20).symm, i64_id (by omega)]
    (repeat(first|refine pSeq ?_|refine pReg ?_|refine sCons ?_|refine sNil ?_|refine rCons ?_|refine rNil ?_|refine kNo ?_|refine pRow ?_|refine pBlock ?_|refine pSkip ?_|refine pExit ?_|refine pRet ?_|refine pCond ?_|refine gNone ?_))
    refine ⟨by omega, ?_⟩
    intro m hm o ho
    obtain rfl : m = p / 20 := by omega
    obtain rfl : o = p / 20 * 2 := by omega
    (repeat(first|refine pSeq ?_|refine pReg ?_|refine sCons ?_|refine sNil ?_|refine rCons ?_|refine rNil ?_|refine kNo ?_|refine pRow ?_|refine pBlock ?_|refine pSkip ?_|refine pExit ?_|refine pRet ?_|refine pCond ?_|refine gNone ?_))
    have hq4 : p / 20 < 4 := by omega
    refine ldN_is rfl h1 (pts_cut hq4 p rfl) ?_
    (repeat(first|refine pSeq ?_|refine pReg ?_|refine sCons ?_|refine sNil ?_|refine rCons ?_|refine rNil ?_|refine kNo ?_|refine pRow ?_|refine pBlock ?_|refine pSkip ?_|refine pExit ?_|refine pRet ?_|refine pCond ?_|refine gNone ?_))
    obtain ⟨k0, k1, k2⟩ := new1_at f1 (.cells [.nilFunc, wv 0] tPt false false)
    refine st_abs (cs' := [fnV (fOf (p / 20)), wv (kT p)]) rfl rfl k0 (Nat.lt_succ_self _) rfl rfl fun s2 e2 c2 n2 => ?_
    replace c2 := k1.fresh c2 (by simp)
    replace n2 : s2.next = s1.next + 1 := n2
    have f2 := c2.fine f1
    (repeat(first|refine pSeq ?_|refine pReg ?_|refine sCons ?_|refine sNil ?_|refine rCons ?_|refine rNil ?_|refine kNo ?_|refine pRow ?_|refine pBlock ?_|refine pSkip ?_|refine pExit ?_|refine pRet ?_|refine pCond ?_|refine gNone ?_))
    refine ld1_is rfl e2 rfl ?_
    (repeat(first|refine pSeq ?_|refine pReg ?_|refine sCons ?_|refine sNil ?_|refine rCons ?_|refine rNil ?_|refine kNo ?_|refine pRow ?_|refine pBlock ?_|refine pSkip ?_|refine pExit ?_|refine pRet ?_|refine pCond ?_|refine gNone ?_))
    refine ldI_is rfl e2 (show _ = some (wv (kT p)) from rfl) ?_
    (repeat(first|refine pSeq ?_|refine pReg ?_|refine sCons ?_|refine sNil ?_|refine rCons ?_|refine rNil ?_|refine kNo ?_|refine pRow ?_|refine pBlock ?_|refine pSkip ?_|refine pExit ?_|refine pRet ?_|refine pCond ?_|refine gNone ?_))
    refine (rotl_w (.inr (.inl rfl))).mono fun v s3 q => ?_
    obtain ⟨rfl, rfl⟩ := q
    refine kAll .refl ?_
    (repeat(first|refine pSeq ?_|refine pReg ?_|refine sCons ?_|refine sNil ?_|refine rCons ?_|refine rNil ?_|refine kNo ?_|refine pRow ?_|refine pBlock ?_|refine pSkip ?_|refine pExit ?_|refine pRet ?_|refine pCond ?_|refine gNone ?_))
    refine gen_f hq4 rfl rfl rfl rfl ?_
    (repeat(first|refine pSeq ?_|refine pReg ?_|refine sCons ?_|refine sNil ?_|refine rCons ?_|refine rNil ?_|refine kNo ?_|refine pRow ?_|refine pBlock ?_|refine pSkip ?_|refine pExit ?_|refine pRet ?_|refine pCond ?_|refine gNone ?_))
    refine (f_w hq4 p rfl).mono fun v s4 q => ?_
    obtain ⟨rfl, rfl⟩ := q
    refine kAll .refl ?_
    (repeat(first|refine pSeq ?_|refine pReg ?_|refine sCons ?_|refine sNil ?_|refine rCons ?_|refine rNil ?_|refine kNo ?_|refine pRow ?_|refine pBlock ?_|refine pSkip ?_|refine pExit ?_|refine pRet ?_|refine pCond ?_|refine gNone ?_))
    intro z hz
    rw [add_u32] at hz
    subst hz
    (repeat(first|refine pSeq ?_|refine pReg ?_|refine sCons ?_|refine sNil ?_|refine rCons ?_|refine rNil ?_|refine kNo ?_|refine pRow ?_|refine pBlock ?_|refine pSkip ?_|refine pExit ?_|refine pRet ?_|refine pCond ?_|refine gNone ?_))
    intro z hz
    rw [add_u32] at hz
    subst hz
    (repeat(first|refine pSeq ?_|refine pReg ?_|refine sCons ?_|refine sNil ?_|refine rCons ?_|refine rNil ?_|refine kNo ?_|refine pRow ?_|refine pBlock ?_|refine pSkip ?_|refine pExit ?_|refine pRet ?_|refine pCond ?_|refine gNone ?_))
    intro z hz
    rw [add_u32] at hz
    subst hz
    (repeat(first|refine pSeq ?_|refine pReg ?_|refine sCons ?_|refine sNil ?_|refine rCons ?_|refine rNil ?_|refine kNo ?_|refine pRow ?_|refine pBlock ?_|refine pSkip ?_|refine pExit ?_|refine pRet ?_|refine pCond ?_|refine gNone ?_))
    intro z hz
    rw [add_u32] at hz
    subst hz
    (repeat(first|refine pSeq ?_|refine pReg ?_|refine sCons ?_|refine sNil ?_|refine rCons ?_|refine rNil ?_|refine kNo ?_|refine pRow ?_|refine pBlock ?_|refine pSkip ?_|refine pExit ?_|refine pRet ?_|refine pCond ?_|refine gNone ?_))
    refine (rotl_w (.inr (.inr rfl))).mono fun v s5 q => ?_
    obtain ⟨rfl, rfl⟩ := q
    refine kAll .refl ?_
    (repeat(first|refine pSeq ?_|refine pReg ?_|refine sCons ?_|refine sNil ?_|refine rCons ?_|refine rNil ?_|refine kNo ?_|refine pRow ?_|refine pBlock ?_|refine pSkip ?_|refine pExit ?_|refine pRet ?_|refine pCond ?_|refine gNone ?_))
    intro z hz
    rw [i64_id (by omega)] at hz
    subst hz
    (repeat(first|refine pSeq ?_|refine pReg ?_|refine sCons ?_|refine sNil ?_|refine rCons ?_|refine rNil ?_|refine kNo ?_|refine pRow ?_|refine pBlock ?_|refine pSkip ?_|refine pExit ?_|refine pRet ?_|refine pCond ?_|refine gNone ?_))
    have hn := rnds_next ws x p
    rw [hR] at hn
    exact ⟨(p + 1, s5), ⟨by omega, c2.blk _ _ (by omega) (by simp) h1, c2.blk _ _ (by omega) (by simp) h3, c1.nil c2, by show _ ≤ s5.next; omega, f2⟩, by show 80 - (p + 1) < 80 - p; omega, Wk.same ⟨rfl, rfl, by show _ = some (wv (rnds ws (p + 1) x).a); rw [hn]; rfl, by show _ = some (wv (rnds ws (p + 1) x).b); rw [hn]; rfl, by show _ = some (wv (rnds ws (p + 1) x).c); rw [hn]; rfl, by show _ = some (wv (rnds ws (p + 1) x).d); rw [hn]; rfl, by show _ = some (wv (rnds ws (p + 1) x).e); rw [hn]; rfl, rfl, rfl, trivial⟩⟩
end Go.Vf.S

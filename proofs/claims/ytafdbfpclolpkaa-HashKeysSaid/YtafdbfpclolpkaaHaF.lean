import Derived.Test.YtafdbfpclolpkaaHaE
/- A block's words: the program. -/
namespace Go.Vf.S
open Go Go.Vf
attribute [local irreducible] wSeq wRow wp wG schd rowW wPart nxt wOf
set_option linter.unusedVariables false
set_option linter.unusedSimpArgs false
set_option maxRecDepth 10000

/-- A byte of a slice that is known to be there. -/
theorem sl_byte {s : SS} {b off n : Nat} {sp : Option Nat} {l : List UInt8} {i : Nat} (h : Rdb s (some ⟨b, off, sp⟩) n l) (hi : i < n) : sp = none ∧ ∃ c t g r, lookH s.heap b = some (.cells c t g r) ∧ c[off + i]? = some (.int .u8 (l.getD i 0).toNat) := by
  obtain ⟨rfl, c, t, g, r, h1, h2⟩ := h.at
  exact ⟨rfl, c, t, g, r, h1, h2 _ hi⟩

theorem set_set' {α : Type} (l : List α) (i : Nat) (x y : α) : (l.set i x).set i y = l.set i y := by simp
theorem getD_set' {l : List Wd} {i : Nat} {x : Wd} (h : i < l.length) : (l.set i x).getD i 0 = x := by
  rw [List.getD_eq_getElem?_getD, List.getElem?_set_self h]; rfl
theorem set_same {l : List Wd} {i : Nat} (h : i < l.length) (x : Wd) (hx : l.getD i 0 = x) : l.set i x = l := by
  subst hx
  rw [List.getD_eq_getElem?_getD, List.getElem?_eq_getElem h]
  exact List.set_getElem_self h

set_option maxHeartbeats 1000000 in
theorem spread_w {s : SS} {base : Option Addr} {n cap : Nat} {l : List UInt8} (f : Fine s) (hr : Slc pr s base n cap l) (hn : 64 ≤ n) : CallW pr n_hash_spread [.slice base n cap] s fun v s' => v = .agg ⟨wdsV (schd l 80)⟩ ∧ Chg s s' [] := by
  have hl := hr.1.1
  have hlt := hr.1.lt
  refine CallW.run good ok_hash_spread (by simp) rfl ?_
  (repeat(first|refine pSeq ?_|refine pReg ?_|refine sCons ?_|refine sNil ?_|refine rCons ?_|refine rNil ?_|refine kNo ?_|refine pRow ?_|refine pBlock ?_|refine pSkip ?_|refine pExit ?_|refine pRet ?_|refine pCond ?_|refine gNone ?_))
  refine pLoop (MW.head good (fun p : Nat × SS => 16 - p.1) (fun p => p.1 ≤ 16 ∧ lookH p.2.heap s.next = some (.cells (wdsV (rowW l p.1)) tW80 false false) ∧ Chg s p.2 [] ∧ p.2.next = s.next + 1 ∧ Fine p.2)
    (fun p => [(0, .slice base n cap), (2, ptrV s.next), (7, .int .i64 p.1)]) (fun p => p.2) (0, _) ?_ (Wk.same ⟨rfl, rfl, rfl, trivial⟩) ?_)
  · obtain ⟨h1, h2, h3⟩ := new1_at f (.cells (wdsV (List.replicate 80 0)) tW80 false false)
    exact ⟨Nat.zero_le _, by rw [rowW_0]; exact h1, h2, rfl, h3⟩
  intro ⟨p, s1⟩ ⟨hp, h1, c1, n1, f1⟩
  dsimp only at hp h1 c1 n1 f1 ⊢
  have hr1 := hr.chg c1 (by simp)
  (repeat(first|refine pSeq ?_|refine pReg ?_|refine sCons ?_|refine sNil ?_|refine rCons ?_|refine rNil ?_|refine kNo ?_|refine pRow ?_|refine pBlock ?_|refine pSkip ?_|refine pExit ?_|refine pRet ?_|refine pCond ?_|refine gNone ?_))
  intro q hq
  by_cases h5 : p = 16
  · subst h5
    obtain rfl : q = false := by rw [hq]; simp <;> omega
    (repeat(first|refine pSeq ?_|refine pReg ?_|refine sCons ?_|refine sNil ?_|refine rCons ?_|refine rNil ?_|refine kNo ?_|refine pRow ?_|refine pBlock ?_|refine pSkip ?_|refine pExit ?_|refine pRet ?_|refine pCond ?_|refine gNone ?_))
    refine pLoop (MW.head good (fun p : Nat × SS => 80 - p.1) (fun p => 16 ≤ p.1 ∧ p.1 ≤ 80 ∧ lookH p.2.heap s.next = some (.cells (wdsV (rowW l p.1)) tW80 false false) ∧ Chg s p.2 [] ∧ s.next < p.2.next ∧ Fine p.2)
      (fun p => [(2, ptrV s.next), (6, .int .i64 p.1)]) (fun p => p.2) (16, _) ⟨Nat.le_refl _, Nat.le_of_ble_eq_true rfl, h1, c1, by show s.next < s1.next; omega, f1⟩ (Wk.same ⟨rfl, rfl, trivial⟩) ?_)
    clear hp h1 c1 n1 f1 hr1 hq
    intro ⟨p, s1⟩ ⟨h16, hp, h1, c1, n1, f1⟩
    dsimp only at h16 hp h1 c1 n1 f1 ⊢
    (repeat(first|refine pSeq ?_|refine pReg ?_|refine sCons ?_|refine sNil ?_|refine rCons ?_|refine rNil ?_|refine kNo ?_|refine pRow ?_|refine pBlock ?_|refine pSkip ?_|refine pExit ?_|refine pRet ?_|refine pCond ?_|refine gNone ?_))
    intro q hq
    by_cases h5 : p = 80
    · subst h5
      obtain rfl : q = false := by rw [hq]; simp <;> omega
      (repeat(first|refine pSeq ?_|refine pReg ?_|refine sCons ?_|refine sNil ?_|refine rCons ?_|refine rNil ?_|refine kNo ?_|refine pRow ?_|refine pBlock ?_|refine pSkip ?_|refine pExit ?_|refine pRet ?_|refine pCond ?_|refine gNone ?_))
      rw [rowW_80] at h1
      refine ldN_is rfl h1 (wds_take (schd_len l 80)) ?_
      (repeat(first|refine pSeq ?_|refine pReg ?_|refine sCons ?_|refine sNil ?_|refine rCons ?_|refine rNil ?_|refine kNo ?_|refine pRow ?_|refine pBlock ?_|refine pSkip ?_|refine pExit ?_|refine pRet ?_|refine pCond ?_|refine gNone ?_))
      refine st_abs (cs' := wdsV (schd l 80)) rfl rfl h1 n1 (wds_fl (schd_len l 80)) (wds_lay rfl) fun s2 e2 c2 n2 => ?_
      (repeat(first|refine pSeq ?_|refine pReg ?_|refine sCons ?_|refine sNil ?_|refine rCons ?_|refine rNil ?_|refine kNo ?_|refine pRow ?_|refine pBlock ?_|refine pSkip ?_|refine pExit ?_|refine pRet ?_|refine pCond ?_|refine gNone ?_))
      (repeat (first | with_reducible refine sqRet ?_ | with_reducible refine bkRet ?_ | with_reducible refine hdRet ?_))
      exact ret_cell1 agg_W80 sz_W80 rfl e2 (wds_take (schd_len l 80)) ⟨rfl, c1.fresh c2 (by simp)⟩
    · obtain rfl : q = true := by rw [hq]; simp <;> omega
      (repeat(first|refine pSeq ?_|refine pReg ?_|refine sCons ?_|refine sNil ?_|refine rCons ?_|refine rNil ?_|refine kNo ?_|refine pRow ?_|refine pBlock ?_|refine pSkip ?_|refine pExit ?_|refine pRet ?_|refine pCond ?_|refine gNone ?_))
      intro z hz
      obtain rfl : z = ((p - 3 : Nat) : Int) := by rw [hz, i64_id (by omega)]; omega
      (repeat(first|refine pSeq ?_|refine pReg ?_|refine sCons ?_|refine sNil ?_|refine rCons ?_|refine rNil ?_|refine kNo ?_|refine pRow ?_|refine pBlock ?_|refine pSkip ?_|refine pExit ?_|refine pRet ?_|refine pCond ?_|refine gNone ?_))
      refine ⟨by omega, ?_⟩
      intro m hm o ho
      obtain rfl : m = p - 3 := by omega
      obtain rfl : o = p - 3 := by omega
      (repeat(first|refine pSeq ?_|refine pReg ?_|refine sCons ?_|refine sNil ?_|refine rCons ?_|refine rNil ?_|refine kNo ?_|refine pRow ?_|refine pBlock ?_|refine pSkip ?_|refine pExit ?_|refine pRet ?_|refine pCond ?_|refine gNone ?_))
      refine ldI_is rfl h1 (wds_get (by rw [rowW_len l hp]; omega)) ?_
      (repeat(first|refine pSeq ?_|refine pReg ?_|refine sCons ?_|refine sNil ?_|refine rCons ?_|refine rNil ?_|refine kNo ?_|refine pRow ?_|refine pBlock ?_|refine pSkip ?_|refine pExit ?_|refine pRet ?_|refine pCond ?_|refine gNone ?_))
      intro z hz
      obtain rfl : z = ((p - 8 : Nat) : Int) := by rw [hz, i64_id (by omega)]; omega
      (repeat(first|refine pSeq ?_|refine pReg ?_|refine sCons ?_|refine sNil ?_|refine rCons ?_|refine rNil ?_|refine kNo ?_|refine pRow ?_|refine pBlock ?_|refine pSkip ?_|refine pExit ?_|refine pRet ?_|refine pCond ?_|refine gNone ?_))
      refine ⟨by omega, ?_⟩
      intro m hm o ho
      obtain rfl : m = p - 8 := by omega
      obtain rfl : o = p - 8 := by omega
      (repeat(first|refine pSeq ?_|refine pReg ?_|refine sCons ?_|refine sNil ?_|refine rCons ?_|refine rNil ?_|refine kNo ?_|refine pRow ?_|refine pBlock ?_|refine pSkip ?_|refine pExit ?_|refine pRet ?_|refine pCond ?_|refine gNone ?_))
      refine ldI_is rfl h1 (wds_get (by rw [rowW_len l hp]; omega)) ?_
      (repeat(first|refine pSeq ?_|refine pReg ?_|refine sCons ?_|refine sNil ?_|refine rCons ?_|refine rNil ?_|refine kNo ?_|refine pRow ?_|refine pBlock ?_|refine pSkip ?_|refine pExit ?_|refine pRet ?_|refine pCond ?_|refine gNone ?_))
      intro z hz
      rw [xor_u32] at hz
      subst hz
      (repeat(first|refine pSeq ?_|refine pReg ?_|refine sCons ?_|refine sNil ?_|refine rCons ?_|refine rNil ?_|refine kNo ?_|refine pRow ?_|refine pBlock ?_|refine pSkip ?_|refine pExit ?_|refine pRet ?_|refine pCond ?_|refine gNone ?_))
      intro z hz
      obtain rfl : z = ((p - 14 : Nat) : Int) := by rw [hz, i64_id (by omega)]; omega
      (repeat(first|refine pSeq ?_|refine pReg ?_|refine sCons ?_|refine sNil ?_|refine rCons ?_|refine rNil ?_|refine kNo ?_|refine pRow ?_|refine pBlock ?_|refine pSkip ?_|refine pExit ?_|refine pRet ?_|refine pCond ?_|refine gNone ?_))
      refine ⟨by omega, ?_⟩
      intro m hm o ho
      obtain rfl : m = p - 14 := by omega
      obtain rfl : o = p - 14 := by omega
      (repeat(first|refine pSeq ?_|refine pReg ?_|refine sCons ?_|refine sNil ?_|refine rCons ?_|refine rNil ?_|refine kNo ?_|refine pRow ?_|refine pBlock ?_|refine pSkip ?_|refine pExit ?_|refine pRet ?_|refine pCond ?_|refine gNone ?_))
      refine ldI_is rfl h1 (wds_get (by rw [rowW_len l hp]; omega)) ?_
      (repeat(first|refine pSeq ?_|refine pReg ?_|refine sCons ?_|refine sNil ?_|refine rCons ?_|refine rNil ?_|refine kNo ?_|refine pRow ?_|refine pBlock ?_|refine pSkip ?_|refine pExit ?_|refine pRet ?_|refine pCond ?_|refine gNone ?_))
      intro z hz
      rw [xor_u32] at hz
      subst hz
      (repeat(first|refine pSeq ?_|refine pReg ?_|refine sCons ?_|refine sNil ?_|refine rCons ?_|refine rNil ?_|refine kNo ?_|refine pRow ?_|refine pBlock ?_|refine pSkip ?_|refine pExit ?_|refine pRet ?_|refine pCond ?_|refine gNone ?_))
      intro z hz
      obtain rfl : z = ((p - 16 : Nat) : Int) := by rw [hz, i64_id (by omega)]; omega
      (repeat(first|refine pSeq ?_|refine pReg ?_|refine sCons ?_|refine sNil ?_|refine rCons ?_|refine rNil ?_|refine kNo ?_|refine pRow ?_|refine pBlock ?_|refine pSkip ?_|refine pExit ?_|refine pRet ?_|refine pCond ?_|refine gNone ?_))
      refine ⟨by omega, ?_⟩
      intro m hm o ho
      obtain rfl : m = p - 16 := by omega
      obtain rfl : o = p - 16 := by omega
      (repeat(first|refine pSeq ?_|refine pReg ?_|refine sCons ?_|refine sNil ?_|refine rCons ?_|refine rNil ?_|refine kNo ?_|refine pRow ?_|refine pBlock ?_|refine pSkip ?_|refine pExit ?_|refine pRet ?_|refine pCond ?_|refine gNone ?_))
      refine ldI_is rfl h1 (wds_get (by rw [rowW_len l hp]; omega)) ?_
      (repeat(first|refine pSeq ?_|refine pReg ?_|refine sCons ?_|refine sNil ?_|refine rCons ?_|refine rNil ?_|refine kNo ?_|refine pRow ?_|refine pBlock ?_|refine pSkip ?_|refine pExit ?_|refine pRet ?_|refine pCond ?_|refine gNone ?_))
      intro z hz
      rw [xor_u32] at hz
      subst hz
      (repeat(first|refine pSeq ?_|refine pReg ?_|refine sCons ?_|refine sNil ?_|refine rCons ?_|refine rNil ?_|refine kNo ?_|refine pRow ?_|refine pBlock ?_|refine pSkip ?_|refine pExit ?_|refine pRet ?_|refine pCond ?_|refine gNone ?_))
      refine (rotl_w (.inl rfl)).mono fun v s2 q => ?_
      obtain ⟨rfl, rfl⟩ := q
      (repeat(first|refine pSeq ?_|refine pReg ?_|refine sCons ?_|refine sNil ?_|refine rCons ?_|refine rNil ?_|refine kNo ?_|refine pRow ?_|refine pBlock ?_|refine pSkip ?_|refine pExit ?_|refine pRet ?_|refine pCond ?_|refine gNone ?_))
      refine ⟨by omega, ?_⟩
      intro m hm o ho
      obtain rfl : m = p := by omega
      obtain rfl : o = m := by omega
      (repeat(first|refine pSeq ?_|refine pReg ?_|refine sCons ?_|refine sNil ?_|refine rCons ?_|refine rNil ?_|refine kNo ?_|refine pRow ?_|refine pBlock ?_|refine pSkip ?_|refine pExit ?_|refine pRet ?_|refine pCond ?_|refine gNone ?_))
      have hv := rowW_next l (show o < 80 by omega)
      rw [if_neg (by omega)] at hv
      refine st_abs (cs' := wdsV (rowW l (o + 1))) rfl rfl h1 n1 rfl (by
        rw [hv]
        unfold nxt
        rw [← rowW_at l (show o - 3 < o by omega) hp, ← rowW_at l (show o - 8 < o by omega) hp, ← rowW_at l (show o - 14 < o by omega) hp, ← rowW_at l (show o - 16 < o by omega) hp]
        exact wds_set (by rw [rowW_len l hp]; omega) _) fun s3 e3 c3 n3 => ?_
      (repeat(first|refine pSeq ?_|refine pReg ?_|refine sCons ?_|refine sNil ?_|refine rCons ?_|refine rNil ?_|refine kNo ?_|refine pRow ?_|refine pBlock ?_|refine pSkip ?_|refine pExit ?_|refine pRet ?_|refine pCond ?_|refine gNone ?_))
      intro z hz
      rw [i64_id (by omega)] at hz
      subst hz
      (repeat(first|refine pSeq ?_|refine pReg ?_|refine sCons ?_|refine sNil ?_|refine rCons ?_|refine rNil ?_|refine kNo ?_|refine pRow ?_|refine pBlock ?_|refine pSkip ?_|refine pExit ?_|refine pRet ?_|refine pCond ?_|refine gNone ?_))
      exact ⟨(o + 1, s3), ⟨by omega, by omega, e3, c1.fresh c3 (by simp), by show _ < s3.next; omega, c3.fine f1⟩, by show 80 - (o + 1) < 80 - o; omega, Wk.same ⟨rfl, rfl, trivial⟩⟩
  · obtain rfl : q = true := by rw [hq]; simp <;> omega
    (repeat(first|refine pSeq ?_|refine pReg ?_|refine sCons ?_|refine sNil ?_|refine rCons ?_|refine rNil ?_|refine kNo ?_|refine pRow ?_|refine pBlock ?_|refine pSkip ?_|refine pExit ?_|refine pRet ?_|refine pCond ?_|refine gNone ?_))
    intro z hz
    obtain rfl : z = ((4 * p : Nat) : Int) := by rw [hz, i64_id (by omega)]; omega
    (repeat(first|refine pSeq ?_|refine pReg ?_|refine sCons ?_|refine sNil ?_|refine rCons ?_|refine rNil ?_|refine kNo ?_|refine pRow ?_|refine pBlock ?_|refine pSkip ?_|refine pExit ?_|refine pRet ?_|refine pCond ?_|refine gNone ?_))
    intro z hz
    obtain rfl : z = ((4 * p : Nat) : Int) := by rw [hz, i64_id (by omega)]; omega
    (repeat(first|refine pSeq ?_|refine pReg ?_|refine sCons ?_|refine sNil ?_|refine rCons ?_|refine rNil ?_|refine kNo ?_|refine pRow ?_|refine pBlock ?_|refine pSkip ?_|refine pExit ?_|refine pRet ?_|refine pCond ?_|refine gNone ?_))
    intro z hz
    obtain rfl : z = ((4 * p + 4 : Nat) : Int) := by rw [hz, i64_id (by omega)]; omega
    (repeat(first|refine pSeq ?_|refine pReg ?_|refine sCons ?_|refine sNil ?_|refine rCons ?_|refine rNil ?_|refine kNo ?_|refine pRow ?_|refine pBlock ?_|refine pSkip ?_|refine pExit ?_|refine pRet ?_|refine pCond ?_|refine gNone ?_))
    refine slL_same (4 * p) 4 rfl rfl rfl hr1 rfl rfl (by omega) fun base' cap' hs hb' => ?_
    (repeat(first|refine pSeq ?_|refine pReg ?_|refine sCons ?_|refine sNil ?_|refine rCons ?_|refine rNil ?_|refine kNo ?_|refine pRow ?_|refine pBlock ?_|refine pSkip ?_|refine pExit ?_|refine pRet ?_|refine pCond ?_|refine gNone ?_))
    refine pLoop (MW.head good (fun j : Nat × SS => 4 - j.1) (fun j => j.1 ≤ 4 ∧ lookH j.2.heap s.next = some (.cells (wdsV ((rowW l p).set p (wPart l p j.1))) tW80 false false) ∧ Chg s j.2 [] ∧ j.2.next = s.next + 1 ∧ Fine j.2 ∧ Slc pr j.2 base' 4 cap' ((l.drop (4 * p)).take 4))
      (fun j => [(0, .slice base n cap), (2, ptrV s.next), (3, .int .i64 p), (7, .int .i64 p), (16, .slice base' 4 cap'), (17, .int .i64 4), (18, .int .i64 j.1)]) (fun j => j.2) (0, s1) ⟨Nat.zero_le _, ?_, c1, n1, f1, hs⟩ (Wk.same ⟨rfl, rfl, rfl, rfl, rfl, rfl, rfl, trivial⟩) ?_)
    · rw [wPart_0, set_same (by rw [rowW_len l (by omega)]; omega) _ (rowW_new l (by omega))]; exact h1
    clear h1 c1 n1 f1 hs hr1
    intro ⟨j, s1⟩ ⟨hj, h1, c1, n1, f1, hs⟩
    dsimp only at hj h1 c1 n1 f1 hs ⊢
    have hlen := rowW_len l (show p ≤ 80 by omega)
    (repeat(first|refine pSeq ?_|refine pReg ?_|refine sCons ?_|refine sNil ?_|refine rCons ?_|refine rNil ?_|refine kNo ?_|refine pRow ?_|refine pBlock ?_|refine pSkip ?_|refine pExit ?_|refine pRet ?_|refine pCond ?_|refine gNone ?_))
    intro q hq
    by_cases h6 : j = 4
    · subst h6
      obtain rfl : q = false := by rw [hq]; simp <;> omega
      (repeat(first|refine pSeq ?_|refine pReg ?_|refine sCons ?_|refine sNil ?_|refine rCons ?_|refine rNil ?_|refine kNo ?_|refine pRow ?_|refine pBlock ?_|refine pSkip ?_|refine pExit ?_|refine pRet ?_|refine pCond ?_|refine gNone ?_))
      intro z hz
      rw [i64_id (by omega)] at hz
      subst hz
      (repeat(first|refine pSeq ?_|refine pReg ?_|refine sCons ?_|refine sNil ?_|refine rCons ?_|refine rNil ?_|refine kNo ?_|refine pRow ?_|refine pBlock ?_|refine pSkip ?_|refine pExit ?_|refine pRet ?_|refine pCond ?_|refine gNone ?_))
      have hv := rowW_next l (show p < 80 by omega)
      rw [if_pos (by omega), ← wPart_4] at hv
      exact ⟨(p + 1, s1), ⟨by omega, by rw [hv]; exact h1, c1, n1, f1⟩, by show 16 - (p + 1) < 16 - p; omega, Wk.same ⟨rfl, rfl, rfl, trivial⟩⟩
    · obtain rfl : q = true := by rw [hq]; simp <;> omega
      (repeat(first|refine pSeq ?_|refine pReg ?_|refine sCons ?_|refine sNil ?_|refine rCons ?_|refine rNil ?_|refine kNo ?_|refine pRow ?_|refine pBlock ?_|refine pSkip ?_|refine pExit ?_|refine pRet ?_|refine pCond ?_|refine gNone ?_))
      have hd : ((l.drop (4 * p)).take 4)[j]? = some (((l.drop (4 * p)).take 4).getD j 0) := by
        have : j < ((l.drop (4 * p)).take 4).length := by rw [List.length_take, List.length_drop]; omega
        rw [List.getD_eq_getElem?_getD, List.getElem?_eq_getElem this]; rfl
      cases base' with
      | none => have := hs.1.1; rw [hs.1.2] at this; cases this
      | some a =>
        obtain ⟨bb, off, sp⟩ := a
        obtain ⟨rfl, cc, tt, gg, rr, k1, k2⟩ := sl_byte hs.1 (show j < 4 by omega)
        refine ⟨by omega, ?_⟩
        intro m hm o ho
        obtain rfl : m = j := by omega
        rw [Nat.mul_one] at ho
        subst ho
        (repeat(first|refine pSeq ?_|refine pReg ?_|refine sCons ?_|refine sNil ?_|refine rCons ?_|refine rNil ?_|refine kNo ?_|refine pRow ?_|refine pBlock ?_|refine pSkip ?_|refine pExit ?_|refine pRet ?_|refine pCond ?_|refine gNone ?_))
        refine ldI_is rfl k1 k2 ?_
        (repeat(first|refine pSeq ?_|refine pReg ?_|refine sCons ?_|refine sNil ?_|refine rCons ?_|refine rNil ?_|refine kNo ?_|refine pRow ?_|refine pBlock ?_|refine pSkip ?_|refine pExit ?_|refine pRet ?_|refine pCond ?_|refine gNone ?_))
        generalize hc : ((l.drop (4 * p)).take 4).getD m 0 = c at hd
        refine ⟨by omega, ?_⟩
        intro m1 hm1 o ho
        obtain rfl : m1 = p := by omega
        obtain rfl : o = m1 := by omega
        (repeat(first|refine pSeq ?_|refine pReg ?_|refine sCons ?_|refine sNil ?_|refine rCons ?_|refine rNil ?_|refine kNo ?_|refine pRow ?_|refine pBlock ?_|refine pSkip ?_|refine pExit ?_|refine pRet ?_|refine pCond ?_|refine gNone ?_))
        refine ldI_is rfl h1 (wds_get (by rw [List.length_set]; omega)) ?_
        rw [getD_set' (by omega)]
        (repeat(first|refine pSeq ?_|refine pReg ?_|refine sCons ?_|refine sNil ?_|refine rCons ?_|refine rNil ?_|refine kNo ?_|refine pRow ?_|refine pBlock ?_|refine pSkip ?_|refine pExit ?_|refine pRet ?_|refine pCond ?_|refine gNone ?_))
        intro z hz
        rw [shl_u32] at hz
        subst hz
        (repeat(first|refine pSeq ?_|refine pReg ?_|refine sCons ?_|refine sNil ?_|refine rCons ?_|refine rNil ?_|refine kNo ?_|refine pRow ?_|refine pBlock ?_|refine pSkip ?_|refine pExit ?_|refine pRet ?_|refine pCond ?_|refine gNone ?_))
        intro z hz
        rw [u8_u32] at hz
        subst hz
        (repeat(first|refine pSeq ?_|refine pReg ?_|refine sCons ?_|refine sNil ?_|refine rCons ?_|refine rNil ?_|refine kNo ?_|refine pRow ?_|refine pBlock ?_|refine pSkip ?_|refine pExit ?_|refine pRet ?_|refine pCond ?_|refine gNone ?_))
        intro z hz
        rw [or_u32] at hz
        subst hz
        (repeat(first|refine pSeq ?_|refine pReg ?_|refine sCons ?_|refine sNil ?_|refine rCons ?_|refine rNil ?_|refine kNo ?_|refine pRow ?_|refine pBlock ?_|refine pSkip ?_|refine pExit ?_|refine pRet ?_|refine pCond ?_|refine gNone ?_))
        refine ⟨by omega, ?_⟩
        intro m2 hm2 o2 ho2
        obtain rfl : m2 = o := by omega
        obtain rfl : o2 = m2 := by omega
        (repeat(first|refine pSeq ?_|refine pReg ?_|refine sCons ?_|refine sNil ?_|refine rCons ?_|refine rNil ?_|refine kNo ?_|refine pRow ?_|refine pBlock ?_|refine pSkip ?_|refine pExit ?_|refine pRet ?_|refine pCond ?_|refine gNone ?_))
        refine st_abs (cs' := wdsV ((rowW l o2).set o2 (wPart l o2 (m + 1)))) rfl rfl h1 (by omega) rfl (by
          rw [wPart_next hd]
          have h9 := wds_set (l := (rowW l o2).set o2 (wPart l o2 m)) (p := o2) (by rw [List.length_set]; omega) (wPart l o2 m <<< 8 ||| BitVec.setWidth 32 c.toBitVec)
          rw [set_set'] at h9
          exact h9) fun s2 e2 c2 n2 => ?_
        (repeat(first|refine pSeq ?_|refine pReg ?_|refine sCons ?_|refine sNil ?_|refine rCons ?_|refine rNil ?_|refine kNo ?_|refine pRow ?_|refine pBlock ?_|refine pSkip ?_|refine pExit ?_|refine pRet ?_|refine pCond ?_|refine gNone ?_))
        intro z hz
        rw [i64_id (by omega)] at hz
        subst hz
        (repeat(first|refine pSeq ?_|refine pReg ?_|refine sCons ?_|refine sNil ?_|refine rCons ?_|refine rNil ?_|refine kNo ?_|refine pRow ?_|refine pBlock ?_|refine pSkip ?_|refine pExit ?_|refine pRet ?_|refine pCond ?_|refine gNone ?_))
        exact ⟨(m + 1, s2), ⟨by omega, e2, c1.fresh c2 (by simp), by show s2.next = _; omega, c2.fine f1, hs.chg c2 (fun id hid h => by
          rw [List.mem_singleton] at h
          have := hb' id hid
          have := hlt id this
          omega)⟩, by show 4 - (m + 1) < 4 - m; omega, Wk.same ⟨rfl, rfl, rfl, rfl, rfl, rfl, rfl, trivial⟩⟩
end Go.Vf.S

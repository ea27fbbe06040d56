import Derived.Test.YtgnhkclddahdnaaDoorLiP
import Derived.Test.YtgnhkclddahdnaaDoorLiN
import Derived.Test.YtgnhkclddahdnaaDoorFnLJ
/- Lists of addresses: the law ListJoins, from any state. -/
namespace Go.Vf.S
open Go Go.Vf Go.Proofs Go.RowKit
attribute [local irreducible] wSeq wRow wp wG
set_option linter.unusedVariables false
set_option linter.unusedSimpArgs false
set_option maxRecDepth 10000

theorem find_few (l : List UInt8) : (findF l).1.length ≤ 64 := by
  unfold findF
  split
  · simp
  · split
    · simp
    · split
      · simp
      · rename_i h
        exact Nat.not_lt.1 h
theorem find_vals (l : List UInt8) : (findF l).2 = 0 ∨ (findF l).2 = 3 ∨ (findF l).2 = 5 ∨ (findF l).2 = 7 := by
  unfold findF
  split
  · simp
  · split
    · simp
    · split <;> simp
theorem find_err (l : List UInt8) (h : (findF l).2 ≠ 0) : (findF l).1 = [] := by
  unfold findF at h ⊢
  split
  · rfl
  · rename_i T hT
    rw [hT] at h
    simp only at h
    split
    · rfl
    · rename_i h1
      rw [if_neg h1] at h
      split
      · rfl
      · rename_i h2
        rw [if_neg h2] at h
        exact absurd rfl h
theorem agg4 (x : Spt) : takeN 4 ((spC x).drop 0) = some (spC x) := rfl

set_option maxHeartbeats 2000000 in
/-- The last loop: places of a list with white space about it. -/
theorem lj_c {s : SS} {k e : Nat} {xs ds : List Spt} {W1 W4 : Option Addr} {cw1 cw4 : Nat} (hG : Gb s) (hF : Fine s) (o1 : SpO s W1 cw1 xs) (o4 : SpO s W4 cw4 ds) (h1 : e = 0 → ds = xs.map (upS 4)) (hd : ds.length ≤ 64) (hx : ∀ x ∈ xs, x.f ≤ 1000000 ∧ x.t ≤ 1000000) :
    W pr 178 k code_LJ_WC [(5, .slice W1 xs.length cw1), (6, .int .i64 e), (14, .slice W4 ds.length cw4)] s (runQ pr [.tmp 4] fun v s' => v = .bool true) := by
  refine comp_ok good ok_LJ_WC (Box.out (p := wp pr 178 k _ _ _ _) ?_)
  have C0 : Chg s s [] := .refl _ _
  (repeat(first|refine pSeq ?_|refine pReg ?_|refine sCons ?_|refine sNil ?_|refine rCons ?_|refine rNil ?_|refine kNo ?_|refine pRow ?_|refine pBlock ?_|refine pSkip ?_|refine pExit ?_|refine pRet ?_|refine pCond ?_|refine gNone ?_|refine gOn rfl ?_|refine gOff rfl rfl ?_|refine gTup rfl ?_))
  refine pLoop (MW.head good (fun x : Nat × SS => ds.length - x.1) (fun x => x.1 ≤ ds.length ∧ Chg s x.2 []) (fun x => [(5, .slice W1 xs.length cw1), (6, .int .i64 e), (145, .slice W4 ds.length cw4), (146, .int .i64 (ds.length : Nat)), (147, .int .i64 x.1)]) (fun x => x.2) (0, s) ⟨Nat.zero_le _, C0⟩ (Wk.same ⟨rfl, rfl, rfl, rfl, rfl, trivial⟩) ?_)
  intro ⟨i, s1⟩ ⟨hi, c1⟩
  dsimp only at hi c1 ⊢
  replace o1 := o1.chg c1 (by simp)
  replace o4 := o4.chg c1 (by simp)
  (repeat(first|refine pSeq ?_|refine pReg ?_|refine sCons ?_|refine sNil ?_|refine rCons ?_|refine rNil ?_|refine kNo ?_|refine pRow ?_|refine pBlock ?_|refine pSkip ?_|refine pExit ?_|refine pRet ?_|refine pCond ?_|refine gNone ?_|refine gOn rfl ?_|refine gOff rfl rfl ?_|refine gTup rfl ?_))
  intro q hq
  by_cases hlt : i < ds.length
  · obtain rfl : q = true := by rw [hq]; simp <;> omega
    obtain ⟨y, hy⟩ : ∃ y, ds[i]? = some y := ⟨_, List.getElem?_eq_getElem hlt⟩
    obtain ⟨b4, g4, rfl, k4⟩ := o4.pos (by omega)
    (repeat(first|refine pSeq ?_|refine pReg ?_|refine sCons ?_|refine sNil ?_|refine rCons ?_|refine rNil ?_|refine kNo ?_|refine pRow ?_|refine pBlock ?_|refine pSkip ?_|refine pExit ?_|refine pRet ?_|refine pCond ?_|refine gNone ?_|refine gOn rfl ?_|refine gOff rfl rfl ?_|refine gTup rfl ?_))
    refine ⟨by omega, ?_⟩
    intro m hm o ho
    obtain rfl : m = i := by omega
    rw [Nat.zero_add] at ho
    subst ho
    (repeat(first|refine pSeq ?_|refine pReg ?_|refine sCons ?_|refine sNil ?_|refine rCons ?_|refine rNil ?_|refine kNo ?_|refine pRow ?_|refine pBlock ?_|refine pSkip ?_|refine pExit ?_|refine pRet ?_|refine pCond ?_|refine gNone ?_|refine gOn rfl ?_|refine gOff rfl rfl ?_|refine gTup rfl ?_))
    refine ldN_is rfl k4 (sps_take hy) ?_
    (repeat(first|refine pSeq ?_|refine pReg ?_|refine sCons ?_|refine sNil ?_|refine rCons ?_|refine rNil ?_|refine kNo ?_|refine pRow ?_|refine pBlock ?_|refine pSkip ?_|refine pExit ?_|refine pRet ?_|refine pCond ?_|refine gNone ?_|refine gOn rfl ?_|refine gOff rfl rfl ?_|refine gTup rfl ?_))
    refine st_abs (cs' := spC y) rfl rfl lkH (Nat.lt_succ_self _) rfl rfl fun s2 e2 c2 n2 => ?_
    have c12 : Chg s1 s2 [] := (Chg.new []).fresh c2 (by simp)
    have e2 : lookH s2.heap s1.next = some (.cells (spC y) tSp false false) := e2
    replace o1 := o1.chg c12 (by simp)
    (repeat(first|refine pSeq ?_|refine pReg ?_|refine sCons ?_|refine sNil ?_|refine rCons ?_|refine rNil ?_|refine kNo ?_|refine pRow ?_|refine pBlock ?_|refine pSkip ?_|refine pExit ?_|refine pRet ?_|refine pCond ?_|refine gNone ?_|refine gOn rfl ?_|refine gOff rfl rfl ?_|refine gTup rfl ?_))
    intro q hq
    by_cases h0 : e = 0
    · obtain rfl : q = true := by rw [hq, h0]; rfl
      have hds := h1 h0
      obtain ⟨x, hxx⟩ : ∃ x, xs[m]? = some x := by
        rw [hds, List.length_map] at hlt
        exact ⟨_, List.getElem?_eq_getElem hlt⟩
      have hxm := hx x (List.mem_of_getElem? hxx)
      have hyx : y = upS 4 x := by
        rw [hds, List.getElem?_map, hxx] at hy
        exact (Option.some.inj hy).symm
      have hml : m < xs.length := lt_of_get hxx
      obtain ⟨b1, g1, rfl, k1⟩ := o1.pos (by omega)
      (repeat(first|refine pSeq ?_|refine pReg ?_|refine sCons ?_|refine sNil ?_|refine rCons ?_|refine rNil ?_|refine kNo ?_|refine pRow ?_|refine pBlock ?_|refine pSkip ?_|refine pExit ?_|refine pRet ?_|refine pCond ?_|refine gNone ?_|refine gOn rfl ?_|refine gOff rfl rfl ?_|refine gTup rfl ?_))
      refine ldN_is rfl e2 (agg4 y) ?_
      (repeat(first|refine pSeq ?_|refine pReg ?_|refine sCons ?_|refine sNil ?_|refine rCons ?_|refine rNil ?_|refine kNo ?_|refine pRow ?_|refine pBlock ?_|refine pSkip ?_|refine pExit ?_|refine pRet ?_|refine pCond ?_|refine gNone ?_|refine gOn rfl ?_|refine gOff rfl rfl ?_|refine gTup rfl ?_))
      refine ⟨by omega, ?_⟩
      intro m2 hm2 o ho
      obtain rfl : m2 = m := by omega
      rw [Nat.zero_add] at ho
      subst ho
      (repeat(first|refine pSeq ?_|refine pReg ?_|refine sCons ?_|refine sNil ?_|refine rCons ?_|refine rNil ?_|refine kNo ?_|refine pRow ?_|refine pBlock ?_|refine pSkip ?_|refine pExit ?_|refine pRet ?_|refine pCond ?_|refine gNone ?_|refine gOn rfl ?_|refine gOff rfl rfl ?_|refine gTup rfl ?_))
      refine ldI_is rfl k1 (sps_at hxx 0 (by decide)) ?_
      (repeat(first|refine pSeq ?_|refine pReg ?_|refine sCons ?_|refine sNil ?_|refine rCons ?_|refine rNil ?_|refine kNo ?_|refine pRow ?_|refine pBlock ?_|refine pSkip ?_|refine pExit ?_|refine pRet ?_|refine pCond ?_|refine gNone ?_|refine gOn rfl ?_|refine gOff rfl rfl ?_|refine gTup rfl ?_))
      intro z hz
      rw [i64_id (by omega)] at hz
      (repeat(first|refine pSeq ?_|refine pReg ?_|refine sCons ?_|refine sNil ?_|refine rCons ?_|refine rNil ?_|refine kNo ?_|refine pRow ?_|refine pBlock ?_|refine pSkip ?_|refine pExit ?_|refine pRet ?_|refine pCond ?_|refine gNone ?_|refine gOn rfl ?_|refine gOff rfl rfl ?_|refine gTup rfl ?_))
      refine ⟨by omega, ?_⟩
      intro m3 hm3 o ho
      obtain rfl : m3 = m2 := by omega
      rw [Nat.zero_add] at ho
      subst ho
      (repeat(first|refine pSeq ?_|refine pReg ?_|refine sCons ?_|refine sNil ?_|refine rCons ?_|refine rNil ?_|refine kNo ?_|refine pRow ?_|refine pBlock ?_|refine pSkip ?_|refine pExit ?_|refine pRet ?_|refine pCond ?_|refine gNone ?_|refine gOn rfl ?_|refine gOff rfl rfl ?_|refine gTup rfl ?_))
      refine ldI_is rfl k1 (sps_at hxx 1 (by decide)) ?_
      (repeat(first|refine pSeq ?_|refine pReg ?_|refine sCons ?_|refine sNil ?_|refine rCons ?_|refine rNil ?_|refine kNo ?_|refine pRow ?_|refine pBlock ?_|refine pSkip ?_|refine pExit ?_|refine pRet ?_|refine pCond ?_|refine gNone ?_|refine gOn rfl ?_|refine gOff rfl rfl ?_|refine gTup rfl ?_))
      intro z2 hz2
      rw [i64_id (by omega)] at hz2
      (repeat(first|refine pSeq ?_|refine pReg ?_|refine sCons ?_|refine sNil ?_|refine rCons ?_|refine rNil ?_|refine kNo ?_|refine pRow ?_|refine pBlock ?_|refine pSkip ?_|refine pExit ?_|refine pRet ?_|refine pCond ?_|refine gNone ?_|refine gOn rfl ?_|refine gOff rfl rfl ?_|refine gTup rfl ?_))
      refine ⟨by omega, ?_⟩
      intro m4 hm4 o ho
      obtain rfl : m4 = m3 := by omega
      rw [Nat.zero_add] at ho
      subst ho
      (repeat(first|refine pSeq ?_|refine pReg ?_|refine sCons ?_|refine sNil ?_|refine rCons ?_|refine rNil ?_|refine kNo ?_|refine pRow ?_|refine pBlock ?_|refine pSkip ?_|refine pExit ?_|refine pRet ?_|refine pCond ?_|refine gNone ?_|refine gOn rfl ?_|refine gOff rfl rfl ?_|refine gTup rfl ?_))
      refine ldN_is rfl k1 (sps_two hxx) ?_
      (repeat(first|refine pSeq ?_|refine pReg ?_|refine sCons ?_|refine sNil ?_|refine rCons ?_|refine rNil ?_|refine kNo ?_|refine pRow ?_|refine pBlock ?_|refine pSkip ?_|refine pExit ?_|refine pRet ?_|refine pCond ?_|refine gNone ?_|refine gOn rfl ?_|refine gOff rfl rfl ?_|refine gTup rfl ?_))
      intro q hq
      obtain rfl : q = false := by
        rw [hq, hyx, hz, hz2]
        simp [upS]
      (repeat(first|refine pSeq ?_|refine pReg ?_|refine sCons ?_|refine sNil ?_|refine rCons ?_|refine rNil ?_|refine kNo ?_|refine pRow ?_|refine pBlock ?_|refine pSkip ?_|refine pExit ?_|refine pRet ?_|refine pCond ?_|refine gNone ?_|refine gOn rfl ?_|refine gOff rfl rfl ?_|refine gTup rfl ?_))
      intro z hz
      rw [i64_id (by omega)] at hz
      obtain rfl : z = ((m4 + 1 : Nat) : Int) := by omega
      (repeat(first|refine pSeq ?_|refine pReg ?_|refine sCons ?_|refine sNil ?_|refine rCons ?_|refine rNil ?_|refine kNo ?_|refine pRow ?_|refine pBlock ?_|refine pSkip ?_|refine pExit ?_|refine pRet ?_|refine pCond ?_|refine gNone ?_|refine gOn rfl ?_|refine gOff rfl rfl ?_|refine gTup rfl ?_))
      exact ⟨(m4 + 1, s2), ⟨hlt, c1.nil c12⟩, by show ds.length - (m4 + 1) < ds.length - m4; omega, Wk.same ⟨rfl, rfl, rfl, rfl, rfl, trivial⟩⟩
    · obtain rfl : q = false := by rw [hq]; simp; omega
      (repeat(first|refine pSeq ?_|refine pReg ?_|refine sCons ?_|refine sNil ?_|refine rCons ?_|refine rNil ?_|refine kNo ?_|refine pRow ?_|refine pBlock ?_|refine pSkip ?_|refine pExit ?_|refine pRet ?_|refine pCond ?_|refine gNone ?_|refine gOn rfl ?_|refine gOff rfl rfl ?_|refine gTup rfl ?_))
      intro z hz
      rw [i64_id (by omega)] at hz
      obtain rfl : z = ((m + 1 : Nat) : Int) := by omega
      (repeat(first|refine pSeq ?_|refine pReg ?_|refine sCons ?_|refine sNil ?_|refine rCons ?_|refine rNil ?_|refine kNo ?_|refine pRow ?_|refine pBlock ?_|refine pSkip ?_|refine pExit ?_|refine pRet ?_|refine pCond ?_|refine gNone ?_|refine gOn rfl ?_|refine gOff rfl rfl ?_|refine gTup rfl ?_))
      exact ⟨(m + 1, s2), ⟨hlt, c1.nil c12⟩, by show ds.length - (m + 1) < ds.length - m; omega, Wk.same ⟨rfl, rfl, rfl, rfl, rfl, trivial⟩⟩
  · obtain rfl : q = false := by rw [hq]; simp <;> omega
    (repeat(first|refine pSeq ?_|refine pReg ?_|refine sCons ?_|refine sNil ?_|refine rCons ?_|refine rNil ?_|refine kNo ?_|refine pRow ?_|refine pBlock ?_|refine pSkip ?_|refine pExit ?_|refine pRet ?_|refine pCond ?_|refine gNone ?_|refine gOn rfl ?_|refine gOff rfl rfl ?_|refine gTup rfl ?_))
    refine (ltells_w (hG.chg c1 (by simp)) (c1.fine hF)).mono fun v s3 q => ?_
    obtain ⟨rfl, c3⟩ := q
    (repeat(first|refine pSeq ?_|refine pReg ?_|refine sCons ?_|refine sNil ?_|refine rCons ?_|refine rNil ?_|refine kNo ?_|refine pRow ?_|refine pBlock ?_|refine pSkip ?_|refine pExit ?_|refine pRet ?_|refine pCond ?_|refine gNone ?_|refine gOn rfl ?_|refine gOff rfl rfl ?_|refine gTup rfl ?_))
    rfl

/-- Places lie within a text. -/
theorem sp_in : ∀ (T : List Tok) (n : Nat), ∀ x ∈ spT n T, n ≤ x.f ∧ x.f ≤ x.t ∧ x.t ≤ n + (flT T).length
  | [], n, x, h => by cases h
  | .g l :: T, n, x, h => by
    have := sp_in T (n + l.length) x h
    rw [flT_cons, List.length_append]
    show n ≤ x.f ∧ x.f ≤ x.t ∧ x.t ≤ n + (l.length + _)
    omega
  | .d l :: T, n, x, h => by
    have := sp_in T (n + l.length) x h
    rw [flT_cons, List.length_append]
    show n ≤ x.f ∧ x.f ≤ x.t ∧ x.t ≤ n + (l.length + _)
    omega
  | .a l :: T, n, x, h => by
    rw [flT_cons, List.length_append]
    show n ≤ x.f ∧ x.f ≤ x.t ∧ x.t ≤ n + (l.length + _)
    rw [spT] at h
    rcases List.mem_cons.1 h with rfl | h
    · dsimp only
      omega
    · have := sp_in T (n + l.length) x h
      omega
theorem find_in (l : List UInt8) : ∀ x ∈ (findF l).1, x.f ≤ x.t ∧ x.t ≤ l.length := by
  intro x hx
  unfold findF at hx
  cases hT : tokF l with
  | none => rw [hT] at hx; cases hx
  | some T =>
    rw [hT] at hx
    simp only at hx
    split at hx
    · cases hx
    · split at hx
      · cases hx
      · have := sp_in T 0 x hx
        rw [tok_cat hT] at this
        omega

set_option maxHeartbeats 2000000 in
/-- White space about a list. -/
theorem lj_ab {s : SS} {k : Nat} {l : List UInt8} {W1 : Option Addr} {cw1 : Nat} (hG : Gb s) (hF : Fine s) (hl : l.length ≤ 300) (o1 : SpO s W1 cw1 (findF l).1) :
    W pr 178 k (.seq code_LJ_WA (.seq code_LJ_WB code_LJ_WC)) [(0, str l), (5, .slice W1 (findF l).1.length cw1), (6, .int .i64 (findF l).2)] s (runQ pr [.tmp 4] fun v s' => v = .bool true) := by
  have hfi := find_in l
  have hw := find_white l
  have he := find_err l
  have hxf := find_few l
  have hdf := find_few (preL ++ l ++ postL8)
  have hdv := find_vals (preL ++ l ++ postL8)
  refine W.seq (comp_ok good ok_LJ_WA (Box.out (p := wp pr 178 k _ _ _ _) ?_))
  (repeat(first|refine pSeq ?_|refine pReg ?_|refine sCons ?_|refine sNil ?_|refine pSkip ?_|refine pRet ?_|refine pCond ?_|refine gNone ?_|refine gOn rfl ?_|refine gOff rfl rfl ?_|refine gTup rfl ?_))
  refine ⟨by simp; omega, ?_⟩
  intro w1 hw1
  subst hw1
  (repeat(first|refine pSeq ?_|refine pReg ?_|refine sCons ?_|refine sNil ?_|refine pSkip ?_|refine pRet ?_|refine pCond ?_|refine gNone ?_|refine gOn rfl ?_|refine gOff rfl rfl ?_|refine gTup rfl ?_))
  refine ⟨by simp; omega, ?_⟩
  intro w2 hw2
  obtain rfl : w2 = preL ++ l ++ postL8 := by rw [hw2]; rfl
  clear hw2
  (repeat(first|refine pSeq ?_|refine pReg ?_|refine sCons ?_|refine sNil ?_|refine pSkip ?_|refine pRet ?_|refine pCond ?_|refine gNone ?_|refine gOn rfl ?_|refine gOff rfl rfl ?_|refine gTup rfl ?_))
  refine (find_w hF hG (by simp [preL, postL8]; omega)).mono fun v s1 q => ?_
  obtain ⟨W4, cw4, rfl, o4, c1, -⟩ := q
  replace o1 := o1.chg c1 (by simp)
  generalize findF (preL ++ l ++ postL8) = D at *
  obtain ⟨ds, h⟩ := D
  generalize findF l = X at *
  obtain ⟨xs, e⟩ := X
  dsimp only at hfi hw he hxf hdf hdv o1 o4 ⊢
  (repeat(first|refine pSeq ?_|refine pReg ?_|refine sCons ?_|refine sNil ?_|refine pSkip ?_|refine pRet ?_|refine pCond ?_|refine gNone ?_|refine gOn rfl ?_|refine gOff rfl rfl ?_|refine gTup rfl ?_))
  show W pr 178 k (.seq code_LJ_WB code_LJ_WC) _ _ _
  refine W.weak (k := k) (T' := [(5, .slice W1 xs.length cw1), (6, .int .i64 e), (14, .slice W4 ds.length cw4), (15, .int .i64 h)]) (s' := s1) (Wk.same ⟨rfl, rfl, rfl, rfl, trivial⟩) ?_
  have fin : W pr 178 k code_LJ_WC [(5, .slice W1 xs.length cw1), (6, .int .i64 e), (14, .slice W4 ds.length cw4)] s1 (runQ pr [.tmp 4] fun v s' => v = .bool true) :=
    lj_c (hG.chg c1 (by simp)) (c1.fine hF) o1 o4 (fun h0 => (Prod.ext_iff.1 (hw (by omega))).1) hdf (fun x hx => by have := hfi x hx; omega)
  have hh : h ≠ e → e = 5 := fun q => by
    by_cases h5 : e = 5
    · exact h5
    · exact absurd (Prod.ext_iff.1 (hw h5)).2 q
  have hlen : e = 0 → ds.length = xs.length := fun q => by
    have := (Prod.ext_iff.1 (hw (by omega))).1
    have : ds = xs.map (upS 4) := this
    rw [this, List.length_map]
  clear hfi hw he
  refine W.seq (comp_ok good ok_LJ_WB (Box.out (p := wp pr 178 k _ _ _ _) ?_))
  (repeat(first|refine pSeq ?_|refine pReg ?_|refine sCons ?_|refine sNil ?_|refine pSkip ?_|refine pRet ?_|refine pCond ?_|refine gNone ?_|refine gOn rfl ?_|refine gOff rfl rfl ?_|refine gTup rfl ?_))
  intro q hq
  by_cases h1 : h = e
  · obtain rfl : q = false := by rw [hq, h1]; simp
    (repeat(first|refine pSeq ?_|refine pReg ?_|refine sCons ?_|refine sNil ?_|refine pSkip ?_|refine pRet ?_|refine pCond ?_|refine gNone ?_|refine gOn rfl ?_|refine gOff rfl rfl ?_|refine gTup rfl ?_))
    intro q hq
    by_cases h2 : ds.length = xs.length
    · obtain rfl : q = false := by rw [hq, h2]; simp
      (repeat(first|refine pSeq ?_|refine pReg ?_|refine sCons ?_|refine sNil ?_|refine pSkip ?_|refine pRet ?_|refine pCond ?_|refine gNone ?_|refine gOn rfl ?_|refine gOff rfl rfl ?_|refine gTup rfl ?_))
      show W pr 178 k code_LJ_WC _ _ _
      exact W.weak (k := k) (T' := [(5, .slice W1 xs.length cw1), (6, .int .i64 e), (14, .slice W4 ds.length cw4)]) (s' := s1) (Wk.same ⟨rfl, rfl, rfl, trivial⟩) fin
    · obtain rfl : q = true := by rw [hq]; simp; omega
      (repeat(first|refine pSeq ?_|refine pReg ?_|refine sCons ?_|refine sNil ?_|refine pSkip ?_|refine pRet ?_|refine pCond ?_|refine gNone ?_|refine gOn rfl ?_|refine gOff rfl rfl ?_|refine gTup rfl ?_))
      intro q hq
      obtain rfl : q = false := by
        rw [hq]
        have : e ≠ 0 := fun z => h2 (hlen z)
        simp
        omega
      (repeat(first|refine pSeq ?_|refine pReg ?_|refine sCons ?_|refine sNil ?_|refine pSkip ?_|refine pRet ?_|refine pCond ?_|refine gNone ?_|refine gOn rfl ?_|refine gOff rfl rfl ?_|refine gTup rfl ?_))
      show W pr 178 k code_LJ_WC _ _ _
      exact W.weak (k := k) (T' := [(5, .slice W1 xs.length cw1), (6, .int .i64 e), (14, .slice W4 ds.length cw4)]) (s' := s1) (Wk.same ⟨rfl, rfl, rfl, trivial⟩) fin
  · obtain rfl : q = true := by rw [hq]; simp; omega
    have h5 := hh h1
    (repeat(first|refine pSeq ?_|refine pReg ?_|refine sCons ?_|refine sNil ?_|refine pSkip ?_|refine pRet ?_|refine pCond ?_|refine gNone ?_|refine gOn rfl ?_|refine gOff rfl rfl ?_|refine gTup rfl ?_))
    intro q hq
    obtain rfl : q = false := by rw [hq, h5]; rfl
    (repeat(first|refine pSeq ?_|refine pReg ?_|refine sCons ?_|refine sNil ?_|refine pSkip ?_|refine pRet ?_|refine pCond ?_|refine gNone ?_|refine gOn rfl ?_|refine gOff rfl rfl ?_|refine gTup rfl ?_))
    intro q hq
    by_cases h2 : ds.length = xs.length
    · obtain rfl : q = false := by rw [hq, h2]; simp
      (repeat(first|refine pSeq ?_|refine pReg ?_|refine sCons ?_|refine sNil ?_|refine pSkip ?_|refine pRet ?_|refine pCond ?_|refine gNone ?_|refine gOn rfl ?_|refine gOff rfl rfl ?_|refine gTup rfl ?_))
      show W pr 178 k code_LJ_WC _ _ _
      exact W.weak (k := k) (T' := [(5, .slice W1 xs.length cw1), (6, .int .i64 e), (14, .slice W4 ds.length cw4)]) (s' := s1) (Wk.same ⟨rfl, rfl, rfl, trivial⟩) fin
    · obtain rfl : q = true := by rw [hq]; simp; omega
      (repeat(first|refine pSeq ?_|refine pReg ?_|refine sCons ?_|refine sNil ?_|refine pSkip ?_|refine pRet ?_|refine pCond ?_|refine gNone ?_|refine gOn rfl ?_|refine gOff rfl rfl ?_|refine gTup rfl ?_))
      intro q hq
      obtain rfl : q = false := by rw [hq, h5]; rfl
      (repeat(first|refine pSeq ?_|refine pReg ?_|refine sCons ?_|refine sNil ?_|refine pSkip ?_|refine pRet ?_|refine pCond ?_|refine gNone ?_|refine gOn rfl ?_|refine gOff rfl rfl ?_|refine gTup rfl ?_))
      show W pr 178 k code_LJ_WC _ _ _
      exact W.weak (k := k) (T' := [(5, .slice W1 xs.length cw1), (6, .int .i64 e), (14, .slice W4 ds.length cw4)]) (s' := s1) (Wk.same ⟨rfl, rfl, rfl, trivial⟩) fin
end Go.Vf.S

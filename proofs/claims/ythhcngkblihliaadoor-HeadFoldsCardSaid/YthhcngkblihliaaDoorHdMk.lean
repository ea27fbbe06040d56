import Derived.Test.YthhcngkblihliaaDoorHdMj
import Derived.Test.YthhcngkblihliaaDoorHdMe
import Derived.Test.YthhcngkblihliaaDoorHdLe
import Derived.Test.YthhcngkblihliaaDoorFnHX
/- What the law HeadFolds says, from any state: what is laid. -/
namespace Go.Vf.S
open Go Go.Vf Go.Proofs Go.RowKit
attribute [local irreducible] wSeq wRow wp wG
set_option linter.unusedVariables false
set_option linter.unusedSimpArgs false
set_option maxRecDepth 10000

theorem Split2_w {s : SS} {a : List UInt8} {r : List (List UInt8)} (hM : Gx s) (hk : Okl (a :: r)) (hl : (js a r).length ≤ 1000000) (hr : r.length < (js a r).length + 1) : CallW pr n_strings_Split [str (js a r), str e2] s fun v s' => ∃ base cap, v = .slice base (a :: r).length cap ∧ StrsAt s' base (a :: r) ∧ Chg s s' [] ∧ (∀ id ∈ blkOf base, s.next ≤ id) ∧ (a :: r).length ≤ cap := by
  refine CallW.run good ok_strings_Split (by simp) rfl ?_
  (repeat(first|refine pSeq ?_|refine pReg ?_|refine sCons ?_|refine sNil ?_|refine pRet ?_|refine gNone ?_))
  refine (split2_w hM hk hl hr).mono fun v s1 q => ?_
  obtain ⟨base, cap, rfl, h1, c1, h2, h3, -⟩ := q
  (repeat(first|refine pSeq ?_|refine pReg ?_|refine sCons ?_|refine sNil ?_|refine pRet ?_|refine gNone ?_))
  exact ⟨base, cap, rfl, h1, c1, h2, h3⟩

set_option maxHeartbeats 8000000 in
theorem hf_tail {s : SS} {k : Nat} {v : List UInt8} (hE : ∀ nm v, layF nm v = layR nm v) (hM : Gx s) (hf : Fine s) (hv : v.all okB = true) (hv9 : (9 : UInt8) ∉ v) (hvl : v.length ≤ 2600) :
    W pr 146 k code_HX_TL [(5, str v)] s (runQ pr [.tmp 4] fun u s' => u = .bool true) := by
  obtain ⟨L0, hL0⟩ : ∃ L0 : List UInt8, L0 = [84, 111] ++ 58 :: 32 :: v := ⟨_, rfl⟩
  have hL0l : L0.length = v.length + 4 := by rw [hL0]; simp
  obtain ⟨g1, g2, g3, g4⟩ := lay_field (y := 2) (n := L0.length) (z := 5) (nm := [84, 111]) (v := v) (by decide) hv (by simp)
  rw [← hL0] at g1 g2 g3 g4
  have hfl := fold_flat 2 L0.length 5 L0
  have hlong := fold_long 2 L0.length 5 L0 (Nat.le_refl _)
  have hends := fold_ends 2 L0.length 5 L0
  have hbeg := fold_begins 2 L0.length 5 L0
  have hmany := fold_many 2 L0.length 5 L0
  have hjl := jn_fold 2 L0.length 5 L0
  obtain ⟨a, r, e⟩ := fold_cons 2 L0.length 5 L0
  have hlay : layF [84, 111] v = some ⟨[84, 111], trimF v, jn (a :: r)⟩ := by
    rw [hE]
    unfold layR
    rw [if_pos ⟨by decide, hv⟩, ← e, hL0]
    rfl
  rw [e] at g1 g2 g3 g4 hfl hlong hends hbeg hmany hjl
  have hjs := js_jn a r
  have hjsl := congrArg List.length hjs
  rw [List.length_append] at hjsl
  have hjsl : (js a r).length + 2 = (jn (a :: r)).length := hjsl
  have hrl : r.length < (js a r).length + 1 := by
    have := jn_len (a :: r)
    rw [List.length_cons] at this
    omega
  have hsuf : ([13, 10] : List UInt8) <:+ jn (a :: r) := ⟨js a r, hjs⟩
  have hcut : (jn (a :: r)).take ((jn (a :: r)).length - 2) = js a r := by rw [← hjs]; exact List.take_left' (by simp)
  refine comp_ok good ok_HX_TL (Box.out (p := wp pr 146 k _ _ _ _) ?_)
  (repeat(first|refine pSeq ?_|refine pReg ?_|refine sCons ?_|refine sNil ?_|refine rCons ?_|refine rNil ?_|refine kNo ?_|refine pRow ?_|refine pBlock ?_|refine pSkip ?_|refine pExit ?_|refine pRet ?_|refine pCond ?_|refine gNone ?_|refine gOn rfl ?_|refine gOff rfl rfl ?_|refine gTup rfl ?_))
  refine (hlay_w (nm := [84, 111]) (v := v) (by simp) (by omega)).mono fun u s1 q => ?_
  rw [hlay] at q
  obtain ⟨rfl, c1⟩ := q
  generalize jn (a :: r) = R at *
  (repeat(first|refine pSeq ?_|refine pReg ?_|refine sCons ?_|refine sNil ?_|refine rCons ?_|refine rNil ?_|refine kNo ?_|refine pRow ?_|refine pBlock ?_|refine pSkip ?_|refine pExit ?_|refine pRet ?_|refine pCond ?_|refine gNone ?_|refine gOn rfl ?_|refine gOff rfl rfl ?_|refine gTup rfl ?_))
  refine st_abs (cs' := flC ⟨[84, 111], trimF v, R⟩) rfl rfl lkH (Nat.lt_succ_self _) rfl rfl fun s2 k2 c2 n2 => ?_
  have c12 : Chg s1 s2 [] := (Chg.new []).fresh c2 (by simp)
  have k2 : lookH s2.heap s1.next = some (.cells (flC ⟨[84, 111], trimF v, R⟩) tFl false false) := k2
  have c02 := c1.nil c12
  (repeat(first|refine pSeq ?_|refine pReg ?_|refine sCons ?_|refine sNil ?_|refine rCons ?_|refine rNil ?_|refine kNo ?_|refine pRow ?_|refine pBlock ?_|refine pSkip ?_|refine pExit ?_|refine pRet ?_|refine pCond ?_|refine gNone ?_|refine gOn rfl ?_|refine gOff rfl rfl ?_|refine gTup rfl ?_))
  intro q hq
  obtain rfl : q = false := by rw [hq]; rfl
  (repeat(first|refine pSeq ?_|refine pReg ?_|refine sCons ?_|refine sNil ?_|refine rCons ?_|refine rNil ?_|refine kNo ?_|refine pRow ?_|refine pBlock ?_|refine pSkip ?_|refine pExit ?_|refine pRet ?_|refine pCond ?_|refine gNone ?_|refine gOn rfl ?_|refine gOff rfl rfl ?_|refine gTup rfl ?_))
  refine ldS_is (l := [84, 111]) rfl k2 rfl ?_
  (repeat(first|refine pSeq ?_|refine pReg ?_|refine sCons ?_|refine sNil ?_|refine rCons ?_|refine rNil ?_|refine kNo ?_|refine pRow ?_|refine pBlock ?_|refine pSkip ?_|refine pExit ?_|refine pRet ?_|refine pCond ?_|refine gNone ?_|refine gOn rfl ?_|refine gOff rfl rfl ?_|refine gTup rfl ?_))
  intro q hq
  obtain rfl : q = false := by rw [hq]; rfl
  (repeat(first|refine pSeq ?_|refine pReg ?_|refine sCons ?_|refine sNil ?_|refine rCons ?_|refine rNil ?_|refine kNo ?_|refine pRow ?_|refine pBlock ?_|refine pSkip ?_|refine pExit ?_|refine pRet ?_|refine pCond ?_|refine gNone ?_|refine gOn rfl ?_|refine gOff rfl rfl ?_|refine gTup rfl ?_))
  refine ldS_is (l := trimF v) rfl k2 rfl ?_
  (repeat(first|refine pSeq ?_|refine pReg ?_|refine sCons ?_|refine sNil ?_|refine rCons ?_|refine rNil ?_|refine kNo ?_|refine pRow ?_|refine pBlock ?_|refine pSkip ?_|refine pExit ?_|refine pRet ?_|refine pCond ?_|refine gNone ?_|refine gOn rfl ?_|refine gOff rfl rfl ?_|refine gTup rfl ?_))
  refine (Trim1_w (l := v) (by omega) hv9).mono fun u s2 q => ?_
  obtain ⟨rfl, rfl⟩ := q
  first | refine kAll .refl ?_ | skip
  (repeat(first|refine pSeq ?_|refine pReg ?_|refine sCons ?_|refine sNil ?_|refine rCons ?_|refine rNil ?_|refine kNo ?_|refine pRow ?_|refine pBlock ?_|refine pSkip ?_|refine pExit ?_|refine pRet ?_|refine pCond ?_|refine gNone ?_|refine gOn rfl ?_|refine gOff rfl rfl ?_|refine gTup rfl ?_))
  intro q hq
  obtain rfl : q = false := by rw [hq]; simp
  (repeat(first|refine pSeq ?_|refine pReg ?_|refine sCons ?_|refine sNil ?_|refine rCons ?_|refine rNil ?_|refine kNo ?_|refine pRow ?_|refine pBlock ?_|refine pSkip ?_|refine pExit ?_|refine pRet ?_|refine pCond ?_|refine gNone ?_|refine gOn rfl ?_|refine gOff rfl rfl ?_|refine gTup rfl ?_))
  refine ldS_is (l := R) rfl k2 rfl ?_
  (repeat(first|refine pSeq ?_|refine pReg ?_|refine sCons ?_|refine sNil ?_|refine rCons ?_|refine rNil ?_|refine kNo ?_|refine pRow ?_|refine pBlock ?_|refine pSkip ?_|refine pExit ?_|refine pRet ?_|refine pCond ?_|refine gNone ?_|refine gOn rfl ?_|refine gOff rfl rfl ?_|refine gTup rfl ?_))
  refine (hasSuffix_w (a := R) (b := [13, 10]) (by omega)).mono fun u s2 q => ?_
  rw [decide_eq_true hsuf] at q
  obtain ⟨rfl, rfl⟩ := q
  first | refine kAll .refl ?_ | skip
  (repeat(first|refine pSeq ?_|refine pReg ?_|refine sCons ?_|refine sNil ?_|refine rCons ?_|refine rNil ?_|refine kNo ?_|refine pRow ?_|refine pBlock ?_|refine pSkip ?_|refine pExit ?_|refine pRet ?_|refine pCond ?_|refine gNone ?_|refine gOn rfl ?_|refine gOff rfl rfl ?_|refine gTup rfl ?_))
  intro q hq
  obtain rfl : q = false := by rw [hq]; rfl
  (repeat(first|refine pSeq ?_|refine pReg ?_|refine sCons ?_|refine sNil ?_|refine rCons ?_|refine rNil ?_|refine kNo ?_|refine pRow ?_|refine pBlock ?_|refine pSkip ?_|refine pExit ?_|refine pRet ?_|refine pCond ?_|refine gNone ?_|refine gOn rfl ?_|refine gOff rfl rfl ?_|refine gTup rfl ?_))
  refine ldS_is (l := R) rfl k2 rfl ?_
  (repeat(first|refine pSeq ?_|refine pReg ?_|refine sCons ?_|refine sNil ?_|refine rCons ?_|refine rNil ?_|refine kNo ?_|refine pRow ?_|refine pBlock ?_|refine pSkip ?_|refine pExit ?_|refine pRet ?_|refine pCond ?_|refine gNone ?_|refine gOn rfl ?_|refine gOff rfl rfl ?_|refine gTup rfl ?_))
  refine (trimSuffix_w (l := R) (b := [13, 10]) (by omega)).mono fun u s2 q => ?_
  rw [if_pos hsuf] at q
  obtain ⟨rfl, rfl⟩ := q
  rw [show R.length - ([13, 10] : List UInt8).length = R.length - 2 from rfl, hcut]
  (repeat(first|refine pSeq ?_|refine pReg ?_|refine sCons ?_|refine sNil ?_|refine rCons ?_|refine rNil ?_|refine kNo ?_|refine pRow ?_|refine pBlock ?_|refine pSkip ?_|refine pExit ?_|refine pRet ?_|refine pCond ?_|refine gNone ?_|refine gOn rfl ?_|refine gOff rfl rfl ?_|refine gTup rfl ?_))
  refine (Split2_w (hM.chg c02) g3 (by omega) hrl).mono fun u s3 q => ?_
  obtain ⟨base, cap, rfl, h3, c3, b3, cap3⟩ := q
  have c03 := c02.nil c3
  (repeat(first|refine pSeq ?_|refine pReg ?_|refine sCons ?_|refine sNil ?_|refine rCons ?_|refine rNil ?_|refine kNo ?_|refine pRow ?_|refine pBlock ?_|refine pSkip ?_|refine pExit ?_|refine pRet ?_|refine pCond ?_|refine gNone ?_|refine gOn rfl ?_|refine gOff rfl rfl ?_|refine gTup rfl ?_))
  refine (join0_w h3 (by simp) cap3 (by omega) (by rw [hfl]; omega)).mono fun u s3 q => ?_
  rw [hfl] at q
  obtain ⟨rfl, rfl⟩ := q
  (repeat(first|refine pSeq ?_|refine pReg ?_|refine sCons ?_|refine sNil ?_|refine rCons ?_|refine rNil ?_|refine kNo ?_|refine pRow ?_|refine pBlock ?_|refine pSkip ?_|refine pExit ?_|refine pRet ?_|refine pCond ?_|refine gNone ?_|refine gOn rfl ?_|refine gOff rfl rfl ?_|refine gTup rfl ?_))
  refine ⟨by simp; omega, ?_⟩
  intro x hx
  have ex : x = L0 := by rw [hx, hL0]; rfl
  clear hx
  subst ex
  (repeat(first|refine pSeq ?_|refine pReg ?_|refine sCons ?_|refine sNil ?_|refine rCons ?_|refine rNil ?_|refine kNo ?_|refine pRow ?_|refine pBlock ?_|refine pSkip ?_|refine pExit ?_|refine pRet ?_|refine pCond ?_|refine gNone ?_|refine gOn rfl ?_|refine gOff rfl rfl ?_|refine gTup rfl ?_))
  intro q hq
  obtain rfl : q = false := by rw [hq]; simp
  (repeat(first|refine pSeq ?_|refine pReg ?_|refine sCons ?_|refine sNil ?_|refine rCons ?_|refine rNil ?_|refine kNo ?_|refine pRow ?_|refine pBlock ?_|refine pSkip ?_|refine pExit ?_|refine pRet ?_|refine pCond ?_|refine gNone ?_|refine gOn rfl ?_|refine gOff rfl rfl ?_|refine gTup rfl ?_))
  obtain ⟨ls, hls⟩ : ∃ ls, ls = a :: r := ⟨_, rfl⟩
  rw [← hls] at h3 hlong hends hbeg hmany cap3 hfl ⊢
  clear hls g1 g2 g3 g4 hsuf hcut
  obtain ⟨bb, rfl, cs, t, g, r', h4, h5⟩ := h3.at
  have hxl : ∀ x' ∈ ls, x'.length ≤ 2700 := fun x' hx' => by
    have := (List.sublist_flatten_of_mem hx').length_le
    rw [hfl] at this
    omega
  refine pLoop (MW.head good (fun i : Nat => ls.length - i) (fun i => i ≤ ls.length) (fun i => [(12, .slice (some ⟨bb, 0, none⟩) ls.length cap), (93, .slice (some ⟨bb, 0, none⟩) ls.length cap), (94, .int .i64 ls.length), (95, .int .i64 i)]) (fun i => s3) 0 (Nat.zero_le _) (Wk.same ⟨rfl, rfl, rfl, rfl, trivial⟩) ?_)
  intro i hi
  (repeat(first|refine pSeq ?_|refine pReg ?_|refine sCons ?_|refine sNil ?_|refine rCons ?_|refine rNil ?_|refine kNo ?_|refine pRow ?_|refine pBlock ?_|refine pSkip ?_|refine pExit ?_|refine pRet ?_|refine pCond ?_|refine gNone ?_|refine gOn rfl ?_|refine gOff rfl rfl ?_|refine gTup rfl ?_))
  intro q hq
  by_cases hlt : i < ls.length
  · obtain rfl : q = true := by rw [hq]; exact decide_eq_true (by omega)
    obtain ⟨y, hy⟩ : ∃ y, ls[i]? = some y := ⟨_, List.getElem?_eq_getElem hlt⟩
    have hyl := hxl y (List.mem_of_getElem? hy)
    (repeat(first|refine pSeq ?_|refine pReg ?_|refine sCons ?_|refine sNil ?_|refine rCons ?_|refine rNil ?_|refine kNo ?_|refine pRow ?_|refine pBlock ?_|refine pSkip ?_|refine pExit ?_|refine pRet ?_|refine pCond ?_|refine gNone ?_|refine gOn rfl ?_|refine gOff rfl rfl ?_|refine gTup rfl ?_))
    refine ⟨by omega, ?_⟩
    intro m hm o ho
    obtain rfl : m = i := by omega
    (repeat(first|refine pSeq ?_|refine pReg ?_|refine sCons ?_|refine sNil ?_|refine rCons ?_|refine rNil ?_|refine kNo ?_|refine pRow ?_|refine pBlock ?_|refine pSkip ?_|refine pExit ?_|refine pRet ?_|refine pCond ?_|refine gNone ?_|refine gOn rfl ?_|refine gOff rfl rfl ?_|refine gTup rfl ?_))
    refine ldS_is (l := y) rfl h4 (by rw [ho, Nat.zero_add, Nat.mul_one]; exact h5 _ _ hy) ?_
    (repeat(first|refine pSeq ?_|refine pReg ?_|refine sCons ?_|refine sNil ?_|refine rCons ?_|refine rNil ?_|refine kNo ?_|refine pRow ?_|refine pBlock ?_|refine pSkip ?_|refine pExit ?_|refine pRet ?_|refine pCond ?_|refine gNone ?_|refine gOn rfl ?_|refine gOff rfl rfl ?_|refine gTup rfl ?_))
    intro q hq
    rcases Nat.eq_zero_or_pos m with h0 | h0
    obtain rfl : q = false := by rw [hq]; exact decide_eq_false (by omega)
    (repeat(first|refine pSeq ?_|refine pReg ?_|refine sCons ?_|refine sNil ?_|refine rCons ?_|refine rNil ?_|refine kNo ?_|refine pRow ?_|refine pBlock ?_|refine pSkip ?_|refine pExit ?_|refine pRet ?_|refine pCond ?_|refine gNone ?_|refine gOn rfl ?_|refine gOff rfl rfl ?_|refine gTup rfl ?_))
    rotate_left
    obtain rfl : q = true := by rw [hq]; exact decide_eq_true (by omega)
    (repeat(first|refine pSeq ?_|refine pReg ?_|refine sCons ?_|refine sNil ?_|refine rCons ?_|refine rNil ?_|refine kNo ?_|refine pRow ?_|refine pBlock ?_|refine pSkip ?_|refine pExit ?_|refine pRet ?_|refine pCond ?_|refine gNone ?_|refine gOn rfl ?_|refine gOff rfl rfl ?_|refine gTup rfl ?_))
    intro n hn
    (repeat(first|refine pSeq ?_|refine pReg ?_|refine sCons ?_|refine sNil ?_|refine rCons ?_|refine rNil ?_|refine kNo ?_|refine pRow ?_|refine pBlock ?_|refine pSkip ?_|refine pExit ?_|refine pRet ?_|refine pCond ?_|refine gNone ?_|refine gOn rfl ?_|refine gOff rfl rfl ?_|refine gTup rfl ?_))
    intro z hz
    (repeat(first|refine pSeq ?_|refine pReg ?_|refine sCons ?_|refine sNil ?_|refine rCons ?_|refine rNil ?_|refine kNo ?_|refine pRow ?_|refine pBlock ?_|refine pSkip ?_|refine pExit ?_|refine pRet ?_|refine pCond ?_|refine gNone ?_|refine gOn rfl ?_|refine gOff rfl rfl ?_|refine gTup rfl ?_))
    obtain ⟨w, hw⟩ := hbeg (m - 1) y (by rw [show m - 1 + 1 = m by omega]; exact hy)
    have hw1 : 1 ≤ y.length := by rw [hw, List.length_cons]; omega
    refine ⟨by omega, ?_⟩
    intro m2 hm2 g2 hg2
    obtain rfl : m2 = 1 := by omega
    have eg : g2 = [32] := by rw [hg2, hw]; rfl
    clear hg2
    subst eg
    (repeat(first|refine pSeq ?_|refine pReg ?_|refine sCons ?_|refine sNil ?_|refine rCons ?_|refine rNil ?_|refine kNo ?_|refine pRow ?_|refine pBlock ?_|refine pSkip ?_|refine pExit ?_|refine pRet ?_|refine pCond ?_|refine gNone ?_|refine gOn rfl ?_|refine gOff rfl rfl ?_|refine gTup rfl ?_))
    intro q hq
    obtain rfl : q = false := by rw [hq]; rfl
    (repeat(first|refine pSeq ?_|refine pReg ?_|refine sCons ?_|refine sNil ?_|refine rCons ?_|refine rNil ?_|refine kNo ?_|refine pRow ?_|refine pBlock ?_|refine pSkip ?_|refine pExit ?_|refine pRet ?_|refine pCond ?_|refine gNone ?_|refine gOn rfl ?_|refine gOff rfl rfl ?_|refine gTup rfl ?_))
    all_goals
      intro z1 hz1
      rw [i64_id (by omega)] at hz1
      (repeat(first|refine pSeq ?_|refine pReg ?_|refine sCons ?_|refine sNil ?_|refine rCons ?_|refine rNil ?_|refine kNo ?_|refine pRow ?_|refine pBlock ?_|refine pSkip ?_|refine pExit ?_|refine pRet ?_|refine pCond ?_|refine gNone ?_|refine gOn rfl ?_|refine gOff rfl rfl ?_|refine gTup rfl ?_))
      intro q hq
      by_cases hl : m + 1 < ls.length
      obtain rfl : q = true := by rw [hq]; exact decide_eq_true (by omega)
      (repeat(first|refine pSeq ?_|refine pReg ?_|refine sCons ?_|refine sNil ?_|refine rCons ?_|refine rNil ?_|refine kNo ?_|refine pRow ?_|refine pBlock ?_|refine pSkip ?_|refine pExit ?_|refine pRet ?_|refine pCond ?_|refine gNone ?_|refine gOn rfl ?_|refine gOff rfl rfl ?_|refine gTup rfl ?_))
      refine (hasSuffix_w (a := y) (b := [44]) (by omega)).mono fun u s3 q => ?_
      rw [decide_eq_true (show [44] <:+ y by obtain ⟨t, ht⟩ := hends m y hy hl; exact ⟨t, ht.symm⟩)] at q
      obtain ⟨rfl, rfl⟩ := q
      (repeat(first|refine pSeq ?_|refine pReg ?_|refine sCons ?_|refine sNil ?_|refine rCons ?_|refine rNil ?_|refine kNo ?_|refine pRow ?_|refine pBlock ?_|refine pSkip ?_|refine pExit ?_|refine pRet ?_|refine pCond ?_|refine gNone ?_|refine gOn rfl ?_|refine gOff rfl rfl ?_|refine gTup rfl ?_))
      intro q hq
      obtain rfl : q = false := by rw [hq]; rfl
      (repeat(first|refine pSeq ?_|refine pReg ?_|refine sCons ?_|refine sNil ?_|refine rCons ?_|refine rNil ?_|refine kNo ?_|refine pRow ?_|refine pBlock ?_|refine pSkip ?_|refine pExit ?_|refine pRet ?_|refine pCond ?_|refine gNone ?_|refine gOn rfl ?_|refine gOff rfl rfl ?_|refine gTup rfl ?_))
      rotate_left
      obtain rfl : q = false := by rw [hq]; exact decide_eq_false (by omega)
      (repeat(first|refine pSeq ?_|refine pReg ?_|refine sCons ?_|refine sNil ?_|refine rCons ?_|refine rNil ?_|refine kNo ?_|refine pRow ?_|refine pBlock ?_|refine pSkip ?_|refine pExit ?_|refine pRet ?_|refine pCond ?_|refine gNone ?_|refine gOn rfl ?_|refine gOff rfl rfl ?_|refine gTup rfl ?_))
      all_goals
        intro z2 hz2
        (repeat(first|refine pSeq ?_|refine pReg ?_|refine sCons ?_|refine sNil ?_|refine rCons ?_|refine rNil ?_|refine kNo ?_|refine pRow ?_|refine pBlock ?_|refine pSkip ?_|refine pExit ?_|refine pRet ?_|refine pCond ?_|refine gNone ?_|refine gOn rfl ?_|refine gOff rfl rfl ?_|refine gTup rfl ?_))
        intro z3 hz3
        rw [i64_id (by omega)] at hz3
        (repeat(first|refine pSeq ?_|refine pReg ?_|refine sCons ?_|refine sNil ?_|refine rCons ?_|refine rNil ?_|refine kNo ?_|refine pRow ?_|refine pBlock ?_|refine pSkip ?_|refine pExit ?_|refine pRet ?_|refine pCond ?_|refine gNone ?_|refine gOn rfl ?_|refine gOff rfl rfl ?_|refine gTup rfl ?_))
        intro z4 hz4
        (repeat(first|refine pSeq ?_|refine pReg ?_|refine sCons ?_|refine sNil ?_|refine rCons ?_|refine rNil ?_|refine kNo ?_|refine pRow ?_|refine pBlock ?_|refine pSkip ?_|refine pExit ?_|refine pRet ?_|refine pCond ?_|refine gNone ?_|refine gOn rfl ?_|refine gOff rfl rfl ?_|refine gTup rfl ?_))
        intro z5 hz5
        rw [i64_id (by omega)] at hz5
        (repeat(first|refine pSeq ?_|refine pReg ?_|refine sCons ?_|refine sNil ?_|refine rCons ?_|refine rNil ?_|refine kNo ?_|refine pRow ?_|refine pBlock ?_|refine pSkip ?_|refine pExit ?_|refine pRet ?_|refine pCond ?_|refine gNone ?_|refine gOn rfl ?_|refine gOff rfl rfl ?_|refine gTup rfl ?_))
        intro z6 hz6
        rw [i64_id (by omega)] at hz6
        have hle : z6 = if m = 0 then 5 else 2 := by
          split
          · omega
          · omega
        (repeat(first|refine pSeq ?_|refine pReg ?_|refine sCons ?_|refine sNil ?_|refine rCons ?_|refine rNil ?_|refine kNo ?_|refine pRow ?_|refine pBlock ?_|refine pSkip ?_|refine pExit ?_|refine pRet ?_|refine pCond ?_|refine gNone ?_|refine gOn rfl ?_|refine gOff rfl rfl ?_|refine gTup rfl ?_))
        intro n hn
        (repeat(first|refine pSeq ?_|refine pReg ?_|refine sCons ?_|refine sNil ?_|refine rCons ?_|refine rNil ?_|refine kNo ?_|refine pRow ?_|refine pBlock ?_|refine pSkip ?_|refine pExit ?_|refine pRet ?_|refine pCond ?_|refine gNone ?_|refine gOn rfl ?_|refine gOff rfl rfl ?_|refine gTup rfl ?_))
        intro q hq
        by_cases h78 : 78 < y.length
        · obtain rfl : q = true := by rw [hq]; exact decide_eq_true (by omega)
          (repeat(first|refine pSeq ?_|refine pReg ?_|refine sCons ?_|refine sNil ?_|refine rCons ?_|refine rNil ?_|refine kNo ?_|refine pRow ?_|refine pBlock ?_|refine pSkip ?_|refine pExit ?_|refine pRet ?_|refine pCond ?_|refine gNone ?_|refine gOn rfl ?_|refine gOff rfl rfl ?_|refine gTup rfl ?_))
          intro n2 hn2
          (repeat(first|refine pSeq ?_|refine pReg ?_|refine sCons ?_|refine sNil ?_|refine rCons ?_|refine rNil ?_|refine kNo ?_|refine pRow ?_|refine pBlock ?_|refine pSkip ?_|refine pExit ?_|refine pRet ?_|refine pCond ?_|refine gNone ?_|refine gOn rfl ?_|refine gOff rfl rfl ?_|refine gTup rfl ?_))
          intro q hq
          obtain rfl : q = true := by rw [hq]; exact decide_eq_true (by omega)
          (repeat(first|refine pSeq ?_|refine pReg ?_|refine sCons ?_|refine sNil ?_|refine rCons ?_|refine rNil ?_|refine kNo ?_|refine pRow ?_|refine pBlock ?_|refine pSkip ?_|refine pExit ?_|refine pRet ?_|refine pCond ?_|refine gNone ?_|refine gOn rfl ?_|refine gOff rfl rfl ?_|refine gTup rfl ?_))
          intro z7 hz7
          rw [i64_id (by omega)] at hz7
          (repeat(first|refine pSeq ?_|refine pReg ?_|refine sCons ?_|refine sNil ?_|refine rCons ?_|refine rNil ?_|refine kNo ?_|refine pRow ?_|refine pBlock ?_|refine pSkip ?_|refine pExit ?_|refine pRet ?_|refine pCond ?_|refine gNone ?_|refine gOn rfl ?_|refine gOff rfl rfl ?_|refine gTup rfl ?_))
          refine ⟨by omega, ?_⟩
          intro m3 hm3 g3 hg3
          have eg : g3 = y.drop m3 := by rw [hg3, List.take_of_length_le (by rw [List.length_drop]; omega)]
          clear hg3
          subst eg
          have hno := no_com (l := y) (k := m3) fun i hi => hlong m y hy h78 i (by
            split at hle
            · rename_i h0; rw [if_pos h0]; omega
            · rename_i h0; rw [if_neg h0]; omega)
          (repeat(first|refine pSeq ?_|refine pReg ?_|refine sCons ?_|refine sNil ?_|refine rCons ?_|refine rNil ?_|refine kNo ?_|refine pRow ?_|refine pBlock ?_|refine pSkip ?_|refine pExit ?_|refine pRet ?_|refine pCond ?_|refine gNone ?_|refine gOn rfl ?_|refine gOff rfl rfl ?_|refine gTup rfl ?_))
          refine (contains2_w (l := y.drop m3) (m := [44, 32]) (hM.chg c03) (by rw [List.length_drop]; omega)).mono fun u s3 q => ?_
          rw [hno] at q
          obtain ⟨rfl, rfl⟩ := q
          (repeat(first|refine pSeq ?_|refine pReg ?_|refine sCons ?_|refine sNil ?_|refine rCons ?_|refine rNil ?_|refine kNo ?_|refine pRow ?_|refine pBlock ?_|refine pSkip ?_|refine pExit ?_|refine pRet ?_|refine pCond ?_|refine gNone ?_|refine gOn rfl ?_|refine gOff rfl rfl ?_|refine gTup rfl ?_))
          intro z8 hz8
          rw [i64_id (by omega)] at hz8
          obtain rfl : z8 = ((m + 1 : Nat) : Int) := by omega
          (repeat(first|refine pSeq ?_|refine pReg ?_|refine sCons ?_|refine sNil ?_|refine rCons ?_|refine rNil ?_|refine kNo ?_|refine pRow ?_|refine pBlock ?_|refine pSkip ?_|refine pExit ?_|refine pRet ?_|refine pCond ?_|refine gNone ?_|refine gOn rfl ?_|refine gOff rfl rfl ?_|refine gTup rfl ?_))
          exact ⟨m + 1, hlt, by show ls.length - (m + 1) < ls.length - m; omega, Wk.same ⟨rfl, rfl, rfl, rfl, trivial⟩⟩
        · obtain rfl : q = false := by rw [hq]; exact decide_eq_false (by omega)
          (repeat(first|refine pSeq ?_|refine pReg ?_|refine sCons ?_|refine sNil ?_|refine rCons ?_|refine rNil ?_|refine kNo ?_|refine pRow ?_|refine pBlock ?_|refine pSkip ?_|refine pExit ?_|refine pRet ?_|refine pCond ?_|refine gNone ?_|refine gOn rfl ?_|refine gOff rfl rfl ?_|refine gTup rfl ?_))
          intro z8 hz8
          rw [i64_id (by omega)] at hz8
          obtain rfl : z8 = ((m + 1 : Nat) : Int) := by omega
          (repeat(first|refine pSeq ?_|refine pReg ?_|refine sCons ?_|refine sNil ?_|refine rCons ?_|refine rNil ?_|refine kNo ?_|refine pRow ?_|refine pBlock ?_|refine pSkip ?_|refine pExit ?_|refine pRet ?_|refine pCond ?_|refine gNone ?_|refine gOn rfl ?_|refine gOff rfl rfl ?_|refine gTup rfl ?_))
          exact ⟨m + 1, hlt, by show ls.length - (m + 1) < ls.length - m; omega, Wk.same ⟨rfl, rfl, rfl, rfl, trivial⟩⟩
  · obtain rfl : q = false := by rw [hq]; exact decide_eq_false (by omega)
    (repeat(first|refine pSeq ?_|refine pReg ?_|refine sCons ?_|refine sNil ?_|refine rCons ?_|refine rNil ?_|refine kNo ?_|refine pRow ?_|refine pBlock ?_|refine pSkip ?_|refine pExit ?_|refine pRet ?_|refine pCond ?_|refine gNone ?_|refine gOn rfl ?_|refine gOff rfl rfl ?_|refine gTup rfl ?_))
    refine (hwakes_w (hM.chg c03)).mono fun u s4 q => ?_
    obtain ⟨rfl, c4⟩ := q
    (repeat(first|refine pSeq ?_|refine pReg ?_|refine sCons ?_|refine sNil ?_|refine rCons ?_|refine rNil ?_|refine kNo ?_|refine pRow ?_|refine pBlock ?_|refine pSkip ?_|refine pExit ?_|refine pRet ?_|refine pCond ?_|refine gNone ?_|refine gOn rfl ?_|refine gOff rfl rfl ?_|refine gTup rfl ?_))
    rfl
end Go.Vf.S

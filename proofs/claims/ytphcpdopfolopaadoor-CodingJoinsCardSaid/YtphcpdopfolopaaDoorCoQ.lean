import Derived.Test.YtphcpdopfolopaaDoorCoP
/- CodingTells: from any state in which the kinds lie. -/
namespace Go.Vf.S
open Go Go.Vf Go.Proofs Go.RowKit
attribute [local irreducible] wSeq wRow wp wG
set_option linter.unusedVariables false
set_option linter.unusedSimpArgs false
set_option maxRecDepth 10000

/-! ### The law's row of kinds -/
abbrev tLk : TypeId := 28
def kz (i : Nat) : Nat := if i = 0 then 5 else if i = 1 then 6 else 4
def lkV (z : Nat) : List Value := [.int .i64 (z : Nat), fnV (tellN z), fnV (readN z)]
def lksV : List Value := lkV 5 ++ lkV 6 ++ lkV 4
theorem kz_ok (i : Nat) : 4 ≤ kz i ∧ kz i ≤ 6 := by unfold kz; split; decide; split <;> decide
theorem lks_take {i : Nat} (h : i < 3) : takeN 3 (lksV.drop (i * 3)) = some (lkV (kz i)) := by
  rcases (show i = 0 ∨ i = 1 ∨ i = 2 by omega) with rfl | rfl | rfl <;> rfl
theorem lk0 (z : Nat) : (lkV z)[0]? = some (Value.int .i64 (z : Nat)) := rfl
theorem lk1 (z : Nat) : (lkV z)[1]? = some (fnV (tellN z)) := rfl
theorem lk2 (z : Nat) : (lkV z)[2]? = some (fnV (readN z)) := rfl
theorem kinds_w {s : SS} (f : Fine s) : CallW pr n_law11_kinds [] s fun v s' => v = slV s.next 3 3 ∧ lookH s'.heap s.next = some (.cells lksV tLk false false) ∧ s'.next = s.next + 1 ∧ Chg s s' [] := by
  refine CallW.run good ok_law11_kinds (by simp) rfl ?_
  (repeat(first|refine pSeq ?_|refine pReg ?_|refine sCons ?_|refine sNil ?_|refine pRet ?_|refine gNone ?_))
  exact ⟨rfl, lkH, rfl, .new []⟩
theorem call_tell {z : Nat} (hz : 4 ≤ z ∧ z ≤ 6) (x : Value) : callV pr (fnV (tellN z)) [x] = some (.enter (tellN z) [x]) := by
  rcases (show z = 4 ∨ z = 5 ∨ z = 6 by omega) with rfl | rfl | rfl
  · exact callV_cs ok_coding_Hex [] x
  · exact callV_cs ok_coding_Base32 [] x
  · exact callV_cs ok_coding_Base64 [] x
theorem call_read {z : Nat} (hz : 4 ≤ z ∧ z ≤ 6) (x : Value) : callV pr (fnV (readN z)) [x] = some (.enter (readN z) [x]) := by
  rcases (show z = 4 ∨ z = 5 ∨ z = 6 by omega) with rfl | rfl | rfl
  · exact callV_cs ok_coding_FromHex [] x
  · exact callV_cs ok_coding_FromBase32 [] x
  · exact callV_cs ok_coding_FromBase64 [] x
/-- A value that is asked for one thing. -/
theorem gen_v {T : TL} {s : SS} {K : RR → Prop} {x a : Tmp} {ts : Array TypeId} {g : Nat} {u fv : Value} (hx : look T x = some fv) (ha : look T a = some u) (hc : callV pr fv [u] = some (.enter g [u])) (hK : K (.call g [u])) : wN pr (.gen (.call ⟨.value (.tmp x), #[.tmp a], ts⟩)) T s K := by
  refine ⟨.call g [u], ?_, hK⟩
  simp only [aOp, operand, operands, toTr_get, hx, ha]
  exact hc

theorem reads_all {r : Option (List UInt8)} {s s' : SS} {v : Value} (h : ReadsAs r s s' v) : ∃ (base : Option Addr) (n cap : Nat), v = .tuple #[.slice base n cap, .int .i64 ((if r.isSome then 0 else 5 : Nat) : Int)] ∧ Rdb s' base n (r.getD []) ∧ (∀ id ∈ blkOf base, s.next ≤ id) := by
  cases r with
  | none => exact ⟨none, 0, 0, h, ⟨rfl, rfl⟩, by simp [blkOf]⟩
  | some b => obtain ⟨base, n, cap, h1, h2, h3⟩ := h; exact ⟨base, n, cap, h1, h2.1, h3⟩
theorem rreads_all {r : Option (List UInt8)} {s s' : SS} {v : Value} (h : RReadsAs r s s' v) : ∃ (base : Option Addr) (n cap : Nat), v = .tuple #[.slice base n cap, .int .i64 ((if r.isSome then 0 else 5 : Nat) : Int)] ∧ Rdb s' base n (r.getD []) := by
  cases r with
  | none => exact ⟨none, 0, 0, h, ⟨rfl, rfl⟩⟩
  | some b =>
    obtain ⟨base, n, h1, h2, h3, h4⟩ := h
    subst h3
    exact ⟨base, _, 0, h1, h2.rdb⟩

set_option maxHeartbeats 1000000 in
theorem ctells_w {s : SS} {ba : Option Addr} {b0 l0 : List UInt8} (hG : Gk s) (f : Fine s) (hb : Slc pr s ba b0.length 0 b0) : CallW pr n_law11_CodingTells [.slice ba b0.length 0, str l0] s fun v s' => v = .bool true := by
  refine CallW.run good ok_law11_CodingTells (by simp) rfl ?_
  (repeat(first|refine pSeq ?_|refine pReg ?_|refine sCons ?_|refine sNil ?_|refine rCons ?_|refine rNil ?_|refine kNo ?_|refine pRow ?_|refine pBlock ?_|refine pSkip ?_|refine pExit ?_|refine pRet ?_|refine pCond ?_|refine gNone ?_|refine gOn rfl ?_|refine gOff rfl rfl ?_|refine gTup rfl ?_))
  intro w hw
  (repeat(first|refine pSeq ?_|refine pReg ?_|refine sCons ?_|refine sNil ?_|refine rCons ?_|refine rNil ?_|refine kNo ?_|refine pRow ?_|refine pBlock ?_|refine pSkip ?_|refine pExit ?_|refine pRet ?_|refine pCond ?_|refine gNone ?_|refine gOn rfl ?_|refine gOff rfl rfl ?_|refine gTup rfl ?_))
  refine slL_same 0 (min b0.length 300) rfl rfl rfl hb rfl (show w = _ by omega) (by omega) fun b1 c1 hs1 hb1 => ?_
  rw [List.drop_zero] at hs1
  generalize hlk : b0.take (min b0.length 300) = b at hs1
  have hnk := hs1.1.1
  generalize hnb : min b0.length 300 = nb at hs1 hnk
  have hn3 : nb ≤ 300 := by omega
  clear hw hlk
  (repeat(first|refine pSeq ?_|refine pReg ?_|refine sCons ?_|refine sNil ?_|refine rCons ?_|refine rNil ?_|refine kNo ?_|refine pRow ?_|refine pBlock ?_|refine pSkip ?_|refine pExit ?_|refine pRet ?_|refine pCond ?_|refine gNone ?_|refine gOn rfl ?_|refine gOff rfl rfl ?_|refine gTup rfl ?_))
  intro n hn
  subst hn
  (repeat(first|refine pSeq ?_|refine pReg ?_|refine sCons ?_|refine sNil ?_|refine rCons ?_|refine rNil ?_|refine kNo ?_|refine pRow ?_|refine pBlock ?_|refine pSkip ?_|refine pExit ?_|refine pRet ?_|refine pCond ?_|refine gNone ?_|refine gOn rfl ?_|refine gOff rfl rfl ?_|refine gTup rfl ?_))
  intro w hw
  (repeat(first|refine pSeq ?_|refine pReg ?_|refine sCons ?_|refine sNil ?_|refine rCons ?_|refine rNil ?_|refine kNo ?_|refine pRow ?_|refine pBlock ?_|refine pSkip ?_|refine pExit ?_|refine pRet ?_|refine pCond ?_|refine gNone ?_|refine gOn rfl ?_|refine gOff rfl rfl ?_|refine gTup rfl ?_))
  refine ⟨by omega, ?_⟩
  intro m hm r hr
  have hrl : r.length ≤ 300 := by rw [hr, List.length_take]; omega
  clear hr hm hw
  (repeat(first|refine pSeq ?_|refine pReg ?_|refine sCons ?_|refine sNil ?_|refine rCons ?_|refine rNil ?_|refine kNo ?_|refine pRow ?_|refine pBlock ?_|refine pSkip ?_|refine pExit ?_|refine pRet ?_|refine pCond ?_|refine gNone ?_|refine gOn rfl ?_|refine gOff rfl rfl ?_|refine gTup rfl ?_))
  refine (kinds_w f).mono fun v s1 q => ?_
  obtain ⟨rfl, k1, nx1, d1⟩ := q
  (repeat(first|refine pSeq ?_|refine pReg ?_|refine sCons ?_|refine sNil ?_|refine rCons ?_|refine rNil ?_|refine kNo ?_|refine pRow ?_|refine pBlock ?_|refine pSkip ?_|refine pExit ?_|refine pRet ?_|refine pCond ?_|refine gNone ?_|refine gOn rfl ?_|refine gOff rfl rfl ?_|refine gTup rfl ?_))
  refine pLoop (MW.head good (fun x : Nat × SS => 3 - x.1) (fun x => x.1 ≤ 3 ∧ Chg s x.2 [] ∧ lookH x.2.heap s.next = some (.cells lksV tLk false false) ∧ s.next < x.2.next)
    (fun x => [(0, .slice b1 nb c1), (1, str r), (21, slV s.next 3 3), (22, .int .i64 (3 : Nat)), (23, .int .i64 x.1)]) (fun x => x.2) (0, s1) ⟨Nat.zero_le _, d1, k1, by show s.next < s1.next; omega⟩ (Wk.same ⟨rfl, rfl, rfl, rfl, rfl, trivial⟩) ?_)
  clear k1 nx1 d1
  intro ⟨i, s2⟩ ⟨hi, d2, k2, nx2⟩
  dsimp only at hi d2 k2 nx2 ⊢
  have f2 := d2.fine f
  have hG2 := hG.nil d2
  (repeat(first|refine pSeq ?_|refine pReg ?_|refine sCons ?_|refine sNil ?_|refine rCons ?_|refine rNil ?_|refine kNo ?_|refine pRow ?_|refine pBlock ?_|refine pSkip ?_|refine pExit ?_|refine pRet ?_|refine pCond ?_|refine gNone ?_|refine gOn rfl ?_|refine gOff rfl rfl ?_|refine gTup rfl ?_))
  intro q hq
  by_cases h3 : i = 3
  case' pos =>
    subst h3
    obtain rfl : q = false := by rw [hq]; rfl
    (repeat(first|refine pSeq ?_|refine pReg ?_|refine sCons ?_|refine sNil ?_|refine rCons ?_|refine rNil ?_|refine kNo ?_|refine pRow ?_|refine pBlock ?_|refine pSkip ?_|refine pExit ?_|refine pRet ?_|refine pCond ?_|refine gNone ?_|refine gOn rfl ?_|refine gOff rfl rfl ?_|refine gTup rfl ?_))
    refine (wakes11_w hG2 f2).mono fun v s3 q => ?_
    obtain ⟨rfl, _⟩ := q
    (repeat(first|refine pSeq ?_|refine pReg ?_|refine sCons ?_|refine sNil ?_|refine rCons ?_|refine rNil ?_|refine kNo ?_|refine pRow ?_|refine pBlock ?_|refine pSkip ?_|refine pExit ?_|refine pRet ?_|refine pCond ?_|refine gNone ?_|refine gOn rfl ?_|refine gOff rfl rfl ?_|refine gTup rfl ?_))
    rfl
  obtain rfl : q = true := by rw [hq]; simp; omega
  have hz := kz_ok i
  (repeat(first|refine pSeq ?_|refine pReg ?_|refine sCons ?_|refine sNil ?_|refine rCons ?_|refine rNil ?_|refine kNo ?_|refine pRow ?_|refine pBlock ?_|refine pSkip ?_|refine pExit ?_|refine pRet ?_|refine pCond ?_|refine gNone ?_|refine gOn rfl ?_|refine gOff rfl rfl ?_|refine gTup rfl ?_))
  refine ⟨by omega, ?_⟩
  intro m hm o ho
  obtain rfl : m = i := by omega
  (repeat(first|refine pSeq ?_|refine pReg ?_|refine sCons ?_|refine sNil ?_|refine rCons ?_|refine rNil ?_|refine kNo ?_|refine pRow ?_|refine pBlock ?_|refine pSkip ?_|refine pExit ?_|refine pRet ?_|refine pCond ?_|refine gNone ?_|refine gOn rfl ?_|refine gOff rfl rfl ?_|refine gTup rfl ?_))
  refine ldN_is rfl k2 (by rw [ho, Nat.zero_add]; exact lks_take (by omega)) ?_
  (repeat(first|refine pSeq ?_|refine pReg ?_|refine sCons ?_|refine sNil ?_|refine rCons ?_|refine rNil ?_|refine kNo ?_|refine pRow ?_|refine pBlock ?_|refine pSkip ?_|refine pExit ?_|refine pRet ?_|refine pCond ?_|refine gNone ?_|refine gOn rfl ?_|refine gOff rfl rfl ?_|refine gTup rfl ?_))
  obtain ⟨z, hzz⟩ : ∃ z, z = kz m := ⟨_, rfl⟩
  rw [← hzz] at hz ⊢
  obtain ⟨n0, n1, n2⟩ := new1_at f2 (.cells [.int .i64 0, .nilFunc, .nilFunc] tLk false false)
  refine st_abs (cs' := lkV z) rfl rfl n0 (Nat.lt_succ_self _) rfl rfl fun s3 x3 d3 nx3 => ?_
  replace nx3 : s3.next = s2.next + 1 := nx3
  replace d3 : Chg s2 s3 [] := n1.fresh d3 (by simp)
  have d23 := d2.nil d3
  have f3 := d23.fine f
  have k3 := d3.blk _ _ nx2 (by simp) k2
  clear n0 n1 n2 k2
  (repeat(first|refine pSeq ?_|refine pReg ?_|refine sCons ?_|refine sNil ?_|refine rCons ?_|refine rNil ?_|refine kNo ?_|refine pRow ?_|refine pBlock ?_|refine pSkip ?_|refine pExit ?_|refine pRet ?_|refine pCond ?_|refine gNone ?_|refine gOn rfl ?_|refine gOff rfl rfl ?_|refine gTup rfl ?_))
  refine ld1_is rfl x3 (lk2 z) ?_
  (repeat(first|refine pSeq ?_|refine pReg ?_|refine sCons ?_|refine sNil ?_|refine rCons ?_|refine rNil ?_|refine kNo ?_|refine pRow ?_|refine pBlock ?_|refine pSkip ?_|refine pExit ?_|refine pRet ?_|refine pCond ?_|refine gNone ?_|refine gOn rfl ?_|refine gOff rfl rfl ?_|refine gTup rfl ?_))
  refine gen_v rfl rfl (call_read hz _) ?_
  (repeat(first|refine pSeq ?_|refine pReg ?_|refine sCons ?_|refine sNil ?_|refine rCons ?_|refine rNil ?_|refine kNo ?_|refine pRow ?_|refine pBlock ?_|refine pSkip ?_|refine pExit ?_|refine pRet ?_|refine pCond ?_|refine gNone ?_|refine gOn rfl ?_|refine gOff rfl rfl ?_|refine gTup rfl ?_))
  refine (unTell_w (hG.nil d23) f3 hz (by omega)).mono fun v s4 q => ?_
  obtain ⟨q, d4⟩ := q
  obtain ⟨rb, rn, rc, rfl, hrr, hri⟩ := reads_all q
  have d24 := d23.nil d4
  have f4 := d24.fine f
  have x4 := d4.blk _ _ (show s2.next < s3.next by omega) (by simp) x3
  have k4 := d4.blk _ _ (show s.next < s3.next by omega) (by simp) k3
  clear q
  (repeat(first|refine pSeq ?_|refine pReg ?_|refine sCons ?_|refine sNil ?_|refine rCons ?_|refine rNil ?_|refine kNo ?_|refine pRow ?_|refine pBlock ?_|refine pSkip ?_|refine pExit ?_|refine pRet ?_|refine pCond ?_|refine gNone ?_|refine gOn rfl ?_|refine gOff rfl rfl ?_|refine gTup rfl ?_))
  refine ldI_is rfl x4 (lk0 z) ?_
  (repeat(first|refine pSeq ?_|refine pReg ?_|refine sCons ?_|refine sNil ?_|refine rCons ?_|refine rNil ?_|refine kNo ?_|refine pRow ?_|refine pBlock ?_|refine pSkip ?_|refine pExit ?_|refine pRet ?_|refine pCond ?_|refine gNone ?_|refine gOn rfl ?_|refine gOff rfl rfl ?_|refine gTup rfl ?_))
  refine (rread_w f4 hz (by omega)).mono fun v s5 q => ?_
  obtain ⟨q, d5⟩ := q
  obtain ⟨tb, tn, tc, rfl, htr⟩ := rreads_all q
  have d25 := d24.nil d5
  have f5 := d25.fine f
  have x5 := d5.blk _ _ (show s2.next < s4.next by have := d4.next; omega) (by simp) x4
  have k5 := d5.blk _ _ (show s.next < s4.next by have := d4.next; omega) (by simp) k4
  have hrr5 := hrr.chg d5 (by simp)
  clear q hrr x4 k4 x3 k3
  (repeat(first|refine pSeq ?_|refine pReg ?_|refine sCons ?_|refine sNil ?_|refine rCons ?_|refine rNil ?_|refine kNo ?_|refine pRow ?_|refine pBlock ?_|refine pSkip ?_|refine pExit ?_|refine pRet ?_|refine pCond ?_|refine gNone ?_|refine gOn rfl ?_|refine gOff rfl rfl ?_|refine gTup rfl ?_))
  refine ld1_is rfl x5 (lk1 z) ?_
  (repeat(first|refine pSeq ?_|refine pReg ?_|refine sCons ?_|refine sNil ?_|refine rCons ?_|refine rNil ?_|refine kNo ?_|refine pRow ?_|refine pBlock ?_|refine pSkip ?_|refine pExit ?_|refine pRet ?_|refine pCond ?_|refine gNone ?_|refine gOn rfl ?_|refine gOff rfl rfl ?_|refine gTup rfl ?_))
  refine ldI_is rfl x5 (lk0 z) ?_
  (repeat(first|refine pSeq ?_|refine pReg ?_|refine sCons ?_|refine sNil ?_|refine rCons ?_|refine rNil ?_|refine kNo ?_|refine pRow ?_|refine pBlock ?_|refine pSkip ?_|refine pExit ?_|refine pRet ?_|refine pCond ?_|refine gNone ?_|refine gOn rfl ?_|refine gOff rfl rfl ?_|refine gTup rfl ?_))
  refine gen_v rfl rfl (call_tell hz _) ?_
  refine (tell_w (hG.nil d25) f5 hz (hs1.1.chg d25 (by simp)) (by omega)).mono fun v s6 q => ?_
  obtain ⟨rfl, d6⟩ := q
  have d26 := d25.nil d6
  have f6 := d26.fine f
  have k6 := d6.blk _ _ (show s.next < s5.next by have := d4.next; have := d5.next; omega) (by simp) k5
  have hrr6 := hrr5.chg d6 (by simp)
  have htr6 := htr.chg d6 (by simp)
  refine kAll (d6.keep f5) ?_
  (repeat(first|refine pSeq ?_|refine pReg ?_|refine sCons ?_|refine sNil ?_|refine rCons ?_|refine rNil ?_|refine kNo ?_|refine pRow ?_|refine pBlock ?_|refine pSkip ?_|refine pExit ?_|refine pRet ?_|refine pCond ?_|refine gNone ?_|refine gOn rfl ?_|refine gOff rfl rfl ?_|refine gTup rfl ?_))
  refine (rtell_w f6 hz (hs1.1.chg d26 (by simp)) (by omega)).mono fun v s7 q => ?_
  obtain ⟨rfl, d7⟩ := q
  have d27 := d26.nil d7
  have k7 := d7.blk _ _ (show s.next < s6.next by have := d4.next; have := d5.next; have := d6.next; omega) (by simp) k6
  have hrr7 := hrr6.chg d7 (by simp)
  have htr7 := htr6.chg d7 (by simp)
  (repeat(first|refine pSeq ?_|refine pReg ?_|refine sCons ?_|refine sNil ?_|refine rCons ?_|refine rNil ?_|refine kNo ?_|refine pRow ?_|refine pBlock ?_|refine pSkip ?_|refine pExit ?_|refine pRet ?_|refine pCond ?_|refine gNone ?_|refine gOn rfl ?_|refine gOff rfl rfl ?_|refine gTup rfl ?_))
  intro q hq
  obtain rfl : q = false := by rw [hq]; simp
  (repeat(first|refine pSeq ?_|refine pReg ?_|refine sCons ?_|refine sNil ?_|refine rCons ?_|refine rNil ?_|refine kNo ?_|refine pRow ?_|refine pBlock ?_|refine pSkip ?_|refine pExit ?_|refine pRet ?_|refine pCond ?_|refine gNone ?_|refine gOn rfl ?_|refine gOff rfl rfl ?_|refine gTup rfl ?_))
  refine (equal11_w hrr7 htr7).mono fun v s8 q => ?_
  obtain ⟨rfl, rfl⟩ := q
  rw [decide_eq_true rfl]
  (repeat(first|refine pSeq ?_|refine pReg ?_|refine sCons ?_|refine sNil ?_|refine rCons ?_|refine rNil ?_|refine kNo ?_|refine pRow ?_|refine pBlock ?_|refine pSkip ?_|refine pExit ?_|refine pRet ?_|refine pCond ?_|refine gNone ?_|refine gOn rfl ?_|refine gOff rfl rfl ?_|refine gTup rfl ?_))
  intro q hq
  obtain rfl : q = false := by rw [hq]; rfl
  (repeat(first|refine pSeq ?_|refine pReg ?_|refine sCons ?_|refine sNil ?_|refine rCons ?_|refine rNil ?_|refine kNo ?_|refine pRow ?_|refine pBlock ?_|refine pSkip ?_|refine pExit ?_|refine pRet ?_|refine pCond ?_|refine gNone ?_|refine gOn rfl ?_|refine gOff rfl rfl ?_|refine gTup rfl ?_))
  intro q hq
  obtain rfl : q = false := by rw [hq]; simp
  (repeat(first|refine pSeq ?_|refine pReg ?_|refine sCons ?_|refine sNil ?_|refine rCons ?_|refine rNil ?_|refine kNo ?_|refine pRow ?_|refine pBlock ?_|refine pSkip ?_|refine pExit ?_|refine pRet ?_|refine pCond ?_|refine gNone ?_|refine gOn rfl ?_|refine gOff rfl rfl ?_|refine gTup rfl ?_))
  intro w hw
  rw [i64_id (by omega)] at hw
  obtain rfl : w = ((m + 1 : Nat) : Int) := by omega
  (repeat(first|refine pSeq ?_|refine pReg ?_|refine sCons ?_|refine sNil ?_|refine rCons ?_|refine rNil ?_|refine kNo ?_|refine pRow ?_|refine pBlock ?_|refine pSkip ?_|refine pExit ?_|refine pRet ?_|refine pCond ?_|refine gNone ?_|refine gOn rfl ?_|refine gOff rfl rfl ?_|refine gTup rfl ?_))
  exact ⟨(m + 1, s8), ⟨by omega, d27, k7, by show s.next < s8.next; have := d27.next; have := d3.next; have := d4.next; have := d5.next; have := d6.next; have := d7.next; omega⟩, by show 3 - (m + 1) < 3 - m; omega, Wk.same ⟨rfl, rfl, rfl, rfl, rfl, trivial⟩⟩
end Go.Vf.S

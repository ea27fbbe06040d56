import Derived.Test.YtphcpdopfolopaaDoorCoV
/- CodingJoins: from any state in which the kinds lie. -/
namespace Go.Vf.S
open Go Go.Vf Go.Proofs Go.RowKit
attribute [local irreducible] wSeq wRow wp wG
set_option linter.unusedVariables false
set_option linter.unusedSimpArgs false
set_option maxRecDepth 10000

set_option maxHeartbeats 4000000 in
theorem cjoins_w {s : SS} {ba bb : Option Addr} {a0 b0 : List UInt8} {wh : Nat} (hG : Gk s) (f : Fine s) (ha : Slc pr s ba a0.length 0 a0) (hb : Slc pr s bb b0.length 0 b0) (hw16 : wh < 65536) : CallW pr n_law11_CodingJoins [.slice ba a0.length 0, .slice bb b0.length 0, .int .u16 wh] s fun v s' => v = .bool true := by
  refine CallW.run good ok_law11_CodingJoins (by simp) rfl ?_
  (repeat(first|refine pSeq ?_|refine pReg ?_|refine sRaw ?_|refine sCons ?_|refine sNil ?_|refine rCons ?_|refine rNil ?_|refine kNo ?_|refine pRow ?_|refine pBlock ?_|refine pSkip ?_|refine pExit ?_|refine pRet ?_|refine pCond ?_|refine gNone ?_|refine gOn rfl ?_|refine gOff rfl rfl ?_|refine gTup rfl ?_))
  intro w hw
  (repeat(first|refine pSeq ?_|refine pReg ?_|refine sRaw ?_|refine sCons ?_|refine sNil ?_|refine rCons ?_|refine rNil ?_|refine kNo ?_|refine pRow ?_|refine pBlock ?_|refine pSkip ?_|refine pExit ?_|refine pRet ?_|refine pCond ?_|refine gNone ?_|refine gOn rfl ?_|refine gOff rfl rfl ?_|refine gTup rfl ?_))
  refine slL_same 0 (min a0.length 300) rfl rfl rfl ha rfl (show w = _ by omega) (by omega) fun b1 c1 hs1 hb1 => ?_
  rw [List.drop_zero] at hs1
  generalize hlk : a0.take (min a0.length 300) = a at hs1
  have hna := hs1.1.1
  generalize hnb : min a0.length 300 = na at hs1 hna
  have hn3 : na ≤ 300 := by omega
  clear hw hlk
  (repeat(first|refine pSeq ?_|refine pReg ?_|refine sRaw ?_|refine sCons ?_|refine sNil ?_|refine rCons ?_|refine rNil ?_|refine kNo ?_|refine pRow ?_|refine pBlock ?_|refine pSkip ?_|refine pExit ?_|refine pRet ?_|refine pCond ?_|refine gNone ?_|refine gOn rfl ?_|refine gOff rfl rfl ?_|refine gTup rfl ?_))
  intro w hw
  (repeat(first|refine pSeq ?_|refine pReg ?_|refine sRaw ?_|refine sCons ?_|refine sNil ?_|refine rCons ?_|refine rNil ?_|refine kNo ?_|refine pRow ?_|refine pBlock ?_|refine pSkip ?_|refine pExit ?_|refine pRet ?_|refine pCond ?_|refine gNone ?_|refine gOn rfl ?_|refine gOff rfl rfl ?_|refine gTup rfl ?_))
  refine slL_same 0 (min b0.length 300) rfl rfl rfl hb rfl (show w = _ by omega) (by omega) fun b2 c2 hs2 hb2 => ?_
  rw [List.drop_zero] at hs2
  generalize hlk : b0.take (min b0.length 300) = b at hs2
  have hnb1 := hs2.1.1
  generalize hnb : min b0.length 300 = nb at hs2 hnb1
  have hn4 : nb ≤ 300 := by omega
  clear hw hlk
  (repeat(first|refine pSeq ?_|refine pReg ?_|refine sRaw ?_|refine sCons ?_|refine sNil ?_|refine rCons ?_|refine rNil ?_|refine kNo ?_|refine pRow ?_|refine pBlock ?_|refine pSkip ?_|refine pExit ?_|refine pRet ?_|refine pCond ?_|refine gNone ?_|refine gOn rfl ?_|refine gOff rfl rfl ?_|refine gTup rfl ?_))
  refine ⟨.new (.map [] 0) fun id => .map (some id), rfl, ?_⟩
  (repeat(first|refine pSeq ?_|refine pReg ?_|refine sRaw ?_|refine sCons ?_|refine sNil ?_|refine rCons ?_|refine rNil ?_|refine kNo ?_|refine pRow ?_|refine pBlock ?_|refine pSkip ?_|refine pExit ?_|refine pRet ?_|refine pCond ?_|refine gNone ?_|refine gOn rfl ?_|refine gOff rfl rfl ?_|refine gTup rfl ?_))
  refine insI (l := []) rfl rfl rfl rfl lkH (Nat.lt_succ_self _) (by simp) fun a1 hm1 c1' n1 => ?_
  (repeat(first|refine pSeq ?_|refine pReg ?_|refine sRaw ?_|refine sCons ?_|refine sNil ?_|refine rCons ?_|refine rNil ?_|refine kNo ?_|refine pRow ?_|refine pBlock ?_|refine pSkip ?_|refine pExit ?_|refine pRet ?_|refine pCond ?_|refine gNone ?_|refine gOn rfl ?_|refine gOff rfl rfl ?_|refine gTup rfl ?_))
  refine insI rfl rfl rfl rfl hm1 (by rw [n1]; exact Nat.lt_succ_self _) (by simp) fun a2 hm2 c2' n2 => ?_
  (repeat(first|refine pSeq ?_|refine pReg ?_|refine sRaw ?_|refine sCons ?_|refine sNil ?_|refine rCons ?_|refine rNil ?_|refine kNo ?_|refine pRow ?_|refine pBlock ?_|refine pSkip ?_|refine pExit ?_|refine pRet ?_|refine pCond ?_|refine gNone ?_|refine gOn rfl ?_|refine gOff rfl rfl ?_|refine gTup rfl ?_))
  refine insI rfl rfl rfl rfl hm2 (by rw [n2, n1]; exact Nat.lt_succ_self _) (by simp) fun a3 hm3 c3' n3 => ?_
  replace hm3 : lookH a3.heap s.next = some (.map (mE grpL) grpL.length) := hm3
  have d3 : Chg s a3 [] := (((Chg.new []).fresh c1' (by simp)).fresh c2' (by simp)).fresh c3' (by simp)
  have nx3 : a3.next = s.next + 1 := by rw [n3, n2, n1]
  clear hm1 hm2 c1' c2' c3' n1 n2 n3
  have f3 := d3.fine f
  (repeat(first|refine pSeq ?_|refine pReg ?_|refine sRaw ?_|refine sCons ?_|refine sNil ?_|refine rCons ?_|refine rNil ?_|refine kNo ?_|refine pRow ?_|refine pBlock ?_|refine pSkip ?_|refine pExit ?_|refine pRet ?_|refine pCond ?_|refine gNone ?_|refine gOn rfl ?_|refine gOff rfl rfl ?_|refine gTup rfl ?_))
  refine (kinds_w f3).mono fun v s1 q => ?_
  obtain ⟨rfl, k1, nx1, d1⟩ := q
  have mp1 := d1.blk _ _ (show s.next < a3.next by omega) (by simp) hm3
  replace d1 := d3.nil d1
  clear hm3
  (repeat(first|refine pSeq ?_|refine pReg ?_|refine sRaw ?_|refine sCons ?_|refine sNil ?_|refine rCons ?_|refine rNil ?_|refine kNo ?_|refine pRow ?_|refine pBlock ?_|refine pSkip ?_|refine pExit ?_|refine pRet ?_|refine pCond ?_|refine gNone ?_|refine gOn rfl ?_|refine gOff rfl rfl ?_|refine gTup rfl ?_))
  refine pLoop (MW.head good (fun x : Nat × SS => 3 - x.1) (fun x => x.1 ≤ 3 ∧ Chg s x.2 [] ∧ lookH x.2.heap a3.next = some (.cells lksV tLk false false) ∧ a3.next < x.2.next ∧ lookH x.2.heap s.next = some (.map (mE grpL) grpL.length))
    (fun x => [(0, .slice b1 na c1), (1, .slice b2 nb c2), (2, .int .u16 wh), (7, .map (some s.next)), (24, slV a3.next 3 3), (25, .int .i64 (3 : Nat)), (26, .int .i64 x.1)]) (fun x => x.2) (0, s1) ⟨Nat.zero_le _, d1, k1, by show a3.next < s1.next; omega, mp1⟩ (Wk.same ⟨rfl, rfl, rfl, rfl, rfl, rfl, rfl, trivial⟩) ?_)
  clear k1 nx1 d1 mp1
  intro ⟨i, s2⟩ ⟨hi, d2, k2, nx2, mp2⟩
  dsimp only at hi d2 k2 nx2 mp2 ⊢
  have f2 := d2.fine f
  have hG2 := hG.nil d2
  (repeat(first|refine pSeq ?_|refine pReg ?_|refine sRaw ?_|refine sCons ?_|refine sNil ?_|refine rCons ?_|refine rNil ?_|refine kNo ?_|refine pRow ?_|refine pBlock ?_|refine pSkip ?_|refine pExit ?_|refine pRet ?_|refine pCond ?_|refine gNone ?_|refine gOn rfl ?_|refine gOff rfl rfl ?_|refine gTup rfl ?_))
  intro q hq
  by_cases h3 : i = 3
  case' pos =>
    subst h3
    obtain rfl : q = false := by rw [hq]; rfl
    (repeat(first|refine pSeq ?_|refine pReg ?_|refine sRaw ?_|refine sCons ?_|refine sNil ?_|refine rCons ?_|refine rNil ?_|refine kNo ?_|refine pRow ?_|refine pBlock ?_|refine pSkip ?_|refine pExit ?_|refine pRet ?_|refine pCond ?_|refine gNone ?_|refine gOn rfl ?_|refine gOff rfl rfl ?_|refine gTup rfl ?_))
    refine (wakes11_w hG2 f2).mono fun v s3 q => ?_
    obtain ⟨rfl, _⟩ := q
    (repeat(first|refine pSeq ?_|refine pReg ?_|refine sRaw ?_|refine sCons ?_|refine sNil ?_|refine rCons ?_|refine rNil ?_|refine kNo ?_|refine pRow ?_|refine pBlock ?_|refine pSkip ?_|refine pExit ?_|refine pRet ?_|refine pCond ?_|refine gNone ?_|refine gOn rfl ?_|refine gOff rfl rfl ?_|refine gTup rfl ?_))
    rfl
  obtain rfl : q = true := by rw [hq]; simp; omega
  have hz := kz_ok i
  (repeat(first|refine pSeq ?_|refine pReg ?_|refine sRaw ?_|refine sCons ?_|refine sNil ?_|refine rCons ?_|refine rNil ?_|refine kNo ?_|refine pRow ?_|refine pBlock ?_|refine pSkip ?_|refine pExit ?_|refine pRet ?_|refine pCond ?_|refine gNone ?_|refine gOn rfl ?_|refine gOff rfl rfl ?_|refine gTup rfl ?_))
  refine ⟨by omega, ?_⟩
  intro m hm o ho
  obtain rfl : m = i := by omega
  (repeat(first|refine pSeq ?_|refine pReg ?_|refine sRaw ?_|refine sCons ?_|refine sNil ?_|refine rCons ?_|refine rNil ?_|refine kNo ?_|refine pRow ?_|refine pBlock ?_|refine pSkip ?_|refine pExit ?_|refine pRet ?_|refine pCond ?_|refine gNone ?_|refine gOn rfl ?_|refine gOff rfl rfl ?_|refine gTup rfl ?_))
  refine ldN_is rfl k2 (by rw [ho, Nat.zero_add]; exact lks_take (by omega)) ?_
  (repeat(first|refine pSeq ?_|refine pReg ?_|refine sRaw ?_|refine sCons ?_|refine sNil ?_|refine rCons ?_|refine rNil ?_|refine kNo ?_|refine pRow ?_|refine pBlock ?_|refine pSkip ?_|refine pExit ?_|refine pRet ?_|refine pCond ?_|refine gNone ?_|refine gOn rfl ?_|refine gOff rfl rfl ?_|refine gTup rfl ?_))
  obtain ⟨z, hzz⟩ : ∃ z, z = kz m := ⟨_, rfl⟩
  rw [← hzz] at hz ⊢
  obtain ⟨n0, n1, n2⟩ := new1_at f2 (.cells [.int .i64 0, .nilFunc, .nilFunc] tLk false false)
  refine st_abs (cs' := lkV z) rfl rfl n0 (Nat.lt_succ_self _) rfl rfl fun s3 x3 d3 nx3 => ?_
  replace nx3 : s3.next = s2.next + 1 := nx3
  replace d3 : Chg s2 s3 [] := n1.fresh d3 (by simp)
  have d23 := d2.nil d3
  have f3 := d23.fine f
  have mp3 := d3.blk _ _ (show s.next < s2.next by omega) (by simp) mp2
  have k3 := d3.blk _ _ nx2 (by simp) k2
  have hs1' := hs1.chg d23 (by simp)
  have hs2' := hs2.chg d23 (by simp)
  obtain ⟨q1, q2, q3, q4, q5⟩ := grp_ok hz na
  clear n0 n1 n2 mp2 k2
  (repeat(first|refine pSeq ?_|refine pReg ?_|refine sRaw ?_|refine sCons ?_|refine sNil ?_|refine rCons ?_|refine rNil ?_|refine kNo ?_|refine pRow ?_|refine pBlock ?_|refine pSkip ?_|refine pExit ?_|refine pRet ?_|refine pCond ?_|refine gNone ?_|refine gOn rfl ?_|refine gOff rfl rfl ?_|refine gTup rfl ?_))
  refine ldI_is rfl x3 (lk0 z) ?_
  (repeat(first|refine pSeq ?_|refine pReg ?_|refine sRaw ?_|refine sCons ?_|refine sNil ?_|refine rCons ?_|refine rNil ?_|refine kNo ?_|refine pRow ?_|refine pBlock ?_|refine pSkip ?_|refine pExit ?_|refine pRet ?_|refine pCond ?_|refine gNone ?_|refine gOn rfl ?_|refine gOff rfl rfl ?_|refine gTup rfl ?_))
  refine gen_lkI rfl rfl mp3 (grp_is hz) ?_
  (repeat(first|refine pSeq ?_|refine pReg ?_|refine sRaw ?_|refine sCons ?_|refine sNil ?_|refine rCons ?_|refine rNil ?_|refine kNo ?_|refine pRow ?_|refine pBlock ?_|refine pSkip ?_|refine pExit ?_|refine pRet ?_|refine pCond ?_|refine gNone ?_|refine gOn rfl ?_|refine gOff rfl rfl ?_|refine gTup rfl ?_))
  have hqd : na / grp z ≤ na := Nat.div_le_self _ _
  refine ⟨by omega, ?_⟩
  intro w hw
  rw [tdivN, i64_nat (by omega)] at hw
  subst hw
  (repeat(first|refine pSeq ?_|refine pReg ?_|refine sRaw ?_|refine sCons ?_|refine sNil ?_|refine rCons ?_|refine rNil ?_|refine kNo ?_|refine pRow ?_|refine pBlock ?_|refine pSkip ?_|refine pExit ?_|refine pRet ?_|refine pCond ?_|refine gNone ?_|refine gOn rfl ?_|refine gOff rfl rfl ?_|refine gTup rfl ?_))
  refine ldI_is rfl x3 (lk0 z) ?_
  (repeat(first|refine pSeq ?_|refine pReg ?_|refine sRaw ?_|refine sCons ?_|refine sNil ?_|refine rCons ?_|refine rNil ?_|refine kNo ?_|refine pRow ?_|refine pBlock ?_|refine pSkip ?_|refine pExit ?_|refine pRet ?_|refine pCond ?_|refine gNone ?_|refine gOn rfl ?_|refine gOff rfl rfl ?_|refine gTup rfl ?_))
  refine gen_lkI rfl rfl mp3 (grp_is hz) ?_
  (repeat(first|refine pSeq ?_|refine pReg ?_|refine sRaw ?_|refine sCons ?_|refine sNil ?_|refine rCons ?_|refine rNil ?_|refine kNo ?_|refine pRow ?_|refine pBlock ?_|refine pSkip ?_|refine pExit ?_|refine pRet ?_|refine pCond ?_|refine gNone ?_|refine gOn rfl ?_|refine gOff rfl rfl ?_|refine gTup rfl ?_))
  intro w hw
  rw [← Int.natCast_mul, i64_nat (by omega)] at hw
  subst hw
  generalize hKK : na / grp z * grp z = KK at *
  (repeat(first|refine pSeq ?_|refine pReg ?_|refine sRaw ?_|refine sCons ?_|refine sNil ?_|refine rCons ?_|refine rNil ?_|refine kNo ?_|refine pRow ?_|refine pBlock ?_|refine pSkip ?_|refine pExit ?_|refine pRet ?_|refine pCond ?_|refine gNone ?_|refine gOn rfl ?_|refine gOff rfl rfl ?_|refine gTup rfl ?_))
  refine slL_same 0 KK rfl rfl rfl hs1' rfl (show (KK : Int) = _ by omega) (by omega) fun b3 c3 hs3 hb3 => ?_
  rw [List.drop_zero] at hs3
  have hwl : (a.take KK).length = KK := by rw [List.length_take]; omega
  have hjoin := tellF_app hz (a.take KK) b (by rw [hwl]; exact q3) (fun h6 => by rw [hwl]; exact q4 h6)
  generalize hW : a.take KK = wl at *
  (repeat(first|refine pSeq ?_|refine pReg ?_|refine sRaw ?_|refine sCons ?_|refine sNil ?_|refine rCons ?_|refine rNil ?_|refine kNo ?_|refine pRow ?_|refine pBlock ?_|refine pSkip ?_|refine pExit ?_|refine pRet ?_|refine pCond ?_|refine gNone ?_|refine gOn rfl ?_|refine gOff rfl rfl ?_|refine gTup rfl ?_))
  refine ld1_is rfl x3 (lk1 z) ?_
  (repeat(first|refine pSeq ?_|refine pReg ?_|refine sRaw ?_|refine sCons ?_|refine sNil ?_|refine rCons ?_|refine rNil ?_|refine kNo ?_|refine pRow ?_|refine pBlock ?_|refine pSkip ?_|refine pExit ?_|refine pRet ?_|refine pCond ?_|refine gNone ?_|refine gOn rfl ?_|refine gOff rfl rfl ?_|refine gTup rfl ?_))
  refine ld1_is rfl x3 (lk1 z) ?_
  (repeat(first|refine pSeq ?_|refine pReg ?_|refine sRaw ?_|refine sCons ?_|refine sNil ?_|refine rCons ?_|refine rNil ?_|refine kNo ?_|refine pRow ?_|refine pBlock ?_|refine pSkip ?_|refine pExit ?_|refine pRet ?_|refine pCond ?_|refine gNone ?_|refine gOn rfl ?_|refine gOff rfl rfl ?_|refine gTup rfl ?_))
  refine ld1_is rfl x3 (lk1 z) ?_
  (repeat(first|refine pSeq ?_|refine pReg ?_|refine sRaw ?_|refine sCons ?_|refine sNil ?_|refine rCons ?_|refine rNil ?_|refine kNo ?_|refine pRow ?_|refine pBlock ?_|refine pSkip ?_|refine pExit ?_|refine pRet ?_|refine pCond ?_|refine gNone ?_|refine gOn rfl ?_|refine gOff rfl rfl ?_|refine gTup rfl ?_))
  refine (clone11_w hs3.1 (by omega)).mono fun v s4 q => ?_
  obtain ⟨b4, rfl, o4, i4, d4⟩ := q
  have d24 := d23.nil d4
  have f4 := d24.fine f
  have x4 := d4.blk _ _ (show s2.next < s3.next by omega) (by simp) x3
  have mp4 := d4.blk _ _ (show s.next < s3.next by omega) (by simp) mp3
  have k4 := d4.blk _ _ (show a3.next < s3.next by omega) (by simp) k3
  have hs2'' := hs2'.chg d4 (by simp)
  have hs3' := hs3.chg d4 (by simp)
  refine kAll (d4.keep f3) ?_
  clear x3 mp3 k3
  (repeat(first|refine pSeq ?_|refine pReg ?_|refine sRaw ?_|refine sCons ?_|refine sNil ?_|refine rCons ?_|refine rNil ?_|refine kNo ?_|refine pRow ?_|refine pBlock ?_|refine pSkip ?_|refine pExit ?_|refine pRet ?_|refine pCond ?_|refine gNone ?_|refine gOn rfl ?_|refine gOff rfl rfl ?_|refine gTup rfl ?_))
  refine app_cl o4 hs3.1.1 rfl rfl hs2''.1 (by omega) (fun b5 hrd => ?_) (fun b5 s5 hrd d5 => ?_)
  case' refine_1 =>
    obtain ⟨s5, hs5⟩ : ∃ x, x = s4 := ⟨_, rfl⟩
    have de : Chg s s5 [] := by rw [hs5]; exact d24
    have xe : lookH s5.heap s2.next = some (.cells (lkV z) tLk false false) := by rw [hs5]; exact x4
    have mpe : lookH s5.heap s.next = some (.map (mE grpL) grpL.length) := by rw [hs5]; exact mp4
    have ke : lookH s5.heap a3.next = some (.cells lksV tLk false false) := by rw [hs5]; exact k4
    have nle : s4.next ≤ s5.next := by rw [hs5]; exact Nat.le_refl _
    rw [← hs5] at hrd ⊢
    have hs2e := hs2''.1
    have hs3e := hs3'.1
    rw [← hs5] at hs2e hs3e
    clear hs5
  case' refine_2 =>
    have nle : s4.next ≤ s5.next := d5.next
    have hoff : ∀ id ∈ blkOf b4, s3.next ≤ id := i4
    have de : Chg s s5 [] := d24.fresh d5 (fun id hid => by have := hoff id hid; have := d23.next; omega)
    have xe := d5.blk _ _ (show s2.next < s4.next by have := d4.next; omega) (fun h => by have := hoff _ h; omega) x4
    have mpe := d5.blk _ _ (show s.next < s4.next by have := d4.next; omega) (fun h => by have := hoff _ h; omega) mp4
    have ke := d5.blk _ _ (show a3.next < s4.next by have := d4.next; omega) (fun h => by have := hoff _ h; omega) k4
    have hs2e := (hs2''.chg d5 (fun id hid h => by have := hs2'.1.lt _ hid; have := hoff _ h; omega)).1
    have hs3e := (hs3'.chg d5 (fun id hid h => by have := hs3.1.lt _ hid; have := hoff _ h; omega)).1
    refine kEach ⟨fun _ => ld1_is rfl xe (lk1 z) rfl, fun _ => ld1_is rfl xe (lk1 z) rfl, fun _ => ld1_is rfl xe (lk1 z) rfl, trivial⟩ ?_
  all_goals (
    clear x4 mp4 k4 d24 hs2'' hs3'
    have fe := de.fine f
    (repeat(first|refine pSeq ?_|refine pReg ?_|refine sRaw ?_|refine sCons ?_|refine sNil ?_|refine rCons ?_|refine rNil ?_|refine kNo ?_|refine pRow ?_|refine pBlock ?_|refine pSkip ?_|refine pExit ?_|refine pRet ?_|refine pCond ?_|refine gNone ?_|refine gOn rfl ?_|refine gOff rfl rfl ?_|refine gTup rfl ?_))
    refine gen_v rfl rfl (call_tell hz _) ?_
    refine (tell_w (hG.nil de) fe hz hrd (by omega)).mono fun v s6 q => ?_
    obtain ⟨rfl, d6⟩ := q
    have df := de.nil d6
    have ff := df.fine f
    have nlf : s4.next ≤ s6.next := Nat.le_trans nle d6.next
    have h2f := hs2e.chg d6 (by simp)
    refine kAll (d6.keep fe) ?_
    (repeat(first|refine pSeq ?_|refine pReg ?_|refine sRaw ?_|refine sCons ?_|refine sNil ?_|refine rCons ?_|refine rNil ?_|refine kNo ?_|refine pRow ?_|refine pBlock ?_|refine pSkip ?_|refine pExit ?_|refine pRet ?_|refine pCond ?_|refine gNone ?_|refine gOn rfl ?_|refine gOff rfl rfl ?_|refine gTup rfl ?_))
    refine gen_v rfl rfl (call_tell hz _) ?_
    refine (tell_w (hG.nil df) ff hz (hs3e.chg d6 (by simp)) (by omega)).mono fun v s7 q => ?_
    obtain ⟨rfl, d7⟩ := q
    have dg := df.nil d7
    have fg := dg.fine f
    have h2g := h2f.chg d7 (by simp)
    refine kAll (d7.keep ff) ?_
    (repeat(first|refine pSeq ?_|refine pReg ?_|refine sRaw ?_|refine sCons ?_|refine sNil ?_|refine rCons ?_|refine rNil ?_|refine kNo ?_|refine pRow ?_|refine pBlock ?_|refine pSkip ?_|refine pExit ?_|refine pRet ?_|refine pCond ?_|refine gNone ?_|refine gOn rfl ?_|refine gOff rfl rfl ?_|refine gTup rfl ?_))
    refine gen_v rfl rfl (call_tell hz _) ?_
    refine (tell_w (hG.nil dg) fg hz h2g (by omega)).mono fun v s8 q => ?_
    obtain ⟨rfl, d8⟩ := q
    have dh := dg.nil d8
    have fh := dh.fine f
    have h2h := h2g.chg d8 (by simp)
    have d68 := (d6.nil d7).nil d8
    have hlt4 : s3.next ≤ s4.next := d4.next
    have xh := d68.blk _ _ (show s2.next < s5.next by omega) (by simp) xe
    have mph := d68.blk _ _ (show s.next < s5.next by omega) (by simp) mpe
    have kh := d68.blk _ _ (show a3.next < s5.next by omega) (by simp) ke
    have nlh : s2.next < s8.next := by have := d68.next; omega
    (repeat(first|refine pSeq ?_|refine pReg ?_|refine sRaw ?_|refine sCons ?_|refine sNil ?_|refine rCons ?_|refine rNil ?_|refine kNo ?_|refine pRow ?_|refine pBlock ?_|refine pSkip ?_|refine pExit ?_|refine pRet ?_|refine pCond ?_|refine gNone ?_|refine gOn rfl ?_|refine gOff rfl rfl ?_|refine gTup rfl ?_))
    have hz1 := tellF_len (z := z) wl
    have hz2 := tellF_len (z := z) b
    have hz3 : sizeF z wl.length ≤ 2000003 := (size_le hz (by rw [hwl]; omega)).1
    have hz4 : sizeF z b.length ≤ 2000003 := (size_le hz (by omega)).1
    unfold sizeF at hz3 hz4
    refine ⟨by omega, ?_⟩
    intro w hw
    rw [← hjoin] at hw
    subst hw
    (repeat(first|refine pSeq ?_|refine pReg ?_|refine sRaw ?_|refine sCons ?_|refine sNil ?_|refine rCons ?_|refine rNil ?_|refine kNo ?_|refine pRow ?_|refine pBlock ?_|refine pSkip ?_|refine pExit ?_|refine pRet ?_|refine pCond ?_|refine gNone ?_|refine gOn rfl ?_|refine gOff rfl rfl ?_|refine gTup rfl ?_))
    intro q hq
    obtain rfl : q = false := by rw [hq]; simp
    (repeat(first|refine pSeq ?_|refine pReg ?_|refine sRaw ?_|refine sCons ?_|refine sNil ?_|refine rCons ?_|refine rNil ?_|refine kNo ?_|refine pRow ?_|refine pBlock ?_|refine pSkip ?_|refine pExit ?_|refine pRet ?_|refine pCond ?_|refine gNone ?_|refine gOn rfl ?_|refine gOff rfl rfl ?_|refine gTup rfl ?_))
    intro q hq
    by_cases hb0 : nb = 0
    case' pos =>
      obtain rfl : q = false := by rw [hq]; simp; omega
      (repeat(first|refine pSeq ?_|refine pReg ?_|refine sRaw ?_|refine sCons ?_|refine sNil ?_|refine rCons ?_|refine rNil ?_|refine kNo ?_|refine pRow ?_|refine pBlock ?_|refine pSkip ?_|refine pExit ?_|refine pRet ?_|refine pCond ?_|refine gNone ?_|refine gOn rfl ?_|refine gOff rfl rfl ?_|refine gTup rfl ?_))
      intro w hw
      rw [i64_id (by omega)] at hw
      obtain rfl : w = ((m + 1 : Nat) : Int) := by omega
      (repeat(first|refine pSeq ?_|refine pReg ?_|refine sRaw ?_|refine sCons ?_|refine sNil ?_|refine rCons ?_|refine rNil ?_|refine kNo ?_|refine pRow ?_|refine pBlock ?_|refine pSkip ?_|refine pExit ?_|refine pRet ?_|refine pCond ?_|refine gNone ?_|refine gOn rfl ?_|refine gOff rfl rfl ?_|refine gTup rfl ?_))
      exact ⟨(m + 1, s8), ⟨by show m + 1 ≤ 3; omega, dh, kh, by show a3.next < s8.next; omega, mph⟩, by show 3 - (m + 1) < 3 - m; omega, Wk.same ⟨rfl, rfl, rfl, rfl, rfl, rfl, rfl, trivial⟩⟩
    obtain rfl : q = true := by rw [hq]; simp; omega
    (repeat(first|refine pSeq ?_|refine pReg ?_|refine sRaw ?_|refine sCons ?_|refine sNil ?_|refine rCons ?_|refine rNil ?_|refine kNo ?_|refine pRow ?_|refine pBlock ?_|refine pSkip ?_|refine pExit ?_|refine pRet ?_|refine pCond ?_|refine gNone ?_|refine gOn rfl ?_|refine gOff rfl rfl ?_|refine gTup rfl ?_))
    refine (clone11_w h2h (by omega)).mono fun v s9 q => ?_
    obtain ⟨b9, rfl, o9, i9, d9⟩ := q
    obtain ⟨cb, rfl⟩ : ∃ cb, b9 = some ⟨cb, 0, none⟩ := own_some o9 (by omega)
    obtain ⟨_, _, lt9, g9, hc9, _⟩ := o9
    have hcb : s8.next ≤ cb := i9 cb (by simp [blkOf])
    have di := dh.nil d9
    have x9 := d9.blk _ _ nlh (by simp) xh
    have mp9 := d9.blk _ _ (show s.next < s8.next by omega) (by simp) mph
    have k9 := d9.blk _ _ (show a3.next < s8.next by omega) (by simp) kh
    have h29 := h2h.chg d9 (by simp)
    have hl29 := h2h.lt
    clear xh mph kh
    (repeat(first|refine pSeq ?_|refine pReg ?_|refine sRaw ?_|refine sCons ?_|refine sNil ?_|refine rCons ?_|refine rNil ?_|refine kNo ?_|refine pRow ?_|refine pBlock ?_|refine pSkip ?_|refine pExit ?_|refine pRet ?_|refine pCond ?_|refine gNone ?_|refine gOn rfl ?_|refine gOff rfl rfl ?_|refine gTup rfl ?_))
    intro w hw
    rw [i64_id (by omega)] at hw
    subst hw
    (repeat(first|refine pSeq ?_|refine pReg ?_|refine sRaw ?_|refine sCons ?_|refine sNil ?_|refine rCons ?_|refine rNil ?_|refine kNo ?_|refine pRow ?_|refine pBlock ?_|refine pSkip ?_|refine pExit ?_|refine pRet ?_|refine pCond ?_|refine gNone ?_|refine gOn rfl ?_|refine gOff rfl rfl ?_|refine gTup rfl ?_))
    refine ⟨by omega, ?_⟩
    intro w hw
    rw [tmodN] at hw
    subst hw
    have hpl : wh % nb < nb := Nat.mod_lt _ (by omega)
    obtain ⟨P, hP⟩ : ∃ P, P = wh % nb := ⟨_, rfl⟩
    rw [← hP] at hpl ⊢
    (repeat(first|refine pSeq ?_|refine pReg ?_|refine sRaw ?_|refine sCons ?_|refine sNil ?_|refine rCons ?_|refine rNil ?_|refine kNo ?_|refine pRow ?_|refine pBlock ?_|refine pSkip ?_|refine pExit ?_|refine pRet ?_|refine pCond ?_|refine gNone ?_|refine gOn rfl ?_|refine gOff rfl rfl ?_|refine gTup rfl ?_))
    refine ⟨by omega, ?_⟩
    intro w hw o2 ho2
    obtain rfl : w = P := by omega
    obtain ⟨c, hc⟩ : ∃ c, b[w]? = some c := ⟨_, List.getElem?_eq_getElem (show w < b.length by omega)⟩
    have hcg : (bytesV b)[w]? = some (.int .u8 c.toNat) := by unfold bytesV; rw [List.getElem?_map, hc]; rfl
    obtain rfl : o2 = w := by omega
    (repeat(first|refine pSeq ?_|refine pReg ?_|refine sRaw ?_|refine sCons ?_|refine sNil ?_|refine rCons ?_|refine rNil ?_|refine kNo ?_|refine pRow ?_|refine pBlock ?_|refine pSkip ?_|refine pExit ?_|refine pRet ?_|refine pCond ?_|refine gNone ?_|refine gOn rfl ?_|refine gOff rfl rfl ?_|refine gTup rfl ?_))
    refine ldI_is rfl hc9 hcg ?_
    (repeat(first|refine pSeq ?_|refine pReg ?_|refine sRaw ?_|refine sCons ?_|refine sNil ?_|refine rCons ?_|refine rNil ?_|refine kNo ?_|refine pRow ?_|refine pBlock ?_|refine pSkip ?_|refine pExit ?_|refine pRet ?_|refine pCond ?_|refine gNone ?_|refine gOn rfl ?_|refine gOff rfl rfl ?_|refine gTup rfl ?_))
    refine ⟨by decide, ?_⟩
    intro w hw
    rw [show (8 : Int) = ((8 : Nat) : Int) from rfl, tmodN] at hw
    subst hw
    have hj8 : wh % 8 < 8 := Nat.mod_lt _ (by decide)
    (repeat(first|refine pSeq ?_|refine pReg ?_|refine sRaw ?_|refine sCons ?_|refine sNil ?_|refine rCons ?_|refine rNil ?_|refine kNo ?_|refine pRow ?_|refine pBlock ?_|refine pSkip ?_|refine pExit ?_|refine pRet ?_|refine pCond ?_|refine gNone ?_|refine gOn rfl ?_|refine gOff rfl rfl ?_|refine gTup rfl ?_))
    refine ⟨by omega, ?_⟩
    intro w hw
    obtain rfl := shl_u8 hj8 hw
    obtain ⟨xb1, xb2⟩ := xorB_is hj8 c
    (repeat(first|refine pSeq ?_|refine pReg ?_|refine sRaw ?_|refine sCons ?_|refine sNil ?_|refine rCons ?_|refine rNil ?_|refine kNo ?_|refine pRow ?_|refine pBlock ?_|refine pSkip ?_|refine pExit ?_|refine pRet ?_|refine pCond ?_|refine gNone ?_|refine gOn rfl ?_|refine gOff rfl rfl ?_|refine gTup rfl ?_))
    intro w hw
    rw [xb1] at hw
    subst hw
    (repeat(first|refine pSeq ?_|refine pReg ?_|refine sRaw ?_|refine sCons ?_|refine sNil ?_|refine rCons ?_|refine rNil ?_|refine kNo ?_|refine pRow ?_|refine pBlock ?_|refine pSkip ?_|refine pExit ?_|refine pRet ?_|refine pCond ?_|refine gNone ?_|refine gOn rfl ?_|refine gOff rfl rfl ?_|refine gTup rfl ?_))
    refine ⟨by omega, ?_⟩
    intro w hw o3 ho3
    obtain rfl : w = o2 := by omega
    obtain rfl : o3 = w := by omega
    (repeat(first|refine pSeq ?_|refine pReg ?_|refine sRaw ?_|refine sCons ?_|refine sNil ?_|refine rCons ?_|refine rNil ?_|refine kNo ?_|refine pRow ?_|refine pBlock ?_|refine pSkip ?_|refine pExit ?_|refine pRet ?_|refine pCond ?_|refine gNone ?_|refine gOn rfl ?_|refine gOff rfl rfl ?_|refine gTup rfl ?_))
    refine st_abs (cs' := bytesV (b.set o3 (xorB c (wh % 8)))) rfl rfl hc9 lt9 rfl (bytes_set11 (by omega) _) fun s10 e10 d10 nx10 => ?_
    have hne : b.set o3 (xorB c (wh % 8)) ≠ b := set_ne11 hc xb2
    have hlen : (b.set o3 (xorB c (wh % 8))).length = nb := by rw [List.length_set]; omega
    generalize b.set o3 (xorB c (wh % 8)) = bC at *
    have dj : Chg s s10 [] := di.fresh d10 (fun id hid => by simp at hid; have := dh.next; omega)
    have fj := dj.fine f
    have x10 := d10.blk _ _ (show s2.next < s9.next by have := d9.next; omega) (by simp; omega) x9
    have mp10 := d10.blk _ _ (show s.next < s9.next by have := d9.next; omega) (by simp; omega) mp9
    have k10 := d10.blk _ _ (show a3.next < s9.next by have := d9.next; omega) (by simp; omega) k9
    have h210 := h29.chg d10 (fun id hid h => by have := hl29 id hid; simp at h; omega)
    have hC10 : Rdb s10 (some ⟨cb, 0, none⟩) nb bC := ⟨hlen.symm, rfl, by show cb < s10.next; omega, _, _, _, _, e10, bytes_take hlen, bytesV_plain _⟩
    have nl10 : a3.next < s10.next := by have := d9.next; omega
    have nl2 : s2.next < s10.next := by have := d9.next; omega
    clear x9 mp9 k9 h29 e10 hc9 hc hcg
    (repeat(first|refine pSeq ?_|refine pReg ?_|refine sRaw ?_|refine sCons ?_|refine sNil ?_|refine rCons ?_|refine rNil ?_|refine kNo ?_|refine pRow ?_|refine pBlock ?_|refine pSkip ?_|refine pExit ?_|refine pRet ?_|refine pCond ?_|refine gNone ?_|refine gOn rfl ?_|refine gOff rfl rfl ?_|refine gTup rfl ?_))
    refine ld1_is rfl x10 (lk1 z) ?_
    (repeat(first|refine pSeq ?_|refine pReg ?_|refine sRaw ?_|refine sCons ?_|refine sNil ?_|refine rCons ?_|refine rNil ?_|refine kNo ?_|refine pRow ?_|refine pBlock ?_|refine pSkip ?_|refine pExit ?_|refine pRet ?_|refine pCond ?_|refine gNone ?_|refine gOn rfl ?_|refine gOff rfl rfl ?_|refine gTup rfl ?_))
    refine ld1_is rfl x10 (lk1 z) ?_
    (repeat(first|refine pSeq ?_|refine pReg ?_|refine sRaw ?_|refine sCons ?_|refine sNil ?_|refine rCons ?_|refine rNil ?_|refine kNo ?_|refine pRow ?_|refine pBlock ?_|refine pSkip ?_|refine pExit ?_|refine pRet ?_|refine pCond ?_|refine gNone ?_|refine gOn rfl ?_|refine gOff rfl rfl ?_|refine gTup rfl ?_))
    refine gen_v rfl rfl (call_tell hz _) ?_
    refine (tell_w (hG.nil dj) fj hz hC10 (by omega)).mono fun v s11 q => ?_
    obtain ⟨rfl, d11⟩ := q
    have dk := dj.nil d11
    have fk := dk.fine f
    have x11 := d11.blk _ _ nl2 (by simp) x10
    have h211 := h210.chg d11 (by simp)
    have hC11 := hC10.chg d11 (by simp)
    refine kAll (d11.keep fj) ?_
    (repeat(first|refine pSeq ?_|refine pReg ?_|refine sRaw ?_|refine sCons ?_|refine sNil ?_|refine rCons ?_|refine rNil ?_|refine kNo ?_|refine pRow ?_|refine pBlock ?_|refine pSkip ?_|refine pExit ?_|refine pRet ?_|refine pCond ?_|refine gNone ?_|refine gOn rfl ?_|refine gOff rfl rfl ?_|refine gTup rfl ?_))
    refine gen_v rfl rfl (call_tell hz _) ?_
    refine (tell_w (hG.nil dk) fk hz h211 (by omega)).mono fun v s12 q => ?_
    obtain ⟨rfl, d12⟩ := q
    have dl := dk.nil d12
    have fl := dl.fine f
    have x12 := d12.blk _ _ (show s2.next < s11.next by have := d11.next; omega) (by simp) x11
    have h212 := h211.chg d12 (by simp)
    have hC12 := hC11.chg d12 (by simp)
    (repeat(first|refine pSeq ?_|refine pReg ?_|refine sRaw ?_|refine sCons ?_|refine sNil ?_|refine rCons ?_|refine rNil ?_|refine kNo ?_|refine pRow ?_|refine pBlock ?_|refine pSkip ?_|refine pExit ?_|refine pRet ?_|refine pCond ?_|refine gNone ?_|refine gOn rfl ?_|refine gOff rfl rfl ?_|refine gTup rfl ?_))
    intro q hq
    obtain rfl : q = false := by rw [hq]; exact decide_eq_false (fun e => hne (tellF_inj hz e))
    (repeat(first|refine pSeq ?_|refine pReg ?_|refine sRaw ?_|refine sCons ?_|refine sNil ?_|refine rCons ?_|refine rNil ?_|refine kNo ?_|refine pRow ?_|refine pBlock ?_|refine pSkip ?_|refine pExit ?_|refine pRet ?_|refine pCond ?_|refine gNone ?_|refine gOn rfl ?_|refine gOff rfl rfl ?_|refine gTup rfl ?_))
    refine ld1_is rfl x12 (lk1 z) ?_
    (repeat(first|refine pSeq ?_|refine pReg ?_|refine sRaw ?_|refine sCons ?_|refine sNil ?_|refine rCons ?_|refine rNil ?_|refine kNo ?_|refine pRow ?_|refine pBlock ?_|refine pSkip ?_|refine pExit ?_|refine pRet ?_|refine pCond ?_|refine gNone ?_|refine gOn rfl ?_|refine gOff rfl rfl ?_|refine gTup rfl ?_))
    refine ld1_is rfl x12 (lk1 z) ?_
    (repeat(first|refine pSeq ?_|refine pReg ?_|refine sRaw ?_|refine sCons ?_|refine sNil ?_|refine rCons ?_|refine rNil ?_|refine kNo ?_|refine pRow ?_|refine pBlock ?_|refine pSkip ?_|refine pExit ?_|refine pRet ?_|refine pCond ?_|refine gNone ?_|refine gOn rfl ?_|refine gOff rfl rfl ?_|refine gTup rfl ?_))
    refine gen_v rfl rfl (call_tell hz _) ?_
    refine (tell_w (hG.nil dl) fl hz hC12 (by omega)).mono fun v s13 q => ?_
    obtain ⟨rfl, d13⟩ := q
    have dm := dl.nil d13
    have fm := dm.fine f
    have h213 := h212.chg d13 (by simp)
    have x13 := d13.blk _ _ (show s2.next < s12.next by have := d11.next; have := d12.next; omega) (by simp) x12
    refine kAll (d13.keep fl) ?_
    (repeat(first|refine pSeq ?_|refine pReg ?_|refine sRaw ?_|refine sCons ?_|refine sNil ?_|refine rCons ?_|refine rNil ?_|refine kNo ?_|refine pRow ?_|refine pBlock ?_|refine pSkip ?_|refine pExit ?_|refine pRet ?_|refine pCond ?_|refine gNone ?_|refine gOn rfl ?_|refine gOff rfl rfl ?_|refine gTup rfl ?_))
    intro n1 hn1
    subst hn1
    (repeat(first|refine pSeq ?_|refine pReg ?_|refine sRaw ?_|refine sCons ?_|refine sNil ?_|refine rCons ?_|refine rNil ?_|refine kNo ?_|refine pRow ?_|refine pBlock ?_|refine pSkip ?_|refine pExit ?_|refine pRet ?_|refine pCond ?_|refine gNone ?_|refine gOn rfl ?_|refine gOff rfl rfl ?_|refine gTup rfl ?_))
    refine gen_v rfl rfl (call_tell hz _) ?_
    refine (tell_w (hG.nil dm) fm hz h213 (by omega)).mono fun v s14 q => ?_
    obtain ⟨rfl, d14⟩ := q
    have dn := dm.nil d14
    have d1014 := ((d11.nil d12).nil d13).nil d14
    refine kAll (d14.keep fm) ?_
    (repeat(first|refine pSeq ?_|refine pReg ?_|refine sRaw ?_|refine sCons ?_|refine sNil ?_|refine rCons ?_|refine rNil ?_|refine kNo ?_|refine pRow ?_|refine pBlock ?_|refine pSkip ?_|refine pExit ?_|refine pRet ?_|refine pCond ?_|refine gNone ?_|refine gOn rfl ?_|refine gOff rfl rfl ?_|refine gTup rfl ?_))
    intro n2 hn2
    subst hn2
    (repeat(first|refine pSeq ?_|refine pReg ?_|refine sRaw ?_|refine sCons ?_|refine sNil ?_|refine rCons ?_|refine rNil ?_|refine kNo ?_|refine pRow ?_|refine pBlock ?_|refine pSkip ?_|refine pExit ?_|refine pRet ?_|refine pCond ?_|refine gNone ?_|refine gOn rfl ?_|refine gOff rfl rfl ?_|refine gTup rfl ?_))
    intro q hq
    obtain rfl : q = false := by
      rw [hq, tellF_len, tellF_len, hlen, ← hnb1]
      simp
    (repeat(first|refine pSeq ?_|refine pReg ?_|refine sRaw ?_|refine sCons ?_|refine sNil ?_|refine rCons ?_|refine rNil ?_|refine kNo ?_|refine pRow ?_|refine pBlock ?_|refine pSkip ?_|refine pExit ?_|refine pRet ?_|refine pCond ?_|refine gNone ?_|refine gOn rfl ?_|refine gOff rfl rfl ?_|refine gTup rfl ?_))
    intro w hw
    rw [i64_id (by omega)] at hw
    obtain rfl : w = ((m + 1 : Nat) : Int) := by omega
    (repeat(first|refine pSeq ?_|refine pReg ?_|refine sRaw ?_|refine sCons ?_|refine sNil ?_|refine rCons ?_|refine rNil ?_|refine kNo ?_|refine pRow ?_|refine pBlock ?_|refine pSkip ?_|refine pExit ?_|refine pRet ?_|refine pCond ?_|refine gNone ?_|refine gOn rfl ?_|refine gOff rfl rfl ?_|refine gTup rfl ?_))
    exact ⟨(m + 1, s14), ⟨by show m + 1 ≤ 3; omega, dn, d1014.blk _ _ nl10 (by simp) k10, by show a3.next < s14.next; have := d1014.next; omega, d1014.blk _ _ (show s.next < s10.next by omega) (by simp) mp10⟩, by show 3 - (m + 1) < 3 - m; omega, Wk.same ⟨rfl, rfl, rfl, rfl, rfl, rfl, rfl, trivial⟩⟩)
end Go.Vf.S

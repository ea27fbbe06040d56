import Derived.Test.YthhcngkblihliaaDoorHdLi
/- What the law HeadBytes says, from any state. -/
namespace Go.Vf.S
open Go Go.Vf Go.Proofs Go.RowKit
attribute [local irreducible] wSeq wRow wp wG
set_option linter.unusedVariables false
set_option linter.unusedSimpArgs false
set_option maxRecDepth 10000

theorem ms_names (ls : List Lin) (body : List UInt8) (ea : Bool) : nmsL (ls.take 12) = (msL ls body ea).fs.map fun f => f.n := by
  unfold nmsL msL
  dsimp only
  rw [List.map_map]
  exact List.map_congr_left fun x _ => ((fdL_is x).2.1).symm
theorem ms_val {ls : List Lin} {body : List UInt8} {ea : Bool} {f : Fld} (h : f ∈ (msL ls body ea).fs) : trimF f.v = f.v ∧ asc f.v ∧ (∀ c ∈ f.v, c ∉ ([13, 10] : List UInt8)) ∧ f.v.length ≤ 230 := by
  unfold msL at h
  obtain ⟨x, -, rfl⟩ := List.mem_map.1 h
  exact fdL_val x
theorem ms_nm {ls : List Lin} {body : List UInt8} {ea : Bool} {f : Fld} (h : f ∈ (msL ls body ea).fs) : isNm f.n = true ∧ f.n.length ≤ 21 := by
  unfold msL at h
  obtain ⟨x, -, rfl⟩ := List.mem_map.1 h
  rw [(fdL_is x).2.1]
  exact ⟨nmL_nm _, nmL_len _⟩

set_option maxHeartbeats 8000000 in
theorem hbytes_w {s : SS} {ls : List Lin} {Wl : Option Addr} {cwl at' : Nat} {body pv : List UInt8} {ea : Bool} (hM : Gx s) (hf : Fine s) (h : LnRd s Wl ls) (hk : ∀ x ∈ ls, x.k < 256) (hn : ls.length ≤ 9223372036854775807) (hat : at' < 256) :
    CallW pr n_law07_HeadBytes [.slice Wl ls.length cwl, str body, .agg ⟨[str pv, .int .u8 at', .bool ea]⟩] s fun u s' => u = .bool true := by
  have hT := tk_mes ls body ea
  have hO := tk_ok ls body ea
  have hL := tk_len ls body ea
  have hx := mes_text hT
  have hmay := mes_may hO (by omega) hT
  have hp := pars_jn (by omega) hO
  rw [hT] at hp
  have hnms := ms_names ls body ea
  have hval := fun f hf => ms_val (ls := ls) (body := body) (ea := ea) (f := f) hf
  have hnm := fun f hf => ms_nm (ls := ls) (body := body) (ea := ea) (f := f) hf
  have hml : (ls.take 12).length = (msL ls body ea).fs.length := by unfold msL; rw [List.length_map]
  have hm12 : (msL ls body ea).fs.length ≤ 12 := by rw [← hml, List.length_take]; omega
  have hmade := fun (s : SS) (h : LnRd s Wl ls) => made7_w (cwl := cwl) (body := body) (ea := ea) h hk hn
  rw [hnms, hml] at hmade
  have hmade2 : ∀ s : SS, LnRd s Wl ls → CallW pr n_law07_made [.slice Wl ls.length cwl, str body, .bool ea] s fun u s' => ∃ V cv, u = .tuple ⟨[str (jn (tkL ls body ea)), .slice V (msL ls body ea).fs.length cv]⟩ ∧
      OwnR tS s' V cv (msL ls body ea).fs.length (strV ((msL ls body ea).fs.map fun f => f.n)) ∧ Chg s s' [] ∧ ∀ id ∈ blkOf V, s.next ≤ id := hmade
  clear hmade hnms hml
  rw [← hx] at hmade2 hp hL
  have hTT : ∃ l, Okl l ∧ mesF l = some (msL ls body ea) := ⟨_, hO, hT⟩
  clear hx hT hO
  generalize msL ls body ea = m at *
  refine CallW.pieces (nt := 258) (res := [.tmp 6]) (c := .seq code_HB_R0 (.seq code_HB_R1 (.seq code_HB_R2 (.seq code_HB_CA (.seq code_HB_LA (.seq code_HB_R11 (.seq code_HB_LB code_HB_TL))))))) (by kernel_rfl) (by kernel_rfl) (by kernel_rfl) (by kernel_rfl) (by simp) ?_
  refine W.seq (comp_ok good ok_HB_R0 (Box.out (p := wp pr 258 s.next _ _ _ _) ?_))
  obtain ⟨s1, hs1⟩ : ∃ s1 : SS, s1 = { s with heap := (s.next, some (.cells [str pv, .int .u8 at', .bool ea] tPu false false)) :: s.heap, next := s.next + 1 } := ⟨_, rfl⟩
  have c1 : Chg s s1 [] := by rw [hs1]; exact .new _
  have p1 : lookH s1.heap s.next = some (.cells [str pv, .int .u8 at', .bool ea] tPu false false) := by rw [hs1]; exact lkH
  have n1 : s1.next = s.next + 1 := by rw [hs1]
  (repeat(first|refine pSeq ?_|refine pReg ?_|refine sCons ?_|refine sNil ?_|refine rCons ?_|refine rNil ?_|refine kNo ?_|refine pRow ?_|refine pBlock ?_|refine pSkip ?_|refine pExit ?_|refine pRet ?_|refine pCond ?_|refine gNone ?_|refine gOn rfl ?_|refine gOff rfl rfl ?_|refine gTup rfl ?_))
  refine W.seq (comp_ok good ok_HB_R1 (Box.out (p := wp pr 258 s.next _ _ _ _) ?_))
  (repeat(first|refine pSeq ?_|refine pReg ?_|refine sCons ?_|refine sNil ?_|refine rCons ?_|refine rNil ?_|refine kNo ?_|refine pRow ?_|refine pBlock ?_|refine pSkip ?_|refine pExit ?_|refine pRet ?_|refine pCond ?_|refine gNone ?_|refine gOn rfl ?_|refine gOff rfl rfl ?_|refine gTup rfl ?_))
  refine ldB_is rfl (show lookH _ s.next = some (.cells [str pv, .int .u8 at', .bool ea] tPu false false) from (by subst hs1; exact p1)) rfl ?_
  (repeat(first|refine pSeq ?_|refine pReg ?_|refine sCons ?_|refine sNil ?_|refine rCons ?_|refine rNil ?_|refine kNo ?_|refine pRow ?_|refine pBlock ?_|refine pSkip ?_|refine pExit ?_|refine pRet ?_|refine pCond ?_|refine gNone ?_|refine gOn rfl ?_|refine gOff rfl rfl ?_|refine gTup rfl ?_))
  refine (hmade2 _ (show LnRd _ Wl ls from (by subst hs1; exact h.chg c1))).mono fun u s2 q => ?_
  replace q : ∃ V cv, u = .tuple ⟨[str (textM m), .slice V m.fs.length cv]⟩ ∧ OwnR tS s2 V cv m.fs.length (strV (m.fs.map fun f => f.n)) ∧ Chg s1 s2 [] ∧ ∀ id ∈ blkOf V, s1.next ≤ id := by subst hs1; exact q
  clear hs1 hmade2
  obtain ⟨V, cv, rfl, o2, c2, v2⟩ := q
  have c02 := c1.nil c2
  have n2 := c2.next
  have p2 := c2.blk _ _ (by omega) (by simp) p1
  (repeat(first|refine pSeq ?_|refine pReg ?_|refine sCons ?_|refine sNil ?_|refine rCons ?_|refine rNil ?_|refine kNo ?_|refine pRow ?_|refine pBlock ?_|refine pSkip ?_|refine pExit ?_|refine pRet ?_|refine pCond ?_|refine gNone ?_|refine gOn rfl ?_|refine gOff rfl rfl ?_|refine gTup rfl ?_))
  refine W.seq (comp_ok good ok_HB_R2 (Box.out (p := wp pr 258 s.next _ _ _ _) ?_))
  (repeat(first|refine pSeq ?_|refine pReg ?_|refine sCons ?_|refine sNil ?_|refine rCons ?_|refine rNil ?_|refine kNo ?_|refine pRow ?_|refine pBlock ?_|refine pSkip ?_|refine pExit ?_|refine pRet ?_|refine pCond ?_|refine gNone ?_|refine gOn rfl ?_|refine gOff rfl rfl ?_|refine gTup rfl ?_))
  refine (hparse_w (l := textM m) (hM.chg c02) (by omega)).mono fun u s3 q => ?_
  rw [hp] at q
  obtain ⟨Wm, cm, rfl, o3, c3, w3⟩ := q
  dsimp only at o3
  have n3 := c3.next
  (repeat(first|refine pSeq ?_|refine pReg ?_|refine sCons ?_|refine sNil ?_|refine rCons ?_|refine rNil ?_|refine kNo ?_|refine pRow ?_|refine pBlock ?_|refine pSkip ?_|refine pExit ?_|refine pRet ?_|refine pCond ?_|refine gNone ?_|refine gOn rfl ?_|refine gOff rfl rfl ?_|refine gTup rfl ?_))
  refine st_abs (cs' := msC m Wm cm) rfl rfl lkH (Nat.lt_succ_self _) rfl rfl fun s4 e4 c4 n4 => ?_
  have c34 : Chg s3 s4 [] := (Chg.new []).fresh c4 (by simp)
  have e4 : lookH s4.heap s3.next = some (.cells (msC m Wm cm) tMs false false) := e4
  have n4 : s4.next = s3.next + 1 := n4
  have c24 := c3.nil c34
  have c04 := c02.nil c24
  have o4 := o3.chg c34 (by simp)
  have v4 := o2.chg c24 (by simp)
  have p4 := c24.blk _ _ (by omega) (by simp) p2
  (repeat(first|refine pSeq ?_|refine pReg ?_|refine sCons ?_|refine sNil ?_|refine rCons ?_|refine rNil ?_|refine kNo ?_|refine pRow ?_|refine pBlock ?_|refine pSkip ?_|refine pExit ?_|refine pRet ?_|refine pCond ?_|refine gNone ?_|refine gOn rfl ?_|refine gOff rfl rfl ?_|refine gTup rfl ?_))
  refine W.seq (comp_ok good ok_HB_CA (Box.out (p := wp pr 258 s.next _ _ _ _) ?_))
  (repeat(first|refine pSeq ?_|refine pReg ?_|refine sCons ?_|refine sNil ?_|refine rCons ?_|refine rNil ?_|refine kNo ?_|refine pRow ?_|refine pBlock ?_|refine pSkip ?_|refine pExit ?_|refine pRet ?_|refine pCond ?_|refine gNone ?_|refine gOn rfl ?_|refine gOff rfl rfl ?_|refine gTup rfl ?_))
  intro q hq
  obtain rfl : q = false := by rw [hq]; rfl
  (repeat(first|refine pSeq ?_|refine pReg ?_|refine sCons ?_|refine sNil ?_|refine rCons ?_|refine rNil ?_|refine kNo ?_|refine pRow ?_|refine pBlock ?_|refine pSkip ?_|refine pExit ?_|refine pRet ?_|refine pCond ?_|refine gNone ?_|refine gOn rfl ?_|refine gOff rfl rfl ?_|refine gTup rfl ?_))
  refine ldN_is rfl e4 agm3 ?_
  (repeat(first|refine pSeq ?_|refine pReg ?_|refine sCons ?_|refine sNil ?_|refine rCons ?_|refine rNil ?_|refine kNo ?_|refine pRow ?_|refine pBlock ?_|refine pSkip ?_|refine pExit ?_|refine pRet ?_|refine pCond ?_|refine gNone ?_|refine gOn rfl ?_|refine gOff rfl rfl ?_|refine gTup rfl ?_))
  refine (htext_w (rd_of o4) (by omega) (by omega)).mono fun u s5 q => ?_
  obtain ⟨rfl, c5⟩ := q
  have c05 := c04.nil c5
  have n5 := c5.next
  have e5 := c5.blk _ _ (by omega) (by simp) e4
  have o5 := o4.chg c5 (by simp)
  (repeat(first|refine pSeq ?_|refine pReg ?_|refine sCons ?_|refine sNil ?_|refine rCons ?_|refine rNil ?_|refine kNo ?_|refine pRow ?_|refine pBlock ?_|refine pSkip ?_|refine pExit ?_|refine pRet ?_|refine pCond ?_|refine gNone ?_|refine gOn rfl ?_|refine gOff rfl rfl ?_|refine gTup rfl ?_))
  intro q hq
  obtain rfl : q = false := by rw [hq]; simp
  (repeat(first|refine pSeq ?_|refine pReg ?_|refine sCons ?_|refine sNil ?_|refine rCons ?_|refine rNil ?_|refine kNo ?_|refine pRow ?_|refine pBlock ?_|refine pSkip ?_|refine pExit ?_|refine pRet ?_|refine pCond ?_|refine gNone ?_|refine gOn rfl ?_|refine gOff rfl rfl ?_|refine gTup rfl ?_))
  refine ldN_is rfl e5 agm3 ?_
  (repeat(first|refine pSeq ?_|refine pReg ?_|refine sCons ?_|refine sNil ?_|refine rCons ?_|refine rNil ?_|refine kNo ?_|refine pRow ?_|refine pBlock ?_|refine pSkip ?_|refine pExit ?_|refine pRet ?_|refine pCond ?_|refine gNone ?_|refine gOn rfl ?_|refine gOff rfl rfl ?_|refine gTup rfl ?_))
  refine (hmay_w (hM.chg c05) (rd_of o5) (by omega) (by omega)).mono fun u s6 q => ?_
  rw [hmay] at q
  obtain ⟨rfl, c6⟩ := q
  have c46 := c5.nil c6
  have c06 := c05.nil c6
  have n6 := c6.next
  have e6 := c6.blk _ _ (by omega) (by simp) e5
  have o6 := o5.chg c6 (by simp)
  have v6 := v4.chg c46 (by simp)
  have p6 := c46.blk _ _ (by omega) (by simp) p4
  (repeat(first|refine pSeq ?_|refine pReg ?_|refine sCons ?_|refine sNil ?_|refine rCons ?_|refine rNil ?_|refine kNo ?_|refine pRow ?_|refine pBlock ?_|refine pSkip ?_|refine pExit ?_|refine pRet ?_|refine pCond ?_|refine gNone ?_|refine gOn rfl ?_|refine gOff rfl rfl ?_|refine gTup rfl ?_))
  intro q hq
  obtain rfl : q = false := by rw [hq]; rfl
  (repeat(first|refine pSeq ?_|refine pReg ?_|refine sCons ?_|refine sNil ?_|refine rCons ?_|refine rNil ?_|refine kNo ?_|refine pRow ?_|refine pBlock ?_|refine pSkip ?_|refine pExit ?_|refine pRet ?_|refine pCond ?_|refine gNone ?_|refine gOn rfl ?_|refine gOff rfl rfl ?_|refine gTup rfl ?_))
  refine ld1_is rfl e6 rfl ?_
  (repeat(first|refine pSeq ?_|refine pReg ?_|refine sCons ?_|refine sNil ?_|refine rCons ?_|refine rNil ?_|refine kNo ?_|refine pRow ?_|refine pBlock ?_|refine pSkip ?_|refine pExit ?_|refine pRet ?_|refine pCond ?_|refine gNone ?_|refine gOn rfl ?_|refine gOff rfl rfl ?_|refine gTup rfl ?_))
  intro q hq
  obtain rfl : q = false := by rw [hq]; simp
  (repeat(first|refine pSeq ?_|refine pReg ?_|refine sCons ?_|refine sNil ?_|refine rCons ?_|refine rNil ?_|refine kNo ?_|refine pRow ?_|refine pBlock ?_|refine pSkip ?_|refine pExit ?_|refine pRet ?_|refine pCond ?_|refine gNone ?_|refine gOn rfl ?_|refine gOff rfl rfl ?_|refine gTup rfl ?_))
  refine W.seq (comp_ok good ok_HB_LA (Box.out (p := wp pr 258 s.next _ _ _ _) ?_))
  (repeat(first|refine pSeq ?_|refine pReg ?_|refine sCons ?_|refine sNil ?_|refine rCons ?_|refine rNil ?_|refine kNo ?_|refine pRow ?_|refine pBlock ?_|refine pSkip ?_|refine pExit ?_|refine pRet ?_|refine pCond ?_|refine gNone ?_|refine gOn rfl ?_|refine gOff rfl rfl ?_|refine gTup rfl ?_))
  refine ld1_is rfl e6 rfl ?_
  (repeat(first|refine pSeq ?_|refine pReg ?_|refine sCons ?_|refine sNil ?_|refine rCons ?_|refine rNil ?_|refine kNo ?_|refine pRow ?_|refine pBlock ?_|refine pSkip ?_|refine pExit ?_|refine pRet ?_|refine pCond ?_|refine gNone ?_|refine gOn rfl ?_|refine gOff rfl rfl ?_|refine gTup rfl ?_))
  refine pLoop (MW.head good (fun x : ByI => m.fs.length - x.i) (fun x => x.i ≤ m.fs.length ∧ Chg s6 x.s [])
    (fun x => [(5, .pointer (some ⟨s.next, 0, none⟩)), (7, str (textM m)), (8, .slice V m.fs.length cv), (9, .pointer (some ⟨s3.next, 0, none⟩)), (57, .slice Wm m.fs.length cm), (58, .int .i64 m.fs.length), (59, .int .i64 x.i)]) (fun x => x.s) ⟨0, s6⟩ ⟨Nat.zero_le _, .refl _ _⟩ (Wk.same ⟨rfl, rfl, rfl, rfl, rfl, rfl, rfl, trivial⟩) ?_)
  rintro ⟨i, s7⟩ ⟨i1, c7⟩
  dsimp only at i1 c7 ⊢
  have n7 := c7.next
  have c07 := c06.nil c7
  have e7 := c7.blk _ _ (by omega) (by simp) e6
  have o7 := o6.chg c7 (by simp)
  have v7 := v6.chg c7 (by simp)
  have p7 := c7.blk _ _ (by omega) (by simp) p6
  have f7 := c07.fine hf
  (repeat(first|refine pSeq ?_|refine pReg ?_|refine sCons ?_|refine sNil ?_|refine rCons ?_|refine rNil ?_|refine kNo ?_|refine pRow ?_|refine pBlock ?_|refine pSkip ?_|refine pExit ?_|refine pRet ?_|refine pCond ?_|refine gNone ?_|refine gOn rfl ?_|refine gOff rfl rfl ?_|refine gTup rfl ?_))
  intro q hq
  by_cases hlt : i < m.fs.length
  · obtain rfl : q = true := by rw [hq]; exact decide_eq_true (by omega)
    obtain ⟨f, hfi⟩ : ∃ f, m.fs[i]? = some f := ⟨_, List.getElem?_eq_getElem hlt⟩
    obtain ⟨h1, h2, h3, h4⟩ := hval f (List.mem_of_getElem? hfi)
    obtain ⟨b, cs, t, g, r, tl, hW, hb, hcs⟩ := (rd_of o7).at (fun e => by rw [e] at hlt; simp at hlt)
    subst hW
    obtain ⟨b9, g9, hV9, hb9⟩ : ∃ b9 g9, V = some ⟨b9, 0, none⟩ ∧ lookH s7.heap b9 = some (.cells (strV (m.fs.map fun f => f.n)) tS g9 false) := by
      cases V with
      | none => exact absurd v7.2.1 (by omega)
      | some a =>
        obtain ⟨b, off, sp⟩ := a
        obtain ⟨rfl, rfl, -, g, hg, -⟩ := v7
        exact ⟨b, g, rfl, hg⟩
    subst hV9
    (repeat(first|refine pSeq ?_|refine pReg ?_|refine sCons ?_|refine sNil ?_|refine rCons ?_|refine rNil ?_|refine kNo ?_|refine pRow ?_|refine pBlock ?_|refine pSkip ?_|refine pExit ?_|refine pRet ?_|refine pCond ?_|refine gNone ?_|refine gOn rfl ?_|refine gOff rfl rfl ?_|refine gTup rfl ?_))
    refine ⟨by omega, ?_⟩
    intro x hx o ho
    obtain rfl : x = i := by omega
    (repeat(first|refine pSeq ?_|refine pReg ?_|refine sCons ?_|refine sNil ?_|refine rCons ?_|refine rNil ?_|refine kNo ?_|refine pRow ?_|refine pBlock ?_|refine pSkip ?_|refine pExit ?_|refine pRet ?_|refine pCond ?_|refine gNone ?_|refine gOn rfl ?_|refine gOff rfl rfl ?_|refine gTup rfl ?_))
    refine ldN_is (new := flC f) rfl hb (by rw [ho, Nat.zero_add]; exact fsC_take hcs hfi) ?_
    (repeat(first|refine pSeq ?_|refine pReg ?_|refine sCons ?_|refine sNil ?_|refine rCons ?_|refine rNil ?_|refine kNo ?_|refine pRow ?_|refine pBlock ?_|refine pSkip ?_|refine pExit ?_|refine pRet ?_|refine pCond ?_|refine gNone ?_|refine gOn rfl ?_|refine gOff rfl rfl ?_|refine gTup rfl ?_))
    refine st_abs (cs' := flC f) rfl rfl lkH (Nat.lt_succ_self _) rfl rfl fun s8 e8 c8 n8 => ?_
    have c78 : Chg s7 s8 [] := (Chg.new []).fresh c8 (by simp)
    have e8 : lookH s8.heap s7.next = some (.cells (flC f) tFl false false) := e8
    have n8 : s8.next = s7.next + 1 := n8
    have hb8 := c78.blk _ _ (v7.lt b9 (by simp [blkOf])) (by simp) hb9
    have f8 := (c07.nil c78).fine hf
    (repeat(first|refine pSeq ?_|refine pReg ?_|refine sCons ?_|refine sNil ?_|refine rCons ?_|refine rNil ?_|refine kNo ?_|refine pRow ?_|refine pBlock ?_|refine pSkip ?_|refine pExit ?_|refine pRet ?_|refine pCond ?_|refine gNone ?_|refine gOn rfl ?_|refine gOff rfl rfl ?_|refine gTup rfl ?_))
    refine ldS_is (l := f.n) rfl e8 rfl ?_
    (repeat(first|refine pSeq ?_|refine pReg ?_|refine sCons ?_|refine sNil ?_|refine rCons ?_|refine rNil ?_|refine kNo ?_|refine pRow ?_|refine pBlock ?_|refine pSkip ?_|refine pExit ?_|refine pRet ?_|refine pCond ?_|refine gNone ?_|refine gOn rfl ?_|refine gOff rfl rfl ?_|refine gTup rfl ?_))
    refine ⟨by omega, ?_⟩
    intro y hy o2 ho2
    obtain rfl : y = x := by omega
    (repeat(first|refine pSeq ?_|refine pReg ?_|refine sCons ?_|refine sNil ?_|refine rCons ?_|refine rNil ?_|refine kNo ?_|refine pRow ?_|refine pBlock ?_|refine pSkip ?_|refine pExit ?_|refine pRet ?_|refine pCond ?_|refine gNone ?_|refine gOn rfl ?_|refine gOff rfl rfl ?_|refine gTup rfl ?_))
    refine ldS_is (l := f.n) rfl hb8 (by
      rw [ho2, Nat.zero_add, Nat.mul_one]
      unfold strV
      rw [List.getElem?_map, List.getElem?_map, hfi]
      rfl) ?_
    (repeat(first|refine pSeq ?_|refine pReg ?_|refine sCons ?_|refine sNil ?_|refine rCons ?_|refine rNil ?_|refine kNo ?_|refine pRow ?_|refine pBlock ?_|refine pSkip ?_|refine pExit ?_|refine pRet ?_|refine pCond ?_|refine gNone ?_|refine gOn rfl ?_|refine gOff rfl rfl ?_|refine gTup rfl ?_))
    intro q hq
    obtain rfl : q = false := by rw [hq]; simp
    (repeat(first|refine pSeq ?_|refine pReg ?_|refine sCons ?_|refine sNil ?_|refine rCons ?_|refine rNil ?_|refine kNo ?_|refine pRow ?_|refine pBlock ?_|refine pSkip ?_|refine pExit ?_|refine pRet ?_|refine pCond ?_|refine gNone ?_|refine gOn rfl ?_|refine gOff rfl rfl ?_|refine gTup rfl ?_))
    refine ldS_is (l := f.v) rfl e8 rfl ?_
    (repeat(first|refine pSeq ?_|refine pReg ?_|refine sCons ?_|refine sNil ?_|refine rCons ?_|refine rNil ?_|refine kNo ?_|refine pRow ?_|refine pBlock ?_|refine pSkip ?_|refine pExit ?_|refine pRet ?_|refine pCond ?_|refine gNone ?_|refine gOn rfl ?_|refine gOff rfl rfl ?_|refine gTup rfl ?_))
    refine (containsAny_w (l := f.v) (m := [13, 10]) (by omega) (by simp) h2 (by intro c hc; revert c; decide)).mono fun u s8 q => ?_
    rw [any_no h3] at q
    obtain ⟨rfl, rfl⟩ := q
    first | refine kAll .refl ?_ | skip
    (repeat(first|refine pSeq ?_|refine pReg ?_|refine sCons ?_|refine sNil ?_|refine rCons ?_|refine rNil ?_|refine kNo ?_|refine pRow ?_|refine pBlock ?_|refine pSkip ?_|refine pExit ?_|refine pRet ?_|refine pCond ?_|refine gNone ?_|refine gOn rfl ?_|refine gOff rfl rfl ?_|refine gTup rfl ?_))
    refine ldS_is (l := f.v) rfl e8 rfl ?_
    (repeat(first|refine pSeq ?_|refine pReg ?_|refine sCons ?_|refine sNil ?_|refine rCons ?_|refine rNil ?_|refine kNo ?_|refine pRow ?_|refine pBlock ?_|refine pSkip ?_|refine pExit ?_|refine pRet ?_|refine pCond ?_|refine gNone ?_|refine gOn rfl ?_|refine gOff rfl rfl ?_|refine gTup rfl ?_))
    refine ldS_is (l := f.v) rfl e8 rfl ?_
    (repeat(first|refine pSeq ?_|refine pReg ?_|refine sCons ?_|refine sNil ?_|refine rCons ?_|refine rNil ?_|refine kNo ?_|refine pRow ?_|refine pBlock ?_|refine pSkip ?_|refine pExit ?_|refine pRet ?_|refine pCond ?_|refine gNone ?_|refine gOn rfl ?_|refine gOff rfl rfl ?_|refine gTup rfl ?_))
    refine (Trim_w (l := f.v) (by omega)).mono fun u s9 q => ?_
    rw [h1] at q
    obtain ⟨rfl, c9⟩ := q
    first | refine kAll (c9.keep f8) ?_ | skip
    (repeat(first|refine pSeq ?_|refine pReg ?_|refine sCons ?_|refine sNil ?_|refine rCons ?_|refine rNil ?_|refine kNo ?_|refine pRow ?_|refine pBlock ?_|refine pSkip ?_|refine pExit ?_|refine pRet ?_|refine pCond ?_|refine gNone ?_|refine gOn rfl ?_|refine gOff rfl rfl ?_|refine gTup rfl ?_))
    intro q hq
    obtain rfl : q = false := by rw [hq]; simp
    (repeat(first|refine pSeq ?_|refine pReg ?_|refine sCons ?_|refine sNil ?_|refine rCons ?_|refine rNil ?_|refine kNo ?_|refine pRow ?_|refine pBlock ?_|refine pSkip ?_|refine pExit ?_|refine pRet ?_|refine pCond ?_|refine gNone ?_|refine gOn rfl ?_|refine gOff rfl rfl ?_|refine gTup rfl ?_))
    intro z hz
    rw [i64_id (by omega)] at hz
    obtain rfl : z = ((y + 1 : Nat) : Int) := by omega
    (repeat(first|refine pSeq ?_|refine pReg ?_|refine sCons ?_|refine sNil ?_|refine rCons ?_|refine rNil ?_|refine kNo ?_|refine pRow ?_|refine pBlock ?_|refine pSkip ?_|refine pExit ?_|refine pRet ?_|refine pCond ?_|refine gNone ?_|refine gOn rfl ?_|refine gOff rfl rfl ?_|refine gTup rfl ?_))
    exact ⟨⟨y + 1, s9⟩, ⟨hlt, c7.nil (c78.nil c9)⟩, by show m.fs.length - (y + 1) < m.fs.length - y; omega, Wk.same ⟨rfl, rfl, rfl, rfl, rfl, rfl, rfl, trivial⟩⟩
  · obtain rfl : q = false := by rw [hq]; exact decide_eq_false (by omega)
    (repeat(first|refine pSeq ?_|refine pReg ?_|refine sCons ?_|refine sNil ?_|refine rCons ?_|refine rNil ?_|refine kNo ?_|refine pRow ?_|refine pBlock ?_|refine pSkip ?_|refine pExit ?_|refine pRet ?_|refine pCond ?_|refine gNone ?_|refine gOn rfl ?_|refine gOff rfl rfl ?_|refine gTup rfl ?_))
    refine W.seq (comp_ok good ok_HB_R11 (Box.out (p := wp pr 258 s.next _ _ _ _) ?_))
    (repeat(first|refine pSeq ?_|refine pReg ?_|refine sCons ?_|refine sNil ?_|refine rCons ?_|refine rNil ?_|refine kNo ?_|refine pRow ?_|refine pBlock ?_|refine pSkip ?_|refine pExit ?_|refine pRet ?_|refine pCond ?_|refine gNone ?_|refine gOn rfl ?_|refine gOff rfl rfl ?_|refine gTup rfl ?_))
    refine ldS_is (l := pv) rfl p7 rfl ?_
    (repeat(first|refine pSeq ?_|refine pReg ?_|refine sCons ?_|refine sNil ?_|refine rCons ?_|refine rNil ?_|refine kNo ?_|refine pRow ?_|refine pBlock ?_|refine pSkip ?_|refine pExit ?_|refine pRet ?_|refine pCond ?_|refine gNone ?_|refine gOn rfl ?_|refine gOff rfl rfl ?_|refine gTup rfl ?_))
    refine ldS_is (l := pv) rfl p7 rfl ?_
    (repeat(first|refine pSeq ?_|refine pReg ?_|refine sCons ?_|refine sNil ?_|refine rCons ?_|refine rNil ?_|refine kNo ?_|refine pRow ?_|refine pBlock ?_|refine pSkip ?_|refine pExit ?_|refine pRet ?_|refine pCond ?_|refine gNone ?_|refine gOn rfl ?_|refine gOff rfl rfl ?_|refine gTup rfl ?_))
    intro z hz
    (repeat(first|refine pSeq ?_|refine pReg ?_|refine sCons ?_|refine sNil ?_|refine rCons ?_|refine rNil ?_|refine kNo ?_|refine pRow ?_|refine pBlock ?_|refine pSkip ?_|refine pExit ?_|refine pRet ?_|refine pCond ?_|refine gNone ?_|refine gOn rfl ?_|refine gOff rfl rfl ?_|refine gTup rfl ?_))
    intro z2 hz2
    (repeat(first|refine pSeq ?_|refine pReg ?_|refine sCons ?_|refine sNil ?_|refine rCons ?_|refine rNil ?_|refine kNo ?_|refine pRow ?_|refine pBlock ?_|refine pSkip ?_|refine pExit ?_|refine pRet ?_|refine pCond ?_|refine gNone ?_|refine gOn rfl ?_|refine gOff rfl rfl ?_|refine gTup rfl ?_))
    refine ⟨by omega, ?_⟩
    intro k' hk' g' hg
    have eg : g' = pv.take 400 := take_min hg hz hz2 hk'
    clear hg hk' hz hz2
    subst eg
    have hvl : (pv.take 400).length ≤ 400 := by rw [List.length_take]; omega
    generalize pv.take 400 = w at *
    (repeat(first|refine pSeq ?_|refine pReg ?_|refine sCons ?_|refine sNil ?_|refine rCons ?_|refine rNil ?_|refine kNo ?_|refine pRow ?_|refine pBlock ?_|refine pSkip ?_|refine pExit ?_|refine pRet ?_|refine pCond ?_|refine gNone ?_|refine gOn rfl ?_|refine gOff rfl rfl ?_|refine gTup rfl ?_))
    refine ⟨by omega, ?_⟩
    obtain ⟨s8, hs8⟩ : ∃ s8 : SS, s8 = { s7 with heap := (s7.next, some (.cells (bytesV w) tB true false)) :: s7.heap, next := s7.next + 1 } := ⟨_, rfl⟩
    have c78 : Chg s7 s8 [] := by rw [hs8]; exact .new _
    have k8 : lookH s8.heap s7.next = some (.cells (bytesV w) tB true false) := by rw [hs8]; exact lkH
    have n8 : s8.next = s7.next + 1 := by rw [hs8]
    (repeat(first|refine pSeq ?_|refine pReg ?_|refine sCons ?_|refine sNil ?_|refine rCons ?_|refine rNil ?_|refine kNo ?_|refine pRow ?_|refine pBlock ?_|refine pSkip ?_|refine pExit ?_|refine pRet ?_|refine pCond ?_|refine gNone ?_|refine gOn rfl ?_|refine gOff rfl rfl ?_|refine gTup rfl ?_))
    refine W.seq (comp_ok good ok_HB_LB (Box.out (p := wp pr 258 s.next _ _ _ _) ?_))
    (repeat(first|refine pSeq ?_|refine pReg ?_|refine sCons ?_|refine sNil ?_|refine rCons ?_|refine rNil ?_|refine kNo ?_|refine pRow ?_|refine pBlock ?_|refine pSkip ?_|refine pExit ?_|refine pRet ?_|refine pCond ?_|refine gNone ?_|refine gOn rfl ?_|refine gOff rfl rfl ?_|refine gTup rfl ?_))
    refine pLoop (MW.head good (fun x : ByI => w.length - x.i) (fun x => x.i ≤ w.length ∧ Chg s8 x.s [s7.next] ∧ lookH x.s.heap s7.next = some (.cells (bytesV (mixI (fun _ => plainC) w x.i)) tB true false))
      (fun z => [(5, .pointer (some ⟨s.next, 0, none⟩)), (7, str (textM m)), (8, .slice V m.fs.length cv), (9, .pointer (some ⟨s3.next, 0, none⟩)), (13, .slice (some ⟨s7.next, 0, none⟩) w.length 0), (94, .int .i64 w.length), (95, .int .i64 z.i)]) (fun x => x.s) ⟨0, s8⟩ ⟨Nat.zero_le _, .refl _ _, by rw [mixI_0]; exact k8⟩ (by subst hs8; exact Wk.same ⟨rfl, rfl, rfl, rfl, rfl, rfl, rfl, trivial⟩) ?_)
    clear hs8
    rintro ⟨j, s9⟩ ⟨j1, c9, k9⟩
    dsimp only at j1 c9 k9 ⊢
    have n9 := c9.next
    (repeat(first|refine pSeq ?_|refine pReg ?_|refine sCons ?_|refine sNil ?_|refine rCons ?_|refine rNil ?_|refine kNo ?_|refine pRow ?_|refine pBlock ?_|refine pSkip ?_|refine pExit ?_|refine pRet ?_|refine pCond ?_|refine gNone ?_|refine gOn rfl ?_|refine gOff rfl rfl ?_|refine gTup rfl ?_))
    intro q hq
    by_cases hlj : j < w.length
    · obtain rfl : q = true := by rw [hq]; simp; omega
      obtain ⟨c, hc⟩ : ∃ c, w[j]? = some c := ⟨_, List.getElem?_eq_getElem hlj⟩
      have c95 := Nat.mod_lt c.toNat (show 0 < 95 by omega)
      (repeat(first|refine pSeq ?_|refine pReg ?_|refine sCons ?_|refine sNil ?_|refine rCons ?_|refine rNil ?_|refine kNo ?_|refine pRow ?_|refine pBlock ?_|refine pSkip ?_|refine pExit ?_|refine pRet ?_|refine pCond ?_|refine gNone ?_|refine gOn rfl ?_|refine gOff rfl rfl ?_|refine gTup rfl ?_))
      refine ⟨by omega, ?_⟩
      intro m1 hm1 o1 ho1
      obtain rfl : m1 = j := by omega
      (repeat(first|refine pSeq ?_|refine pReg ?_|refine sCons ?_|refine sNil ?_|refine rCons ?_|refine rNil ?_|refine kNo ?_|refine pRow ?_|refine pBlock ?_|refine pSkip ?_|refine pExit ?_|refine pRet ?_|refine pCond ?_|refine gNone ?_|refine gOn rfl ?_|refine gOff rfl rfl ?_|refine gTup rfl ?_))
      refine ldI_is rfl k9 (by rw [ho1, Nat.zero_add, Nat.mul_one]; exact bytes_get (mixI_at hc)) ?_
      (repeat(first|refine pSeq ?_|refine pReg ?_|refine sCons ?_|refine sNil ?_|refine rCons ?_|refine rNil ?_|refine kNo ?_|refine pRow ?_|refine pBlock ?_|refine pSkip ?_|refine pExit ?_|refine pRet ?_|refine pCond ?_|refine gNone ?_|refine gOn rfl ?_|refine gOff rfl rfl ?_|refine gTup rfl ?_))
      refine ⟨by omega, ?_⟩
      intro z hz
      have hz : z = ((c.toNat % 95 : Nat) : Int) := hz
      (repeat(first|refine pSeq ?_|refine pReg ?_|refine sCons ?_|refine sNil ?_|refine rCons ?_|refine rNil ?_|refine kNo ?_|refine pRow ?_|refine pBlock ?_|refine pSkip ?_|refine pExit ?_|refine pRet ?_|refine pCond ?_|refine gNone ?_|refine gOn rfl ?_|refine gOff rfl rfl ?_|refine gTup rfl ?_))
      intro z2 hz2
      rw [u8_id (by omega)] at hz2
      obtain rfl : z2 = ((plainC c).toNat : Int) := by rw [plainC_nat]; omega
      (repeat(first|refine pSeq ?_|refine pReg ?_|refine sCons ?_|refine sNil ?_|refine rCons ?_|refine rNil ?_|refine kNo ?_|refine pRow ?_|refine pBlock ?_|refine pSkip ?_|refine pExit ?_|refine pRet ?_|refine pCond ?_|refine gNone ?_|refine gOn rfl ?_|refine gOff rfl rfl ?_|refine gTup rfl ?_))
      refine ⟨by omega, ?_⟩
      intro m2 hm2 o2 ho2
      obtain rfl : m2 = m1 := by omega
      (repeat(first|refine pSeq ?_|refine pReg ?_|refine sCons ?_|refine sNil ?_|refine rCons ?_|refine rNil ?_|refine kNo ?_|refine pRow ?_|refine pBlock ?_|refine pSkip ?_|refine pExit ?_|refine pRet ?_|refine pCond ?_|refine gNone ?_|refine gOn rfl ?_|refine gOff rfl rfl ?_|refine gTup rfl ?_))
      refine st_abs (cs' := bytesV (mixI (fun _ => plainC) w (m2 + 1))) rfl rfl k9 (by omega) rfl (by
        rw [ho2, Nat.zero_add, Nat.mul_one, mixI_next hc]
        exact bytes_set (by rw [mixI_len]; exact hlj) _) fun s10 e10 c10 n10 => ?_
      (repeat(first|refine pSeq ?_|refine pReg ?_|refine sCons ?_|refine sNil ?_|refine rCons ?_|refine rNil ?_|refine kNo ?_|refine pRow ?_|refine pBlock ?_|refine pSkip ?_|refine pExit ?_|refine pRet ?_|refine pCond ?_|refine gNone ?_|refine gOn rfl ?_|refine gOff rfl rfl ?_|refine gTup rfl ?_))
      intro z3 hz3
      rw [i64_id (by omega)] at hz3
      obtain rfl : z3 = ((m2 + 1 : Nat) : Int) := by omega
      (repeat(first|refine pSeq ?_|refine pReg ?_|refine sCons ?_|refine sNil ?_|refine rCons ?_|refine rNil ?_|refine kNo ?_|refine pRow ?_|refine pBlock ?_|refine pSkip ?_|refine pExit ?_|refine pRet ?_|refine pCond ?_|refine gNone ?_|refine gOn rfl ?_|refine gOff rfl rfl ?_|refine gTup rfl ?_))
      exact ⟨⟨m2 + 1, s10⟩, ⟨hlj, c9.trans' c10 (fun id q _ => q) (fun id q _ => q), e10⟩, by show w.length - (m2 + 1) < w.length - m2; omega, Wk.same ⟨rfl, rfl, rfl, rfl, rfl, rfl, rfl, trivial⟩⟩
    · obtain rfl : q = false := by rw [hq]; simp; omega
      rw [mixI_end (by omega), mapIdx_const] at k9
      have hwl : w.length = (w.map plainC).length := (List.length_map ..).symm
      have c79 : Chg s7 s9 [] := c78.fresh c9 (by simp)
      have c09 := c07.nil c79
      (repeat(first|refine pSeq ?_|refine pReg ?_|refine sCons ?_|refine sNil ?_|refine rCons ?_|refine rNil ?_|refine kNo ?_|refine pRow ?_|refine pBlock ?_|refine pSkip ?_|refine pExit ?_|refine pRet ?_|refine pCond ?_|refine gNone ?_|refine gOn rfl ?_|refine gOff rfl rfl ?_|refine gTup rfl ?_))
      refine W.weak (k := s.next) (T' := [(5, .pointer (some ⟨s.next, 0, none⟩)), (7, str (textM m)), (8, .slice V m.fs.length cv), (9, .pointer (some ⟨s3.next, 0, none⟩)), (13, .slice (some ⟨s7.next, 0, none⟩) (w.map plainC).length 0)]) (s' := s9) (Wk.same ⟨rfl, rfl, rfl, rfl, by rw [← hwl]; rfl, trivial⟩)
        (hb_tail (hM.chg c09) (c09.fine hf) (c79.blk _ _ (by omega) (by simp) e7) (by omega) (o7.chg c79 (by simp)) (c79.blk _ _ (by omega) (by simp) p7) (by omega) k9 (by omega) (v7.chg c79 (by simp)) hm12 hat (by omega) (plain_9 w) (plain_all w) hnm hTT hL)
end Go.Vf.S

import Derived.Test.YthhcngkblihliaaDoorHdLh
import Derived.Test.YthhcngkblihliaaDoorFnHB
/- What the law HeadBytes says, from any state: fields laid. -/
namespace Go.Vf.S
open Go Go.Vf Go.Proofs Go.RowKit
attribute [local irreducible] wSeq wRow wp wG
set_option linter.unusedVariables false
set_option linter.unusedSimpArgs false
set_option maxRecDepth 10000

theorem takeN_le : ∀ {n : Nat} {l r : List Value}, takeN n l = some r → n ≤ l.length
  | 0, l, r, _ => Nat.zero_le _
  | n + 1, [], r, h => by simp [takeN] at h
  | n + 1, x :: l, r, h => by
    rw [takeN] at h
    cases e : takeN n l with
    | none => rw [e] at h; cases h
    | some u =>
      have := takeN_le e
      simp only [List.length_cons]
      omega
theorem FsP.at {s : SS} {W : Option Addr} {fs : List Fld} (h : FsP s W fs) (hn : fs ≠ []) : ∃ b off cs t g r, W = some ⟨b, off, none⟩ ∧ lookH s.heap b = some (.cells cs t g r) ∧ ∀ (i : Nat) f, fs[i]? = some f → takeN 3 (cs.drop (off + i * 3)) = some (flC f) := by
  cases W with
  | none => exact absurd h hn
  | some a =>
    obtain ⟨b, off, sp⟩ := a
    obtain ⟨rfl, h3, cs, t, g, r, h4, h5⟩ := h
    refine ⟨b, off, cs, t, g, r, rfl, h4, fun i f hf => ?_⟩
    have hi := lt_of_get hf
    have hl : fs.length * 3 ≤ (cs.drop off).length := by
      rcases Nat.lt_or_ge (cs.drop off).length (fs.length * 3) with q | q
      · exfalso
        have := takeN_le h5
        omega
      · exact q
    rw [takeN_take _ _ hl] at h5
    have e : cs.drop off = fsC fs ++ (cs.drop off).drop (fs.length * 3) := by
      rw [← Option.some.inj h5, List.take_append_drop]
    rw [← List.drop_drop, e, fsC_at _ hf]
    rfl
theorem eqP_w {s : SS} {fa fb : List Fld} {W V : Option Addr} {cw cv n k : Nat} (ha : FsP s W fa) (hb : FsP s V fb) (hn : fa.length ≤ 100000) (hn2 : fb.length ≤ 100000) (h1 : n = fa.length) (h2 : k = fb.length) :
    CallW pr n_slices_Equal_head_Field_head_Field [.slice W n cw, .slice V k cv] s fun v s' => v = .bool (decide (fa = fb)) ∧ s' = s := by
  subst h1 h2
  refine CallW.run good ok_slices_Equal_head_Field_head_Field (by simp) rfl ?_
  (repeat(first|refine pSeq ?_|refine pReg ?_|refine sCons ?_|refine sNil ?_|refine rCons ?_|refine rNil ?_|refine kNo ?_|refine pRow ?_|refine pBlock ?_|refine pSkip ?_|refine pExit ?_|refine pRet ?_|refine pCond ?_|refine gNone ?_))
  intro q hq
  by_cases x1 : fa.length = fb.length
  · obtain rfl : q = false := by rw [hq]; simp; omega
    (repeat(first|refine pSeq ?_|refine pReg ?_|refine sCons ?_|refine sNil ?_|refine rCons ?_|refine rNil ?_|refine kNo ?_|refine pRow ?_|refine pBlock ?_|refine pSkip ?_|refine pExit ?_|refine pRet ?_|refine pCond ?_|refine gNone ?_))
    refine pLoop (MW.head good (fun i : Nat => fa.length - i) (fun i => i ≤ fa.length ∧ fa.take i = fb.take i) (fun i => [(0, .slice W fa.length cw), (1, .slice V fb.length cv), (12, .int .i64 fa.length), (13, .int .i64 i)]) (fun i => s) 0 ⟨Nat.zero_le _, rfl⟩ (Wk.same ⟨rfl, rfl, rfl, rfl, trivial⟩) ?_)
    intro i ⟨h1, h2⟩
    (repeat(first|refine pSeq ?_|refine pReg ?_|refine sCons ?_|refine sNil ?_|refine rCons ?_|refine rNil ?_|refine kNo ?_|refine pRow ?_|refine pBlock ?_|refine pSkip ?_|refine pExit ?_|refine pRet ?_|refine pCond ?_|refine gNone ?_))
    intro q hq
    by_cases hlt : i < fa.length
    · obtain rfl : q = true := by rw [hq]; simp; omega
      obtain ⟨f, hf⟩ : ∃ f, fa[i]? = some f := ⟨_, List.getElem?_eq_getElem hlt⟩
      obtain ⟨g, hg⟩ : ∃ f, fb[i]? = some f := ⟨_, List.getElem?_eq_getElem (by omega)⟩
      obtain ⟨b1, f1, cs1, t1, g1, r1, hW1, hb1', hcs1⟩ := ha.at (fun e => by rw [e] at hlt; simp at hlt)
      obtain ⟨b2, f2, cs2, t2, g2, r2, hW2, hb2', hcs2⟩ := hb.at (fun e => by rw [e] at x1; simp at x1; rw [x1] at hlt; simp at hlt)
      subst hW1 hW2
      (repeat(first|refine pSeq ?_|refine pReg ?_|refine sCons ?_|refine sNil ?_|refine rCons ?_|refine rNil ?_|refine kNo ?_|refine pRow ?_|refine pBlock ?_|refine pSkip ?_|refine pExit ?_|refine pRet ?_|refine pCond ?_|refine gNone ?_))
      refine ⟨by omega, ?_⟩
      intro m hm o ho
      obtain rfl : m = i := by omega
      (repeat(first|refine pSeq ?_|refine pReg ?_|refine sCons ?_|refine sNil ?_|refine rCons ?_|refine rNil ?_|refine kNo ?_|refine pRow ?_|refine pBlock ?_|refine pSkip ?_|refine pExit ?_|refine pRet ?_|refine pCond ?_|refine gNone ?_))
      refine ldN_is (new := flC f) rfl hb1' (by rw [ho]; exact hcs1 _ _ hf) ?_
      (repeat(first|refine pSeq ?_|refine pReg ?_|refine sCons ?_|refine sNil ?_|refine rCons ?_|refine rNil ?_|refine kNo ?_|refine pRow ?_|refine pBlock ?_|refine pSkip ?_|refine pExit ?_|refine pRet ?_|refine pCond ?_|refine gNone ?_))
      refine ⟨by omega, ?_⟩
      intro m2 hm2 o2 ho2
      obtain rfl : m2 = m := by omega
      (repeat(first|refine pSeq ?_|refine pReg ?_|refine sCons ?_|refine sNil ?_|refine rCons ?_|refine rNil ?_|refine kNo ?_|refine pRow ?_|refine pBlock ?_|refine pSkip ?_|refine pExit ?_|refine pRet ?_|refine pCond ?_|refine gNone ?_))
      refine ldN_is (new := flC g) rfl hb2' (by rw [ho2]; exact hcs2 _ _ hg) ?_
      (repeat(first|refine pSeq ?_|refine pReg ?_|refine sCons ?_|refine sNil ?_|refine rCons ?_|refine rNil ?_|refine kNo ?_|refine pRow ?_|refine pBlock ?_|refine pSkip ?_|refine pExit ?_|refine pRet ?_|refine pCond ?_|refine gNone ?_))
      intro q hq
      rw [fld_dec] at hq
      by_cases x4 : f = g
      · obtain rfl : q = false := by rw [hq, decide_eq_true x4]; rfl
        (repeat(first|refine pSeq ?_|refine pReg ?_|refine sCons ?_|refine sNil ?_|refine rCons ?_|refine rNil ?_|refine kNo ?_|refine pRow ?_|refine pBlock ?_|refine pSkip ?_|refine pExit ?_|refine pRet ?_|refine pCond ?_|refine gNone ?_))
        intro z hz
        rw [i64_id (by omega)] at hz
        obtain rfl : z = ((m2 + 1 : Nat) : Int) := by omega
        (repeat(first|refine pSeq ?_|refine pReg ?_|refine sCons ?_|refine sNil ?_|refine rCons ?_|refine rNil ?_|refine kNo ?_|refine pRow ?_|refine pBlock ?_|refine pSkip ?_|refine pExit ?_|refine pRet ?_|refine pCond ?_|refine gNone ?_))
        exact ⟨m2 + 1, ⟨hlt, by rw [take_next hf, take_next hg, h2, x4]⟩, by show fa.length - (m2 + 1) < fa.length - m2; omega, Wk.same ⟨rfl, rfl, rfl, rfl, trivial⟩⟩
      · obtain rfl : q = true := by rw [hq, decide_eq_false x4]; rfl
        (repeat(first|refine pSeq ?_|refine pReg ?_|refine sCons ?_|refine sNil ?_|refine rCons ?_|refine rNil ?_|refine kNo ?_|refine pRow ?_|refine pBlock ?_|refine pSkip ?_|refine pExit ?_|refine pRet ?_|refine pCond ?_|refine gNone ?_))
        refine ⟨bool_eq (decide_eq_false (fun e => x4 ?_)).symm, rfl⟩
        rw [e, hg] at hf
        exact (Option.some.inj hf).symm
    · obtain rfl : q = false := by rw [hq]; simp; omega
      rw [List.take_of_length_le (by omega), List.take_of_length_le (by omega)] at h2
      (repeat(first|refine pSeq ?_|refine pReg ?_|refine sCons ?_|refine sNil ?_|refine rCons ?_|refine rNil ?_|refine kNo ?_|refine pRow ?_|refine pBlock ?_|refine pSkip ?_|refine pExit ?_|refine pRet ?_|refine pCond ?_|refine gNone ?_))
      exact ⟨bool_eq (decide_eq_true h2).symm, rfl⟩
  · obtain rfl : q = true := by rw [hq]; simp; omega
    (repeat(first|refine pSeq ?_|refine pReg ?_|refine sCons ?_|refine sNil ?_|refine rCons ?_|refine rNil ?_|refine kNo ?_|refine pRow ?_|refine pBlock ?_|refine pSkip ?_|refine pExit ?_|refine pRet ?_|refine pCond ?_|refine gNone ?_))
    exact ⟨bool_eq (decide_eq_false (fun e => x1 (congrArg List.length e))).symm, rfl⟩

theorem dT (fs : List Fld) : decide (fs = fs) = true := decide_eq_true rfl
abbrev tPu : TypeId := 51
abbrev xnL : List UInt8 := [88, 45, 78, 101, 119]
set_option maxHeartbeats 8000000 in
theorem hb_tail {s : SS} {k : Nat} {m : Msg} {Wa V : Option Addr} {cw cv bm bp bv at' : Nat} {v pv : List UInt8} {ea : Bool} (hM : Gx s) (hf : Fine s) (hm : lookH s.heap bm = some (.cells (msC m Wa cw) tMs false false)) (hbm : bm < s.next) (h : FsO s Wa cw m.fs)
    (hp : lookH s.heap bp = some (.cells [str pv, .int .u8 at', .bool ea] tPu false false)) (hbp : bp < s.next) (hv : lookH s.heap bv = some (.cells (bytesV v) tB true false)) (hbv : bv < s.next) (hn : OwnR tS s V cv m.fs.length (strV (m.fs.map fun f => f.n)))
    (h12 : m.fs.length ≤ 12) (hat : at' < 256) (hvl : v.length ≤ 400) (hv9 : (9 : UInt8) ∉ v) (hvo : v.all okB = true) (hnm : ∀ f ∈ m.fs, isNm f.n = true ∧ f.n.length ≤ 21) (hT : ∃ ls, Okl ls ∧ mesF ls = some m) (hl : (textM m).length ≤ 5200) :
    W pr 258 k code_HB_TL [(5, .pointer (some ⟨bp, 0, none⟩)), (7, str (textM m)), (8, .slice V m.fs.length cv), (9, .pointer (some ⟨bm, 0, none⟩)), (13, .slice (some ⟨bv, 0, none⟩) v.length 0)] s (runQ pr [.tmp 6] fun u s' => u = .bool true) := by
  obtain ⟨ls, hk, hmes⟩ := hT
  obtain ⟨fa, ha1, ha2, ha3⟩ := lay_some (nm := xnL) (v := v) (by decide) hvo
  have hal := lay_len ha1
  have hal2 : fa.r.length ≤ 1300 := by simp at hal; omega
  obtain ⟨A, hA⟩ : ∃ A : Msg, A = ⟨fa :: m.fs, m.b, m.e⟩ := ⟨_, rfl⟩
  have hAt : textM A = fa.r ++ textM m := by rw [hA]; unfold textM txtF; simp
  have hAl : (textM A).length ≤ 6500 := by rw [hAt, List.length_append]; omega
  have hAm : mayM A = true := by
    rw [hA]
    exact with_may (a := []) (x := []) (b := m.fs) hk hmes rfl ha1 (by show (textM ⟨fa :: m.fs, m.b, m.e⟩).length ≤ 8192; rw [← hA]; omega)
  have hAw : aheadF m xnL v = (A, 0) := by
    show withF m 0 0 xnL v = _
    unfold withF
    rw [ha1]
    dsimp only
    rw [List.take_zero, List.drop_zero, List.nil_append, ← hA, if_neg (by omega)]
  have hAf : A.fs = fa :: m.fs := by rw [hA]
  have hAn : A.fs.length = m.fs.length + 1 := by rw [hAf]; rfl
  have hsuf : decide (textM m <:+ textM A) = true := decide_eq_true (by rw [hAt]; exact List.suffix_append _ _)
  refine comp_ok good ok_HB_TL (Box.out (p := wp pr 258 k _ _ _ _) ?_)
  (repeat(first|refine pSeq ?_|refine pReg ?_|refine sCons ?_|refine sNil ?_|refine rCons ?_|refine rNil ?_|refine kNo ?_|refine pRow ?_|refine pSkip ?_|refine pRet ?_|refine pCond ?_|refine gNone ?_|refine gOn rfl ?_|refine gOff rfl rfl ?_|refine gTup rfl ?_))
  refine ldN_is rfl hm agm3 ?_
  (repeat(first|refine pSeq ?_|refine pReg ?_|refine sCons ?_|refine sNil ?_|refine rCons ?_|refine rNil ?_|refine kNo ?_|refine pRow ?_|refine pSkip ?_|refine pRet ?_|refine pCond ?_|refine gNone ?_|refine gOn rfl ?_|refine gOff rfl rfl ?_|refine gTup rfl ?_))
  refine toStr_Rdb rfl (rdb_lit hv hbv) ?_
  (repeat(first|refine pSeq ?_|refine pReg ?_|refine sCons ?_|refine sNil ?_|refine rCons ?_|refine rNil ?_|refine kNo ?_|refine pRow ?_|refine pSkip ?_|refine pRet ?_|refine pCond ?_|refine gNone ?_|refine gOn rfl ?_|refine gOff rfl rfl ?_|refine gTup rfl ?_))
  refine (ahead_w (nm := xnL) (v := v) hf h (by omega) (by simp) (by omega) (by omega)).mono fun u s1 q => ?_
  rw [hAw] at q
  obtain ⟨Wb, cb, rfl, oA, c1, wA⟩ := q
  dsimp only at oA
  have n1 := c1.next
  (repeat(first|refine pSeq ?_|refine pReg ?_|refine sCons ?_|refine sNil ?_|refine rCons ?_|refine rNil ?_|refine kNo ?_|refine pRow ?_|refine pSkip ?_|refine pRet ?_|refine pCond ?_|refine gNone ?_|refine gOn rfl ?_|refine gOff rfl rfl ?_|refine gTup rfl ?_))
  refine st_abs (cs' := msC A Wb cb) rfl rfl lkH (Nat.lt_succ_self _) rfl rfl fun s2 e2 c2 n2 => ?_
  have c12 : Chg s1 s2 [] := (Chg.new []).fresh c2 (by simp)
  have e2 : lookH s2.heap s1.next = some (.cells (msC A Wb cb) tMs false false) := e2
  have n2 : s2.next = s1.next + 1 := n2
  have c02 := c1.nil c12
  have oA := oA.chg c12 (by simp)
  have hm2 := c02.blk _ _ hbm (by simp) hm
  have hp2 := c02.blk _ _ hbp (by simp) hp
  have hv2 := c02.blk _ _ hbv (by simp) hv
  have h2 := h.chg c02 (by simp)
  have hn2 := hn.chg c02 (by simp)
  have f2 := c02.fine hf
  have M2 := hM.chg c02
  (repeat(first|refine pSeq ?_|refine pReg ?_|refine sCons ?_|refine sNil ?_|refine rCons ?_|refine rNil ?_|refine kNo ?_|refine pRow ?_|refine pSkip ?_|refine pRet ?_|refine pCond ?_|refine gNone ?_|refine gOn rfl ?_|refine gOff rfl rfl ?_|refine gTup rfl ?_))
  intro q hq
  obtain rfl : q = false := by rw [hq]; rfl
  (repeat(first|refine pSeq ?_|refine pReg ?_|refine sCons ?_|refine sNil ?_|refine rCons ?_|refine rNil ?_|refine kNo ?_|refine pRow ?_|refine pSkip ?_|refine pRet ?_|refine pCond ?_|refine gNone ?_|refine gOn rfl ?_|refine gOff rfl rfl ?_|refine gTup rfl ?_))
  refine ldN_is rfl e2 agm3 ?_
  (repeat(first|refine pSeq ?_|refine pReg ?_|refine sCons ?_|refine sNil ?_|refine rCons ?_|refine rNil ?_|refine kNo ?_|refine pRow ?_|refine pSkip ?_|refine pRet ?_|refine pCond ?_|refine gNone ?_|refine gOn rfl ?_|refine gOff rfl rfl ?_|refine gTup rfl ?_))
  refine (hmay_w M2 (rd_of oA) (by omega) (by omega)).mono fun u s3 q => ?_
  rw [hAm] at q
  obtain ⟨rfl, c3⟩ := q
  have c03 := c02.nil c3
  have e3 := c3.blk _ _ (by omega) (by simp) e2
  have o3 := oA.chg c3 (by simp)
  have f3 := c03.fine hf
  first | refine kAll (c3.keep f2) ?_ | skip
  (repeat(first|refine pSeq ?_|refine pReg ?_|refine sCons ?_|refine sNil ?_|refine rCons ?_|refine rNil ?_|refine kNo ?_|refine pRow ?_|refine pSkip ?_|refine pRet ?_|refine pCond ?_|refine gNone ?_|refine gOn rfl ?_|refine gOff rfl rfl ?_|refine gTup rfl ?_))
  intro q hq
  obtain rfl : q = false := by rw [hq]; rfl
  (repeat(first|refine pSeq ?_|refine pReg ?_|refine sCons ?_|refine sNil ?_|refine rCons ?_|refine rNil ?_|refine kNo ?_|refine pRow ?_|refine pSkip ?_|refine pRet ?_|refine pCond ?_|refine gNone ?_|refine gOn rfl ?_|refine gOff rfl rfl ?_|refine gTup rfl ?_))
  refine ldN_is rfl e3 agm3 ?_
  (repeat(first|refine pSeq ?_|refine pReg ?_|refine sCons ?_|refine sNil ?_|refine rCons ?_|refine rNil ?_|refine kNo ?_|refine pRow ?_|refine pSkip ?_|refine pRet ?_|refine pCond ?_|refine gNone ?_|refine gOn rfl ?_|refine gOff rfl rfl ?_|refine gTup rfl ?_))
  refine (htext_w (rd_of o3) (by omega) (by omega)).mono fun u s4 q => ?_
  obtain ⟨rfl, c4⟩ := q
  have c04 := c03.nil c4
  have n3 := c3.next
  have e4 := c4.blk _ _ (show s1.next < s3.next by omega) (by simp) e3
  have o4 := o3.chg c4 (by simp)
  have f4 := c04.fine hf
  first | refine kAll (c4.keep f3) ?_ | skip
  (repeat(first|refine pSeq ?_|refine pReg ?_|refine sCons ?_|refine sNil ?_|refine rCons ?_|refine rNil ?_|refine kNo ?_|refine pRow ?_|refine pSkip ?_|refine pRet ?_|refine pCond ?_|refine gNone ?_|refine gOn rfl ?_|refine gOff rfl rfl ?_|refine gTup rfl ?_))
  refine (hasSuffix_w (a := textM A) (b := textM m) (by omega)).mono fun u s4 q => ?_
  obtain ⟨rfl, rfl⟩ := q
  rw [hsuf]
  first | refine kAll .refl ?_ | skip
  (repeat(first|refine pSeq ?_|refine pReg ?_|refine sCons ?_|refine sNil ?_|refine rCons ?_|refine rNil ?_|refine kNo ?_|refine pRow ?_|refine pSkip ?_|refine pRet ?_|refine pCond ?_|refine gNone ?_|refine gOn rfl ?_|refine gOff rfl rfl ?_|refine gTup rfl ?_))
  intro q hq
  obtain rfl : q = false := by rw [hq]; rfl
  (repeat(first|refine pSeq ?_|refine pReg ?_|refine sCons ?_|refine sNil ?_|refine rCons ?_|refine rNil ?_|refine kNo ?_|refine pRow ?_|refine pSkip ?_|refine pRet ?_|refine pCond ?_|refine gNone ?_|refine gOn rfl ?_|refine gOff rfl rfl ?_|refine gTup rfl ?_))
  have m4 := c04.blk _ _ hbm (by simp) hm
  have hv4 := c04.blk _ _ hbv (by simp) hv
  have n4 := c04.next
  refine ld1_is rfl e4 rfl ?_
  (repeat(first|refine pSeq ?_|refine pReg ?_|refine sCons ?_|refine sNil ?_|refine rCons ?_|refine rNil ?_|refine kNo ?_|refine pRow ?_|refine pSkip ?_|refine pRet ?_|refine pCond ?_|refine gNone ?_|refine gOn rfl ?_|refine gOff rfl rfl ?_|refine gTup rfl ?_))
  refine ld1_is rfl m4 rfl ?_
  (repeat(first|refine pSeq ?_|refine pReg ?_|refine sCons ?_|refine sNil ?_|refine rCons ?_|refine rNil ?_|refine kNo ?_|refine pRow ?_|refine pSkip ?_|refine pRet ?_|refine pCond ?_|refine gNone ?_|refine gOn rfl ?_|refine gOff rfl rfl ?_|refine gTup rfl ?_))
  intro z hz
  rw [i64_id (by omega)] at hz
  (repeat(first|refine pSeq ?_|refine pReg ?_|refine sCons ?_|refine sNil ?_|refine rCons ?_|refine rNil ?_|refine kNo ?_|refine pRow ?_|refine pSkip ?_|refine pRet ?_|refine pCond ?_|refine gNone ?_|refine gOn rfl ?_|refine gOff rfl rfl ?_|refine gTup rfl ?_))
  intro q hq
  obtain rfl : q = false := by rw [hq, hz]; simp; omega
  (repeat(first|refine pSeq ?_|refine pReg ?_|refine sCons ?_|refine sNil ?_|refine rCons ?_|refine rNil ?_|refine kNo ?_|refine pRow ?_|refine pSkip ?_|refine pRet ?_|refine pCond ?_|refine gNone ?_|refine gOn rfl ?_|refine gOff rfl rfl ?_|refine gTup rfl ?_))
  refine ld1_is rfl e4 rfl ?_
  (repeat(first|refine pSeq ?_|refine pReg ?_|refine sCons ?_|refine sNil ?_|refine rCons ?_|refine rNil ?_|refine kNo ?_|refine pRow ?_|refine pSkip ?_|refine pRet ?_|refine pCond ?_|refine gNone ?_|refine gOn rfl ?_|refine gOff rfl rfl ?_|refine gTup rfl ?_))
  obtain ⟨b5, cs5, t5, g5, r5, tl5, hW5, hb5, hcs5⟩ := (rd_of o4).at (by rw [hAf]; simp)
  subst hW5
  refine ⟨by omega, ?_⟩
  intro x hx o ho
  obtain rfl : x = 0 := by omega
  (repeat(first|refine pSeq ?_|refine pReg ?_|refine sCons ?_|refine sNil ?_|refine rCons ?_|refine rNil ?_|refine kNo ?_|refine pRow ?_|refine pSkip ?_|refine pRet ?_|refine pCond ?_|refine gNone ?_|refine gOn rfl ?_|refine gOff rfl rfl ?_|refine gTup rfl ?_))
  refine ldS_is (l := fa.v) rfl hb5 (by rw [hcs5, ho, hAf]; rfl) ?_
  (repeat(first|refine pSeq ?_|refine pReg ?_|refine sCons ?_|refine sNil ?_|refine rCons ?_|refine rNil ?_|refine kNo ?_|refine pRow ?_|refine pSkip ?_|refine pRet ?_|refine pCond ?_|refine gNone ?_|refine gOn rfl ?_|refine gOff rfl rfl ?_|refine gTup rfl ?_))
  refine toStr_Rdb rfl (rdb_lit hv4 (by omega)) ?_
  (repeat(first|refine pSeq ?_|refine pReg ?_|refine sCons ?_|refine sNil ?_|refine rCons ?_|refine rNil ?_|refine kNo ?_|refine pRow ?_|refine pSkip ?_|refine pRet ?_|refine pCond ?_|refine gNone ?_|refine gOn rfl ?_|refine gOff rfl rfl ?_|refine gTup rfl ?_))
  refine (Trim1_w (l := v) (by omega) hv9).mono fun u s4 q => ?_
  obtain ⟨rfl, rfl⟩ := q
  first | refine kAll .refl ?_ | skip
  (repeat(first|refine pSeq ?_|refine pReg ?_|refine sCons ?_|refine sNil ?_|refine rCons ?_|refine rNil ?_|refine kNo ?_|refine pRow ?_|refine pSkip ?_|refine pRet ?_|refine pCond ?_|refine gNone ?_|refine gOn rfl ?_|refine gOff rfl rfl ?_|refine gTup rfl ?_))
  intro q hq
  obtain rfl : q = false := by rw [hq, ha3]; simp
  (repeat(first|refine pSeq ?_|refine pReg ?_|refine sCons ?_|refine sNil ?_|refine rCons ?_|refine rNil ?_|refine kNo ?_|refine pRow ?_|refine pSkip ?_|refine pRet ?_|refine pCond ?_|refine gNone ?_|refine gOn rfl ?_|refine gOff rfl rfl ?_|refine gTup rfl ?_))
  refine ld1_is rfl m4 rfl ?_
  (repeat(first|refine pSeq ?_|refine pReg ?_|refine sCons ?_|refine sNil ?_|refine rCons ?_|refine rNil ?_|refine kNo ?_|refine pRow ?_|refine pSkip ?_|refine pRet ?_|refine pCond ?_|refine gNone ?_|refine gOn rfl ?_|refine gOff rfl rfl ?_|refine gTup rfl ?_))
  intro q hq
  have h4 := h.chg c04 (by simp)
  have p4 := c04.blk _ _ hbp (by simp) hp
  have nm4 := hn.chg c04 (by simp)
  have M4 := hM.chg c04
  by_cases h0 : m.fs.length = 0
  · obtain rfl : q = true := by rw [hq]; exact decide_eq_true (by omega)
    have hputn : putF m 0 [] = (msZ, 1) := by
      unfold putF
      rw [if_neg (by omega), List.getElem?_eq_none (by omega)]
    (repeat(first|refine pSeq ?_|refine pReg ?_|refine sCons ?_|refine sNil ?_|refine rCons ?_|refine rNil ?_|refine kNo ?_|refine pRow ?_|refine pSkip ?_|refine pRet ?_|refine pCond ?_|refine gNone ?_|refine gOn rfl ?_|refine gOff rfl rfl ?_|refine gTup rfl ?_))
    refine ldN_is rfl m4 agm3 ?_
    (repeat(first|refine pSeq ?_|refine pReg ?_|refine sCons ?_|refine sNil ?_|refine rCons ?_|refine rNil ?_|refine kNo ?_|refine pRow ?_|refine pSkip ?_|refine pRet ?_|refine pCond ?_|refine gNone ?_|refine gOn rfl ?_|refine gOff rfl rfl ?_|refine gTup rfl ?_))
    refine (put_w (k := 0) (v := []) f4 h4 (by omega) (fun f hf => by have := (hnm f hf).2; omega) (by simp) (by omega)).mono fun u s5 q => ?_
    rw [hputn] at q
    obtain ⟨W5, cw5, rfl, o5, c5, w5⟩ := q
    (repeat(first|refine pSeq ?_|refine pReg ?_|refine sCons ?_|refine sNil ?_|refine rCons ?_|refine rNil ?_|refine kNo ?_|refine pRow ?_|refine pSkip ?_|refine pRet ?_|refine pCond ?_|refine gNone ?_|refine gOn rfl ?_|refine gOff rfl rfl ?_|refine gTup rfl ?_))
    refine st_abs (cs' := msC msZ W5 cw5) rfl rfl lkH (Nat.lt_succ_self _) rfl rfl fun s6 e6 c6 n6 => ?_
    have c06 : Chg s s6 [] := c04.nil (c5.nil ((Chg.new []).fresh c6 (by simp)))
    (repeat(first|refine pSeq ?_|refine pReg ?_|refine sCons ?_|refine sNil ?_|refine rCons ?_|refine rNil ?_|refine kNo ?_|refine pRow ?_|refine pSkip ?_|refine pRet ?_|refine pCond ?_|refine gNone ?_|refine gOn rfl ?_|refine gOff rfl rfl ?_|refine gTup rfl ?_))
    intro q hq
    obtain rfl : q = true := by rw [hq]; rfl
    (repeat(first|refine pSeq ?_|refine pReg ?_|refine sCons ?_|refine sNil ?_|refine rCons ?_|refine rNil ?_|refine kNo ?_|refine pRow ?_|refine pSkip ?_|refine pRet ?_|refine pCond ?_|refine gNone ?_|refine gOn rfl ?_|refine gOff rfl rfl ?_|refine gTup rfl ?_))
    refine (hwakes_w (hM.chg c06)).mono fun u s7 q => ?_
    obtain ⟨rfl, c7⟩ := q
    (repeat(first|refine pSeq ?_|refine pReg ?_|refine sCons ?_|refine sNil ?_|refine rCons ?_|refine rNil ?_|refine kNo ?_|refine pRow ?_|refine pSkip ?_|refine pRet ?_|refine pCond ?_|refine gNone ?_|refine gOn rfl ?_|refine gOff rfl rfl ?_|refine gTup rfl ?_))
    rfl
  · obtain rfl : q = false := by rw [hq]; exact decide_eq_false (by omega)
    obtain ⟨kk, hkk⟩ : ∃ kk, kk = at' % m.fs.length := ⟨_, rfl⟩
    have hkl : kk < m.fs.length := by rw [hkk]; exact Nat.mod_lt _ (by omega)
    obtain ⟨fk, hfk⟩ : ∃ f, m.fs[kk]? = some f := ⟨_, List.getElem?_eq_getElem hkl⟩
    obtain ⟨hk1, hk2⟩ := hnm fk (List.mem_of_getElem? hfk)
    obtain ⟨fb, hb1, hb2, hb3⟩ := lay_some (nm := fk.n) (v := v) hk1 hvo
    have hbl := lay_len hb1
    obtain ⟨B, hB⟩ : ∃ B : Msg, B = ⟨m.fs.take kk ++ fb :: m.fs.drop (kk + 1), m.b, m.e⟩ := ⟨_, rfl⟩
    have hBl : (textM B).length ≤ 6600 := by
      rw [hB]
      have := with_len (m := m) (i := kk) (j := kk + 1) (f := fb) (by omega)
      omega
    have hsp : m.fs = m.fs.take kk ++ ([fk] ++ m.fs.drop (kk + 1)) := by
      conv => lhs; rw [← List.take_append_drop kk m.fs, drop_next hfk]
      rfl
    have hBm : mayM B = true := by
      rw [hB]
      exact with_may (a := m.fs.take kk) (x := [fk]) (b := m.fs.drop (kk + 1)) hk hmes hsp hb1 (by rw [← hB]; omega)
    have hBw : putF m kk v = (B, 0) := by
      unfold putF
      rw [if_neg (by omega), Int.toNat_natCast, hfk]
      dsimp only
      unfold withF
      rw [hb1]
      dsimp only
      rw [← hB, if_neg (by omega)]
    have htl : (m.fs.take kk).length = kk := by rw [List.length_take]; omega
    have hBn : B.fs.length = m.fs.length := by
      rw [hB]
      dsimp only
      rw [List.length_append, htl, List.length_cons, List.length_drop]
      omega
    have hBk : B.fs[kk]? = some fb := by rw [hB]; dsimp only; rw [List.getElem?_append_right (by omega), htl, Nat.sub_self]; rfl
    have hBt : B.fs.take kk = m.fs.take kk := by rw [hB]; exact List.take_left' htl
    have hBd : B.fs.drop (kk + 1) = m.fs.drop (kk + 1) := by
      rw [hB]
      dsimp only
      rw [show m.fs.take kk ++ fb :: m.fs.drop (kk + 1) = (m.fs.take kk ++ [fb]) ++ m.fs.drop (kk + 1) by simp, List.drop_left' (by rw [List.length_append, htl]; rfl)]
    have hBb : B.b = m.b := by rw [hB]
    clear hB hsp
    (repeat(first|refine pSeq ?_|refine pReg ?_|refine sCons ?_|refine sNil ?_|refine rCons ?_|refine rNil ?_|refine kNo ?_|refine pRow ?_|refine pSkip ?_|refine pRet ?_|refine pCond ?_|refine gNone ?_|refine gOn rfl ?_|refine gOff rfl rfl ?_|refine gTup rfl ?_))
    refine ldI_is (z := at') rfl p4 rfl ?_
    (repeat(first|refine pSeq ?_|refine pReg ?_|refine sCons ?_|refine sNil ?_|refine rCons ?_|refine rNil ?_|refine kNo ?_|refine pRow ?_|refine pSkip ?_|refine pRet ?_|refine pCond ?_|refine gNone ?_|refine gOn rfl ?_|refine gOff rfl rfl ?_|refine gTup rfl ?_))
    intro z hz
    rw [i64_id (by omega)] at hz
    (repeat(first|refine pSeq ?_|refine pReg ?_|refine sCons ?_|refine sNil ?_|refine rCons ?_|refine rNil ?_|refine kNo ?_|refine pRow ?_|refine pSkip ?_|refine pRet ?_|refine pCond ?_|refine gNone ?_|refine gOn rfl ?_|refine gOff rfl rfl ?_|refine gTup rfl ?_))
    refine ld1_is rfl m4 rfl ?_
    (repeat(first|refine pSeq ?_|refine pReg ?_|refine sCons ?_|refine sNil ?_|refine rCons ?_|refine rNil ?_|refine kNo ?_|refine pRow ?_|refine pSkip ?_|refine pRet ?_|refine pCond ?_|refine gNone ?_|refine gOn rfl ?_|refine gOff rfl rfl ?_|refine gTup rfl ?_))
    refine ⟨by omega, ?_⟩
    intro z2 hz2
    obtain rfl : z2 = (kk : Int) := by rw [hz2, hz, hkk]; exact (Int.ofNat_tmod _ _).symm
    (repeat(first|refine pSeq ?_|refine pReg ?_|refine sCons ?_|refine sNil ?_|refine rCons ?_|refine rNil ?_|refine kNo ?_|refine pRow ?_|refine pSkip ?_|refine pRet ?_|refine pCond ?_|refine gNone ?_|refine gOn rfl ?_|refine gOff rfl rfl ?_|refine gTup rfl ?_))
    refine ldN_is rfl m4 agm3 ?_
    (repeat(first|refine pSeq ?_|refine pReg ?_|refine sCons ?_|refine sNil ?_|refine rCons ?_|refine rNil ?_|refine kNo ?_|refine pRow ?_|refine pSkip ?_|refine pRet ?_|refine pCond ?_|refine gNone ?_|refine gOn rfl ?_|refine gOff rfl rfl ?_|refine gTup rfl ?_))
    refine toStr_Rdb rfl (rdb_lit hv4 (by omega)) ?_
    (repeat(first|refine pSeq ?_|refine pReg ?_|refine sCons ?_|refine sNil ?_|refine rCons ?_|refine rNil ?_|refine kNo ?_|refine pRow ?_|refine pSkip ?_|refine pRet ?_|refine pCond ?_|refine gNone ?_|refine gOn rfl ?_|refine gOff rfl rfl ?_|refine gTup rfl ?_))
    refine (put_w (k := (kk : Int)) (v := v) f4 h4 (by omega) (fun f hf => by have := (hnm f hf).2; omega) (by omega) (by omega)).mono fun u s5 q => ?_
    rw [hBw] at q
    obtain ⟨W5, cw5, rfl, o5, c5, w5⟩ := q
    dsimp only at o5
    have n5 := c5.next
    (repeat(first|refine pSeq ?_|refine pReg ?_|refine sCons ?_|refine sNil ?_|refine rCons ?_|refine rNil ?_|refine kNo ?_|refine pRow ?_|refine pSkip ?_|refine pRet ?_|refine pCond ?_|refine gNone ?_|refine gOn rfl ?_|refine gOff rfl rfl ?_|refine gTup rfl ?_))
    refine st_abs (cs' := msC B W5 cw5) rfl rfl lkH (Nat.lt_succ_self _) rfl rfl fun s6 e6 c6 n6 => ?_
    have c56 : Chg s5 s6 [] := (Chg.new []).fresh c6 (by simp)
    have e6 : lookH s6.heap s5.next = some (.cells (msC B W5 cw5) tMs false false) := e6
    have n6 : s6.next = s5.next + 1 := n6
    have c46 := c5.nil c56
    have c06 := c04.nil c46
    have o6 := o5.chg c56 (by simp)
    have f6 := c06.fine hf
    have M6 := hM.chg c06
    (repeat(first|refine pSeq ?_|refine pReg ?_|refine sCons ?_|refine sNil ?_|refine rCons ?_|refine rNil ?_|refine kNo ?_|refine pRow ?_|refine pSkip ?_|refine pRet ?_|refine pCond ?_|refine gNone ?_|refine gOn rfl ?_|refine gOff rfl rfl ?_|refine gTup rfl ?_))
    intro q hq
    obtain rfl : q = false := by rw [hq]; rfl
    (repeat(first|refine pSeq ?_|refine pReg ?_|refine sCons ?_|refine sNil ?_|refine rCons ?_|refine rNil ?_|refine kNo ?_|refine pRow ?_|refine pSkip ?_|refine pRet ?_|refine pCond ?_|refine gNone ?_|refine gOn rfl ?_|refine gOff rfl rfl ?_|refine gTup rfl ?_))
    refine ldN_is rfl e6 agm3 ?_
    (repeat(first|refine pSeq ?_|refine pReg ?_|refine sCons ?_|refine sNil ?_|refine rCons ?_|refine rNil ?_|refine kNo ?_|refine pRow ?_|refine pSkip ?_|refine pRet ?_|refine pCond ?_|refine gNone ?_|refine gOn rfl ?_|refine gOff rfl rfl ?_|refine gTup rfl ?_))
    refine (hmay_w M6 (rd_of o6) (by omega) (by omega)).mono fun u s7 q => ?_
    rw [hBm] at q
    obtain ⟨rfl, c7⟩ := q
    have c07 := c06.nil c7
    have e7 := c7.blk _ _ (by omega) (by simp) e6
    have o7 := o6.chg c7 (by simp)
    have f7 := c07.fine hf
    have n7 := c7.next
    have m7 := c07.blk _ _ hbm (by simp) hm
    have hv7 := c07.blk _ _ hbv (by simp) hv
    have h7 := h.chg c07 (by simp)
    have nm7 := hn.chg c07 (by simp)
    first | refine kAll (c7.keep f6) ?_ | skip
    (repeat(first|refine pSeq ?_|refine pReg ?_|refine sCons ?_|refine sNil ?_|refine rCons ?_|refine rNil ?_|refine kNo ?_|refine pRow ?_|refine pSkip ?_|refine pRet ?_|refine pCond ?_|refine gNone ?_|refine gOn rfl ?_|refine gOff rfl rfl ?_|refine gTup rfl ?_))
    intro q hq
    obtain rfl : q = false := by rw [hq]; rfl
    (repeat(first|refine pSeq ?_|refine pReg ?_|refine sCons ?_|refine sNil ?_|refine rCons ?_|refine rNil ?_|refine kNo ?_|refine pRow ?_|refine pSkip ?_|refine pRet ?_|refine pCond ?_|refine gNone ?_|refine gOn rfl ?_|refine gOff rfl rfl ?_|refine gTup rfl ?_))
    refine ldS_is (l := B.b) rfl e7 rfl ?_
    (repeat(first|refine pSeq ?_|refine pReg ?_|refine sCons ?_|refine sNil ?_|refine rCons ?_|refine rNil ?_|refine kNo ?_|refine pRow ?_|refine pSkip ?_|refine pRet ?_|refine pCond ?_|refine gNone ?_|refine gOn rfl ?_|refine gOff rfl rfl ?_|refine gTup rfl ?_))
    refine ldS_is (l := m.b) rfl m7 rfl ?_
    (repeat(first|refine pSeq ?_|refine pReg ?_|refine sCons ?_|refine sNil ?_|refine rCons ?_|refine rNil ?_|refine kNo ?_|refine pRow ?_|refine pSkip ?_|refine pRet ?_|refine pCond ?_|refine gNone ?_|refine gOn rfl ?_|refine gOff rfl rfl ?_|refine gTup rfl ?_))
    intro q hq
    obtain rfl : q = false := by rw [hq, hBb]; simp
    (repeat(first|refine pSeq ?_|refine pReg ?_|refine sCons ?_|refine sNil ?_|refine rCons ?_|refine rNil ?_|refine kNo ?_|refine pRow ?_|refine pSkip ?_|refine pRet ?_|refine pCond ?_|refine gNone ?_|refine gOn rfl ?_|refine gOff rfl rfl ?_|refine gTup rfl ?_))
    refine ld1_is rfl e7 rfl ?_
    (repeat(first|refine pSeq ?_|refine pReg ?_|refine sCons ?_|refine sNil ?_|refine rCons ?_|refine rNil ?_|refine kNo ?_|refine pRow ?_|refine pSkip ?_|refine pRet ?_|refine pCond ?_|refine gNone ?_|refine gOn rfl ?_|refine gOff rfl rfl ?_|refine gTup rfl ?_))
    refine ld1_is rfl m7 rfl ?_
    (repeat(first|refine pSeq ?_|refine pReg ?_|refine sCons ?_|refine sNil ?_|refine rCons ?_|refine rNil ?_|refine kNo ?_|refine pRow ?_|refine pSkip ?_|refine pRet ?_|refine pCond ?_|refine gNone ?_|refine gOn rfl ?_|refine gOff rfl rfl ?_|refine gTup rfl ?_))
    intro q hq
    obtain rfl : q = false := by rw [hq, hBn]; simp
    (repeat(first|refine pSeq ?_|refine pReg ?_|refine sCons ?_|refine sNil ?_|refine rCons ?_|refine rNil ?_|refine kNo ?_|refine pRow ?_|refine pSkip ?_|refine pRet ?_|refine pCond ?_|refine gNone ?_|refine gOn rfl ?_|refine gOff rfl rfl ?_|refine gTup rfl ?_))
    refine ld1_is rfl e7 rfl ?_
    (repeat(first|refine pSeq ?_|refine pReg ?_|refine sCons ?_|refine sNil ?_|refine rCons ?_|refine rNil ?_|refine kNo ?_|refine pRow ?_|refine pSkip ?_|refine pRet ?_|refine pCond ?_|refine gNone ?_|refine gOn rfl ?_|refine gOff rfl rfl ?_|refine gTup rfl ?_))
    obtain ⟨b8, cs8, t8, g8, r8, tl8, hW8, hb8, hcs8⟩ := (rd_of o7).at (fun e => by rw [e] at hBk; simp at hBk)
    subst hW8
    refine ⟨by omega, ?_⟩
    intro x hx o ho
    obtain rfl : x = kk := by omega
    (repeat(first|refine pSeq ?_|refine pReg ?_|refine sCons ?_|refine sNil ?_|refine rCons ?_|refine rNil ?_|refine kNo ?_|refine pRow ?_|refine pSkip ?_|refine pRet ?_|refine pCond ?_|refine gNone ?_|refine gOn rfl ?_|refine gOff rfl rfl ?_|refine gTup rfl ?_))
    have hat8 := fsC_at tl8 hBk
    rw [← hcs8] at hat8
    refine ldS_is (l := fb.n) rfl hb8 (by
      have := congrArg (fun l => l[0]?) hat8
      simpa [List.getElem?_drop, flC, ho] using this) ?_
    (repeat(first|refine pSeq ?_|refine pReg ?_|refine sCons ?_|refine sNil ?_|refine rCons ?_|refine rNil ?_|refine kNo ?_|refine pRow ?_|refine pSkip ?_|refine pRet ?_|refine pCond ?_|refine gNone ?_|refine gOn rfl ?_|refine gOff rfl rfl ?_|refine gTup rfl ?_))
    obtain ⟨b9, g9, hV9, hb9⟩ : ∃ b9 g9, V = some ⟨b9, 0, none⟩ ∧ lookH s7.heap b9 = some (.cells (strV (m.fs.map fun f => f.n)) tS g9 false) := by
      cases V with
      | none => exact absurd nm7.2.1 (by omega)
      | some a =>
        obtain ⟨b, off, sp⟩ := a
        obtain ⟨rfl, rfl, -, g, hg, -⟩ := nm7
        exact ⟨b, g, rfl, hg⟩
    subst hV9
    refine ⟨by omega, ?_⟩
    intro y hy o2 ho2
    obtain rfl : y = x := by omega
    (repeat(first|refine pSeq ?_|refine pReg ?_|refine sCons ?_|refine sNil ?_|refine rCons ?_|refine rNil ?_|refine kNo ?_|refine pRow ?_|refine pSkip ?_|refine pRet ?_|refine pCond ?_|refine gNone ?_|refine gOn rfl ?_|refine gOff rfl rfl ?_|refine gTup rfl ?_))
    refine ldS_is (l := fk.n) rfl hb9 (by
      rw [ho2, Nat.zero_add, Nat.mul_one]
      unfold strV
      rw [List.getElem?_map, List.getElem?_map, hfk]
      rfl) ?_
    (repeat(first|refine pSeq ?_|refine pReg ?_|refine sCons ?_|refine sNil ?_|refine rCons ?_|refine rNil ?_|refine kNo ?_|refine pRow ?_|refine pSkip ?_|refine pRet ?_|refine pCond ?_|refine gNone ?_|refine gOn rfl ?_|refine gOff rfl rfl ?_|refine gTup rfl ?_))
    intro q hq
    obtain rfl : q = false := by rw [hq, hb2]; simp
    (repeat(first|refine pSeq ?_|refine pReg ?_|refine sCons ?_|refine sNil ?_|refine rCons ?_|refine rNil ?_|refine kNo ?_|refine pRow ?_|refine pSkip ?_|refine pRet ?_|refine pCond ?_|refine gNone ?_|refine gOn rfl ?_|refine gOff rfl rfl ?_|refine gTup rfl ?_))
    refine ld1_is rfl e7 rfl ?_
    (repeat(first|refine pSeq ?_|refine pReg ?_|refine sCons ?_|refine sNil ?_|refine rCons ?_|refine rNil ?_|refine kNo ?_|refine pRow ?_|refine pSkip ?_|refine pRet ?_|refine pCond ?_|refine gNone ?_|refine gOn rfl ?_|refine gOff rfl rfl ?_|refine gTup rfl ?_))
    refine ⟨by omega, ?_⟩
    intro y2 hy2 o3 ho3
    obtain rfl : y2 = y := by omega
    (repeat(first|refine pSeq ?_|refine pReg ?_|refine sCons ?_|refine sNil ?_|refine rCons ?_|refine rNil ?_|refine kNo ?_|refine pRow ?_|refine pSkip ?_|refine pRet ?_|refine pCond ?_|refine gNone ?_|refine gOn rfl ?_|refine gOff rfl rfl ?_|refine gTup rfl ?_))
    refine ldS_is (l := fb.v) rfl hb8 (by
      have := congrArg (fun l => l[1]?) hat8
      simpa [List.getElem?_drop, flC, ho3] using this) ?_
    (repeat(first|refine pSeq ?_|refine pReg ?_|refine sCons ?_|refine sNil ?_|refine rCons ?_|refine rNil ?_|refine kNo ?_|refine pRow ?_|refine pSkip ?_|refine pRet ?_|refine pCond ?_|refine gNone ?_|refine gOn rfl ?_|refine gOff rfl rfl ?_|refine gTup rfl ?_))
    refine toStr_Rdb rfl (rdb_lit hv7 (by omega)) ?_
    (repeat(first|refine pSeq ?_|refine pReg ?_|refine sCons ?_|refine sNil ?_|refine rCons ?_|refine rNil ?_|refine kNo ?_|refine pRow ?_|refine pSkip ?_|refine pRet ?_|refine pCond ?_|refine gNone ?_|refine gOn rfl ?_|refine gOff rfl rfl ?_|refine gTup rfl ?_))
    refine (Trim1_w (l := v) (by omega) hv9).mono fun u s7 q => ?_
    obtain ⟨rfl, rfl⟩ := q
    first | refine kAll .refl ?_ | skip
    (repeat(first|refine pSeq ?_|refine pReg ?_|refine sCons ?_|refine sNil ?_|refine rCons ?_|refine rNil ?_|refine kNo ?_|refine pRow ?_|refine pSkip ?_|refine pRet ?_|refine pCond ?_|refine gNone ?_|refine gOn rfl ?_|refine gOff rfl rfl ?_|refine gTup rfl ?_))
    intro q hq
    obtain rfl : q = false := by rw [hq, hb3]; simp
    (repeat(first|refine pSeq ?_|refine pReg ?_|refine sCons ?_|refine sNil ?_|refine rCons ?_|refine rNil ?_|refine kNo ?_|refine pRow ?_|refine pSkip ?_|refine pRet ?_|refine pCond ?_|refine gNone ?_|refine gOn rfl ?_|refine gOff rfl rfl ?_|refine gTup rfl ?_))
    refine ld1_is rfl e7 rfl ?_
    (repeat(first|refine pSeq ?_|refine pReg ?_|refine sCons ?_|refine sNil ?_|refine rCons ?_|refine rNil ?_|refine kNo ?_|refine pRow ?_|refine pSkip ?_|refine pRet ?_|refine pCond ?_|refine gNone ?_|refine gOn rfl ?_|refine gOff rfl rfl ?_|refine gTup rfl ?_))
    refine slF_lo o7 rfl rfl rfl (by omega) fun V1 d1 p1 q1 => ?_
    (repeat(first|refine pSeq ?_|refine pReg ?_|refine sCons ?_|refine sNil ?_|refine rCons ?_|refine rNil ?_|refine kNo ?_|refine pRow ?_|refine pSkip ?_|refine pRet ?_|refine pCond ?_|refine gNone ?_|refine gOn rfl ?_|refine gOff rfl rfl ?_|refine gTup rfl ?_))
    refine ld1_is rfl m7 rfl ?_
    (repeat(first|refine pSeq ?_|refine pReg ?_|refine sCons ?_|refine sNil ?_|refine rCons ?_|refine rNil ?_|refine kNo ?_|refine pRow ?_|refine pSkip ?_|refine pRet ?_|refine pCond ?_|refine gNone ?_|refine gOn rfl ?_|refine gOff rfl rfl ?_|refine gTup rfl ?_))
    refine slF_lo h7 rfl rfl rfl (by omega) fun V2 d2 p2 q2 => ?_
    (repeat(first|refine pSeq ?_|refine pReg ?_|refine sCons ?_|refine sNil ?_|refine rCons ?_|refine rNil ?_|refine kNo ?_|refine pRow ?_|refine pSkip ?_|refine pRet ?_|refine pCond ?_|refine gNone ?_|refine gOn rfl ?_|refine gOff rfl rfl ?_|refine gTup rfl ?_))
    refine (eqP_w p1 p2 (by rw [List.length_take]; omega) (by rw [List.length_take]; omega) (by rw [List.length_take]; omega) (by rw [List.length_take]; omega)).mono fun u s7 q => ?_
    rw [hBt, dT] at q
    obtain ⟨rfl, rfl⟩ := q
    first | refine kAll .refl ?_ | skip
    (repeat(first|refine pSeq ?_|refine pReg ?_|refine sCons ?_|refine sNil ?_|refine rCons ?_|refine rNil ?_|refine kNo ?_|refine pRow ?_|refine pSkip ?_|refine pRet ?_|refine pCond ?_|refine gNone ?_|refine gOn rfl ?_|refine gOff rfl rfl ?_|refine gTup rfl ?_))
    refine ld1_is rfl e7 rfl ?_
    (repeat(first|refine pSeq ?_|refine pReg ?_|refine sCons ?_|refine sNil ?_|refine rCons ?_|refine rNil ?_|refine kNo ?_|refine pRow ?_|refine pSkip ?_|refine pRet ?_|refine pCond ?_|refine gNone ?_|refine gOn rfl ?_|refine gOff rfl rfl ?_|refine gTup rfl ?_))
    intro z hz
    rw [i64_id (by omega)] at hz
    obtain rfl : z = ((y2 + 1 : Nat) : Int) := by omega
    (repeat(first|refine pSeq ?_|refine pReg ?_|refine sCons ?_|refine sNil ?_|refine rCons ?_|refine rNil ?_|refine kNo ?_|refine pRow ?_|refine pSkip ?_|refine pRet ?_|refine pCond ?_|refine gNone ?_|refine gOn rfl ?_|refine gOff rfl rfl ?_|refine gTup rfl ?_))
    refine slF_hi o7 rfl rfl rfl (by omega) fun V3 d3 p3 q3 => ?_
    (repeat(first|refine pSeq ?_|refine pReg ?_|refine sCons ?_|refine sNil ?_|refine rCons ?_|refine rNil ?_|refine kNo ?_|refine pRow ?_|refine pSkip ?_|refine pRet ?_|refine pCond ?_|refine gNone ?_|refine gOn rfl ?_|refine gOff rfl rfl ?_|refine gTup rfl ?_))
    refine ld1_is rfl m7 rfl ?_
    (repeat(first|refine pSeq ?_|refine pReg ?_|refine sCons ?_|refine sNil ?_|refine rCons ?_|refine rNil ?_|refine kNo ?_|refine pRow ?_|refine pSkip ?_|refine pRet ?_|refine pCond ?_|refine gNone ?_|refine gOn rfl ?_|refine gOff rfl rfl ?_|refine gTup rfl ?_))
    intro z hz
    rw [i64_id (by omega)] at hz
    obtain rfl : z = ((y2 + 1 : Nat) : Int) := by omega
    (repeat(first|refine pSeq ?_|refine pReg ?_|refine sCons ?_|refine sNil ?_|refine rCons ?_|refine rNil ?_|refine kNo ?_|refine pRow ?_|refine pSkip ?_|refine pRet ?_|refine pCond ?_|refine gNone ?_|refine gOn rfl ?_|refine gOff rfl rfl ?_|refine gTup rfl ?_))
    refine slF_hi h7 rfl rfl rfl (by omega) fun V4 d4 p4 q4 => ?_
    (repeat(first|refine pSeq ?_|refine pReg ?_|refine sCons ?_|refine sNil ?_|refine rCons ?_|refine rNil ?_|refine kNo ?_|refine pRow ?_|refine pSkip ?_|refine pRet ?_|refine pCond ?_|refine gNone ?_|refine gOn rfl ?_|refine gOff rfl rfl ?_|refine gTup rfl ?_))
    refine (eqP_w p3 p4 (by rw [List.length_drop]; omega) (by rw [List.length_drop]; omega) (by rw [List.length_drop]) (by rw [List.length_drop])).mono fun u s7 q => ?_
    rw [hBd, dT] at q
    obtain ⟨rfl, rfl⟩ := q
    first | refine kAll .refl ?_ | skip
    (repeat(first|refine pSeq ?_|refine pReg ?_|refine sCons ?_|refine sNil ?_|refine rCons ?_|refine rNil ?_|refine kNo ?_|refine pRow ?_|refine pSkip ?_|refine pRet ?_|refine pCond ?_|refine gNone ?_|refine gOn rfl ?_|refine gOff rfl rfl ?_|refine gTup rfl ?_))
    refine ldN_is rfl m7 agm3 ?_
    (repeat(first|refine pSeq ?_|refine pReg ?_|refine sCons ?_|refine sNil ?_|refine rCons ?_|refine rNil ?_|refine kNo ?_|refine pRow ?_|refine pSkip ?_|refine pRet ?_|refine pCond ?_|refine gNone ?_|refine gOn rfl ?_|refine gOff rfl rfl ?_|refine gTup rfl ?_))
    refine (htext_w (rd_of h7) (by omega) (by omega)).mono fun u s8 q => ?_
    obtain ⟨rfl, c8⟩ := q
    first | refine kAll (c8.keep f7) ?_ | skip
    (repeat(first|refine pSeq ?_|refine pReg ?_|refine sCons ?_|refine sNil ?_|refine rCons ?_|refine rNil ?_|refine kNo ?_|refine pRow ?_|refine pSkip ?_|refine pRet ?_|refine pCond ?_|refine gNone ?_|refine gOn rfl ?_|refine gOff rfl rfl ?_|refine gTup rfl ?_))
    intro q hq
    obtain rfl : q = true := by rw [hq]; simp
    (repeat(first|refine pSeq ?_|refine pReg ?_|refine sCons ?_|refine sNil ?_|refine rCons ?_|refine rNil ?_|refine kNo ?_|refine pRow ?_|refine pSkip ?_|refine pRet ?_|refine pCond ?_|refine gNone ?_|refine gOn rfl ?_|refine gOff rfl rfl ?_|refine gTup rfl ?_))
    refine (hwakes_w ((hM.chg c07).chg c8)).mono fun u s9 q => ?_
    obtain ⟨rfl, c9⟩ := q
    first | refine kAll (c9.keep ((c07.nil c8).fine hf)) ?_ | skip
    (repeat(first|refine pSeq ?_|refine pReg ?_|refine sCons ?_|refine sNil ?_|refine rCons ?_|refine rNil ?_|refine kNo ?_|refine pRow ?_|refine pSkip ?_|refine pRet ?_|refine pCond ?_|refine gNone ?_|refine gOn rfl ?_|refine gOff rfl rfl ?_|refine gTup rfl ?_))
    rfl
end Go.Vf.S

import Derived.Test.YtgdkekacalmjoaaDoorBnC
import Derived.Test.YtgdkekacalmjoaaDoorAdEr
import Derived.Test.YtgdkekacalmjoaaDoorBnB
/- Paths: the document's texts; what the law PathTells says, from any state. -/
namespace Go.Vf.S
open Go Go.Vf
attribute [local irreducible] wSeq wRow wp wG
set_option linter.unusedVariables false
set_option linter.unusedSimpArgs false
set_option maxRecDepth 10000

theorem rmay_w {s : SS} {a d : List UInt8} (ha : a.length ≤ 1000000) (hd : d.length ≤ 1000000) : CallW pr n_ref05_May [adV a d] s fun v s' => v = .bool (mayF a d) ∧ Chg s s' [] := by
  have hm : mayF a d = decide (a ≠ [] ∧ a.length ≤ 64 ∧ a.all plainB = true ∧ domF d = 0) := rfl
  refine CallW.run good ok_ref05_May (by simp) rfl ?_
  have c0 := Chg.new (s := s) (b := .cells [str a, str d] 29 false false) []
  have e0 : lookH ({ s with heap := (s.next, some (.cells [str a, str d] 29 false false)) :: s.heap, next := s.next + 1 } : SS).heap s.next = some (.cells [str a, str d] 29 false false) := lkH
  (repeat(first|refine pSeq ?_|refine pReg ?_|refine sCons ?_|refine sNil ?_|refine pRet ?_|refine gNone ?_|refine gOn rfl ?_|refine gOff rfl rfl ?_|refine gTup rfl ?_))
  refine ldS_is rfl e0 rfl ?_
  (repeat(first|refine pSeq ?_|refine pReg ?_|refine sCons ?_|refine sNil ?_|refine pRet ?_|refine gNone ?_|refine gOn rfl ?_|refine gOff rfl rfl ?_|refine gTup rfl ?_))
  intro n hn
  (repeat(first|refine pSeq ?_|refine pReg ?_|refine sCons ?_|refine sNil ?_|refine pRet ?_|refine gNone ?_|refine gOn rfl ?_|refine gOff rfl rfl ?_|refine gTup rfl ?_))
  intro q hq
  by_cases h1 : a = []
  · obtain rfl : q = false := by rw [hq, hn, h1]; rfl
    (repeat(first|refine pSeq ?_|refine pReg ?_|refine sCons ?_|refine sNil ?_|refine pRet ?_|refine gNone ?_|refine gOn rfl ?_|refine gOff rfl rfl ?_|refine gTup rfl ?_))
    exact ⟨bool_eq (by rw [hm]; simp [h1]), c0⟩
  · have hp : 0 < a.length := List.length_pos_iff.2 h1
    obtain rfl : q = true := by rw [hq, hn]; simp; omega
    (repeat(first|refine pSeq ?_|refine pReg ?_|refine sCons ?_|refine sNil ?_|refine pRet ?_|refine gNone ?_|refine gOn rfl ?_|refine gOff rfl rfl ?_|refine gTup rfl ?_))
    refine ldS_is rfl e0 rfl ?_
    (repeat(first|refine pSeq ?_|refine pReg ?_|refine sCons ?_|refine sNil ?_|refine pRet ?_|refine gNone ?_|refine gOn rfl ?_|refine gOff rfl rfl ?_|refine gTup rfl ?_))
    intro n2 hn2
    (repeat(first|refine pSeq ?_|refine pReg ?_|refine sCons ?_|refine sNil ?_|refine pRet ?_|refine gNone ?_|refine gOn rfl ?_|refine gOff rfl rfl ?_|refine gTup rfl ?_))
    intro q hq
    by_cases h2 : a.length ≤ 64
    · obtain rfl : q = true := by rw [hq, hn2]; simp; omega
      (repeat(first|refine pSeq ?_|refine pReg ?_|refine sCons ?_|refine sNil ?_|refine pRet ?_|refine gNone ?_|refine gOn rfl ?_|refine gOff rfl rfl ?_|refine gTup rfl ?_))
      refine ldS_is rfl e0 rfl ?_
      (repeat(first|refine pSeq ?_|refine pReg ?_|refine sCons ?_|refine sNil ?_|refine pRet ?_|refine gNone ?_|refine gOn rfl ?_|refine gOff rfl rfl ?_|refine gTup rfl ?_))
      refine (rPlain_w (l := a) (by omega)).mono fun v s0 q => ?_
      obtain ⟨rfl, rfl⟩ := q
      cases h3 : a.all plainB with
      | false =>
        (repeat(first|refine pSeq ?_|refine pReg ?_|refine sCons ?_|refine sNil ?_|refine pRet ?_|refine gNone ?_|refine gOn rfl ?_|refine gOff rfl rfl ?_|refine gTup rfl ?_))
        exact ⟨bool_eq (by rw [hm]; simp [h3]), c0⟩
      | true =>
        (repeat(first|refine pSeq ?_|refine pReg ?_|refine sCons ?_|refine sNil ?_|refine pRet ?_|refine gNone ?_|refine gOn rfl ?_|refine gOff rfl rfl ?_|refine gTup rfl ?_))
        refine ldS_is rfl e0 rfl ?_
        (repeat(first|refine pSeq ?_|refine pReg ?_|refine sCons ?_|refine sNil ?_|refine pRet ?_|refine gNone ?_|refine gOn rfl ?_|refine gOff rfl rfl ?_|refine gTup rfl ?_))
        refine (rdomain_w (l := d) (by omega)).mono fun v s1 q => ?_
        obtain ⟨rfl, c1⟩ := q
        (repeat(first|refine pSeq ?_|refine pReg ?_|refine sCons ?_|refine sNil ?_|refine pRet ?_|refine gNone ?_|refine gOn rfl ?_|refine gOff rfl rfl ?_|refine gTup rfl ?_))
        intro q hq
        (repeat(first|refine pSeq ?_|refine pReg ?_|refine sCons ?_|refine sNil ?_|refine pRet ?_|refine gNone ?_|refine gOn rfl ?_|refine gOff rfl rfl ?_|refine gTup rfl ?_))
        exact ⟨bool_eq (by rw [hm, hq, Bool.eq_iff_iff]; simp [h1, h2, h3]), c0.nil c1⟩
    · obtain rfl : q = false := by rw [hq, hn2]; simp; omega
      (repeat(first|refine pSeq ?_|refine pReg ?_|refine sCons ?_|refine sNil ?_|refine pRet ?_|refine gNone ?_|refine gOn rfl ?_|refine gOff rfl rfl ?_|refine gTup rfl ?_))
      exact ⟨bool_eq (by rw [hm]; simp [h2]), c0⟩

theorem rtext_w {s : SS} {a d : List UInt8} (ha : a.length ≤ 1000000) (hd : d.length ≤ 1000000) : CallW pr n_ref05_Text [adV a d] s fun v s' => v = str (textF a d) ∧ Chg s s' [] := by
  refine CallW.run good ok_ref05_Text (by simp) rfl ?_
  (repeat(first|refine pSeq ?_|refine pReg ?_|refine sCons ?_|refine sNil ?_|refine pSkip ?_|refine pRet ?_|refine pCond ?_|refine gNone ?_))
  refine ldN_is rfl lkH agg2 ?_
  (repeat(first|refine pSeq ?_|refine pReg ?_|refine sCons ?_|refine sNil ?_|refine pSkip ?_|refine pRet ?_|refine pCond ?_|refine gNone ?_))
  refine (rmay_w ha hd).mono fun v s1 q => ?_
  obtain ⟨rfl, c1⟩ := q
  have c0 : Chg s s1 [] := (Chg.new []).nil c1
  have hk : lookH s1.heap s.next = some (.cells [str a, str d] 29 false false) := c1.blk _ _ (Nat.lt_succ_self _) (by simp) lkH
  cases hm : mayF a d with
  | false =>
    (repeat(first|refine pSeq ?_|refine pReg ?_|refine sCons ?_|refine sNil ?_|refine pSkip ?_|refine pRet ?_|refine pCond ?_|refine gNone ?_))
    intro q hq; obtain rfl : q = true := (by rw [hq]; simp <;> omega); (repeat(first|refine pSeq ?_|refine pReg ?_|refine sCons ?_|refine sNil ?_|refine pSkip ?_|refine pRet ?_|refine pCond ?_|refine gNone ?_))
    exact ⟨by unfold textF; rw [hm]; rfl, c0⟩
  | true =>
    have eT : textF a d = wordF a ++ 64 :: d := by unfold textF; rw [if_pos hm]
    rw [eT]
    (repeat(first|refine pSeq ?_|refine pReg ?_|refine sCons ?_|refine sNil ?_|refine pSkip ?_|refine pRet ?_|refine pCond ?_|refine gNone ?_))
    intro q hq; obtain rfl : q = false := (by rw [hq]; simp <;> omega); (repeat(first|refine pSeq ?_|refine pReg ?_|refine sCons ?_|refine sNil ?_|refine pSkip ?_|refine pRet ?_|refine pCond ?_|refine gNone ?_))
    refine ldS_is rfl hk rfl ?_
    (repeat(first|refine pSeq ?_|refine pReg ?_|refine sCons ?_|refine sNil ?_|refine pSkip ?_|refine pRet ?_|refine pCond ?_|refine gNone ?_))
    refine (rdotatom_w ha).mono fun v s1 q => ?_
    obtain ⟨rfl, rfl⟩ := q
    cases hdo : dotF a with
    | true =>
      have eW : wordF a = a := by unfold wordF; rw [if_pos hdo]
      rw [eW]
      (repeat(first|refine pSeq ?_|refine pReg ?_|refine sCons ?_|refine sNil ?_|refine pSkip ?_|refine pRet ?_|refine pCond ?_|refine gNone ?_))
      intro q hq; obtain rfl : q = false := (by rw [hq]; simp <;> omega); (repeat(first|refine pSeq ?_|refine pReg ?_|refine sCons ?_|refine sNil ?_|refine pSkip ?_|refine pRet ?_|refine pCond ?_|refine gNone ?_))
      refine ⟨by simp <;> omega, ?_⟩
      intro x hx
      (repeat(first|refine pSeq ?_|refine pReg ?_|refine sCons ?_|refine sNil ?_|refine pSkip ?_|refine pRet ?_|refine pCond ?_|refine gNone ?_))
      refine ldS_is rfl hk rfl ?_
      (repeat(first|refine pSeq ?_|refine pReg ?_|refine sCons ?_|refine sNil ?_|refine pSkip ?_|refine pRet ?_|refine pCond ?_|refine gNone ?_))
      refine ⟨by rw [hx]; simp <;> omega, ?_⟩
      intro y hy
      (repeat(first|refine pSeq ?_|refine pReg ?_|refine sCons ?_|refine sNil ?_|refine pSkip ?_|refine pRet ?_|refine pCond ?_|refine gNone ?_))
      subst hx hy
      exact ⟨by rw [List.append_assoc]; rfl, c0⟩
    | false =>
      have eW : wordF a = (quoteF a).1 := by unfold wordF; rw [hdo]; rfl
      rw [eW]
      have hql := quote_len a
      (repeat(first|refine pSeq ?_|refine pReg ?_|refine sCons ?_|refine sNil ?_|refine pSkip ?_|refine pRet ?_|refine pCond ?_|refine gNone ?_))
      intro q hq; obtain rfl : q = true := (by rw [hq]; simp <;> omega); (repeat(first|refine pSeq ?_|refine pReg ?_|refine sCons ?_|refine sNil ?_|refine pSkip ?_|refine pRet ?_|refine pCond ?_|refine gNone ?_))
      refine (rquote_w ha).mono fun v s1 q => ?_
      obtain ⟨rfl, rfl⟩ := q
      generalize (quoteF a).1 = qa at *
      (repeat(first|refine pSeq ?_|refine pReg ?_|refine sCons ?_|refine sNil ?_|refine pSkip ?_|refine pRet ?_|refine pCond ?_|refine gNone ?_))
      refine ⟨by simp <;> omega, ?_⟩
      intro x hx
      (repeat(first|refine pSeq ?_|refine pReg ?_|refine sCons ?_|refine sNil ?_|refine pSkip ?_|refine pRet ?_|refine pCond ?_|refine gNone ?_))
      refine ldS_is rfl hk rfl ?_
      (repeat(first|refine pSeq ?_|refine pReg ?_|refine sCons ?_|refine sNil ?_|refine pSkip ?_|refine pRet ?_|refine pCond ?_|refine gNone ?_))
      refine ⟨by rw [hx]; simp <;> omega, ?_⟩
      intro y hy
      (repeat(first|refine pSeq ?_|refine pReg ?_|refine sCons ?_|refine sNil ?_|refine pSkip ?_|refine pRet ?_|refine pCond ?_|refine gNone ?_))
      subst hx hy
      exact ⟨by rw [List.append_assoc]; rfl, c0⟩

abbrev tRp : TypeId := 31
theorem agg_Rp : aggB pr tRp = some true := by kernel_rfl
theorem sz_Rp : sizeB pr tRp = some 5 := by kernel_rfl

theorem rptext_w {s : SS} {p : Pth} {W : Option Addr} {n cw : Nat} (ha : p.a.length ≤ 300000) (hd : p.d.length ≤ 300000) :
    CallW pr n_ref06_Text [.agg ⟨[.bool p.null, .bool p.post, .slice W n cw, str p.a, str p.d]⟩] s fun v s' => v = str (textP p) ∧ Chg s s' [] := by
  obtain ⟨nl, po, rt, a, d⟩ := p
  dsimp only at ha hd ⊢
  have eT : textP ⟨nl, po, rt, a, d⟩ = if nl = true then [60, 62] else if po = true then [60, 80, 111, 115, 116, 109, 97, 115, 116, 101, 114, 62] else if mayF a d = false then [] else 60 :: (textF a d ++ [62]) := rfl
  refine CallW.run good ok_ref06_Text (by simp) rfl ?_
  have c0 := Chg.new (s := s) (b := .cells [.bool nl, .bool po, .slice W n cw, str a, str d] tRp false false) []
  have e0 : lookH ({ s with heap := (s.next, some (.cells [.bool nl, .bool po, .slice W n cw, str a, str d] tRp false false)) :: s.heap, next := s.next + 1 } : SS).heap s.next = some (.cells [.bool nl, .bool po, .slice W n cw, str a, str d] tRp false false) := lkH
  (repeat(first|refine pSeq ?_|refine pReg ?_|refine sCons ?_|refine sNil ?_|refine pSkip ?_|refine pRet ?_|refine pCond ?_|refine gNone ?_))
  refine ldB_is rfl e0 rfl ?_
  cases nl with
  | true =>
    rw [if_pos rfl] at eT
    rw [eT]
    (repeat(first|refine pSeq ?_|refine pReg ?_|refine sCons ?_|refine sNil ?_|refine pSkip ?_|refine pRet ?_|refine pCond ?_|refine gNone ?_))
    exact ⟨rfl, c0⟩
  | false =>
    rw [if_neg (by simp)] at eT
    (repeat(first|refine pSeq ?_|refine pReg ?_|refine sCons ?_|refine sNil ?_|refine pSkip ?_|refine pRet ?_|refine pCond ?_|refine gNone ?_))
    refine ldB_is rfl e0 rfl ?_
    cases po with
    | true =>
      rw [if_pos rfl] at eT
      rw [eT]
      (repeat(first|refine pSeq ?_|refine pReg ?_|refine sCons ?_|refine sNil ?_|refine pSkip ?_|refine pRet ?_|refine pCond ?_|refine gNone ?_))
      exact ⟨rfl, c0⟩
    | false =>
      rw [if_neg (by simp)] at eT
      (repeat(first|refine pSeq ?_|refine pReg ?_|refine sCons ?_|refine sNil ?_|refine pSkip ?_|refine pRet ?_|refine pCond ?_|refine gNone ?_))
      refine ldN_is (new := [str a, str d]) rfl e0 rfl ?_
      (repeat(first|refine pSeq ?_|refine pReg ?_|refine sCons ?_|refine sNil ?_|refine pSkip ?_|refine pRet ?_|refine pCond ?_|refine gNone ?_))
      refine (rmay_w (a := a) (d := d) (by omega) (by omega)).mono fun v s1 q => ?_
      obtain ⟨rfl, c1⟩ := q
      have e1 := c1.blk _ _ (Nat.lt_succ_self _) (by simp) e0
      cases hm : mayF a d with
      | false =>
        rw [hm, if_pos rfl] at eT
        rw [eT]
        (repeat(first|refine pSeq ?_|refine pReg ?_|refine sCons ?_|refine sNil ?_|refine pSkip ?_|refine pRet ?_|refine pCond ?_|refine gNone ?_))
        intro q hq
        obtain rfl : q = true := hq
        (repeat(first|refine pSeq ?_|refine pReg ?_|refine sCons ?_|refine sNil ?_|refine pSkip ?_|refine pRet ?_|refine pCond ?_|refine gNone ?_))
        exact ⟨rfl, c0.nil c1⟩
      | true =>
        rw [hm, if_neg (by simp)] at eT
        rw [eT]
        (repeat(first|refine pSeq ?_|refine pReg ?_|refine sCons ?_|refine sNil ?_|refine pSkip ?_|refine pRet ?_|refine pCond ?_|refine gNone ?_))
        intro q hq
        obtain rfl : q = false := hq
        (repeat(first|refine pSeq ?_|refine pReg ?_|refine sCons ?_|refine sNil ?_|refine pSkip ?_|refine pRet ?_|refine pCond ?_|refine gNone ?_))
        refine ldN_is (new := [str a, str d]) rfl e1 rfl ?_
        (repeat(first|refine pSeq ?_|refine pReg ?_|refine sCons ?_|refine sNil ?_|refine pSkip ?_|refine pRet ?_|refine pCond ?_|refine gNone ?_))
        refine (rtext_w (a := a) (d := d) (by omega) (by omega)).mono fun v s2 q => ?_
        obtain ⟨rfl, c2⟩ := q
        have hs := @text_short a d
        (repeat(first|refine pSeq ?_|refine pReg ?_|refine sCons ?_|refine sNil ?_|refine pSkip ?_|refine pRet ?_|refine pCond ?_|refine gNone ?_))
        refine ⟨by simp; omega, ?_⟩
        intro w hw
        subst hw
        (repeat(first|refine pSeq ?_|refine pReg ?_|refine sCons ?_|refine sNil ?_|refine pSkip ?_|refine pRet ?_|refine pCond ?_|refine gNone ?_))
        refine ⟨by simp; omega, ?_⟩
        intro w hw
        subst hw
        (repeat(first|refine pSeq ?_|refine pReg ?_|refine sCons ?_|refine sNil ?_|refine pSkip ?_|refine pRet ?_|refine pCond ?_|refine gNone ?_))
        exact ⟨rfl, (c0.nil c1).nil c2⟩

/-- A path as the document's: the same cells. -/
theorem pof_w {s : SS} {nl po : Bool} {W : Option Addr} {n cw : Nat} {a d : List UInt8} :
    CallW pr n_law06_Of [.agg ⟨[.bool nl, .bool po, .slice W n cw, str a, str d]⟩] s fun v s' => v = .agg ⟨[.bool nl, .bool po, .slice W n cw, str a, str d]⟩ ∧ Chg s s' [] := by
  refine CallW.run good ok_law06_Of (by simp) rfl ?_
  have c0 := Chg.new (s := s) (b := .cells [.bool nl, .bool po, .slice W n cw, str a, str d] tPt false false) []
  have e0 : lookH ({ s with heap := (s.next, some (.cells [.bool nl, .bool po, .slice W n cw, str a, str d] tPt false false)) :: s.heap, next := s.next + 1 } : SS).heap s.next = some (.cells [.bool nl, .bool po, .slice W n cw, str a, str d] tPt false false) := lkH
  have c1 := (Chg.new (s := ({ s with heap := (s.next, some (.cells [.bool nl, .bool po, .slice W n cw, str a, str d] tPt false false)) :: s.heap, next := s.next + 1 } : SS)) (b := .cells [.bool false, .bool false, .slice none 0 0, str [], str []] tRp false false) [])
  have e1 := c1.blk _ _ (Nat.lt_succ_self _) (by simp) e0
  (repeat(first|refine pSeq ?_|refine pReg ?_|refine sCons ?_|refine sNil ?_|refine pRet ?_|refine gNone ?_))
  refine ldB_is rfl e1 rfl ?_
  (repeat(first|refine pSeq ?_|refine pReg ?_|refine sCons ?_|refine sNil ?_|refine pRet ?_|refine gNone ?_))
  refine ldB_is rfl e1 rfl ?_
  (repeat(first|refine pSeq ?_|refine pReg ?_|refine sCons ?_|refine sNil ?_|refine pRet ?_|refine gNone ?_))
  refine ld1_is rfl e1 rfl ?_
  (repeat(first|refine pSeq ?_|refine pReg ?_|refine sCons ?_|refine sNil ?_|refine pRet ?_|refine gNone ?_))
  refine ldN_is (new := [str a, str d]) rfl e1 rfl ?_
  (repeat(first|refine pSeq ?_|refine pReg ?_|refine sCons ?_|refine sNil ?_|refine pRet ?_|refine gNone ?_))
  refine st_abs (cs' := [.bool nl, .bool po, .slice W n cw, str a, str d]) rfl rfl lkH (Nat.lt_succ_self _) rfl rfl fun s2 e2 c2 n2 => ?_
  (repeat(first|refine pSeq ?_|refine pReg ?_|refine sCons ?_|refine sNil ?_|refine pRet ?_|refine gNone ?_))
  (repeat (first | with_reducible refine sqRet ?_ | with_reducible refine bkRet ?_ | with_reducible refine hdRet ?_))
  exact ret_cell1 agg_Rp sz_Rp rfl e2 rfl ⟨rfl, (c0.nil c1).fresh c2 (by simp)⟩

set_option maxHeartbeats 1000000 in
theorem ptells_law {s : SS} {nl po : Bool} {W : Option Addr} {rt : List (List UInt8)} {cw : Nat} {a d : List UInt8} (hG : Gb s) (hf : Fine s) :
    CallW pr n_law06_PathTells [ptV ⟨nl, po, rt, a, d⟩ W cw] s fun v s' => v = .bool true := by
  refine CallW.run good ok_law06_PathTells (by simp) rfl ?_
  have c0 := Chg.new (s := s) (b := .cells (ptCells ⟨nl, po, rt, a, d⟩ W cw) tPt false false) []
  have e0 : lookH ({ s with heap := (s.next, some (.cells (ptCells ⟨nl, po, rt, a, d⟩ W cw) tPt false false)) :: s.heap, next := s.next + 1 } : SS).heap s.next = some (.cells (ptCells ⟨nl, po, rt, a, d⟩ W cw) tPt false false) := lkH
  (repeat(first|refine pSeq ?_|refine pReg ?_|refine sCons ?_|refine sNil ?_|refine rCons ?_|refine rNil ?_|refine kNo ?_|refine pRow ?_|refine pRet ?_|refine gNone ?_|refine gOn rfl ?_|refine gOff rfl rfl ?_|refine gTup rfl ?_))
  refine ldS_is (l := a) rfl e0 rfl ?_
  (repeat(first|refine pSeq ?_|refine pReg ?_|refine sCons ?_|refine sNil ?_|refine rCons ?_|refine rNil ?_|refine kNo ?_|refine pRow ?_|refine pRet ?_|refine gNone ?_|refine gOn rfl ?_|refine gOff rfl rfl ?_|refine gTup rfl ?_))
  refine ldS_is (l := a) rfl e0 rfl ?_
  (repeat(first|refine pSeq ?_|refine pReg ?_|refine sCons ?_|refine sNil ?_|refine rCons ?_|refine rNil ?_|refine kNo ?_|refine pRow ?_|refine pRet ?_|refine gNone ?_|refine gOn rfl ?_|refine gOff rfl rfl ?_|refine gTup rfl ?_))
  intro n hn
  (repeat(first|refine pSeq ?_|refine pReg ?_|refine sCons ?_|refine sNil ?_|refine rCons ?_|refine rNil ?_|refine kNo ?_|refine pRow ?_|refine pRet ?_|refine gNone ?_|refine gOn rfl ?_|refine gOff rfl rfl ?_|refine gTup rfl ?_))
  intro z hz
  (repeat(first|refine pSeq ?_|refine pReg ?_|refine sCons ?_|refine sNil ?_|refine rCons ?_|refine rNil ?_|refine kNo ?_|refine pRow ?_|refine pRet ?_|refine gNone ?_|refine gOn rfl ?_|refine gOff rfl rfl ?_|refine gTup rfl ?_))
  refine ⟨by omega, ?_⟩
  intro m hm a1 ha1
  have la : a1.length ≤ 300 := few_str ha1 (by omega)
  clear ha1 hm hz hn
  (repeat(first|refine pSeq ?_|refine pReg ?_|refine sCons ?_|refine sNil ?_|refine rCons ?_|refine rNil ?_|refine kNo ?_|refine pRow ?_|refine pRet ?_|refine gNone ?_|refine gOn rfl ?_|refine gOff rfl rfl ?_|refine gTup rfl ?_))
  refine ldS_is (l := d) rfl e0 rfl ?_
  (repeat(first|refine pSeq ?_|refine pReg ?_|refine sCons ?_|refine sNil ?_|refine rCons ?_|refine rNil ?_|refine kNo ?_|refine pRow ?_|refine pRet ?_|refine gNone ?_|refine gOn rfl ?_|refine gOff rfl rfl ?_|refine gTup rfl ?_))
  refine ldS_is (l := d) rfl e0 rfl ?_
  (repeat(first|refine pSeq ?_|refine pReg ?_|refine sCons ?_|refine sNil ?_|refine rCons ?_|refine rNil ?_|refine kNo ?_|refine pRow ?_|refine pRet ?_|refine gNone ?_|refine gOn rfl ?_|refine gOff rfl rfl ?_|refine gTup rfl ?_))
  intro n hn
  (repeat(first|refine pSeq ?_|refine pReg ?_|refine sCons ?_|refine sNil ?_|refine rCons ?_|refine rNil ?_|refine kNo ?_|refine pRow ?_|refine pRet ?_|refine gNone ?_|refine gOn rfl ?_|refine gOff rfl rfl ?_|refine gTup rfl ?_))
  intro z hz
  (repeat(first|refine pSeq ?_|refine pReg ?_|refine sCons ?_|refine sNil ?_|refine rCons ?_|refine rNil ?_|refine kNo ?_|refine pRow ?_|refine pRet ?_|refine gNone ?_|refine gOn rfl ?_|refine gOff rfl rfl ?_|refine gTup rfl ?_))
  refine ⟨by omega, ?_⟩
  intro m hm d1 hd1
  have ld : d1.length ≤ 300 := few_str hd1 (by omega)
  clear hd1 hm hz hn
  (repeat(first|refine pSeq ?_|refine pReg ?_|refine sCons ?_|refine sNil ?_|refine rCons ?_|refine rNil ?_|refine kNo ?_|refine pRow ?_|refine pRet ?_|refine gNone ?_|refine gOn rfl ?_|refine gOff rfl rfl ?_|refine gTup rfl ?_))
  refine st_abs (cs' := ptCells ⟨nl, po, rt, a1, d1⟩ W cw) rfl rfl e0 (Nat.lt_succ_self _) rfl rfl fun s1 e1 c1 n1 => ?_
  have c01 : Chg s s1 [] := c0.fresh c1 (by simp)
  (repeat(first|refine pSeq ?_|refine pReg ?_|refine sCons ?_|refine sNil ?_|refine rCons ?_|refine rNil ?_|refine kNo ?_|refine pRow ?_|refine pRet ?_|refine gNone ?_|refine gOn rfl ?_|refine gOff rfl rfl ?_|refine gTup rfl ?_))
  refine ldN_is (new := ptCells ⟨nl, po, rt, a1, d1⟩ W cw) rfl e1 rfl ?_
  (repeat(first|refine pSeq ?_|refine pReg ?_|refine sCons ?_|refine sNil ?_|refine rCons ?_|refine rNil ?_|refine kNo ?_|refine pRow ?_|refine pRet ?_|refine gNone ?_|refine gOn rfl ?_|refine gOff rfl rfl ?_|refine gTup rfl ?_))
  refine ldN_is (new := ptCells ⟨nl, po, rt, a1, d1⟩ W cw) rfl e1 rfl ?_
  (repeat(first|refine pSeq ?_|refine pReg ?_|refine sCons ?_|refine sNil ?_|refine rCons ?_|refine rNil ?_|refine kNo ?_|refine pRow ?_|refine pRet ?_|refine gNone ?_|refine gOn rfl ?_|refine gOff rfl rfl ?_|refine gTup rfl ?_))
  refine (ptext_w (p := ⟨nl, po, rt, a1, d1⟩) (hG.chg c01 (by simp)) (by show a1.length ≤ _; omega) (by show d1.length ≤ _; omega)).mono fun v s2 q => ?_
  obtain ⟨rfl, c2⟩ := q
  have e2 := c2.blk _ _ (by rw [n1]; exact Nat.lt_succ_self _) (by simp) e1
  refine kAll (c2.keep (c01.fine hf)) ?_
  (repeat(first|refine pSeq ?_|refine pReg ?_|refine sCons ?_|refine sNil ?_|refine rCons ?_|refine rNil ?_|refine kNo ?_|refine pRow ?_|refine pRet ?_|refine gNone ?_|refine gOn rfl ?_|refine gOff rfl rfl ?_|refine gTup rfl ?_))
  refine (pof_w (nl := nl) (po := po) (a := a1) (d := d1)).mono fun v s3 q => ?_
  obtain ⟨rfl, c3⟩ := q
  (repeat(first|refine pSeq ?_|refine pReg ?_|refine sCons ?_|refine sNil ?_|refine rCons ?_|refine rNil ?_|refine kNo ?_|refine pRow ?_|refine pRet ?_|refine gNone ?_|refine gOn rfl ?_|refine gOff rfl rfl ?_|refine gTup rfl ?_))
  refine (rptext_w (p := ⟨nl, po, rt, a1, d1⟩) (by show a1.length ≤ _; omega) (by show d1.length ≤ _; omega)).mono fun v s4 q => ?_
  obtain ⟨rfl, c4⟩ := q
  have c04 := ((c01.nil c2).nil c3).nil c4
  (repeat(first|refine pSeq ?_|refine pReg ?_|refine sCons ?_|refine sNil ?_|refine rCons ?_|refine rNil ?_|refine kNo ?_|refine pRow ?_|refine pRet ?_|refine gNone ?_|refine gOn rfl ?_|refine gOff rfl rfl ?_|refine gTup rfl ?_))
  intro q hq
  obtain rfl : q = true := by rw [hq]; simp
  (repeat(first|refine pSeq ?_|refine pReg ?_|refine sCons ?_|refine sNil ?_|refine rCons ?_|refine rNil ?_|refine kNo ?_|refine pRow ?_|refine pRet ?_|refine gNone ?_|refine gOn rfl ?_|refine gOff rfl rfl ?_|refine gTup rfl ?_))
  refine (ptells_w (hG.chg c04 (by simp)) (c04.fine hf)).mono fun v s5 q => ?_
  obtain ⟨rfl, c5⟩ := q
  (repeat(first|refine pSeq ?_|refine pReg ?_|refine sCons ?_|refine sNil ?_|refine rCons ?_|refine rNil ?_|refine kNo ?_|refine pRow ?_|refine pRet ?_|refine gNone ?_|refine gOn rfl ?_|refine gOff rfl rfl ?_|refine gTup rfl ?_))
  rfl
end Go.Vf.S

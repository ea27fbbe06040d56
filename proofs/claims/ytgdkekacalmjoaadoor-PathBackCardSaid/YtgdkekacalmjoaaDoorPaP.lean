import Derived.Test.YtgdkekacalmjoaaDoorPaO
import Derived.Test.YtgdkekacalmjoaaDoorFnK04
/- Paths, there and back: what the law PathBack says, from any state. -/
namespace Go.Vf.S
open Go Go.Vf
attribute [local irreducible] wSeq wRow wp wG
set_option linter.unusedVariables false
set_option linter.unusedSimpArgs false
set_option maxRecDepth 10000

theorem row_nil {s : SS} {W : Option Addr} {cw : Nat} (h : RowAt6 s W cw []) : W = none ∧ cw = 0 := by
  obtain rfl := h.2.2 rfl
  exact ⟨rfl, h.1.2.2⟩
theorem textP_len {p : Pth} : (textP p).length ≤ 2 * p.a.length + p.d.length + 12 := by
  unfold textP
  split
  · simp
  split
  · simp
  split
  · simp
  · have := @text_short p.a p.d
    simp
    omega

set_option maxHeartbeats 2000000 in
theorem back_tail {s : SS} {k : Nat} {x : List UInt8} (hG : Gb s) (hf : Fine s) (hx : x.length ≤ 300) :
    W pr 170 k code_K04_TL [(1, str x)] s (runQ pr [.tmp 4] fun v s' => v = .bool true) := by
  have hl := path_lens x
  refine comp_ok good ok_K04_TL (Box.out (p := wp pr 170 k _ _ _ _) ?_)
  (repeat(first|refine pSeq ?_|refine pReg ?_|refine sCons ?_|refine sNil ?_|refine rCons ?_|refine rNil ?_|refine kNo ?_|refine pRow ?_|refine pSkip ?_|refine pRet ?_|refine pCond ?_|refine gNone ?_|refine gOn rfl ?_|refine gOff rfl rfl ?_|refine gTup rfl ?_))
  refine (path_w (l := x) hG (by omega)).mono fun v s1 q => ?_
  obtain ⟨W, cw, rfl, o1, c1, hW⟩ := q
  by_cases he : (pathF x).2.2 = 0
  · obtain ⟨b1, b2, b3⟩ := path_back he
    generalize pathF x = M at *
    obtain ⟨p, rest, e⟩ := M
    dsimp only at he b1 b2 b3 o1 hl ⊢
    subst he
    (repeat(first|refine pSeq ?_|refine pReg ?_|refine sCons ?_|refine sNil ?_|refine rCons ?_|refine rNil ?_|refine kNo ?_|refine pRow ?_|refine pSkip ?_|refine pRet ?_|refine pCond ?_|refine gNone ?_|refine gOn rfl ?_|refine gOff rfl rfl ?_|refine gTup rfl ?_))
    refine st_abs (cs' := ptCells p W cw) rfl rfl lkH (Nat.lt_succ_self _) rfl rfl fun s2 e2 c2 n2 => ?_
    have c12 : Chg s1 s2 [] := (Chg.new []).fresh c2 (by simp)
    have n2' : s2.next = s1.next + 1 := n2
    have c02 := c1.nil c12
    (repeat(first|refine pSeq ?_|refine pReg ?_|refine sCons ?_|refine sNil ?_|refine rCons ?_|refine rNil ?_|refine kNo ?_|refine pRow ?_|refine pSkip ?_|refine pRet ?_|refine pCond ?_|refine gNone ?_|refine gOn rfl ?_|refine gOff rfl rfl ?_|refine gTup rfl ?_))
    intro q hq
    obtain rfl : q = false := by rw [hq]; rfl
    (repeat(first|refine pSeq ?_|refine pReg ?_|refine sCons ?_|refine sNil ?_|refine rCons ?_|refine rNil ?_|refine kNo ?_|refine pRow ?_|refine pSkip ?_|refine pRet ?_|refine pCond ?_|refine gNone ?_|refine gOn rfl ?_|refine gOff rfl rfl ?_|refine gTup rfl ?_))
    refine ldN_is rfl e2 agg5 ?_
    (repeat(first|refine pSeq ?_|refine pReg ?_|refine sCons ?_|refine sNil ?_|refine rCons ?_|refine rNil ?_|refine kNo ?_|refine pRow ?_|refine pSkip ?_|refine pRet ?_|refine pCond ?_|refine gNone ?_|refine gOn rfl ?_|refine gOff rfl rfl ?_|refine gTup rfl ?_))
    refine (ptext_w (p := p) (hG.chg c02 (by simp)) (by omega) (by omega)).mono fun v s3 q => ?_
    obtain ⟨rfl, c23⟩ := q
    have e3 := c23.blk _ _ (by omega) (by simp) e2
    have c03 := c02.nil c23
    have tl := @textP_len p
    (repeat(first|refine pSeq ?_|refine pReg ?_|refine sCons ?_|refine sNil ?_|refine rCons ?_|refine rNil ?_|refine kNo ?_|refine pRow ?_|refine pSkip ?_|refine pRet ?_|refine pCond ?_|refine gNone ?_|refine gOn rfl ?_|refine gOff rfl rfl ?_|refine gTup rfl ?_))
    refine (path_w (l := textP p) (hG.chg c03 (by simp)) (by omega)).mono fun v s4 q => ?_
    obtain ⟨W', cw', rfl, o4, c34, -⟩ := q
    rw [b3] at o4 ⊢
    obtain ⟨rfl, rfl⟩ := row_nil o4
    have n3 := c23.next
    have n4 := c34.next
    have e4 := c34.blk _ _ (by omega) (by simp) e3
    have c04 := c03.nil c34
    (repeat(first|refine pSeq ?_|refine pReg ?_|refine sCons ?_|refine sNil ?_|refine rCons ?_|refine rNil ?_|refine kNo ?_|refine pRow ?_|refine pSkip ?_|refine pRet ?_|refine pCond ?_|refine gNone ?_|refine gOn rfl ?_|refine gOff rfl rfl ?_|refine gTup rfl ?_))
    refine st_abs (cs' := ptCells ⟨p.null, p.post, [], p.a, p.d⟩ none 0) rfl rfl lkH (Nat.lt_succ_self _) rfl rfl fun s5 e5 c5 n5 => ?_
    have c45 : Chg s4 s5 [] := (Chg.new []).fresh c5 (by simp)
    have n5' : s5.next = s4.next + 1 := n5
    have e4 := c45.blk _ _ (by omega) (by simp) e4
    have c05 := c04.nil c45
    (repeat(first|refine pSeq ?_|refine pReg ?_|refine sCons ?_|refine sNil ?_|refine rCons ?_|refine rNil ?_|refine kNo ?_|refine pRow ?_|refine pSkip ?_|refine pRet ?_|refine pCond ?_|refine gNone ?_|refine gOn rfl ?_|refine gOff rfl rfl ?_|refine gTup rfl ?_))
    refine st_abs (cs' := [.bool p.null, .bool p.post, .slice none 0 0, str p.a, str p.d]) rfl rfl e4 (by omega) rfl rfl fun s6 e6 c6 n6 => ?_
    have n6' : s6.next = s5.next := n6
    have e5 := c6.blk _ _ (by rw [n5']; exact Nat.lt_succ_self _) (by simp; omega) e5
    have c06 : Chg s s6 [] := c05.fresh c6 (by intro id q; simp at q; have := c1.next; omega)
    (repeat(first|refine pSeq ?_|refine pReg ?_|refine sCons ?_|refine sNil ?_|refine rCons ?_|refine rNil ?_|refine kNo ?_|refine pRow ?_|refine pSkip ?_|refine pRet ?_|refine pCond ?_|refine gNone ?_|refine gOn rfl ?_|refine gOff rfl rfl ?_|refine gTup rfl ?_))
    refine (hasSuf_w (by omega)).mono fun v s6 q => ?_
    obtain ⟨rfl, rfl⟩ := q
    rw [decide_eq_true b1]
    (repeat(first|refine pSeq ?_|refine pReg ?_|refine sCons ?_|refine sNil ?_|refine rCons ?_|refine rNil ?_|refine kNo ?_|refine pRow ?_|refine pSkip ?_|refine pRet ?_|refine pCond ?_|refine gNone ?_|refine gOn rfl ?_|refine gOff rfl rfl ?_|refine gTup rfl ?_))
    intro n1 hn1
    (repeat(first|refine pSeq ?_|refine pReg ?_|refine sCons ?_|refine sNil ?_|refine rCons ?_|refine rNil ?_|refine kNo ?_|refine pRow ?_|refine pSkip ?_|refine pRet ?_|refine pCond ?_|refine gNone ?_|refine gOn rfl ?_|refine gOff rfl rfl ?_|refine gTup rfl ?_))
    intro n2 hn2
    (repeat(first|refine pSeq ?_|refine pReg ?_|refine sCons ?_|refine sNil ?_|refine rCons ?_|refine rNil ?_|refine kNo ?_|refine pRow ?_|refine pSkip ?_|refine pRet ?_|refine pCond ?_|refine gNone ?_|refine gOn rfl ?_|refine gOff rfl rfl ?_|refine gTup rfl ?_))
    intro z hz
    rw [i64_id (by omega)] at hz
    (repeat(first|refine pSeq ?_|refine pReg ?_|refine sCons ?_|refine sNil ?_|refine rCons ?_|refine rNil ?_|refine kNo ?_|refine pRow ?_|refine pSkip ?_|refine pRet ?_|refine pCond ?_|refine gNone ?_|refine gOn rfl ?_|refine gOff rfl rfl ?_|refine gTup rfl ?_))
    intro q hq
    obtain rfl : q = true := by rw [hq]; simp; omega
    (repeat(first|refine pSeq ?_|refine pReg ?_|refine sCons ?_|refine sNil ?_|refine rCons ?_|refine rNil ?_|refine kNo ?_|refine pRow ?_|refine pSkip ?_|refine pRet ?_|refine pCond ?_|refine gNone ?_|refine gOn rfl ?_|refine gOff rfl rfl ?_|refine gTup rfl ?_))
    intro q hq
    obtain rfl : q = true := by rw [hq]; rfl
    (repeat(first|refine pSeq ?_|refine pReg ?_|refine sCons ?_|refine sNil ?_|refine rCons ?_|refine rNil ?_|refine kNo ?_|refine pRow ?_|refine pSkip ?_|refine pRet ?_|refine pCond ?_|refine gNone ?_|refine gOn rfl ?_|refine gOff rfl rfl ?_|refine gTup rfl ?_))
    intro q hq
    obtain rfl : q = true := by rw [hq]; rfl
    (repeat(first|refine pSeq ?_|refine pReg ?_|refine sCons ?_|refine sNil ?_|refine rCons ?_|refine rNil ?_|refine kNo ?_|refine pRow ?_|refine pSkip ?_|refine pRet ?_|refine pCond ?_|refine gNone ?_|refine gOn rfl ?_|refine gOff rfl rfl ?_|refine gTup rfl ?_))
    refine ldN_is rfl e5 agg5 ?_
    (repeat(first|refine pSeq ?_|refine pReg ?_|refine sCons ?_|refine sNil ?_|refine rCons ?_|refine rNil ?_|refine kNo ?_|refine pRow ?_|refine pSkip ?_|refine pRet ?_|refine pCond ?_|refine gNone ?_|refine gOn rfl ?_|refine gOff rfl rfl ?_|refine gTup rfl ?_))
    refine ldN_is (new := [.bool p.null, .bool p.post, .slice none 0 0, str p.a, str p.d]) rfl e6 rfl ?_
    (repeat(first|refine pSeq ?_|refine pReg ?_|refine sCons ?_|refine sNil ?_|refine rCons ?_|refine rNil ?_|refine kNo ?_|refine pRow ?_|refine pSkip ?_|refine pRet ?_|refine pCond ?_|refine gNone ?_|refine gOn rfl ?_|refine gOff rfl rfl ?_|refine gTup rfl ?_))
    refine (pof_w (nl := p.null) (po := p.post) (a := p.a) (d := p.d)).mono fun v s7 q => ?_
    obtain ⟨rfl, c67⟩ := q
    have e7 := c67.blk _ _ (by omega) (by simp) e6
    have c07 := c06.nil c67
    refine kAll (c67.keep (c06.fine hf)) ?_
    (repeat(first|refine pSeq ?_|refine pReg ?_|refine sCons ?_|refine sNil ?_|refine rCons ?_|refine rNil ?_|refine kNo ?_|refine pRow ?_|refine pSkip ?_|refine pRet ?_|refine pCond ?_|refine gNone ?_|refine gOn rfl ?_|refine gOff rfl rfl ?_|refine gTup rfl ?_))
    refine (pof_w (nl := p.null) (po := p.post) (a := p.a) (d := p.d)).mono fun v s8 q => ?_
    obtain ⟨rfl, c78⟩ := q
    have c08 := c07.nil c78
    (repeat(first|refine pSeq ?_|refine pReg ?_|refine sCons ?_|refine sNil ?_|refine rCons ?_|refine rNil ?_|refine kNo ?_|refine pRow ?_|refine pSkip ?_|refine pRet ?_|refine pCond ?_|refine gNone ?_|refine gOn rfl ?_|refine gOff rfl rfl ?_|refine gTup rfl ?_))
    refine like_same.mono fun v s9 q => ?_
    obtain ⟨rfl, c89⟩ := q
    have c09 := c08.nil c89
    (repeat(first|refine pSeq ?_|refine pReg ?_|refine sCons ?_|refine sNil ?_|refine rCons ?_|refine rNil ?_|refine kNo ?_|refine pRow ?_|refine pSkip ?_|refine pRet ?_|refine pCond ?_|refine gNone ?_|refine gOn rfl ?_|refine gOff rfl rfl ?_|refine gTup rfl ?_))
    refine (ptells_w (hG.chg c09 (by simp)) (c09.fine hf)).mono fun v s10 q => ?_
    obtain ⟨rfl, c10⟩ := q
    (repeat(first|refine pSeq ?_|refine pReg ?_|refine sCons ?_|refine sNil ?_|refine rCons ?_|refine rNil ?_|refine kNo ?_|refine pRow ?_|refine pSkip ?_|refine pRet ?_|refine pCond ?_|refine gNone ?_|refine gOn rfl ?_|refine gOff rfl rfl ?_|refine gTup rfl ?_))
    (repeat (first | with_reducible refine sqRet ?_ | with_reducible refine bkRet ?_ | with_reducible refine hdRet ?_))
    rfl
  · obtain ⟨b1, b2⟩ := path_err he
    generalize pathF x = M at *
    obtain ⟨p, rest, e⟩ := M
    dsimp only at he b1 b2 o1 ⊢
    subst b1 b2
    obtain ⟨rfl, rfl⟩ := row_nil o1
    (repeat(first|refine pSeq ?_|refine pReg ?_|refine sCons ?_|refine sNil ?_|refine rCons ?_|refine rNil ?_|refine kNo ?_|refine pRow ?_|refine pSkip ?_|refine pRet ?_|refine pCond ?_|refine gNone ?_|refine gOn rfl ?_|refine gOff rfl rfl ?_|refine gTup rfl ?_))
    refine st_abs (cs' := ptCells ptZ none 0) rfl rfl lkH (Nat.lt_succ_self _) rfl rfl fun s2 e2 c2 n2 => ?_
    have c12 : Chg s1 s2 [] := (Chg.new []).fresh c2 (by simp)
    have c02 := c1.nil c12
    (repeat(first|refine pSeq ?_|refine pReg ?_|refine sCons ?_|refine sNil ?_|refine rCons ?_|refine rNil ?_|refine kNo ?_|refine pRow ?_|refine pSkip ?_|refine pRet ?_|refine pCond ?_|refine gNone ?_|refine gOn rfl ?_|refine gOff rfl rfl ?_|refine gTup rfl ?_))
    intro q hq
    obtain rfl : q = true := by rw [hq]; simp; omega
    (repeat(first|refine pSeq ?_|refine pReg ?_|refine sCons ?_|refine sNil ?_|refine rCons ?_|refine rNil ?_|refine kNo ?_|refine pRow ?_|refine pSkip ?_|refine pRet ?_|refine pCond ?_|refine gNone ?_|refine gOn rfl ?_|refine gOff rfl rfl ?_|refine gTup rfl ?_))
    refine ldN_is rfl e2 agg5 ?_
    (repeat(first|refine pSeq ?_|refine pReg ?_|refine sCons ?_|refine sNil ?_|refine rCons ?_|refine rNil ?_|refine kNo ?_|refine pRow ?_|refine pSkip ?_|refine pRet ?_|refine pCond ?_|refine gNone ?_|refine gOn rfl ?_|refine gOff rfl rfl ?_|refine gTup rfl ?_))
    refine (pof_w (nl := false) (po := false) (a := []) (d := [])).mono fun v s3 q => ?_
    obtain ⟨rfl, c23⟩ := q
    (repeat(first|refine pSeq ?_|refine pReg ?_|refine sCons ?_|refine sNil ?_|refine rCons ?_|refine rNil ?_|refine kNo ?_|refine pRow ?_|refine pSkip ?_|refine pRet ?_|refine pCond ?_|refine gNone ?_|refine gOn rfl ?_|refine gOff rfl rfl ?_|refine gTup rfl ?_))
    refine (pof_w (nl := false) (po := false) (a := []) (d := [])).mono fun v s4 q => ?_
    obtain ⟨rfl, c34⟩ := q
    (repeat(first|refine pSeq ?_|refine pReg ?_|refine sCons ?_|refine sNil ?_|refine rCons ?_|refine rNil ?_|refine kNo ?_|refine pRow ?_|refine pSkip ?_|refine pRet ?_|refine pCond ?_|refine gNone ?_|refine gOn rfl ?_|refine gOff rfl rfl ?_|refine gTup rfl ?_))
    refine like_same.mono fun v s5 q => ?_
    obtain ⟨rfl, c45⟩ := q
    have c05 := ((c02.nil c23).nil c34).nil c45
    (repeat(first|refine pSeq ?_|refine pReg ?_|refine sCons ?_|refine sNil ?_|refine rCons ?_|refine rNil ?_|refine kNo ?_|refine pRow ?_|refine pSkip ?_|refine pRet ?_|refine pCond ?_|refine gNone ?_|refine gOn rfl ?_|refine gOff rfl rfl ?_|refine gTup rfl ?_))
    intro q hq
    obtain rfl : q = true := by rw [hq]; rfl
    (repeat(first|refine pSeq ?_|refine pReg ?_|refine sCons ?_|refine sNil ?_|refine rCons ?_|refine rNil ?_|refine kNo ?_|refine pRow ?_|refine pSkip ?_|refine pRet ?_|refine pCond ?_|refine gNone ?_|refine gOn rfl ?_|refine gOff rfl rfl ?_|refine gTup rfl ?_))
    refine (ptells_w (hG.chg c05 (by simp)) (c05.fine hf)).mono fun v s6 q => ?_
    obtain ⟨rfl, c6⟩ := q
    (repeat(first|refine pSeq ?_|refine pReg ?_|refine sCons ?_|refine sNil ?_|refine rCons ?_|refine rNil ?_|refine kNo ?_|refine pRow ?_|refine pSkip ?_|refine pRet ?_|refine pCond ?_|refine gNone ?_|refine gOn rfl ?_|refine gOff rfl rfl ?_|refine gTup rfl ?_))
    (repeat (first | with_reducible refine sqRet ?_ | with_reducible refine bkRet ?_ | with_reducible refine hdRet ?_))
    rfl

def pI (i : Nat) : Pth := if i = 0 then ⟨true, false, [], [], []⟩ else ⟨false, true, [], [], []⟩
theorem pI_back (i : Nat) (x : List UInt8) : pathF (textP (pI i) ++ x) = (pI i, x, 0) ∧ (textP (pI i)).length ≤ 12 ∧ (pI i).a = [] ∧ (pI i).d = [] ∧ (pI i).route = [] := by
  unfold pI
  split
  · exact ⟨path_null x, by decide, rfl, rfl, rfl⟩
  · exact ⟨path_post x, by decide, rfl, rfl, rfl⟩

structure BkIt where
  i : Nat
  s : SS

set_option maxHeartbeats 2000000 in
theorem back_loop {s : SS} {k : Nat} {x : List UInt8} (hG : Gb s) (hf : Fine s) (hx : x.length ≤ 300) :
    W pr 170 k (.seq code_K04_LP code_K04_TL) [(1, str x)] s (runQ pr [.tmp 4] fun v s' => v = .bool true) := by
  refine W.seq (comp_ok good ok_K04_LP (Box.out (p := wp pr 170 k _ _ _ _) ?_))
  (repeat(first|refine pSeq ?_|refine pReg ?_|refine sCons ?_|refine sNil ?_|refine rCons ?_|refine rNil ?_|refine kNo ?_|refine pRow ?_|refine pBlock ?_|refine pSkip ?_|refine pExit ?_|refine pRet ?_|refine pCond ?_|refine gNone ?_|refine gOn rfl ?_|refine gOff rfl rfl ?_|refine gTup rfl ?_))
  have c0 := Chg.new (s := s) (b := .cells (ptCells (pI 0) none 0 ++ ptCells (pI 1) none 0) tPt false false) []
  refine pLoop (MW.head good (fun i : BkIt => 2 - i.i) (fun i => i.i ≤ 2 ∧ Chg s i.s [] ∧ s.next < i.s.next ∧ lookH i.s.heap s.next = some (.cells (ptCells (pI 0) none 0 ++ ptCells (pI 1) none 0) tPt false false)) (fun i => [(1, str x), (82, .slice (some ⟨s.next, 0, none⟩) 2 2), (83, .int .i64 2), (84, .int .i64 i.i)]) (fun i => i.s) ⟨0, _⟩ ⟨Nat.zero_le 2, c0, Nat.lt_succ_self _, lkH⟩ (Wk.same ⟨rfl, rfl, rfl, rfl, trivial⟩) ?_)
  clear c0
  intro ⟨i, s1⟩ ⟨h2, c1, hlt, e1⟩
  dsimp only at h2 c1 hlt e1 ⊢
  (repeat(first|refine pSeq ?_|refine pReg ?_|refine sCons ?_|refine sNil ?_|refine rCons ?_|refine rNil ?_|refine kNo ?_|refine pRow ?_|refine pBlock ?_|refine pSkip ?_|refine pExit ?_|refine pRet ?_|refine pCond ?_|refine gNone ?_|refine gOn rfl ?_|refine gOff rfl rfl ?_|refine gTup rfl ?_))
  intro q hq
  by_cases hi : i < 2
  · obtain rfl : q = true := by rw [hq]; simp <;> omega
    obtain ⟨b1, b2, b3, b4, b5⟩ := pI_back i x
    (repeat(first|refine pSeq ?_|refine pReg ?_|refine sCons ?_|refine sNil ?_|refine rCons ?_|refine rNil ?_|refine kNo ?_|refine pRow ?_|refine pBlock ?_|refine pSkip ?_|refine pExit ?_|refine pRet ?_|refine pCond ?_|refine gNone ?_|refine gOn rfl ?_|refine gOff rfl rfl ?_|refine gTup rfl ?_))
    refine ⟨by omega, ?_⟩
    intro m hm o ho
    obtain rfl : m = i := by omega
    have hcell : takeN 5 ((ptCells (pI 0) none 0 ++ ptCells (pI 1) none 0).drop o) = some (ptCells (pI m) none 0) := by
      rcases Nat.lt_or_ge m 1 with q | q
      · obtain rfl : m = 0 := by omega
        obtain rfl : o = 0 := by omega
        rfl
      · obtain rfl : m = 1 := by omega
        obtain rfl : o = 5 := by omega
        rfl
    (repeat(first|refine pSeq ?_|refine pReg ?_|refine sCons ?_|refine sNil ?_|refine rCons ?_|refine rNil ?_|refine kNo ?_|refine pRow ?_|refine pBlock ?_|refine pSkip ?_|refine pExit ?_|refine pRet ?_|refine pCond ?_|refine gNone ?_|refine gOn rfl ?_|refine gOff rfl rfl ?_|refine gTup rfl ?_))
    refine ldN_is rfl e1 hcell ?_
    (repeat(first|refine pSeq ?_|refine pReg ?_|refine sCons ?_|refine sNil ?_|refine rCons ?_|refine rNil ?_|refine kNo ?_|refine pRow ?_|refine pBlock ?_|refine pSkip ?_|refine pExit ?_|refine pRet ?_|refine pCond ?_|refine gNone ?_|refine gOn rfl ?_|refine gOff rfl rfl ?_|refine gTup rfl ?_))
    have eR : (pI m).route = [] := b5
    generalize pI m = p at *
    refine st_abs (cs' := ptCells p none 0) rfl rfl lkH (Nat.lt_succ_self _) rfl rfl fun s2 e2 c2 n2 => ?_
    have c12 : Chg s1 s2 [] := (Chg.new []).fresh c2 (by simp)
    have n2' : s2.next = s1.next + 1 := n2
    have c02 := c1.nil c12
    (repeat(first|refine pSeq ?_|refine pReg ?_|refine sCons ?_|refine sNil ?_|refine rCons ?_|refine rNil ?_|refine kNo ?_|refine pRow ?_|refine pBlock ?_|refine pSkip ?_|refine pExit ?_|refine pRet ?_|refine pCond ?_|refine gNone ?_|refine gOn rfl ?_|refine gOff rfl rfl ?_|refine gTup rfl ?_))
    refine ldN_is rfl e2 agg5 ?_
    (repeat(first|refine pSeq ?_|refine pReg ?_|refine sCons ?_|refine sNil ?_|refine rCons ?_|refine rNil ?_|refine kNo ?_|refine pRow ?_|refine pBlock ?_|refine pSkip ?_|refine pExit ?_|refine pRet ?_|refine pCond ?_|refine gNone ?_|refine gOn rfl ?_|refine gOff rfl rfl ?_|refine gTup rfl ?_))
    refine (ptext_w (p := p) (hG.chg c02 (by simp)) (by rw [b3]; simp) (by rw [b4]; simp)).mono fun v s3 q => ?_
    obtain ⟨rfl, c23⟩ := q
    have e3 := c23.blk _ _ (by omega) (by simp) e2
    have n3 := c23.next
    have c03 := c02.nil c23
    (repeat(first|refine pSeq ?_|refine pReg ?_|refine sCons ?_|refine sNil ?_|refine rCons ?_|refine rNil ?_|refine kNo ?_|refine pRow ?_|refine pBlock ?_|refine pSkip ?_|refine pExit ?_|refine pRet ?_|refine pCond ?_|refine gNone ?_|refine gOn rfl ?_|refine gOff rfl rfl ?_|refine gTup rfl ?_))
    refine ⟨by omega, ?_⟩
    intro w hw
    subst hw
    (repeat(first|refine pSeq ?_|refine pReg ?_|refine sCons ?_|refine sNil ?_|refine rCons ?_|refine rNil ?_|refine kNo ?_|refine pRow ?_|refine pBlock ?_|refine pSkip ?_|refine pExit ?_|refine pRet ?_|refine pCond ?_|refine gNone ?_|refine gOn rfl ?_|refine gOff rfl rfl ?_|refine gTup rfl ?_))
    refine (path_w (l := textP p ++ x) (hG.chg c03 (by simp)) (by rw [List.length_append]; omega)).mono fun v s4 q => ?_
    obtain ⟨W', cw', rfl, o4, c34, -⟩ := q
    rw [b1] at o4 ⊢
    dsimp only at o4 ⊢
    rw [eR] at o4
    obtain ⟨rfl, rfl⟩ := row_nil o4
    have e4 := c34.blk _ _ (by omega) (by simp) e3
    have n4 := c34.next
    have c04 := c03.nil c34
    (repeat(first|refine pSeq ?_|refine pReg ?_|refine sCons ?_|refine sNil ?_|refine rCons ?_|refine rNil ?_|refine kNo ?_|refine pRow ?_|refine pBlock ?_|refine pSkip ?_|refine pExit ?_|refine pRet ?_|refine pCond ?_|refine gNone ?_|refine gOn rfl ?_|refine gOff rfl rfl ?_|refine gTup rfl ?_))
    refine st_abs (cs' := ptCells p none 0) rfl rfl lkH (Nat.lt_succ_self _) rfl rfl fun s5 e5 c5 n5 => ?_
    have c45 : Chg s4 s5 [] := (Chg.new []).fresh c5 (by simp)
    have n5' : s5.next = s4.next + 1 := n5
    have e4 := c45.blk _ _ (by omega) (by simp) e4
    have c05 := c04.nil c45
    (repeat(first|refine pSeq ?_|refine pReg ?_|refine sCons ?_|refine sNil ?_|refine rCons ?_|refine rNil ?_|refine kNo ?_|refine pRow ?_|refine pBlock ?_|refine pSkip ?_|refine pExit ?_|refine pRet ?_|refine pCond ?_|refine gNone ?_|refine gOn rfl ?_|refine gOff rfl rfl ?_|refine gTup rfl ?_))
    intro q hq
    obtain rfl : q = false := by rw [hq]; rfl
    (repeat(first|refine pSeq ?_|refine pReg ?_|refine sCons ?_|refine sNil ?_|refine rCons ?_|refine rNil ?_|refine kNo ?_|refine pRow ?_|refine pBlock ?_|refine pSkip ?_|refine pExit ?_|refine pRet ?_|refine pCond ?_|refine gNone ?_|refine gOn rfl ?_|refine gOff rfl rfl ?_|refine gTup rfl ?_))
    intro q hq
    obtain rfl : q = false := by rw [hq]; simp
    (repeat(first|refine pSeq ?_|refine pReg ?_|refine sCons ?_|refine sNil ?_|refine rCons ?_|refine rNil ?_|refine kNo ?_|refine pRow ?_|refine pBlock ?_|refine pSkip ?_|refine pExit ?_|refine pRet ?_|refine pCond ?_|refine gNone ?_|refine gOn rfl ?_|refine gOff rfl rfl ?_|refine gTup rfl ?_))
    refine ldN_is rfl e5 agg5 ?_
    (repeat(first|refine pSeq ?_|refine pReg ?_|refine sCons ?_|refine sNil ?_|refine rCons ?_|refine rNil ?_|refine kNo ?_|refine pRow ?_|refine pBlock ?_|refine pSkip ?_|refine pExit ?_|refine pRet ?_|refine pCond ?_|refine gNone ?_|refine gOn rfl ?_|refine gOff rfl rfl ?_|refine gTup rfl ?_))
    refine ldN_is rfl e4 agg5 ?_
    (repeat(first|refine pSeq ?_|refine pReg ?_|refine sCons ?_|refine sNil ?_|refine rCons ?_|refine rNil ?_|refine kNo ?_|refine pRow ?_|refine pBlock ?_|refine pSkip ?_|refine pExit ?_|refine pRet ?_|refine pCond ?_|refine gNone ?_|refine gOn rfl ?_|refine gOff rfl rfl ?_|refine gTup rfl ?_))
    obtain ⟨nl, po, rt, a, d⟩ := p
    dsimp only at b3 b4 eR ⊢
    subst b3 b4 eR
    refine (pof_w (nl := nl) (po := po) (a := []) (d := [])).mono fun v s6 q => ?_
    obtain ⟨rfl, c56⟩ := q
    have c06 := c05.nil c56
    refine kAll (c56.keep (c05.fine hf)) ?_
    (repeat(first|refine pSeq ?_|refine pReg ?_|refine sCons ?_|refine sNil ?_|refine rCons ?_|refine rNil ?_|refine kNo ?_|refine pRow ?_|refine pBlock ?_|refine pSkip ?_|refine pExit ?_|refine pRet ?_|refine pCond ?_|refine gNone ?_|refine gOn rfl ?_|refine gOff rfl rfl ?_|refine gTup rfl ?_))
    refine (pof_w (nl := nl) (po := po) (a := []) (d := [])).mono fun v s7 q => ?_
    obtain ⟨rfl, c67⟩ := q
    have c07 := c06.nil c67
    (repeat(first|refine pSeq ?_|refine pReg ?_|refine sCons ?_|refine sNil ?_|refine rCons ?_|refine rNil ?_|refine kNo ?_|refine pRow ?_|refine pBlock ?_|refine pSkip ?_|refine pExit ?_|refine pRet ?_|refine pCond ?_|refine gNone ?_|refine gOn rfl ?_|refine gOff rfl rfl ?_|refine gTup rfl ?_))
    refine like_same.mono fun v s8 q => ?_
    obtain ⟨rfl, c78⟩ := q
    have c08 := c07.nil c78
    (repeat(first|refine pSeq ?_|refine pReg ?_|refine sCons ?_|refine sNil ?_|refine rCons ?_|refine rNil ?_|refine kNo ?_|refine pRow ?_|refine pBlock ?_|refine pSkip ?_|refine pExit ?_|refine pRet ?_|refine pCond ?_|refine gNone ?_|refine gOn rfl ?_|refine gOff rfl rfl ?_|refine gTup rfl ?_))
    intro q hq
    obtain rfl : q = false := by rw [hq]; rfl
    (repeat(first|refine pSeq ?_|refine pReg ?_|refine sCons ?_|refine sNil ?_|refine rCons ?_|refine rNil ?_|refine kNo ?_|refine pRow ?_|refine pBlock ?_|refine pSkip ?_|refine pExit ?_|refine pRet ?_|refine pCond ?_|refine gNone ?_|refine gOn rfl ?_|refine gOff rfl rfl ?_|refine gTup rfl ?_))
    intro z hz
    rw [i64_id (by omega)] at hz
    obtain rfl : z = ((m + 1 : Nat) : Int) := by omega
    (repeat(first|refine pSeq ?_|refine pReg ?_|refine sCons ?_|refine sNil ?_|refine rCons ?_|refine rNil ?_|refine kNo ?_|refine pRow ?_|refine pBlock ?_|refine pSkip ?_|refine pExit ?_|refine pRet ?_|refine pCond ?_|refine gNone ?_|refine gOn rfl ?_|refine gOff rfl rfl ?_|refine gTup rfl ?_))
    have c18 : Chg s1 s8 [] := ((((((c12.nil c23).nil c34).nil c45).nil c56).nil c67).nil c78)
    exact ⟨⟨m + 1, s8⟩, ⟨(by show m + 1 ≤ 2; omega), c08, Nat.lt_of_lt_of_le hlt c18.next, c18.blk _ _ hlt (by simp) e1⟩, by show 2 - (m + 1) < 2 - m; omega, Wk.same ⟨rfl, rfl, rfl, rfl, trivial⟩⟩
  · obtain rfl : q = false := by rw [hq]; simp <;> omega
    (repeat(first|refine pSeq ?_|refine pReg ?_|refine sCons ?_|refine sNil ?_|refine rCons ?_|refine rNil ?_|refine kNo ?_|refine pRow ?_|refine pBlock ?_|refine pSkip ?_|refine pExit ?_|refine pRet ?_|refine pCond ?_|refine gNone ?_|refine gOn rfl ?_|refine gOff rfl rfl ?_|refine gTup rfl ?_))
    exact W.weak (k := k) (T' := [(1, str x)]) (s' := s1) (Wk.same ⟨rfl, trivial⟩) (back_tail (hG.chg c1 (by simp)) (c1.fine hf) hx)

set_option maxHeartbeats 2000000 in
theorem pback_w {s : SS} {a0 d0 x0 : List UInt8} (hG : Gb s) (hf : Fine s) : CallW pr n_law06_PathBack [adV a0 d0, str x0] s fun v s' => v = .bool true := by
  refine CallW.pieces (nt := 170) (res := [.tmp 4]) (c := .seq code_K04_P0 (.seq code_K04_P1 (.seq code_K04_P2 (.seq code_K04_P3 (.seq code_K04_P4 (.seq code_K04_MA (.seq code_K04_LP code_K04_TL))))))) (by kernel_rfl) (by kernel_rfl) (by kernel_rfl) (by kernel_rfl) (by simp) ?_
  refine W.seq (comp_ok good ok_K04_P0 (Box.out (p := wp pr 170 s.next _ _ _ _) ?_))
  have cA := Chg.new (s := s) (b := .cells [str a0, str d0] tAd false false) []
  have eA : lookH ({ s with heap := (s.next, some (.cells [str a0, str d0] tAd false false)) :: s.heap, next := s.next + 1 } : SS).heap s.next = some (.cells [str a0, str d0] tAd false false) := lkH
  (repeat(first|refine pSeq ?_|refine pReg ?_|refine sCons ?_|refine sNil ?_|refine rCons ?_|refine rNil ?_|refine kNo ?_|refine pRow ?_|refine pSkip ?_|refine pRet ?_|refine pCond ?_|refine gNone ?_|refine gOn rfl ?_|refine gOff rfl rfl ?_|refine gTup rfl ?_))
  refine W.seq (comp_ok good ok_K04_P1 (Box.out (p := wp pr 170 s.next _ _ _ _) ?_))
  (repeat(first|refine pSeq ?_|refine pReg ?_|refine sCons ?_|refine sNil ?_|refine rCons ?_|refine rNil ?_|refine kNo ?_|refine pRow ?_|refine pSkip ?_|refine pRet ?_|refine pCond ?_|refine gNone ?_|refine gOn rfl ?_|refine gOff rfl rfl ?_|refine gTup rfl ?_))
  refine ldS_is (l := a0) rfl eA rfl ?_
  (repeat(first|refine pSeq ?_|refine pReg ?_|refine sCons ?_|refine sNil ?_|refine rCons ?_|refine rNil ?_|refine kNo ?_|refine pRow ?_|refine pSkip ?_|refine pRet ?_|refine pCond ?_|refine gNone ?_|refine gOn rfl ?_|refine gOff rfl rfl ?_|refine gTup rfl ?_))
  refine ldS_is (l := a0) rfl eA rfl ?_
  (repeat(first|refine pSeq ?_|refine pReg ?_|refine sCons ?_|refine sNil ?_|refine rCons ?_|refine rNil ?_|refine kNo ?_|refine pRow ?_|refine pSkip ?_|refine pRet ?_|refine pCond ?_|refine gNone ?_|refine gOn rfl ?_|refine gOff rfl rfl ?_|refine gTup rfl ?_))
  intro n hn
  (repeat(first|refine pSeq ?_|refine pReg ?_|refine sCons ?_|refine sNil ?_|refine rCons ?_|refine rNil ?_|refine kNo ?_|refine pRow ?_|refine pSkip ?_|refine pRet ?_|refine pCond ?_|refine gNone ?_|refine gOn rfl ?_|refine gOff rfl rfl ?_|refine gTup rfl ?_))
  intro z hz
  (repeat(first|refine pSeq ?_|refine pReg ?_|refine sCons ?_|refine sNil ?_|refine rCons ?_|refine rNil ?_|refine kNo ?_|refine pRow ?_|refine pSkip ?_|refine pRet ?_|refine pCond ?_|refine gNone ?_|refine gOn rfl ?_|refine gOff rfl rfl ?_|refine gTup rfl ?_))
  refine ⟨by omega, ?_⟩
  intro m hm a ha
  have la : a.length ≤ 300 := few_str ha (by omega)
  clear ha hm hz hn
  (repeat(first|refine pSeq ?_|refine pReg ?_|refine sCons ?_|refine sNil ?_|refine rCons ?_|refine rNil ?_|refine kNo ?_|refine pRow ?_|refine pSkip ?_|refine pRet ?_|refine pCond ?_|refine gNone ?_|refine gOn rfl ?_|refine gOff rfl rfl ?_|refine gTup rfl ?_))
  refine ldS_is (l := d0) rfl eA rfl ?_
  (repeat(first|refine pSeq ?_|refine pReg ?_|refine sCons ?_|refine sNil ?_|refine rCons ?_|refine rNil ?_|refine kNo ?_|refine pRow ?_|refine pSkip ?_|refine pRet ?_|refine pCond ?_|refine gNone ?_|refine gOn rfl ?_|refine gOff rfl rfl ?_|refine gTup rfl ?_))
  refine ldS_is (l := d0) rfl eA rfl ?_
  (repeat(first|refine pSeq ?_|refine pReg ?_|refine sCons ?_|refine sNil ?_|refine rCons ?_|refine rNil ?_|refine kNo ?_|refine pRow ?_|refine pSkip ?_|refine pRet ?_|refine pCond ?_|refine gNone ?_|refine gOn rfl ?_|refine gOff rfl rfl ?_|refine gTup rfl ?_))
  intro n hn
  (repeat(first|refine pSeq ?_|refine pReg ?_|refine sCons ?_|refine sNil ?_|refine rCons ?_|refine rNil ?_|refine kNo ?_|refine pRow ?_|refine pSkip ?_|refine pRet ?_|refine pCond ?_|refine gNone ?_|refine gOn rfl ?_|refine gOff rfl rfl ?_|refine gTup rfl ?_))
  intro z hz
  (repeat(first|refine pSeq ?_|refine pReg ?_|refine sCons ?_|refine sNil ?_|refine rCons ?_|refine rNil ?_|refine kNo ?_|refine pRow ?_|refine pSkip ?_|refine pRet ?_|refine pCond ?_|refine gNone ?_|refine gOn rfl ?_|refine gOff rfl rfl ?_|refine gTup rfl ?_))
  refine ⟨by omega, ?_⟩
  intro m hm d hd
  have ld : d.length ≤ 300 := few_str hd (by omega)
  clear hd hm hz hn
  (repeat(first|refine pSeq ?_|refine pReg ?_|refine sCons ?_|refine sNil ?_|refine rCons ?_|refine rNil ?_|refine kNo ?_|refine pRow ?_|refine pSkip ?_|refine pRet ?_|refine pCond ?_|refine gNone ?_|refine gOn rfl ?_|refine gOff rfl rfl ?_|refine gTup rfl ?_))
  refine st_abs (cs' := [str a, str d]) rfl rfl eA (Nat.lt_succ_self _) rfl rfl fun s1 e1 c1 n1 => ?_
  have c01 : Chg s s1 [] := cA.fresh c1 (by simp)
  have n1' : s1.next = s.next + 1 := n1
  clear eA cA c1
  (repeat(first|refine pSeq ?_|refine pReg ?_|refine sCons ?_|refine sNil ?_|refine rCons ?_|refine rNil ?_|refine kNo ?_|refine pRow ?_|refine pSkip ?_|refine pRet ?_|refine pCond ?_|refine gNone ?_|refine gOn rfl ?_|refine gOff rfl rfl ?_|refine gTup rfl ?_))
  refine W.seq (comp_ok good ok_K04_P2 (Box.out (p := wp pr 170 s.next _ _ _ _) ?_))
  (repeat(first|refine pSeq ?_|refine pReg ?_|refine sCons ?_|refine sNil ?_|refine rCons ?_|refine rNil ?_|refine kNo ?_|refine pRow ?_|refine pSkip ?_|refine pRet ?_|refine pCond ?_|refine gNone ?_|refine gOn rfl ?_|refine gOff rfl rfl ?_|refine gTup rfl ?_))
  intro n hn
  (repeat(first|refine pSeq ?_|refine pReg ?_|refine sCons ?_|refine sNil ?_|refine rCons ?_|refine rNil ?_|refine kNo ?_|refine pRow ?_|refine pSkip ?_|refine pRet ?_|refine pCond ?_|refine gNone ?_|refine gOn rfl ?_|refine gOff rfl rfl ?_|refine gTup rfl ?_))
  intro z hz
  (repeat(first|refine pSeq ?_|refine pReg ?_|refine sCons ?_|refine sNil ?_|refine rCons ?_|refine rNil ?_|refine kNo ?_|refine pRow ?_|refine pSkip ?_|refine pRet ?_|refine pCond ?_|refine gNone ?_|refine gOn rfl ?_|refine gOff rfl rfl ?_|refine gTup rfl ?_))
  refine ⟨by omega, ?_⟩
  intro m hm x hx
  have lx : x.length ≤ 300 := few_str hx (by omega)
  clear hx hm hz hn
  (repeat(first|refine pSeq ?_|refine pReg ?_|refine sCons ?_|refine sNil ?_|refine rCons ?_|refine rNil ?_|refine kNo ?_|refine pRow ?_|refine pSkip ?_|refine pRet ?_|refine pCond ?_|refine gNone ?_|refine gOn rfl ?_|refine gOff rfl rfl ?_|refine gTup rfl ?_))
  refine W.seq (comp_ok good ok_K04_P3 (Box.out (p := wp pr 170 s.next _ _ _ _) ?_))
  (repeat(first|refine pSeq ?_|refine pReg ?_|refine sCons ?_|refine sNil ?_|refine rCons ?_|refine rNil ?_|refine kNo ?_|refine pRow ?_|refine pSkip ?_|refine pRet ?_|refine pCond ?_|refine gNone ?_|refine gOn rfl ?_|refine gOff rfl rfl ?_|refine gTup rfl ?_))
  refine ldN_is rfl e1 agg2 ?_
  (repeat(first|refine pSeq ?_|refine pReg ?_|refine sCons ?_|refine sNil ?_|refine rCons ?_|refine rNil ?_|refine kNo ?_|refine pRow ?_|refine pSkip ?_|refine pRet ?_|refine pCond ?_|refine gNone ?_|refine gOn rfl ?_|refine gOff rfl rfl ?_|refine gTup rfl ?_))
  refine st_abs (cs' := ptCells ⟨false, false, [], a, d⟩ none 0) rfl rfl lkH (Nat.lt_succ_self _) rfl rfl fun s2 e2 c2 n2 => ?_
  have c12 : Chg s1 s2 [] := (Chg.new []).fresh c2 (by simp)
  have n2' : s2.next = s1.next + 1 := n2
  have e1 := c12.blk _ _ (by omega) (by simp) e1
  have c02 := c01.nil c12
  (repeat(first|refine pSeq ?_|refine pReg ?_|refine sCons ?_|refine sNil ?_|refine rCons ?_|refine rNil ?_|refine kNo ?_|refine pRow ?_|refine pSkip ?_|refine pRet ?_|refine pCond ?_|refine gNone ?_|refine gOn rfl ?_|refine gOff rfl rfl ?_|refine gTup rfl ?_))
  refine W.seq (comp_ok good ok_K04_P4 (Box.out (p := wp pr 170 s.next _ _ _ _) ?_))
  (repeat(first|refine pSeq ?_|refine pReg ?_|refine sCons ?_|refine sNil ?_|refine rCons ?_|refine rNil ?_|refine kNo ?_|refine pRow ?_|refine pSkip ?_|refine pRet ?_|refine pCond ?_|refine gNone ?_|refine gOn rfl ?_|refine gOff rfl rfl ?_|refine gTup rfl ?_))
  refine ldN_is rfl e2 agg5 ?_
  (repeat(first|refine pSeq ?_|refine pReg ?_|refine sCons ?_|refine sNil ?_|refine rCons ?_|refine rNil ?_|refine kNo ?_|refine pRow ?_|refine pSkip ?_|refine pRet ?_|refine pCond ?_|refine gNone ?_|refine gOn rfl ?_|refine gOff rfl rfl ?_|refine gTup rfl ?_))
  refine (ptext_w (p := ⟨false, false, [], a, d⟩) (hG.chg c02 (by simp)) (by show a.length ≤ _; omega) (by show d.length ≤ _; omega)).mono fun v s3 q => ?_
  obtain ⟨rfl, c23⟩ := q
  have n3 := c23.next
  have e1 := c23.blk _ _ (by omega) (by simp) e1
  have e2 := c23.blk _ _ (by omega) (by simp) e2
  have c03 := c02.nil c23
  have eT : textP ⟨false, false, [], a, d⟩ = if mayF a d = false then [] else 60 :: (textF a d ++ [62]) := rfl
  (repeat(first|refine pSeq ?_|refine pReg ?_|refine sCons ?_|refine sNil ?_|refine rCons ?_|refine rNil ?_|refine kNo ?_|refine pRow ?_|refine pSkip ?_|refine pRet ?_|refine pCond ?_|refine gNone ?_|refine gOn rfl ?_|refine gOff rfl rfl ?_|refine gTup rfl ?_))
  refine W.seq (comp_ok good ok_K04_MA (Box.out (p := wp pr 170 s.next _ _ _ _) ?_))
  (repeat(first|refine pSeq ?_|refine pReg ?_|refine sCons ?_|refine sNil ?_|refine rCons ?_|refine rNil ?_|refine kNo ?_|refine pRow ?_|refine pSkip ?_|refine pRet ?_|refine pCond ?_|refine gNone ?_|refine gOn rfl ?_|refine gOff rfl rfl ?_|refine gTup rfl ?_))
  refine ldN_is rfl e1 agg2 ?_
  (repeat(first|refine pSeq ?_|refine pReg ?_|refine sCons ?_|refine sNil ?_|refine rCons ?_|refine rNil ?_|refine kNo ?_|refine pRow ?_|refine pSkip ?_|refine pRet ?_|refine pCond ?_|refine gNone ?_|refine gOn rfl ?_|refine gOff rfl rfl ?_|refine gTup rfl ?_))
  refine (may_w (a := a) (d := d) (by omega) (by omega)).mono fun v s4 q => ?_
  obtain ⟨rfl, c34⟩ := q
  have n4 := c34.next
  have e2 := c34.blk _ _ (by omega) (by simp) e2
  have c04 := c03.nil c34
  cases hm : mayF a d with
  | true =>
    rw [hm, if_neg (by simp)] at eT
    have hP := path_text hm x
    have lt := @text_short a d
    rw [← eT] at hP
    have lT : (textP ⟨false, false, [], a, d⟩).length = (textF a d).length + 2 := by rw [eT]; simp
    generalize textP ⟨false, false, [], a, d⟩ = T at *
    (repeat(first|refine pSeq ?_|refine pReg ?_|refine sCons ?_|refine sNil ?_|refine rCons ?_|refine rNil ?_|refine kNo ?_|refine pRow ?_|refine pSkip ?_|refine pRet ?_|refine pCond ?_|refine gNone ?_|refine gOn rfl ?_|refine gOff rfl rfl ?_|refine gTup rfl ?_))
    refine ⟨by omega, ?_⟩
    intro w hw
    subst hw
    (repeat(first|refine pSeq ?_|refine pReg ?_|refine sCons ?_|refine sNil ?_|refine rCons ?_|refine rNil ?_|refine kNo ?_|refine pRow ?_|refine pSkip ?_|refine pRet ?_|refine pCond ?_|refine gNone ?_|refine gOn rfl ?_|refine gOff rfl rfl ?_|refine gTup rfl ?_))
    refine (path_w (l := T ++ x) (hG.chg c04 (by simp)) (by rw [List.length_append]; omega)).mono fun v s5 q => ?_
    obtain ⟨W', cw', rfl, o5, c45, -⟩ := q
    have n5 := c45.next
    have e2 := c45.blk _ _ (by omega) (by simp) e2
    have c05 := c04.nil c45
    by_cases h256 : 256 < (textF a d).length + 2
    · rw [if_pos h256] at hP
      rw [hP] at o5 ⊢
      (repeat(first|refine pSeq ?_|refine pReg ?_|refine sCons ?_|refine sNil ?_|refine rCons ?_|refine rNil ?_|refine kNo ?_|refine pRow ?_|refine pSkip ?_|refine pRet ?_|refine pCond ?_|refine gNone ?_|refine gOn rfl ?_|refine gOff rfl rfl ?_|refine gTup rfl ?_))
      refine st_abs (cs' := ptCells ptZ W' cw') rfl rfl lkH (Nat.lt_succ_self _) rfl rfl fun s6 e6 c6 n6 => ?_
      have c56 : Chg s5 s6 [] := (Chg.new []).fresh c6 (by simp)
      have c06 := c05.nil c56
      (repeat(first|refine pSeq ?_|refine pReg ?_|refine sCons ?_|refine sNil ?_|refine rCons ?_|refine rNil ?_|refine kNo ?_|refine pRow ?_|refine pSkip ?_|refine pRet ?_|refine pCond ?_|refine gNone ?_|refine gOn rfl ?_|refine gOff rfl rfl ?_|refine gTup rfl ?_))
      intro n hn
      (repeat(first|refine pSeq ?_|refine pReg ?_|refine sCons ?_|refine sNil ?_|refine rCons ?_|refine rNil ?_|refine kNo ?_|refine pRow ?_|refine pSkip ?_|refine pRet ?_|refine pCond ?_|refine gNone ?_|refine gOn rfl ?_|refine gOff rfl rfl ?_|refine gTup rfl ?_))
      intro q hq
      obtain rfl : q = true := by rw [hq]; simp <;> omega
      (repeat(first|refine pSeq ?_|refine pReg ?_|refine sCons ?_|refine sNil ?_|refine rCons ?_|refine rNil ?_|refine kNo ?_|refine pRow ?_|refine pSkip ?_|refine pRet ?_|refine pCond ?_|refine gNone ?_|refine gOn rfl ?_|refine gOff rfl rfl ?_|refine gTup rfl ?_))
      intro q hq
      obtain rfl : q = true := by rw [hq]; rfl
      (repeat(first|refine pSeq ?_|refine pReg ?_|refine sCons ?_|refine sNil ?_|refine rCons ?_|refine rNil ?_|refine kNo ?_|refine pRow ?_|refine pSkip ?_|refine pRet ?_|refine pCond ?_|refine gNone ?_|refine gOn rfl ?_|refine gOff rfl rfl ?_|refine gTup rfl ?_))
      refine (ptells_w (hG.chg c06 (by simp)) (c06.fine hf)).mono fun v s7 q => ?_
      obtain ⟨rfl, c7⟩ := q
      (repeat(first|refine pSeq ?_|refine pReg ?_|refine sCons ?_|refine sNil ?_|refine rCons ?_|refine rNil ?_|refine kNo ?_|refine pRow ?_|refine pSkip ?_|refine pRet ?_|refine pCond ?_|refine gNone ?_|refine gOn rfl ?_|refine gOff rfl rfl ?_|refine gTup rfl ?_))
      (repeat (first | with_reducible refine sqRet ?_ | with_reducible refine bkRet ?_ | with_reducible refine hdRet ?_))
      rfl
    · rw [if_neg h256] at hP
      rw [hP] at o5 ⊢
      obtain ⟨rfl, rfl⟩ := row_nil o5
      (repeat(first|refine pSeq ?_|refine pReg ?_|refine sCons ?_|refine sNil ?_|refine rCons ?_|refine rNil ?_|refine kNo ?_|refine pRow ?_|refine pSkip ?_|refine pRet ?_|refine pCond ?_|refine gNone ?_|refine gOn rfl ?_|refine gOff rfl rfl ?_|refine gTup rfl ?_))
      refine st_abs (cs' := ptCells ⟨false, false, [], a, d⟩ none 0) rfl rfl lkH (Nat.lt_succ_self _) rfl rfl fun s6 e6 c6 n6 => ?_
      have c56 : Chg s5 s6 [] := (Chg.new []).fresh c6 (by simp)
      have e2 := c56.blk _ _ (by omega) (by simp) e2
      have c06 := c05.nil c56
      (repeat(first|refine pSeq ?_|refine pReg ?_|refine sCons ?_|refine sNil ?_|refine rCons ?_|refine rNil ?_|refine kNo ?_|refine pRow ?_|refine pSkip ?_|refine pRet ?_|refine pCond ?_|refine gNone ?_|refine gOn rfl ?_|refine gOff rfl rfl ?_|refine gTup rfl ?_))
      intro n hn
      (repeat(first|refine pSeq ?_|refine pReg ?_|refine sCons ?_|refine sNil ?_|refine rCons ?_|refine rNil ?_|refine kNo ?_|refine pRow ?_|refine pSkip ?_|refine pRet ?_|refine pCond ?_|refine gNone ?_|refine gOn rfl ?_|refine gOff rfl rfl ?_|refine gTup rfl ?_))
      intro q hq
      obtain rfl : q = false := by rw [hq]; simp <;> omega
      (repeat(first|refine pSeq ?_|refine pReg ?_|refine sCons ?_|refine sNil ?_|refine rCons ?_|refine rNil ?_|refine kNo ?_|refine pRow ?_|refine pSkip ?_|refine pRet ?_|refine pCond ?_|refine gNone ?_|refine gOn rfl ?_|refine gOff rfl rfl ?_|refine gTup rfl ?_))
      intro q hq
      obtain rfl : q = false := by rw [hq]; rfl
      (repeat(first|refine pSeq ?_|refine pReg ?_|refine sCons ?_|refine sNil ?_|refine rCons ?_|refine rNil ?_|refine kNo ?_|refine pRow ?_|refine pSkip ?_|refine pRet ?_|refine pCond ?_|refine gNone ?_|refine gOn rfl ?_|refine gOff rfl rfl ?_|refine gTup rfl ?_))
      intro q hq
      obtain rfl : q = false := by rw [hq]; simp
      (repeat(first|refine pSeq ?_|refine pReg ?_|refine sCons ?_|refine sNil ?_|refine rCons ?_|refine rNil ?_|refine kNo ?_|refine pRow ?_|refine pSkip ?_|refine pRet ?_|refine pCond ?_|refine gNone ?_|refine gOn rfl ?_|refine gOff rfl rfl ?_|refine gTup rfl ?_))
      refine ldN_is rfl e6 agg5 ?_
      (repeat(first|refine pSeq ?_|refine pReg ?_|refine sCons ?_|refine sNil ?_|refine rCons ?_|refine rNil ?_|refine kNo ?_|refine pRow ?_|refine pSkip ?_|refine pRet ?_|refine pCond ?_|refine gNone ?_|refine gOn rfl ?_|refine gOff rfl rfl ?_|refine gTup rfl ?_))
      refine ldN_is rfl e2 agg5 ?_
      (repeat(first|refine pSeq ?_|refine pReg ?_|refine sCons ?_|refine sNil ?_|refine rCons ?_|refine rNil ?_|refine kNo ?_|refine pRow ?_|refine pSkip ?_|refine pRet ?_|refine pCond ?_|refine gNone ?_|refine gOn rfl ?_|refine gOff rfl rfl ?_|refine gTup rfl ?_))
      refine (pof_w (nl := false) (po := false) (a := a) (d := d)).mono fun v s7 q => ?_
      obtain ⟨rfl, c67⟩ := q
      have c07 := c06.nil c67
      refine kAll (c67.keep (c06.fine hf)) ?_
      (repeat(first|refine pSeq ?_|refine pReg ?_|refine sCons ?_|refine sNil ?_|refine rCons ?_|refine rNil ?_|refine kNo ?_|refine pRow ?_|refine pSkip ?_|refine pRet ?_|refine pCond ?_|refine gNone ?_|refine gOn rfl ?_|refine gOff rfl rfl ?_|refine gTup rfl ?_))
      refine (pof_w (nl := false) (po := false) (a := a) (d := d)).mono fun v s8 q => ?_
      obtain ⟨rfl, c78⟩ := q
      have c08 := c07.nil c78
      (repeat(first|refine pSeq ?_|refine pReg ?_|refine sCons ?_|refine sNil ?_|refine rCons ?_|refine rNil ?_|refine kNo ?_|refine pRow ?_|refine pSkip ?_|refine pRet ?_|refine pCond ?_|refine gNone ?_|refine gOn rfl ?_|refine gOff rfl rfl ?_|refine gTup rfl ?_))
      refine like_same.mono fun v s9 q => ?_
      obtain ⟨rfl, c89⟩ := q
      have c09 := c08.nil c89
      (repeat(first|refine pSeq ?_|refine pReg ?_|refine sCons ?_|refine sNil ?_|refine rCons ?_|refine rNil ?_|refine kNo ?_|refine pRow ?_|refine pSkip ?_|refine pRet ?_|refine pCond ?_|refine gNone ?_|refine gOn rfl ?_|refine gOff rfl rfl ?_|refine gTup rfl ?_))
      intro q hq
      obtain rfl : q = false := by rw [hq]; rfl
      (repeat(first|refine pSeq ?_|refine pReg ?_|refine sCons ?_|refine sNil ?_|refine rCons ?_|refine rNil ?_|refine kNo ?_|refine pRow ?_|refine pSkip ?_|refine pRet ?_|refine pCond ?_|refine gNone ?_|refine gOn rfl ?_|refine gOff rfl rfl ?_|refine gTup rfl ?_))
      exact W.weak (k := s.next) (T' := [(1, str x)]) (s' := s9) (Wk.same ⟨rfl, trivial⟩) (back_loop (hG.chg c09 (by simp)) (c09.fine hf) lx)
  | false =>
    rw [hm, if_pos rfl] at eT
    rw [eT]
    (repeat(first|refine pSeq ?_|refine pReg ?_|refine sCons ?_|refine sNil ?_|refine rCons ?_|refine rNil ?_|refine kNo ?_|refine pRow ?_|refine pSkip ?_|refine pRet ?_|refine pCond ?_|refine gNone ?_|refine gOn rfl ?_|refine gOff rfl rfl ?_|refine gTup rfl ?_))
    intro q hq
    obtain rfl : q = false := by rw [hq]; rfl
    (repeat(first|refine pSeq ?_|refine pReg ?_|refine sCons ?_|refine sNil ?_|refine rCons ?_|refine rNil ?_|refine kNo ?_|refine pRow ?_|refine pSkip ?_|refine pRet ?_|refine pCond ?_|refine gNone ?_|refine gOn rfl ?_|refine gOff rfl rfl ?_|refine gTup rfl ?_))
    exact W.weak (k := s.next) (T' := [(1, str x)]) (s' := s4) (Wk.same ⟨rfl, trivial⟩) (back_loop (hG.chg c04 (by simp)) (c04.fine hf) lx)
end Go.Vf.S

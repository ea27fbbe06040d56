import Derived.Test.YtgdkekacalmjoaaDoorPaK
import Derived.Test.YtgdkekacalmjoaaDoorAdH
/- Paths: their texts. -/
namespace Go.Vf.S
open Go Go.Vf
attribute [local irreducible] wSeq wRow wp wG
set_option linter.unusedVariables false
set_option linter.unusedSimpArgs false
set_option maxRecDepth 10000

def textP (p : Pth) : List UInt8 := if p.null = true then [60, 62] else if p.post = true then [60, 80, 111, 115, 116, 109, 97, 115, 116, 101, 114, 62] else if mayF p.a p.d = false then [] else 60 :: (textF p.a p.d ++ [62])

theorem text_short {a d : List UInt8} : (textF a d).length ≤ 2 * a.length + 3 + d.length := by
  unfold textF
  split
  · have := quote_len a
    unfold wordF
    split <;> simp <;> omega
  · simp

theorem ptext_w {s : SS} {p : Pth} {W : Option Addr} {cw : Nat} (hG : Gb s) (ha : p.a.length ≤ 300000) (hd : p.d.length ≤ 300000) :
    CallW pr n_path_Path_Text [ptV p W cw] s fun v s' => v = str (textP p) ∧ Chg s s' [] := by
  obtain ⟨nl, po, rt, a, d⟩ := p
  dsimp only at ha hd
  have eT : textP ⟨nl, po, rt, a, d⟩ = if nl = true then [60, 62] else if po = true then [60, 80, 111, 115, 116, 109, 97, 115, 116, 101, 114, 62] else if mayF a d = false then [] else 60 :: (textF a d ++ [62]) := rfl
  refine CallW.run good ok_path_Path_Text (by simp) rfl ?_
  have c0 := Chg.new (s := s) (b := .cells (ptCells ⟨nl, po, rt, a, d⟩ W cw) tPt false false) []
  have e0 : lookH ({ s with heap := (s.next, some (.cells (ptCells ⟨nl, po, rt, a, d⟩ W cw) tPt false false)) :: s.heap, next := s.next + 1 } : SS).heap s.next = some (.cells (ptCells ⟨nl, po, rt, a, d⟩ W cw) tPt false false) := lkH
  (repeat(first|refine pSeq ?_|refine pReg ?_|refine sCons ?_|refine sNil ?_|refine pBlock ?_|refine pSkip ?_|refine pRet ?_|refine pCond ?_|refine gNone ?_))
  refine ldB_is rfl e0 rfl ?_
  cases nl with
  | true =>
    rw [if_pos rfl] at eT
    rw [eT]
    (repeat(first|refine pSeq ?_|refine pReg ?_|refine sCons ?_|refine sNil ?_|refine pBlock ?_|refine pSkip ?_|refine pRet ?_|refine pCond ?_|refine gNone ?_))
    (repeat (first | with_reducible refine sqRet ?_ | with_reducible refine bkRet ?_ | with_reducible refine hdRet ?_))
    exact ⟨rfl, c0⟩
  | false =>
    rw [if_neg (by simp)] at eT
    (repeat(first|refine pSeq ?_|refine pReg ?_|refine sCons ?_|refine sNil ?_|refine pBlock ?_|refine pSkip ?_|refine pRet ?_|refine pCond ?_|refine gNone ?_))
    refine ldB_is rfl e0 rfl ?_
    cases po with
    | true =>
      rw [if_pos rfl] at eT
      rw [eT]
      (repeat(first|refine pSeq ?_|refine pReg ?_|refine sCons ?_|refine sNil ?_|refine pBlock ?_|refine pSkip ?_|refine pRet ?_|refine pCond ?_|refine gNone ?_))
      (repeat (first | with_reducible refine sqRet ?_ | with_reducible refine bkRet ?_ | with_reducible refine hdRet ?_))
      exact ⟨rfl, c0⟩
    | false =>
      rw [if_neg (by simp)] at eT
      (repeat(first|refine pSeq ?_|refine pReg ?_|refine sCons ?_|refine sNil ?_|refine pBlock ?_|refine pSkip ?_|refine pRet ?_|refine pCond ?_|refine gNone ?_))
      refine ldN_is (new := [str a, str d]) rfl e0 rfl ?_
      (repeat(first|refine pSeq ?_|refine pReg ?_|refine sCons ?_|refine sNil ?_|refine pBlock ?_|refine pSkip ?_|refine pRet ?_|refine pCond ?_|refine gNone ?_))
      refine (may_w (a := a) (d := d) (by omega) (by omega)).mono fun v s1 q => ?_
      obtain ⟨rfl, c1⟩ := q
      have e1 := c1.blk _ _ (Nat.lt_succ_self _) (by simp) e0
      cases hm : mayF a d with
      | false =>
        rw [hm, if_pos rfl] at eT
        rw [eT]
        (repeat(first|refine pSeq ?_|refine pReg ?_|refine sCons ?_|refine sNil ?_|refine pBlock ?_|refine pSkip ?_|refine pRet ?_|refine pCond ?_|refine gNone ?_))
        intro q hq
        obtain rfl : q = true := hq
        (repeat(first|refine pSeq ?_|refine pReg ?_|refine sCons ?_|refine sNil ?_|refine pBlock ?_|refine pSkip ?_|refine pRet ?_|refine pCond ?_|refine gNone ?_))
        (repeat (first | with_reducible refine sqRet ?_ | with_reducible refine bkRet ?_ | with_reducible refine hdRet ?_))
        exact ⟨rfl, c0.nil c1⟩
      | true =>
        rw [hm, if_neg (by simp)] at eT
        rw [eT]
        (repeat(first|refine pSeq ?_|refine pReg ?_|refine sCons ?_|refine sNil ?_|refine pBlock ?_|refine pSkip ?_|refine pRet ?_|refine pCond ?_|refine gNone ?_))
        intro q hq
        obtain rfl : q = false := hq
        (repeat(first|refine pSeq ?_|refine pReg ?_|refine sCons ?_|refine sNil ?_|refine pBlock ?_|refine pSkip ?_|refine pRet ?_|refine pCond ?_|refine gNone ?_))
        refine ldN_is (new := [str a, str d]) rfl e1 rfl ?_
        (repeat(first|refine pSeq ?_|refine pReg ?_|refine sCons ?_|refine sNil ?_|refine pBlock ?_|refine pSkip ?_|refine pRet ?_|refine pCond ?_|refine gNone ?_))
        refine (text_w (a := a) (d := d) ((hG.chg c0 (by simp)).chg c1 (by simp)) (by omega) (by omega)).mono fun v s2 q => ?_
        obtain ⟨rfl, c2⟩ := q
        have hs := @text_short a d
        (repeat(first|refine pSeq ?_|refine pReg ?_|refine sCons ?_|refine sNil ?_|refine pBlock ?_|refine pSkip ?_|refine pRet ?_|refine pCond ?_|refine gNone ?_))
        refine ⟨by simp; omega, ?_⟩
        intro w hw
        subst hw
        (repeat(first|refine pSeq ?_|refine pReg ?_|refine sCons ?_|refine sNil ?_|refine pBlock ?_|refine pSkip ?_|refine pRet ?_|refine pCond ?_|refine gNone ?_))
        refine ⟨by simp; omega, ?_⟩
        intro w hw
        subst hw
        (repeat(first|refine pSeq ?_|refine pReg ?_|refine sCons ?_|refine sNil ?_|refine pBlock ?_|refine pSkip ?_|refine pRet ?_|refine pCond ?_|refine gNone ?_))
        exact ⟨rfl, (c0.nil c1).nil c2⟩
end Go.Vf.S

import Derived.Test.YtgdkekacalmjoaaDoorPaG
import Derived.Test.YtgdkekacalmjoaaDoorPaE
/- Paths: what is read. -/
namespace Go.Vf.S
open Go Go.Vf
attribute [local irreducible] wSeq wRow wp wG
set_option linter.unusedVariables false
set_option linter.unusedSimpArgs false
set_option maxRecDepth 10000

abbrev tPt : TypeId := 26
structure Pth where
  null : Bool
  post : Bool
  route : List (List UInt8)
  a : List UInt8
  d : List UInt8
def ptZ : Pth := ⟨false, false, [], [], []⟩
def ptCells (p : Pth) (W : Option Addr) (cw : Nat) : List Value := [.bool p.null, .bool p.post, .slice W p.route.length cw, str p.a, str p.d]
abbrev ptV (p : Pth) (W : Option Addr) (cw : Nat) : Value := .agg ⟨ptCells p W cw⟩
theorem agg_Pt : aggB pr tPt = some true := by kernel_rfl
theorem sz_Pt : sizeB pr tPt = some 5 := by kernel_rfl
theorem agg5 {p : Pth} {W : Option Addr} {cw : Nat} : takeN 5 ((ptCells p W cw).drop 0) = some (ptCells p W cw) := rfl
theorem row_none {s : SS} : RowAt6 s none 0 [] := ⟨own_none, by simp⟩
theorem RowAt6.chg {s s' : SS} {W : Option Addr} {cw : Nat} {d : List (List UInt8)} {A : List Nat} (h : RowAt6 s W cw d) (c : Chg s s' A) (hA : ∀ id ∈ blkOf W, id ∉ A) : RowAt6 s' W cw d := ⟨h.1.chg c hA, h.2⟩

def pmL : List UInt8 := [112, 111, 115, 116, 109, 97, 115, 116, 101, 114]
def madeF (route : List (List UInt8)) (l : List UInt8) : Pth × Nat :=
  if route = [] ∧ l = [] then (⟨true, false, [], [], []⟩, 0) else if route = [] ∧ l.map lowB = pmL then (⟨false, true, [], [], []⟩, 0) else (⟨false, false, route, (parseF l).1, (parseF l).2.1⟩, (parseF l).2.2)

set_option maxHeartbeats 1000000 in
theorem pmade_w {s : SS} {l : List UInt8} {route : List (List UInt8)} {W : Option Addr} {cw : Nat} (hG : Gb s) (hr : RowAt6 s W cw route) (hl : l.length ≤ 900000) :
    CallW pr n_path_madeOf [.slice W route.length cw, str l] s fun v s' => ∃ W' cw', v = .tuple ⟨[ptV (madeF route l).1 W' cw', .int .i64 (madeF route l).2]⟩ ∧ RowAt6 s' W' cw' (madeF route l).1.route ∧ Chg s s' [] ∧ (W' = none ∨ W' = W) := by
  have eF : madeF route l = if route = [] ∧ l = [] then (⟨true, false, [], [], []⟩, 0) else if route = [] ∧ l.map lowB = pmL then (⟨false, true, [], [], []⟩, 0) else (⟨false, false, route, (parseF l).1, (parseF l).2.1⟩, (parseF l).2.2) := rfl
  refine CallW.run good ok_path_madeOf (by simp) rfl ?_
  have cA : Chg s { s with heap := (s.next, some (.cells (ptCells ptZ none 0) tPt false false)) :: s.heap, next := s.next + 1 } [] := .new _
  (repeat(first|refine pSeq ?_|refine pReg ?_|refine sCons ?_|refine sNil ?_|refine pBlock ?_|refine pSkip ?_|refine pRet ?_|refine pCond ?_|refine gNone ?_|refine gOn rfl ?_|refine gOff rfl rfl ?_|refine gTup rfl ?_))
  rcases W with _ | A
  · obtain rfl : route = [] := hr.2.1 rfl
    obtain ⟨-, -, rfl⟩ := hr.1
    intro q hq
    obtain rfl : q = true := hq
    (repeat(first|refine pSeq ?_|refine pReg ?_|refine sCons ?_|refine sNil ?_|refine pBlock ?_|refine pSkip ?_|refine pRet ?_|refine pCond ?_|refine gNone ?_|refine gOn rfl ?_|refine gOff rfl rfl ?_|refine gTup rfl ?_))
    intro q hq
    by_cases h0 : l = []
    · obtain rfl : q = true := by rw [hq, h0]; rfl
      rw [if_pos ⟨rfl, h0⟩] at eF
      rw [eF]
      (repeat(first|refine pSeq ?_|refine pReg ?_|refine sCons ?_|refine sNil ?_|refine pBlock ?_|refine pSkip ?_|refine pRet ?_|refine pCond ?_|refine gNone ?_|refine gOn rfl ?_|refine gOff rfl rfl ?_|refine gTup rfl ?_))
      refine st_abs (cs' := ptCells ⟨true, false, [], [], []⟩ none 0) rfl rfl lkH (Nat.lt_succ_self _) rfl rfl fun s1 e1 c1 n1 => ?_
      (repeat(first|refine pSeq ?_|refine pReg ?_|refine sCons ?_|refine sNil ?_|refine pBlock ?_|refine pSkip ?_|refine pRet ?_|refine pCond ?_|refine gNone ?_|refine gOn rfl ?_|refine gOff rfl rfl ?_|refine gTup rfl ?_))
      (repeat (first | with_reducible refine sqRet ?_ | with_reducible refine bkRet ?_ | with_reducible refine hdRet ?_))
      exact ret_cell agg_Pt sz_Pt rfl e1 agg5 rfl ⟨none, 0, rfl, row_none, cA.fresh c1 (by simp), .inl rfl⟩
    · obtain rfl : q = false := by rw [hq]; simpa using h0
      rw [if_neg (by simp [h0])] at eF
      (repeat(first|refine pSeq ?_|refine pReg ?_|refine sCons ?_|refine sNil ?_|refine pBlock ?_|refine pSkip ?_|refine pRet ?_|refine pCond ?_|refine gNone ?_|refine gOn rfl ?_|refine gOff rfl rfl ?_|refine gTup rfl ?_))
      intro q hq
      obtain rfl : q = true := hq
      (repeat(first|refine pSeq ?_|refine pReg ?_|refine sCons ?_|refine sNil ?_|refine pBlock ?_|refine pSkip ?_|refine pRet ?_|refine pCond ?_|refine gNone ?_|refine gOn rfl ?_|refine gOff rfl rfl ?_|refine gTup rfl ?_))
      refine (same_w (t := [80, 111, 115, 116, 109, 97, 115, 116, 101, 114]) (by omega) (by simp)).mono fun v s1 q => ?_
      obtain ⟨rfl, c1⟩ := q
      have e7 : decide (l.map lowB = [80, 111, 115, 116, 109, 97, 115, 116, 101, 114].map lowB) = decide (l.map lowB = pmL) := rfl
      rw [e7]
      have k1 := c1.blk _ _ (Nat.lt_succ_self s.next) (by simp) lkH
      have n1 := c1.next
      have n1 : s.next + 1 ≤ s1.next := n1
      by_cases hp : l.map lowB = pmL
      · rw [decide_eq_true hp]
        rw [if_pos ⟨rfl, hp⟩] at eF
        rw [eF]
        (repeat(first|refine pSeq ?_|refine pReg ?_|refine sCons ?_|refine sNil ?_|refine pBlock ?_|refine pSkip ?_|refine pRet ?_|refine pCond ?_|refine gNone ?_|refine gOn rfl ?_|refine gOff rfl rfl ?_|refine gTup rfl ?_))
        refine st_abs (cs' := ptCells ⟨false, true, [], [], []⟩ none 0) rfl rfl k1 (by omega) rfl rfl fun s2 e2 c2 n2 => ?_
        (repeat(first|refine pSeq ?_|refine pReg ?_|refine sCons ?_|refine sNil ?_|refine pBlock ?_|refine pSkip ?_|refine pRet ?_|refine pCond ?_|refine gNone ?_|refine gOn rfl ?_|refine gOff rfl rfl ?_|refine gTup rfl ?_))
        (repeat (first | with_reducible refine sqRet ?_ | with_reducible refine bkRet ?_ | with_reducible refine hdRet ?_))
        exact ret_cell agg_Pt sz_Pt rfl e2 agg5 rfl ⟨none, 0, rfl, row_none, (cA.nil c1).fresh c2 (by simp), .inl rfl⟩
      · rw [decide_eq_false hp]
        rw [if_neg (by simp [hp])] at eF
        rw [eF]
        (repeat(first|refine pSeq ?_|refine pReg ?_|refine sCons ?_|refine sNil ?_|refine pBlock ?_|refine pSkip ?_|refine pRet ?_|refine pCond ?_|refine gNone ?_|refine gOn rfl ?_|refine gOff rfl rfl ?_|refine gTup rfl ?_))
        refine (parse_w ((hG.chg cA (by simp)).chg c1 (by simp)) (by omega)).mono fun v s2 q => ?_
        obtain ⟨rfl, c2⟩ := q
        have k2 := c2.blk _ _ n1 (by simp) k1
        have n2 := c2.next
        generalize parseF l = Q at *
        obtain ⟨a, d, e⟩ := Q
        dsimp only at eF ⊢
        (repeat(first|refine pSeq ?_|refine pReg ?_|refine sCons ?_|refine sNil ?_|refine pBlock ?_|refine pSkip ?_|refine pRet ?_|refine pCond ?_|refine gNone ?_|refine gOn rfl ?_|refine gOff rfl rfl ?_|refine gTup rfl ?_))
        refine st_abs (cs' := [str a, str d]) rfl rfl lkH (Nat.lt_succ_self _) rfl rfl fun s3 e3 c3 n3 => ?_
        have c23 : Chg s2 s3 [] := (Chg.new []).fresh c3 (by simp)
        have k3 := c23.blk _ _ (by omega) (by simp) k2
        have n3' := c23.next
        (repeat(first|refine pSeq ?_|refine pReg ?_|refine sCons ?_|refine sNil ?_|refine pBlock ?_|refine pSkip ?_|refine pRet ?_|refine pCond ?_|refine gNone ?_|refine gOn rfl ?_|refine gOff rfl rfl ?_|refine gTup rfl ?_))
        refine ldN_is rfl e3 agg2 ?_
        (repeat(first|refine pSeq ?_|refine pReg ?_|refine sCons ?_|refine sNil ?_|refine pBlock ?_|refine pSkip ?_|refine pRet ?_|refine pCond ?_|refine gNone ?_|refine gOn rfl ?_|refine gOff rfl rfl ?_|refine gTup rfl ?_))
        refine st_abs (cs' := ptCells ⟨false, false, [], a, d⟩ none 0) rfl rfl k3 (by omega) rfl rfl fun s4 e4 c4 n4 => ?_
        (repeat(first|refine pSeq ?_|refine pReg ?_|refine sCons ?_|refine sNil ?_|refine pBlock ?_|refine pSkip ?_|refine pRet ?_|refine pCond ?_|refine gNone ?_|refine gOn rfl ?_|refine gOff rfl rfl ?_|refine gTup rfl ?_))
        (repeat (first | with_reducible refine sqRet ?_ | with_reducible refine bkRet ?_ | with_reducible refine hdRet ?_))
        exact ret_cell agg_Pt sz_Pt rfl e4 agg5 rfl ⟨none, 0, rfl, row_none, (((cA.nil c1).nil c2).nil c23).fresh c4 (by simp), .inl rfl⟩
  · have hne : route ≠ [] := fun e => by have := hr.2.2 e; cases this
    rw [if_neg (by simp [hne]), if_neg (by simp [hne])] at eF
    rw [eF]
    have hlt := hr.1.lt A.block (by simp [blkOf])
    intro q hq
    obtain rfl : q = false := hq
    (repeat(first|refine pSeq ?_|refine pReg ?_|refine sCons ?_|refine sNil ?_|refine pBlock ?_|refine pSkip ?_|refine pRet ?_|refine pCond ?_|refine gNone ?_|refine gOn rfl ?_|refine gOff rfl rfl ?_|refine gTup rfl ?_))
    intro q hq
    obtain rfl : q = false := hq
    (repeat(first|refine pSeq ?_|refine pReg ?_|refine sCons ?_|refine sNil ?_|refine pBlock ?_|refine pSkip ?_|refine pRet ?_|refine pCond ?_|refine gNone ?_|refine gOn rfl ?_|refine gOff rfl rfl ?_|refine gTup rfl ?_))
    refine (parse_w (hG.chg cA (by simp)) (by omega)).mono fun v s2 q => ?_
    obtain ⟨rfl, c2⟩ := q
    have k2 := c2.blk _ _ (Nat.lt_succ_self s.next) (by simp) lkH
    have n2 := c2.next
    have n2 : s.next + 1 ≤ s2.next := n2
    generalize parseF l = Q at *
    obtain ⟨a, d, e⟩ := Q
    dsimp only at eF ⊢
    (repeat(first|refine pSeq ?_|refine pReg ?_|refine sCons ?_|refine sNil ?_|refine pBlock ?_|refine pSkip ?_|refine pRet ?_|refine pCond ?_|refine gNone ?_|refine gOn rfl ?_|refine gOff rfl rfl ?_|refine gTup rfl ?_))
    refine st_abs (cs' := [str a, str d]) rfl rfl lkH (Nat.lt_succ_self _) rfl rfl fun s3 e3 c3 n3 => ?_
    have c23 : Chg s2 s3 [] := (Chg.new []).fresh c3 (by simp)
    have k3 := c23.blk _ _ (by omega) (by simp) k2
    have n3' := c23.next
    (repeat(first|refine pSeq ?_|refine pReg ?_|refine sCons ?_|refine sNil ?_|refine pBlock ?_|refine pSkip ?_|refine pRet ?_|refine pCond ?_|refine gNone ?_|refine gOn rfl ?_|refine gOff rfl rfl ?_|refine gTup rfl ?_))
    refine ldN_is rfl e3 agg2 ?_
    (repeat(first|refine pSeq ?_|refine pReg ?_|refine sCons ?_|refine sNil ?_|refine pBlock ?_|refine pSkip ?_|refine pRet ?_|refine pCond ?_|refine gNone ?_|refine gOn rfl ?_|refine gOff rfl rfl ?_|refine gTup rfl ?_))
    refine st_abs (cs' := ptCells ⟨false, false, route, a, d⟩ (some A) cw) rfl rfl k3 (by omega) rfl rfl fun s4 e4 c4 n4 => ?_
    have cc : Chg s s4 [] := ((cA.nil c2).nil c23).fresh c4 (by simp)
    (repeat(first|refine pSeq ?_|refine pReg ?_|refine sCons ?_|refine sNil ?_|refine pBlock ?_|refine pSkip ?_|refine pRet ?_|refine pCond ?_|refine gNone ?_|refine gOn rfl ?_|refine gOff rfl rfl ?_|refine gTup rfl ?_))
    (repeat (first | with_reducible refine sqRet ?_ | with_reducible refine bkRet ?_ | with_reducible refine hdRet ?_))
    exact ret_cell agg_Pt sz_Pt rfl e4 agg5 rfl ⟨some A, cw, rfl, hr.chg cc (by simp), cc, .inr rfl⟩
end Go.Vf.S

import Derived.Test.YtafdbfpclolpkaaHaC
import Derived.Test.YtafdbfpclolpkaaLbF
/- Words: added, as bytes; a block's words. -/
namespace Go.Vf.S
open Go Go.Vf
attribute [local irreducible] wSeq wRow wp wG
set_option linter.unusedVariables false
set_option linter.unusedSimpArgs false
set_option maxRecDepth 10000

theorem wds_set {l : List Wd} {p : Nat} (h : p < l.length) (x : Wd) : setRow (wdsV l) p [wv x] = some (wdsV (l.set p x)) := by
  rw [setRow_one (by rw [wds_len]; exact h)]
  simp [wdsV, List.map_set]
/-- A block of one's own as it stands: nothing else is told of it. -/
abbrev ptrV (b : Nat) : Value := .pointer (some ⟨b, 0, none⟩)

/-- Blocks that are laid one after another. -/
theorem new1_at {s : SS} (f : Fine s) (b0 : ABlk) : lookH ((s.next, some b0) :: s.heap) s.next = some b0 ∧ Chg s { s with heap := (s.next, some b0) :: s.heap, next := s.next + 1 } [] ∧ Fine { s with heap := (s.next, some b0) :: s.heap, next := s.next + 1 } :=
  ⟨lkH, .new [], (Chg.new []).fine f⟩
theorem new2_at {s : SS} (f : Fine s) (b0 b1 : ABlk) : lookH ((s.next + 1, some b1) :: (s.next, some b0) :: s.heap) s.next = some b0 ∧ lookH ((s.next + 1, some b1) :: (s.next, some b0) :: s.heap) (s.next + 1) = some b1
    ∧ Chg s { s with heap := (s.next + 1, some b1) :: (s.next, some b0) :: s.heap, next := s.next + 1 + 1 } [] ∧ Fine { s with heap := (s.next + 1, some b1) :: (s.next, some b0) :: s.heap, next := s.next + 1 + 1 } := by
  obtain ⟨h1, h2, h3⟩ := new1_at f b0
  obtain ⟨k1, k2, k3⟩ := new1_at h3 b1
  exact ⟨lkT (by omega) lkH, lkH, h2.nil k2, k3⟩
theorem new3_at {s : SS} (f : Fine s) (b0 b1 b2 : ABlk) : lookH ((s.next + 1 + 1, some b2) :: (s.next + 1, some b1) :: (s.next, some b0) :: s.heap) s.next = some b0 ∧ lookH ((s.next + 1 + 1, some b2) :: (s.next + 1, some b1) :: (s.next, some b0) :: s.heap) (s.next + 1) = some b1
    ∧ lookH ((s.next + 1 + 1, some b2) :: (s.next + 1, some b1) :: (s.next, some b0) :: s.heap) (s.next + 1 + 1) = some b2
    ∧ Chg s { s with heap := (s.next + 1 + 1, some b2) :: (s.next + 1, some b1) :: (s.next, some b0) :: s.heap, next := s.next + 1 + 1 + 1 } [] ∧ Fine { s with heap := (s.next + 1 + 1, some b2) :: (s.next + 1, some b1) :: (s.next, some b0) :: s.heap, next := s.next + 1 + 1 + 1 } := by
  obtain ⟨h0, h1, h2, h3⟩ := new2_at f b0 b1
  obtain ⟨k1, k2, k3⟩ := new1_at h3 b2
  exact ⟨lkT (by omega) h0, lkT (by omega) h1, lkH, h2.nil k2, k3⟩

theorem new4_at {s : SS} (f : Fine s) (b0 b1 b2 b3 : ABlk) : lookH ((s.next + 1 + 1 + 1, some b3) :: (s.next + 1 + 1, some b2) :: (s.next + 1, some b1) :: (s.next, some b0) :: s.heap) s.next = some b0 ∧ lookH ((s.next + 1 + 1 + 1, some b3) :: (s.next + 1 + 1, some b2) :: (s.next + 1, some b1) :: (s.next, some b0) :: s.heap) (s.next + 1) = some b1
    ∧ lookH ((s.next + 1 + 1 + 1, some b3) :: (s.next + 1 + 1, some b2) :: (s.next + 1, some b1) :: (s.next, some b0) :: s.heap) (s.next + 1 + 1) = some b2 ∧ lookH ((s.next + 1 + 1 + 1, some b3) :: (s.next + 1 + 1, some b2) :: (s.next + 1, some b1) :: (s.next, some b0) :: s.heap) (s.next + 1 + 1 + 1) = some b3
    ∧ Chg s { s with heap := (s.next + 1 + 1 + 1, some b3) :: (s.next + 1 + 1, some b2) :: (s.next + 1, some b1) :: (s.next, some b0) :: s.heap, next := s.next + 1 + 1 + 1 + 1 } [] ∧ Fine { s with heap := (s.next + 1 + 1 + 1, some b3) :: (s.next + 1 + 1, some b2) :: (s.next + 1, some b1) :: (s.next, some b0) :: s.heap, next := s.next + 1 + 1 + 1 + 1 } := by
  obtain ⟨h0, h1, h2, h3, h4⟩ := new3_at f b0 b1 b2
  obtain ⟨k1, k2, k3⟩ := new1_at h4 b3
  exact ⟨lkT (by omega) h0, lkT (by omega) h1, lkT (by omega) h2, lkH, h3.nil k2, k3⟩

/-- Added so far. -/
def mixW (x y : List Wd) (p : Nat) : List Wd := (List.zipWith (· + ·) x y).take p ++ x.drop p
theorem mixW_len (x y : W5) (p : Nat) (hp : p ≤ 5) : (mixW x.l y.l p).length = 5 := by
  unfold mixW
  rw [List.length_append, List.length_take, List.length_zipWith, List.length_drop]
  show min p (min 5 5) + (5 - p) = 5
  omega
theorem mixW_next (x y : W5) {p : Nat} (hp : p < 5) : mixW x.l y.l (p + 1) = (mixW x.l y.l p).set p ((mixW x.l y.l p).getD p 0 + y.l.getD p 0) := by
  have : p = 0 ∨ p = 1 ∨ p = 2 ∨ p = 3 ∨ p = 4 := by omega
  rcases this with rfl | rfl | rfl | rfl | rfl <;> rfl

theorem addw_w {s : SS} {x y : W5} (f : Fine s) : CallW pr n_hash_words_add [x.V, y.V] s fun v s' => v = (x.add y).V ∧ Chg s s' [] := by
  refine CallW.run good ok_hash_words_add (by simp) rfl ?_
  (repeat(first|refine pSeq ?_|refine pReg ?_|refine sCons ?_|refine sNil ?_|refine rCons ?_|refine rNil ?_|refine kNo ?_|refine pRow ?_|refine pBlock ?_|refine pSkip ?_|refine pExit ?_|refine pRet ?_|refine pCond ?_|refine gNone ?_))
  refine pLoop (MW.head good (fun p : Nat × SS => 5 - p.1) (fun p => p.1 ≤ 5 ∧ lookH p.2.heap s.next = some (.cells (wdsV (mixW x.l y.l p.1)) tW5 false false) ∧ lookH p.2.heap (s.next + 1) = some (.cells (wdsV y.l) tW5 false false)
      ∧ lookH p.2.heap (s.next + 1 + 1) = some (.cells (wdsV [0, 0, 0, 0, 0]) tW5 false false) ∧ Chg s p.2 [] ∧ p.2.next = s.next + 1 + 1 + 1 ∧ Fine p.2)
    (fun p => [(2, ptrV s.next), (3, ptrV (s.next + 1)), (4, ptrV (s.next + 1 + 1)), (6, .int .i64 p.1)]) (fun p => p.2) (0, _) ?_ (Wk.same ⟨rfl, rfl, rfl, rfl, trivial⟩) ?_)
  · obtain ⟨h1, h2, h3, h4, h5⟩ := new3_at f (.cells (wdsV x.l) tW5 false false) (.cells (wdsV y.l) tW5 false false) (.cells (wdsV [0, 0, 0, 0, 0]) tW5 false false)
    exact ⟨Nat.zero_le _, h1, h2, h3, h4, rfl, h5⟩
  intro ⟨p, s1⟩ ⟨hp, h2, h3, h4, c1, n1, f1⟩
  dsimp only at hp h2 h3 h4 c1 n1 f1 ⊢
  (repeat(first|refine pSeq ?_|refine pReg ?_|refine sCons ?_|refine sNil ?_|refine rCons ?_|refine rNil ?_|refine kNo ?_|refine pRow ?_|refine pBlock ?_|refine pSkip ?_|refine pExit ?_|refine pRet ?_|refine pCond ?_|refine gNone ?_))
  intro q hq
  by_cases h5 : p = 5
  · subst h5
    obtain rfl : q = false := by rw [hq]; simp <;> omega
    (repeat(first|refine pSeq ?_|refine pReg ?_|refine sCons ?_|refine sNil ?_|refine rCons ?_|refine rNil ?_|refine kNo ?_|refine pRow ?_|refine pBlock ?_|refine pSkip ?_|refine pExit ?_|refine pRet ?_|refine pCond ?_|refine gNone ?_))
    refine ldN_is rfl h2 (wds_take (mixW_len x y 5 (by omega))) ?_
    (repeat(first|refine pSeq ?_|refine pReg ?_|refine sCons ?_|refine sNil ?_|refine rCons ?_|refine rNil ?_|refine kNo ?_|refine pRow ?_|refine pBlock ?_|refine pSkip ?_|refine pExit ?_|refine pRet ?_|refine pCond ?_|refine gNone ?_))
    refine st_abs (cs' := wdsV (x.add y).l) rfl rfl h4 (by omega) rfl rfl fun s2 e2 c2 n2 => ?_
    (repeat(first|refine pSeq ?_|refine pReg ?_|refine sCons ?_|refine sNil ?_|refine rCons ?_|refine rNil ?_|refine kNo ?_|refine pRow ?_|refine pBlock ?_|refine pSkip ?_|refine pExit ?_|refine pRet ?_|refine pCond ?_|refine gNone ?_))
    (repeat (first | with_reducible refine sqRet ?_ | with_reducible refine bkRet ?_ | with_reducible refine hdRet ?_))
    exact ret_cell1 agg_W5 sz_W5 rfl e2 (wds_take rfl) ⟨rfl, c1.fresh c2 (by simp; omega)⟩
  · obtain rfl : q = true := by rw [hq]; simp <;> omega
    (repeat(first|refine pSeq ?_|refine pReg ?_|refine sCons ?_|refine sNil ?_|refine rCons ?_|refine rNil ?_|refine kNo ?_|refine pRow ?_|refine pBlock ?_|refine pSkip ?_|refine pExit ?_|refine pRet ?_|refine pCond ?_|refine gNone ?_))
    refine ⟨by omega, ?_⟩
    intro m hm o ho
    obtain rfl : m = p := by omega
    obtain rfl : o = m := by omega
    (repeat(first|refine pSeq ?_|refine pReg ?_|refine sCons ?_|refine sNil ?_|refine rCons ?_|refine rNil ?_|refine kNo ?_|refine pRow ?_|refine pBlock ?_|refine pSkip ?_|refine pExit ?_|refine pRet ?_|refine pCond ?_|refine gNone ?_))
    refine ldI_is rfl h2 (wds_get (by rw [mixW_len x y o hp]; omega)) ?_
    (repeat(first|refine pSeq ?_|refine pReg ?_|refine sCons ?_|refine sNil ?_|refine rCons ?_|refine rNil ?_|refine kNo ?_|refine pRow ?_|refine pBlock ?_|refine pSkip ?_|refine pExit ?_|refine pRet ?_|refine pCond ?_|refine gNone ?_))
    refine ⟨by omega, ?_⟩
    intro m hm o' ho
    obtain rfl : m = o := by omega
    obtain rfl : o' = m := by omega
    (repeat(first|refine pSeq ?_|refine pReg ?_|refine sCons ?_|refine sNil ?_|refine rCons ?_|refine rNil ?_|refine kNo ?_|refine pRow ?_|refine pBlock ?_|refine pSkip ?_|refine pExit ?_|refine pRet ?_|refine pCond ?_|refine gNone ?_))
    refine ldI_is rfl h3 (wds_get (show o' < 5 by omega)) ?_
    (repeat(first|refine pSeq ?_|refine pReg ?_|refine sCons ?_|refine sNil ?_|refine rCons ?_|refine rNil ?_|refine kNo ?_|refine pRow ?_|refine pBlock ?_|refine pSkip ?_|refine pExit ?_|refine pRet ?_|refine pCond ?_|refine gNone ?_))
    intro z hz
    rw [add_u32] at hz
    subst hz
    (repeat(first|refine pSeq ?_|refine pReg ?_|refine sCons ?_|refine sNil ?_|refine rCons ?_|refine rNil ?_|refine kNo ?_|refine pRow ?_|refine pBlock ?_|refine pSkip ?_|refine pExit ?_|refine pRet ?_|refine pCond ?_|refine gNone ?_))
    refine ⟨by omega, ?_⟩
    intro m hm o ho
    obtain rfl : m = o' := by omega
    obtain rfl : o = m := by omega
    (repeat(first|refine pSeq ?_|refine pReg ?_|refine sCons ?_|refine sNil ?_|refine rCons ?_|refine rNil ?_|refine kNo ?_|refine pRow ?_|refine pBlock ?_|refine pSkip ?_|refine pExit ?_|refine pRet ?_|refine pCond ?_|refine gNone ?_))
    refine st_abs (cs' := wdsV (mixW x.l y.l (o + 1))) rfl rfl h2 (by omega) rfl (by rw [mixW_next x y (by omega)]; exact wds_set (by rw [mixW_len x y o hp]; omega) _) fun s2 e2 c2 n2 => ?_
    (repeat(first|refine pSeq ?_|refine pReg ?_|refine sCons ?_|refine sNil ?_|refine rCons ?_|refine rNil ?_|refine kNo ?_|refine pRow ?_|refine pBlock ?_|refine pSkip ?_|refine pExit ?_|refine pRet ?_|refine pCond ?_|refine gNone ?_))
    intro z hz
    rw [i64_id (by omega)] at hz
    subst hz
    (repeat(first|refine pSeq ?_|refine pReg ?_|refine sCons ?_|refine sNil ?_|refine rCons ?_|refine rNil ?_|refine kNo ?_|refine pRow ?_|refine pBlock ?_|refine pSkip ?_|refine pExit ?_|refine pRet ?_|refine pCond ?_|refine gNone ?_))
    exact ⟨(o + 1, s2), ⟨by omega, e2, c2.blk _ _ (by omega) (by simp) h3, c2.blk _ _ (by omega) (by simp <;> omega) h4, c1.fresh c2 (by simp), n2.trans n1, c2.fine f1⟩, by show 5 - (o + 1) < 5 - o; omega, Wk.same ⟨rfl, rfl, rfl, rfl, trivial⟩⟩
end Go.Vf.S

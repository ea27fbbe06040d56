import Derived.Test.YtneanogeebbjiaaDoorTxE
import Derived.Test.YtneanogeebbjiaaDoorTxF
/- White space and comments at the front. -/
namespace Go.Vf.S
open Go Go.Vf
attribute [local irreducible] wSeq wRow wp wG
set_option linter.unusedVariables false
set_option linter.unusedSimpArgs false
set_option maxRecDepth 10000

def bl : Nat → List UInt8 → Nat → Nat × Nat
  | 0, _, a => (a, 0)
  | f + 1, l, a =>
    if (l.dropWhile wh).take 1 = [40] then
      (if (commentF (l.dropWhile wh)).2 = 0 then bl f ((l.dropWhile wh).drop (commentF (l.dropWhile wh)).1) (a + (l.length - (l.dropWhile wh).length) + (commentF (l.dropWhile wh)).1) else (0, (commentF (l.dropWhile wh)).2))
    else (a + (l.length - (l.dropWhile wh).length), 0)
def blankF (l : List UInt8) : Nat × Nat := bl (l.length + 1) l 0

theorem dropW_len (l : List UInt8) : (l.dropWhile wh).length ≤ l.length := (List.dropWhile_sublist wh).length_le
theorem dropW (l : List UInt8) : l.dropWhile wh = l.drop (l.length - (l.dropWhile wh).length) := by
  obtain ⟨t, ht⟩ := List.dropWhile_suffix (l := l) wh
  have e := congrArg List.length ht
  rw [List.length_append] at e
  rw [show l.length - (l.dropWhile wh).length = t.length by omega]
  conv => rhs; rw [← ht]
  rw [List.drop_left]

theorem cm_pos : ∀ (l : List UInt8) (d : Nat) (e : Bool) (i n : Nat), cm l d e i = (n, 0) → i < n ∧ n ≤ i + l.length
  | [], d, e, i, n, h => by simp [cm] at h
  | c :: r, d, e, i, n, h => by
    have ih := fun d e n h => cm_pos r d e (i + 1) n h
    rw [cm] at h
    simp only [List.length_cons]
    split at h
    · cases h
    · repeat' split at h
      all_goals first | (have := ih _ _ _ h; omega) | (cases h; omega) | cases h
theorem comment_pos {l : List UInt8} (h : (commentF l).2 = 0) : 0 < (commentF l).1 ∧ (commentF l).1 ≤ l.length := by
  unfold commentF at h ⊢
  split at h
  · rename_i q
    rw [if_pos q]
    have := cm_pos l 0 false 0 (cm l 0 false 0).1 (Prod.ext rfl h)
    omega
  · cases h

theorem bl_nil {f a : Nat} (hf : 0 < f) : bl f [] a = (a, 0) := by
  cases f with
  | zero => omega
  | succ f => simp [bl]
theorem bl_wh {f a : Nat} {c : UInt8} {r : List UInt8} (hf : 0 < f) (h : wh c = true) : bl f (c :: r) a = bl f r (a + 1) := by
  cases f with
  | zero => omega
  | succ f =>
    have e : (c :: r).dropWhile wh = r.dropWhile wh := by rw [List.dropWhile_cons, if_pos h]
    have := dropW_len r
    rw [bl, bl, e, List.length_cons, show a + (r.length + 1 - (r.dropWhile wh).length) = a + 1 + (r.length - (r.dropWhile wh).length) by omega]
theorem bl_no {f a : Nat} {c : UInt8} {r : List UInt8} (hf : 0 < f) (h : wh c = false) (h40 : c.toNat ≠ 40) : bl f (c :: r) a = (a, 0) := by
  cases f with
  | zero => omega
  | succ f =>
    have e : (c :: r).dropWhile wh = c :: r := by rw [List.dropWhile_cons, if_neg (by simp [h])]
    rw [bl, e, if_neg (by simp; intro q; exact h40 (by rw [q]; rfl))]
    simp
theorem bl_open {f a : Nat} {c : UInt8} {r : List UInt8} (h40 : c.toNat = 40) : bl (f + 1) (c :: r) a = if (commentF (c :: r)).2 = 0 then bl f ((c :: r).drop (commentF (c :: r)).1) (a + (commentF (c :: r)).1) else (0, (commentF (c :: r)).2) := by
  have hw : wh c = false := by unfold wh; simp; omega
  have e : (c :: r).dropWhile wh = c :: r := by rw [List.dropWhile_cons, if_neg (by simp [hw])]
  rw [bl, e, if_pos (by simp; exact UInt8.toNat_inj.1 h40), Nat.sub_self, Nat.add_zero]

structure BIt where
  f : Nat
  m : Nat
  s : SS

theorem blank_w {s : SS} {l : List UInt8} (hl : l.length ≤ 1000000) : CallW pr n_text_Blank [str l] s fun v s' => v = cRes (blankF l) ∧ Chg s s' [] := by
  refine CallW.run good ok_text_Blank (by simp) rfl ?_
  (repeat (first | refine pSeq ?_ | refine pReg ?_ | refine sRaw ?_ | refine sCons ?_ | refine sNil ?_ | refine rCons ?_ | refine rNil ?_ | refine kNo ?_ | refine pRow ?_ | refine pBlock ?_ | refine pSkip ?_ | refine pExit ?_ | refine pRet ?_ | refine pCond ?_ | refine gNone ?_ | refine gOn rfl ?_ | refine gOff rfl rfl ?_ | refine gTup rfl ?_))
  refine pLoop (MW.head good (fun x : BIt => x.f) (fun x => bl x.f (l.drop x.m) x.m = blankF l ∧ x.m ≤ l.length ∧ l.length - x.m < x.f ∧ Chg s x.s [])
    (fun x => [(0, str l), (2, .int .i64 x.m)]) (fun x => x.s) ⟨l.length + 1, 0, s⟩ ⟨rfl, Nat.zero_le _, Nat.lt_succ_self _, .refl _ _⟩ (Wk.same ⟨rfl, rfl, trivial⟩) ?_)
  intro ⟨f, m, s1⟩ ⟨h0, hm, hf, c1⟩
  dsimp only at h0 hm hf c1 ⊢
  cases f with
  | zero => omega
  | succ f =>
  rw [bl] at h0
  have hdl : (l.drop m).length = l.length - m := List.length_drop
  have hrl := dropW_len (l.drop m)
  have hr := dropW (l.drop m)
  generalize hrw : (l.drop m).dropWhile wh = r at h0 hrl hr
  (repeat (first | refine pSeq ?_ | refine pReg ?_ | refine sRaw ?_ | refine sCons ?_ | refine sNil ?_ | refine rCons ?_ | refine rNil ?_ | refine kNo ?_ | refine pRow ?_ | refine pBlock ?_ | refine pSkip ?_ | refine pExit ?_ | refine pRet ?_ | refine pCond ?_ | refine gNone ?_ | refine gOn rfl ?_ | refine gOff rfl rfl ?_ | refine gTup rfl ?_))
  refine ⟨by omega, ?_⟩
  intro m2 hm2 d hd
  obtain rfl : m2 = m := by omega
  have ed : d = l.drop m2 := by rw [hd, List.take_of_length_le (by omega)]
  clear hd
  subst ed
  (repeat (first | refine pSeq ?_ | refine pReg ?_ | refine sRaw ?_ | refine sCons ?_ | refine sNil ?_ | refine rCons ?_ | refine rNil ?_ | refine kNo ?_ | refine pRow ?_ | refine pBlock ?_ | refine pSkip ?_ | refine pExit ?_ | refine pRet ?_ | refine pCond ?_ | refine gNone ?_ | refine gOn rfl ?_ | refine gOff rfl rfl ?_ | refine gTup rfl ?_))
  refine (trimLeft_w (by omega)).mono fun v s2 q => ?_
  obtain ⟨rfl, c2⟩ := q
  rw [show (l.drop m2).dropWhile wh = r from hrw]
  (repeat (first | refine pSeq ?_ | refine pReg ?_ | refine sRaw ?_ | refine sCons ?_ | refine sNil ?_ | refine rCons ?_ | refine rNil ?_ | refine kNo ?_ | refine pRow ?_ | refine pBlock ?_ | refine pSkip ?_ | refine pExit ?_ | refine pRet ?_ | refine pCond ?_ | refine gNone ?_ | refine gOn rfl ?_ | refine gOff rfl rfl ?_ | refine gTup rfl ?_))
  intro n1 hn1
  (repeat (first | refine pSeq ?_ | refine pReg ?_ | refine sRaw ?_ | refine sCons ?_ | refine sNil ?_ | refine rCons ?_ | refine rNil ?_ | refine kNo ?_ | refine pRow ?_ | refine pBlock ?_ | refine pSkip ?_ | refine pExit ?_ | refine pRet ?_ | refine pCond ?_ | refine gNone ?_ | refine gOn rfl ?_ | refine gOff rfl rfl ?_ | refine gTup rfl ?_))
  intro n2 hn2
  (repeat (first | refine pSeq ?_ | refine pReg ?_ | refine sRaw ?_ | refine sCons ?_ | refine sNil ?_ | refine rCons ?_ | refine rNil ?_ | refine kNo ?_ | refine pRow ?_ | refine pBlock ?_ | refine pSkip ?_ | refine pExit ?_ | refine pRet ?_ | refine pCond ?_ | refine gNone ?_ | refine gOn rfl ?_ | refine gOff rfl rfl ?_ | refine gTup rfl ?_))
  intro z hz
  rw [i64_id (by omega)] at hz
  have hz' : z = ((l.length - r.length : Nat) : Int) := by omega
  subst hz'
  have ez : m2 + ((l.drop m2).length - r.length) = l.length - r.length := by omega
  rw [ez] at h0
  clear hz
  (repeat (first | refine pSeq ?_ | refine pReg ?_ | refine sRaw ?_ | refine sCons ?_ | refine sNil ?_ | refine rCons ?_ | refine rNil ?_ | refine kNo ?_ | refine pRow ?_ | refine pBlock ?_ | refine pSkip ?_ | refine pExit ?_ | refine pRet ?_ | refine pCond ?_ | refine gNone ?_ | refine gOn rfl ?_ | refine gOff rfl rfl ?_ | refine gTup rfl ?_))
  refine prefix_w.mono fun v s3 q => ?_
  obtain ⟨rfl, rfl⟩ := q
  (repeat (first | refine pSeq ?_ | refine pReg ?_ | refine sRaw ?_ | refine sCons ?_ | refine sNil ?_ | refine rCons ?_ | refine rNil ?_ | refine kNo ?_ | refine pRow ?_ | refine pBlock ?_ | refine pSkip ?_ | refine pExit ?_ | refine pRet ?_ | refine pCond ?_ | refine gNone ?_ | refine gOn rfl ?_ | refine gOff rfl rfl ?_ | refine gTup rfl ?_))
  intro q hq
  by_cases hfr : r.take 1 = [40]
  · obtain rfl : q = false := by rw [hq]; simp [hfr]
    rw [if_pos hfr] at h0
    (repeat (first | refine pSeq ?_ | refine pReg ?_ | refine sRaw ?_ | refine sCons ?_ | refine sNil ?_ | refine rCons ?_ | refine rNil ?_ | refine kNo ?_ | refine pRow ?_ | refine pBlock ?_ | refine pSkip ?_ | refine pExit ?_ | refine pRet ?_ | refine pCond ?_ | refine gNone ?_ | refine gOn rfl ?_ | refine gOff rfl rfl ?_ | refine gTup rfl ?_))
    refine (comment_w (by omega)).mono fun v s4 q => ?_
    obtain ⟨rfl, c4⟩ := q
    (repeat (first | refine pSeq ?_ | refine pReg ?_ | refine sRaw ?_ | refine sCons ?_ | refine sNil ?_ | refine rCons ?_ | refine rNil ?_ | refine kNo ?_ | refine pRow ?_ | refine pBlock ?_ | refine pSkip ?_ | refine pExit ?_ | refine pRet ?_ | refine pCond ?_ | refine gNone ?_ | refine gOn rfl ?_ | refine gOff rfl rfl ?_ | refine gTup rfl ?_))
    intro b hb
    have c04 := (c1.nil c2).nil c4
    by_cases he : (commentF r).2 = 0
    · obtain rfl : b = false := by rw [hb]; simp; omega
      have hpos := comment_pos he
      rw [if_pos he] at h0
      (repeat (first | refine pSeq ?_ | refine pReg ?_ | refine sRaw ?_ | refine sCons ?_ | refine sNil ?_ | refine rCons ?_ | refine rNil ?_ | refine kNo ?_ | refine pRow ?_ | refine pBlock ?_ | refine pSkip ?_ | refine pExit ?_ | refine pRet ?_ | refine pCond ?_ | refine gNone ?_ | refine gOn rfl ?_ | refine gOff rfl rfl ?_ | refine gTup rfl ?_))
      intro z hz
      rw [i64_id (by omega)] at hz
      obtain rfl : z = ((l.length - r.length + (commentF r).1 : Nat) : Int) := by omega
      (repeat (first | refine pSeq ?_ | refine pReg ?_ | refine sRaw ?_ | refine sCons ?_ | refine sNil ?_ | refine rCons ?_ | refine rNil ?_ | refine kNo ?_ | refine pRow ?_ | refine pBlock ?_ | refine pSkip ?_ | refine pExit ?_ | refine pRet ?_ | refine pCond ?_ | refine gNone ?_ | refine gOn rfl ?_ | refine gOff rfl rfl ?_ | refine gTup rfl ?_))
      have er : r.drop (commentF r).1 = l.drop (l.length - r.length + (commentF r).1) := by
        have hrd : r = l.drop (l.length - r.length) := hr.trans (by rw [List.drop_drop, hdl]; congr 1; omega)
        exact (congrArg (List.drop (commentF r).1) hrd).trans (by rw [List.drop_drop])
      refine ⟨⟨f, l.length - r.length + (commentF r).1, s4⟩, ⟨by rw [← er]; exact h0, ?_, ?_, c04⟩, Nat.lt_succ_self _, Wk.same ⟨rfl, rfl, trivial⟩⟩
      · show l.length - r.length + (commentF r).1 ≤ l.length
        omega
      · show l.length - (l.length - r.length + (commentF r).1) < f
        omega
    · obtain rfl : b = true := by rw [hb]; simp; omega
      rw [if_neg he] at h0
      (repeat (first | refine pSeq ?_ | refine pReg ?_ | refine sRaw ?_ | refine sCons ?_ | refine sNil ?_ | refine rCons ?_ | refine rNil ?_ | refine kNo ?_ | refine pRow ?_ | refine pBlock ?_ | refine pSkip ?_ | refine pExit ?_ | refine pRet ?_ | refine pCond ?_ | refine gNone ?_ | refine gOn rfl ?_ | refine gOff rfl rfl ?_ | refine gTup rfl ?_))
      rw [← h0]
      exact ⟨rfl, c04⟩
  · obtain rfl : q = true := by rw [hq]; simp [hfr]
    rw [if_neg hfr] at h0
    (repeat (first | refine pSeq ?_ | refine pReg ?_ | refine sRaw ?_ | refine sCons ?_ | refine sNil ?_ | refine rCons ?_ | refine rNil ?_ | refine kNo ?_ | refine pRow ?_ | refine pBlock ?_ | refine pSkip ?_ | refine pExit ?_ | refine pRet ?_ | refine pCond ?_ | refine gNone ?_ | refine gOn rfl ?_ | refine gOff rfl rfl ?_ | refine gTup rfl ?_))
    rw [← h0]
    exact ⟨rfl, c1.nil c2⟩

theorem rblank_w {s : SS} {l : List UInt8} (hl : l.length ≤ 1000000) : CallW pr n_ref04_Blank [str l] s fun v s' => v = cRes (blankF l) ∧ s' = s := by
  refine CallW.run good ok_ref04_Blank (by simp) rfl ?_
  (repeat (first | refine pSeq ?_ | refine pReg ?_ | refine sRaw ?_ | refine sCons ?_ | refine sNil ?_ | refine rCons ?_ | refine rNil ?_ | refine kNo ?_ | refine pRow ?_ | refine pBlock ?_ | refine pSkip ?_ | refine pExit ?_ | refine pRet ?_ | refine pCond ?_ | refine gNone ?_ | refine gOn rfl ?_ | refine gOff rfl rfl ?_ | refine gTup rfl ?_))
  refine pLoop (MW.head good (fun x : Nat × Nat => l.length - x.2) (fun x => bl x.1 (l.drop x.2) x.2 = blankF l ∧ x.2 ≤ l.length ∧ l.length - x.2 < x.1)
    (fun x => [(0, str l), (4, .int .i64 x.2)]) (fun x => s) (l.length + 1, 0) ⟨rfl, Nat.zero_le _, Nat.lt_succ_self _⟩ (Wk.same ⟨rfl, rfl, trivial⟩) ?_)
  intro ⟨f, m⟩ ⟨h0, hm, hf⟩
  dsimp only at h0 hm hf ⊢
  (repeat (first | refine pSeq ?_ | refine pReg ?_ | refine sRaw ?_ | refine sCons ?_ | refine sNil ?_ | refine rCons ?_ | refine rNil ?_ | refine kNo ?_ | refine pRow ?_ | refine pBlock ?_ | refine pSkip ?_ | refine pExit ?_ | refine pRet ?_ | refine pCond ?_ | refine gNone ?_ | refine gOn rfl ?_ | refine gOff rfl rfl ?_ | refine gTup rfl ?_))
  intro n hn
  (repeat (first | refine pSeq ?_ | refine pReg ?_ | refine sRaw ?_ | refine sCons ?_ | refine sNil ?_ | refine rCons ?_ | refine rNil ?_ | refine kNo ?_ | refine pRow ?_ | refine pBlock ?_ | refine pSkip ?_ | refine pExit ?_ | refine pRet ?_ | refine pCond ?_ | refine gNone ?_ | refine gOn rfl ?_ | refine gOff rfl rfl ?_ | refine gTup rfl ?_))
  intro q hq
  by_cases hlt : m < l.length
  · obtain rfl : q = true := by rw [hq]; simp <;> omega
    obtain ⟨c, hc⟩ : ∃ c, l[m]? = some c := ⟨_, List.getElem?_eq_getElem hlt⟩
    have hdl : (l.drop m).length = l.length - m := List.length_drop
    have hd := drop_next hc
    rw [hd] at h0
    (repeat (first | refine pSeq ?_ | refine pReg ?_ | refine sRaw ?_ | refine sCons ?_ | refine sNil ?_ | refine rCons ?_ | refine rNil ?_ | refine kNo ?_ | refine pRow ?_ | refine pBlock ?_ | refine pSkip ?_ | refine pExit ?_ | refine pRet ?_ | refine pCond ?_ | refine gNone ?_ | refine gOn rfl ?_ | refine gOff rfl rfl ?_ | refine gTup rfl ?_))
    refine ⟨by omega, ?_⟩
    intro m2 hm2
    obtain rfl : m2 = m := by omega
    refine ⟨c, hc, ?_⟩
    (repeat (first | refine pSeq ?_ | refine pReg ?_ | refine sRaw ?_ | refine sCons ?_ | refine sNil ?_ | refine rCons ?_ | refine rNil ?_ | refine kNo ?_ | refine pRow ?_ | refine pBlock ?_ | refine pSkip ?_ | refine pExit ?_ | refine pRet ?_ | refine pCond ?_ | refine gNone ?_ | refine gOn rfl ?_ | refine gOff rfl rfl ?_ | refine gTup rfl ?_))
    intro q hq
    by_cases h32 : c.toNat = 32
    · obtain rfl : q = true := by rw [hq]; simp <;> omega
      rw [bl_wh (by omega) (by simp [wh, h32])] at h0
      (repeat (first | refine pSeq ?_ | refine pReg ?_ | refine sRaw ?_ | refine sCons ?_ | refine sNil ?_ | refine rCons ?_ | refine rNil ?_ | refine kNo ?_ | refine pRow ?_ | refine pBlock ?_ | refine pSkip ?_ | refine pExit ?_ | refine pRet ?_ | refine pCond ?_ | refine gNone ?_ | refine gOn rfl ?_ | refine gOff rfl rfl ?_ | refine gTup rfl ?_))
      intro z hz
      rw [i64_id (by omega)] at hz
      obtain rfl : z = ((m2 + 1 : Nat) : Int) := by omega
      (repeat (first | refine pSeq ?_ | refine pReg ?_ | refine sRaw ?_ | refine sCons ?_ | refine sNil ?_ | refine rCons ?_ | refine rNil ?_ | refine kNo ?_ | refine pRow ?_ | refine pBlock ?_ | refine pSkip ?_ | refine pExit ?_ | refine pRet ?_ | refine pCond ?_ | refine gNone ?_ | refine gOn rfl ?_ | refine gOff rfl rfl ?_ | refine gTup rfl ?_))
      exact ⟨(f, m2 + 1), ⟨h0, hlt, by show l.length - (m2 + 1) < f; omega⟩, by show l.length - (m2 + 1) < l.length - m2; omega, Wk.same ⟨rfl, rfl, trivial⟩⟩
    · obtain rfl : q = false := by rw [hq]; simp <;> omega
      (repeat (first | refine pSeq ?_ | refine pReg ?_ | refine sRaw ?_ | refine sCons ?_ | refine sNil ?_ | refine rCons ?_ | refine rNil ?_ | refine kNo ?_ | refine pRow ?_ | refine pBlock ?_ | refine pSkip ?_ | refine pExit ?_ | refine pRet ?_ | refine pCond ?_ | refine gNone ?_ | refine gOn rfl ?_ | refine gOff rfl rfl ?_ | refine gTup rfl ?_))
      refine ⟨by omega, ?_⟩
      intro m3 hm3
      obtain rfl : m3 = m2 := by omega
      refine ⟨c, hc, ?_⟩
      (repeat (first | refine pSeq ?_ | refine pReg ?_ | refine sRaw ?_ | refine sCons ?_ | refine sNil ?_ | refine rCons ?_ | refine rNil ?_ | refine kNo ?_ | refine pRow ?_ | refine pBlock ?_ | refine pSkip ?_ | refine pExit ?_ | refine pRet ?_ | refine pCond ?_ | refine gNone ?_ | refine gOn rfl ?_ | refine gOff rfl rfl ?_ | refine gTup rfl ?_))
      intro q hq
      by_cases h9 : c.toNat = 9
      · obtain rfl : q = true := by rw [hq]; simp <;> omega
        rw [bl_wh (by omega) (by simp [wh, h9])] at h0
        (repeat (first | refine pSeq ?_ | refine pReg ?_ | refine sRaw ?_ | refine sCons ?_ | refine sNil ?_ | refine rCons ?_ | refine rNil ?_ | refine kNo ?_ | refine pRow ?_ | refine pBlock ?_ | refine pSkip ?_ | refine pExit ?_ | refine pRet ?_ | refine pCond ?_ | refine gNone ?_ | refine gOn rfl ?_ | refine gOff rfl rfl ?_ | refine gTup rfl ?_))
        intro z hz
        rw [i64_id (by omega)] at hz
        obtain rfl : z = ((m3 + 1 : Nat) : Int) := by omega
        (repeat (first | refine pSeq ?_ | refine pReg ?_ | refine sRaw ?_ | refine sCons ?_ | refine sNil ?_ | refine rCons ?_ | refine rNil ?_ | refine kNo ?_ | refine pRow ?_ | refine pBlock ?_ | refine pSkip ?_ | refine pExit ?_ | refine pRet ?_ | refine pCond ?_ | refine gNone ?_ | refine gOn rfl ?_ | refine gOff rfl rfl ?_ | refine gTup rfl ?_))
        exact ⟨(f, m3 + 1), ⟨h0, hlt, by show l.length - (m3 + 1) < f; omega⟩, by show l.length - (m3 + 1) < l.length - m3; omega, Wk.same ⟨rfl, rfl, trivial⟩⟩
      · obtain rfl : q = false := by rw [hq]; simp <;> omega
        (repeat (first | refine pSeq ?_ | refine pReg ?_ | refine sRaw ?_ | refine sCons ?_ | refine sNil ?_ | refine rCons ?_ | refine rNil ?_ | refine kNo ?_ | refine pRow ?_ | refine pBlock ?_ | refine pSkip ?_ | refine pExit ?_ | refine pRet ?_ | refine pCond ?_ | refine gNone ?_ | refine gOn rfl ?_ | refine gOff rfl rfl ?_ | refine gTup rfl ?_))
        refine ⟨by omega, ?_⟩
        intro m4 hm4
        obtain rfl : m4 = m3 := by omega
        refine ⟨c, hc, ?_⟩
        (repeat (first | refine pSeq ?_ | refine pReg ?_ | refine sRaw ?_ | refine sCons ?_ | refine sNil ?_ | refine rCons ?_ | refine rNil ?_ | refine kNo ?_ | refine pRow ?_ | refine pBlock ?_ | refine pSkip ?_ | refine pExit ?_ | refine pRet ?_ | refine pCond ?_ | refine gNone ?_ | refine gOn rfl ?_ | refine gOff rfl rfl ?_ | refine gTup rfl ?_))
        intro q hq
        by_cases h40 : c.toNat = 40
        · obtain rfl : q = false := by rw [hq]; simp <;> omega
          cases f with
          | zero => omega
          | succ f =>
          rw [bl_open h40, ← hd] at h0
          (repeat (first | refine pSeq ?_ | refine pReg ?_ | refine sRaw ?_ | refine sCons ?_ | refine sNil ?_ | refine rCons ?_ | refine rNil ?_ | refine kNo ?_ | refine pRow ?_ | refine pBlock ?_ | refine pSkip ?_ | refine pExit ?_ | refine pRet ?_ | refine pCond ?_ | refine gNone ?_ | refine gOn rfl ?_ | refine gOff rfl rfl ?_ | refine gTup rfl ?_))
          refine ⟨by omega, ?_⟩
          intro m5 hm5 d hdd
          obtain rfl : m5 = m4 := by omega
          have ed : d = l.drop m5 := by rw [hdd, List.take_of_length_le (by omega)]
          clear hdd
          subst ed
          (repeat (first | refine pSeq ?_ | refine pReg ?_ | refine sRaw ?_ | refine sCons ?_ | refine sNil ?_ | refine rCons ?_ | refine rNil ?_ | refine kNo ?_ | refine pRow ?_ | refine pBlock ?_ | refine pSkip ?_ | refine pExit ?_ | refine pRet ?_ | refine pCond ?_ | refine gNone ?_ | refine gOn rfl ?_ | refine gOff rfl rfl ?_ | refine gTup rfl ?_))
          refine (rcomment_w (by omega)).mono fun v s q => ?_
          obtain ⟨rfl, rfl⟩ := q
          (repeat (first | refine pSeq ?_ | refine pReg ?_ | refine sRaw ?_ | refine sCons ?_ | refine sNil ?_ | refine rCons ?_ | refine rNil ?_ | refine kNo ?_ | refine pRow ?_ | refine pBlock ?_ | refine pSkip ?_ | refine pExit ?_ | refine pRet ?_ | refine pCond ?_ | refine gNone ?_ | refine gOn rfl ?_ | refine gOff rfl rfl ?_ | refine gTup rfl ?_))
          intro b hb
          by_cases he : (commentF (l.drop m5)).2 = 0
          · obtain rfl : b = false := by rw [hb]; simp; omega
            have hpos := comment_pos he
            rw [if_pos he, List.drop_drop] at h0
            (repeat (first | refine pSeq ?_ | refine pReg ?_ | refine sRaw ?_ | refine sCons ?_ | refine sNil ?_ | refine rCons ?_ | refine rNil ?_ | refine kNo ?_ | refine pRow ?_ | refine pBlock ?_ | refine pSkip ?_ | refine pExit ?_ | refine pRet ?_ | refine pCond ?_ | refine gNone ?_ | refine gOn rfl ?_ | refine gOff rfl rfl ?_ | refine gTup rfl ?_))
            intro z hz
            rw [i64_id (by omega)] at hz
            obtain rfl : z = ((m5 + (commentF (l.drop m5)).1 : Nat) : Int) := by omega
            (repeat (first | refine pSeq ?_ | refine pReg ?_ | refine sRaw ?_ | refine sCons ?_ | refine sNil ?_ | refine rCons ?_ | refine rNil ?_ | refine kNo ?_ | refine pRow ?_ | refine pBlock ?_ | refine pSkip ?_ | refine pExit ?_ | refine pRet ?_ | refine pCond ?_ | refine gNone ?_ | refine gOn rfl ?_ | refine gOff rfl rfl ?_ | refine gTup rfl ?_))
            exact ⟨(f, m5 + (commentF (l.drop m5)).1), ⟨h0, by show m5 + (commentF (l.drop m5)).1 ≤ l.length; omega, by show l.length - (m5 + (commentF (l.drop m5)).1) < f; omega⟩, by show l.length - (m5 + (commentF (l.drop m5)).1) < l.length - m5; omega, Wk.same ⟨rfl, rfl, trivial⟩⟩
          · obtain rfl : b = true := by rw [hb]; simp; omega
            rw [if_neg he] at h0
            (repeat (first | refine pSeq ?_ | refine pReg ?_ | refine sRaw ?_ | refine sCons ?_ | refine sNil ?_ | refine rCons ?_ | refine rNil ?_ | refine kNo ?_ | refine pRow ?_ | refine pBlock ?_ | refine pSkip ?_ | refine pExit ?_ | refine pRet ?_ | refine pCond ?_ | refine gNone ?_ | refine gOn rfl ?_ | refine gOff rfl rfl ?_ | refine gTup rfl ?_))
            rw [← h0]
            exact ⟨rfl, rfl⟩
        · obtain rfl : q = true := by rw [hq]; simp <;> omega
          rw [bl_no (by omega) (by simp [wh]; omega) h40] at h0
          (repeat (first | refine pSeq ?_ | refine pReg ?_ | refine sRaw ?_ | refine sCons ?_ | refine sNil ?_ | refine rCons ?_ | refine rNil ?_ | refine kNo ?_ | refine pRow ?_ | refine pBlock ?_ | refine pSkip ?_ | refine pExit ?_ | refine pRet ?_ | refine pCond ?_ | refine gNone ?_ | refine gOn rfl ?_ | refine gOff rfl rfl ?_ | refine gTup rfl ?_))
          rw [← h0]
          exact ⟨rfl, rfl⟩
  · obtain rfl : q = false := by rw [hq]; simp <;> omega
    rw [List.drop_of_length_le (by omega), bl_nil (by omega)] at h0
    (repeat (first | refine pSeq ?_ | refine pReg ?_ | refine sRaw ?_ | refine sCons ?_ | refine sNil ?_ | refine rCons ?_ | refine rNil ?_ | refine kNo ?_ | refine pRow ?_ | refine pBlock ?_ | refine pSkip ?_ | refine pExit ?_ | refine pRet ?_ | refine pCond ?_ | refine gNone ?_ | refine gOn rfl ?_ | refine gOff rfl rfl ?_ | refine gTup rfl ?_))
    rw [← h0]
    exact ⟨rfl, rfl⟩
end Go.Vf.S

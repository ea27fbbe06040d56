import Derived.Test.YtgdkekacalmjoaaDoorTxN
import Derived.Test.YtgdkekacalmjoaaDoorTxO
/- Dot-atoms; white space at both ends. -/
namespace Go.Vf.S
open Go Go.Vf
attribute [local irreducible] wSeq wRow wp wG
set_option linter.unusedVariables false
set_option linter.unusedSimpArgs false
set_option maxRecDepth 10000

def dotF (l : List UInt8) : Bool := (splitF 46 l).all atomF

theorem dotatom_w {s : SS} {l : List UInt8} (hG : Gb s) (hl : l.length ≤ 1000000) : CallW pr n_text_DotAtom [str l] s fun v s' => v = .bool (dotF l) ∧ Chg s s' [] := by
  refine CallW.run good ok_text_DotAtom (by simp) rfl ?_
  (repeat(first|refine pSeq ?_|refine pReg ?_|refine sCons ?_|refine sNil ?_|refine pBlock ?_|refine pSkip ?_|refine pExit ?_|refine pRet ?_|refine pCond ?_|refine gNone ?_))
  refine (Split_w (c := 46) hl).mono fun v s1 q => ?_
  obtain ⟨base, cap, rfl, h1, c1, hB⟩ := q
  generalize hls : splitF 46 l = ls at *
  obtain ⟨b, rfl, cs, t, g, r, h2, h3⟩ := h1.at
  have hlen : ls.length ≤ 1000001 := by
    rw [← hls, split_len]
    have := List.count_le_length (a := (46 : UInt8)) (l := l)
    omega
  (repeat(first|refine pSeq ?_|refine pReg ?_|refine sCons ?_|refine sNil ?_|refine pBlock ?_|refine pSkip ?_|refine pExit ?_|refine pRet ?_|refine pCond ?_|refine gNone ?_))
  refine pLoop (MW.head good (fun x : SIt => ls.length - x.i) (fun x => x.i ≤ ls.length ∧ Chg s x.s [] ∧ Chg s1 x.s [] ∧ (ls.take x.i).all atomF = true) (fun x => [(6, .slice (some ⟨b, 0, none⟩) ls.length cap), (7, .int .i64 ls.length), (8, .int .i64 x.i)]) (fun x => x.s) ⟨0, s1⟩ ⟨Nat.zero_le _, c1, .refl _ _, rfl⟩ (Wk.same ⟨rfl, rfl, rfl, trivial⟩) ?_)
  intro ⟨i, s2⟩ ⟨hi, c2, c12, h4⟩
  dsimp only at hi c2 c12 h4 ⊢
  (repeat(first|refine pSeq ?_|refine pReg ?_|refine sCons ?_|refine sNil ?_|refine pBlock ?_|refine pSkip ?_|refine pExit ?_|refine pRet ?_|refine pCond ?_|refine gNone ?_))
  intro q hq
  by_cases hlt : i < ls.length
  · obtain rfl : q = true := by rw [hq]; simp <;> omega
    obtain ⟨x, hx⟩ : ∃ x, ls[i]? = some x := ⟨_, List.getElem?_eq_getElem hlt⟩
    (repeat(first|refine pSeq ?_|refine pReg ?_|refine sCons ?_|refine sNil ?_|refine pBlock ?_|refine pSkip ?_|refine pExit ?_|refine pRet ?_|refine pCond ?_|refine gNone ?_))
    refine ⟨by omega, ?_⟩
    intro m hm o ho
    obtain rfl : m = i := by omega
    (repeat(first|refine pSeq ?_|refine pReg ?_|refine sCons ?_|refine sNil ?_|refine pBlock ?_|refine pSkip ?_|refine pExit ?_|refine pRet ?_|refine pCond ?_|refine gNone ?_))
    have hb2 := c12.blk b _ (by obtain ⟨_, _, _, _, _, e, q, _⟩ := h1; cases e; exact q) (by simp) h2
    refine ldS_is rfl hb2 (by rw [ho, Nat.zero_add, Nat.mul_one]; exact h3 m x hx) ?_
    (repeat(first|refine pSeq ?_|refine pReg ?_|refine sCons ?_|refine sNil ?_|refine pBlock ?_|refine pSkip ?_|refine pExit ?_|refine pRet ?_|refine pCond ?_|refine gNone ?_))
    refine (atom_w (hG.chg c2 (by simp))).mono fun v s3 q => ?_
    obtain ⟨rfl, c3⟩ := q
    (repeat(first|refine pSeq ?_|refine pReg ?_|refine sCons ?_|refine sNil ?_|refine pBlock ?_|refine pSkip ?_|refine pExit ?_|refine pRet ?_|refine pCond ?_|refine gNone ?_))
    intro q hq
    by_cases ha : atomF x = true
    · obtain rfl : q = false := by rw [hq, ha]; rfl
      (repeat(first|refine pSeq ?_|refine pReg ?_|refine sCons ?_|refine sNil ?_|refine pBlock ?_|refine pSkip ?_|refine pExit ?_|refine pRet ?_|refine pCond ?_|refine gNone ?_))
      intro z hz
      rw [i64_id (by omega)] at hz
      obtain rfl : z = ((m + 1 : Nat) : Int) := by omega
      (repeat(first|refine pSeq ?_|refine pReg ?_|refine sCons ?_|refine sNil ?_|refine pBlock ?_|refine pSkip ?_|refine pExit ?_|refine pRet ?_|refine pCond ?_|refine gNone ?_))
      exact ⟨⟨m + 1, s3⟩, ⟨hlt, c2.nil c3, c12.nil c3, by rw [take_next hx]; simp [h4, ha]⟩, by show ls.length - (m + 1) < ls.length - m; omega, Wk.same ⟨rfl, rfl, rfl, trivial⟩⟩
    · obtain rfl : q = true := by rw [hq]; simp [ha]
      (repeat(first|refine pSeq ?_|refine pReg ?_|refine sCons ?_|refine sNil ?_|refine pBlock ?_|refine pSkip ?_|refine pExit ?_|refine pRet ?_|refine pCond ?_|refine gNone ?_))
      refine ⟨bool_eq ?_, c2.nil c3⟩
      unfold dotF
      rw [hls]
      symm
      rw [List.all_eq_false]
      exact ⟨x, List.mem_of_getElem? hx, by simp [ha]⟩
  · obtain rfl : q = false := by rw [hq]; simp <;> omega
    (repeat(first|refine pSeq ?_|refine pReg ?_|refine sCons ?_|refine sNil ?_|refine pBlock ?_|refine pSkip ?_|refine pExit ?_|refine pRet ?_|refine pCond ?_|refine gNone ?_))
    refine ⟨bool_eq ?_, c2⟩
    unfold dotF
    rw [hls, ← h4, List.take_of_length_le (by omega)]

/-- The document's way: was the byte ahead a point? -/
def da : Bool → List UInt8 → Bool
  | p, [] => !p
  | p, c :: r => if c = 46 then (if p then false else da true r) else if letB c then da false r else false
theorem da_is : ∀ (l : List UInt8) (p : Bool), da p l = ((sp 46 l).1.all letB && (!p || !(sp 46 l).1.isEmpty) && (sp 46 l).2.all atomF)
  | [], p => by cases p <;> rfl
  | c :: r, p => by
    have i1 := da_is r true
    have i2 := da_is r false
    rw [da, sp]
    by_cases h : c = 46
    · rw [if_pos h, if_pos h, i1]
      cases p <;> simp [atomF, Bool.and_assoc]
    · rw [if_neg h, if_neg h, i2]
      simp only [List.all_cons, List.isEmpty_cons, Bool.not_false, Bool.or_true, Bool.and_true, Bool.true_or]
      cases hb : letB c
      · rfl
      · simp only [if_true, Bool.true_and]
theorem dot_da (l : List UInt8) : dotF l = da true l := by
  rw [da_is]
  simp [dotF, splitF, atomF]

theorem rdotatom_w {s : SS} {l : List UInt8} (hl : l.length ≤ 1000000) : CallW pr n_ref04_DotAtom [str l] s fun v s' => v = .bool (dotF l) ∧ s' = s := by
  refine CallW.run good ok_ref04_DotAtom (by simp) rfl ?_
  (repeat(first|refine pSeq ?_|refine pReg ?_|refine sCons ?_|refine sNil ?_|refine pBlock ?_|refine pSkip ?_|refine pExit ?_|refine pRet ?_|refine pCond ?_|refine gNone ?_))
  refine pLoop (MW.head good (fun x : Nat × Bool => l.length - x.1) (fun x => x.1 ≤ l.length ∧ da x.2 (l.drop x.1) = dotF l) (fun x => [(0, str l), (3, .bool x.2), (4, .int .i64 x.1)]) (fun x => s) (0, true) ⟨Nat.zero_le _, (dot_da l).symm⟩ (Wk.same ⟨rfl, rfl, rfl, trivial⟩) ?_)
  intro ⟨i, p⟩ ⟨h1, h2⟩
  dsimp only at h1 h2 ⊢
  (repeat(first|refine pSeq ?_|refine pReg ?_|refine sCons ?_|refine sNil ?_|refine pBlock ?_|refine pSkip ?_|refine pExit ?_|refine pRet ?_|refine pCond ?_|refine gNone ?_))
  intro n hn
  (repeat(first|refine pSeq ?_|refine pReg ?_|refine sCons ?_|refine sNil ?_|refine pBlock ?_|refine pSkip ?_|refine pExit ?_|refine pRet ?_|refine pCond ?_|refine gNone ?_))
  intro q hq
  by_cases hlt : i < l.length
  · obtain rfl : q = true := by rw [hq]; simp <;> omega
    obtain ⟨c, hc⟩ : ∃ c, l[i]? = some c := ⟨_, List.getElem?_eq_getElem hlt⟩
    rw [drop_next hc, da] at h2
    (repeat(first|refine pSeq ?_|refine pReg ?_|refine sCons ?_|refine sNil ?_|refine pBlock ?_|refine pSkip ?_|refine pExit ?_|refine pRet ?_|refine pCond ?_|refine gNone ?_))
    refine ⟨by omega, ?_⟩
    intro m hm
    obtain rfl : m = i := by omega
    refine ⟨c, hc, ?_⟩
    (repeat(first|refine pSeq ?_|refine pReg ?_|refine sCons ?_|refine sNil ?_|refine pBlock ?_|refine pSkip ?_|refine pExit ?_|refine pRet ?_|refine pCond ?_|refine gNone ?_))
    intro q hq
    by_cases h46 : c.toNat = 46
    · obtain rfl : q = true := by rw [hq]; simp <;> omega
      have hc46 : c = 46 := UInt8.toNat_inj.1 h46
      rw [if_pos hc46] at h2
      cases p with
      | true =>
        (repeat(first|refine pSeq ?_|refine pReg ?_|refine sCons ?_|refine sNil ?_|refine pBlock ?_|refine pSkip ?_|refine pExit ?_|refine pRet ?_|refine pCond ?_|refine gNone ?_))
        exact ⟨bool_eq h2, rfl⟩
      | false =>
        (repeat(first|refine pSeq ?_|refine pReg ?_|refine sCons ?_|refine sNil ?_|refine pBlock ?_|refine pSkip ?_|refine pExit ?_|refine pRet ?_|refine pCond ?_|refine gNone ?_))
        intro z hz
        rw [i64_id (by omega)] at hz
        obtain rfl : z = ((m + 1 : Nat) : Int) := by omega
        (repeat(first|refine pSeq ?_|refine pReg ?_|refine sCons ?_|refine sNil ?_|refine pBlock ?_|refine pSkip ?_|refine pExit ?_|refine pRet ?_|refine pCond ?_|refine gNone ?_))
        exact ⟨(m + 1, true), ⟨hlt, h2⟩, by show l.length - (m + 1) < l.length - m; omega, Wk.same ⟨rfl, rfl, rfl, trivial⟩⟩
    · obtain rfl : q = false := by rw [hq]; simp <;> omega
      have hc46 : ¬c = 46 := fun e => h46 (by rw [e]; rfl)
      rw [if_neg hc46] at h2
      (repeat(first|refine pSeq ?_|refine pReg ?_|refine sCons ?_|refine sNil ?_|refine pBlock ?_|refine pSkip ?_|refine pExit ?_|refine pRet ?_|refine pCond ?_|refine gNone ?_))
      refine ⟨by omega, ?_⟩
      intro m2 hm2
      obtain rfl : m2 = m := by omega
      refine ⟨c, hc, ?_⟩
      (repeat(first|refine pSeq ?_|refine pReg ?_|refine sCons ?_|refine sNil ?_|refine pBlock ?_|refine pSkip ?_|refine pExit ?_|refine pRet ?_|refine pCond ?_|refine gNone ?_))
      refine letter_w.mono fun v s q => ?_
      obtain ⟨rfl, rfl⟩ := q
      (repeat(first|refine pSeq ?_|refine pReg ?_|refine sCons ?_|refine sNil ?_|refine pBlock ?_|refine pSkip ?_|refine pExit ?_|refine pRet ?_|refine pCond ?_|refine gNone ?_))
      intro q hq
      by_cases hb : letB c = true
      · obtain rfl : q = false := by rw [hq, hb]; rfl
        rw [if_pos hb] at h2
        (repeat(first|refine pSeq ?_|refine pReg ?_|refine sCons ?_|refine sNil ?_|refine pBlock ?_|refine pSkip ?_|refine pExit ?_|refine pRet ?_|refine pCond ?_|refine gNone ?_))
        intro z hz
        rw [i64_id (by omega)] at hz
        obtain rfl : z = ((m2 + 1 : Nat) : Int) := by omega
        (repeat(first|refine pSeq ?_|refine pReg ?_|refine sCons ?_|refine sNil ?_|refine pBlock ?_|refine pSkip ?_|refine pExit ?_|refine pRet ?_|refine pCond ?_|refine gNone ?_))
        exact ⟨(m2 + 1, false), ⟨hlt, h2⟩, by show l.length - (m2 + 1) < l.length - m2; omega, Wk.same ⟨rfl, rfl, rfl, trivial⟩⟩
      · obtain rfl : q = true := by rw [hq]; simp [hb]
        rw [if_neg hb] at h2
        (repeat(first|refine pSeq ?_|refine pReg ?_|refine sCons ?_|refine sNil ?_|refine pBlock ?_|refine pSkip ?_|refine pExit ?_|refine pRet ?_|refine pCond ?_|refine gNone ?_))
        exact ⟨bool_eq h2, rfl⟩
  · obtain rfl : q = false := by rw [hq]; simp <;> omega
    rw [List.drop_of_length_le (by omega), da] at h2
    (repeat(first|refine pSeq ?_|refine pReg ?_|refine sCons ?_|refine sNil ?_|refine pBlock ?_|refine pSkip ?_|refine pExit ?_|refine pRet ?_|refine pCond ?_|refine gNone ?_))
    intro q hq
    (repeat(first|refine pSeq ?_|refine pReg ?_|refine sCons ?_|refine sNil ?_|refine pBlock ?_|refine pSkip ?_|refine pExit ?_|refine pRet ?_|refine pCond ?_|refine gNone ?_))
    exact ⟨bool_eq (by rw [hq, h2]), rfl⟩

/-- Off the end. -/
def dropR (l : List UInt8) : List UInt8 := (l.reverse.dropWhile wh).reverse
def trimF (l : List UInt8) : List UInt8 := dropR (l.dropWhile wh)
theorem dropR_nil : dropR [] = [] := rfl
theorem dropR_wh {l : List UInt8} {c : UInt8} (h : wh c = true) : dropR (l ++ [c]) = dropR l := by
  unfold dropR
  rw [List.reverse_append, List.reverse_singleton, List.singleton_append, List.dropWhile_cons, if_pos h]
theorem dropR_no {l : List UInt8} {c : UInt8} (h : wh c = false) : dropR (l ++ [c]) = l ++ [c] := by
  unfold dropR
  rw [List.reverse_append, List.reverse_singleton, List.singleton_append, List.dropWhile_cons, if_neg (by simp [h])]
  simp
theorem take_last {l : List UInt8} {n : Nat} {c : UInt8} (hn : l.length = n + 1) (h : l[n]? = some c) : l = l.take n ++ [c] := by
  rw [← take_next h, List.take_of_length_le (by omega)]

theorem in_wh (c : UInt8) : inB [32, 9] c.toNat = wh c := by
  rw [Bool.eq_iff_iff]
  simp only [inB, wh, List.any_cons, List.any_nil, Bool.or_false, Bool.or_eq_true, beq_iff_eq, decide_eq_true_eq]
  have e1 : (32 : UInt8).toNat = 32 := rfl
  have e2 : (9 : UInt8).toNat = 9 := rfl
  omega

theorem dropR_cons (c : UInt8) (l : List UInt8) : dropR (c :: l) = if dropR l = [] then (if wh c then [] else [c]) else c :: dropR l := by
  unfold dropR
  rw [List.reverse_cons, List.dropWhile_append]
  by_cases h : l.reverse.dropWhile wh = []
  · rw [h]
    cases hc : wh c <;> simp [hc]
  · have h2 : (l.reverse.dropWhile wh).isEmpty = false := by cases q : l.reverse.dropWhile wh with
      | nil => exact absurd q h
      | cons a b => rfl
    rw [h2]
    simp [h]
/-- A text's ends may be taken off in either order. -/
theorem trim_comm (l : List UInt8) : trimF l = (dropR l).dropWhile wh := by
  unfold trimF
  induction l with
  | nil => rfl
  | cons c l ih =>
    rw [dropR_cons]
    cases hc : wh c with
    | true =>
      rw [List.dropWhile_cons, if_pos hc, ih]
      by_cases h : dropR l = []
      · rw [if_pos h, h]; rfl
      · rw [if_neg h, List.dropWhile_cons, if_pos hc]
    | false =>
      rw [List.dropWhile_cons, if_neg (by simp [hc]), dropR_cons, hc]
      by_cases h : dropR l = []
      · rw [if_pos h]; simp [hc]
      · rw [if_neg h, List.dropWhile_cons, if_neg (by simp [hc])]

end Go.Vf.S

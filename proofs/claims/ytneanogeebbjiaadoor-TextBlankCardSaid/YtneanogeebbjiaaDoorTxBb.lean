import Derived.Test.YtneanogeebbjiaaDoorTxS
import Derived.Test.YtneanogeebbjiaaDoorChecked
import Derived.WalkKit
import Derived.Test.YtneanogeebbjiaaDoorTxT
import Derived.Test.YtneanogeebbjiaaDoorTxH
/- What a letter is turned into. -/
namespace Go.Vf.S
open Go Go.Proofs Go.RowKit
set_option linter.unusedVariables false
set_option linter.unusedSimpArgs false

/-- The closure's answer. -/
def xl (x : Int) : Int := if x < 32 ∨ 126 < x ∨ x = 40 ∨ x = 41 ∨ x = 92 then 120 else x

theorem xl_calls (x : Nat) (W : World) (hx : x ≤ 1114111) : Calls Tryd.prog 34 #[.int .i32 (x : Int)] W fun e w' => e = .returned (.int .i32 (xl x)) ∧ w' = W := by
  go_enter Tryd.func34, Tryd.ntmps34
  go_wp2
  all_goals
    go_ret
    refine ⟨?_, rfl⟩
    first
      | (rw [show xl x = 120 from if_pos (by (try simp only [beq_iff_eq, beq_eq_false_iff_ne, ne_eq] at *); omega)]; rfl)
      | (rw [show xl x = x from if_neg (by (try simp only [beq_iff_eq, beq_eq_false_iff_ne, ne_eq] at *); omega)]; rfl)


theorem xl_runes (w : World) : MapAtRunes Tryd.prog 34 #[] xl w := fun W x hx hB => by
  show Calls Tryd.prog 34 #[encR x] W fun e w' => e = .returned (.int .i32 (xl x)) ∧ ∃ q, w' = W.drewN q
  exact (xl_calls x W hx).mono fun e w' ⟨h1, h2⟩ => ⟨h1, 0, h2⟩
theorem xl_range (x : Nat) (hx : x ≤ 1114111) : 32 ≤ xl x ∧ xl x ≤ 126 := by
  unfold xl
  split <;> omega
end Go.Vf.S

/- Texts of letters that a comment may hold; comments one in another. -/
namespace Go.Vf.S
open Go Go.Vf Go.Proofs Go.RowKit
attribute [local irreducible] wSeq wRow wp wG
set_option linter.unusedVariables false
set_option linter.unusedSimpArgs false
set_option maxRecDepth 10000

def goodB (c : UInt8) : Bool := decide (32 ≤ c.toNat ∧ c.toNat ≤ 126 ∧ c.toNat ≠ 40 ∧ c.toNat ≠ 41 ∧ c.toNat ≠ 92)
theorem good_in {c : UInt8} (h : goodB c = true) : plainB c = true ∧ c.toNat ≠ 40 ∧ c.toNat ≠ 41 ∧ c.toNat ≠ 92 := by
  have : 32 ≤ c.toNat ∧ c.toNat ≤ 126 ∧ c.toNat ≠ 40 ∧ c.toNat ≠ 41 ∧ c.toNat ≠ 92 := by simpa [goodB] using h
  exact ⟨by unfold plainB; simp; omega, by omega, by omega, by omega⟩

theorem map_good : ∀ (n : Nat) (l : List UInt8), l.length ≤ n → (Lib.mapD xl l).all goodB = true ∧ (Lib.mapD xl l).length ≤ l.length
  | 0, l, h => by
    have : l = [] := List.eq_nil_of_length_eq_zero (by omega)
    subst this
    exact ⟨rfl, Nat.le_refl _⟩
  | n + 1, l, h => by
    by_cases hl : l = []
    · subst hl; exact ⟨rfl, Nat.le_refl _⟩
    · have h0 : 0 < l.length := List.length_pos_iff.2 hl
      have hw := Lib.decodeL_width l
      obtain ⟨h1, h2⟩ := map_good n (l.drop (Lib.decodeL l).2) (by simp; omega)
      rw [Lib.mapD_step xl l hl]
      have hr := Lib.decodeL_rune l
      generalize (Lib.decodeL l).1 = x at hr ⊢
      generalize (Lib.decodeL l).2 = w at hw h1 h2 ⊢
      have hx := xl_range x hr
      have hx2 : xl x ≠ 40 ∧ xl x ≠ 41 ∧ xl x ≠ 92 := by unfold xl; split <;> omega
      rw [if_pos (by omega)]
      have e1 : Lib.encodeRune (xl x) = [(xl x).toNat.toUInt8] := by
        unfold Lib.encodeRune
        rw [Lib.encodeRuneZ_one (by omega) (by omega)]
        rfl
      have e2 : (xl x).toNat.toUInt8.toNat = (xl x).toNat := by
        rw [Nat.toUInt8_eq, UInt8.toNat_ofNat']
        omega
      rw [e1]
      refine ⟨?_, ?_⟩
      · rw [List.all_append, h1]
        simp only [List.all_cons, List.all_nil, Bool.and_true, goodB, e2, decide_eq_true_eq]
        omega
      · simp only [List.length_append, List.length_cons, List.length_nil, List.length_drop] at h2 ⊢
        omega

def nest (d : Nat) (l : List UInt8) : List UInt8 := List.replicate d 40 ++ l ++ List.replicate d 41
theorem nest_len (d : Nat) (l : List UInt8) : (nest d l).length = 2 * d + l.length := by simp [nest]; omega

theorem nested_w {s : SS} {l : List UInt8} {d : Nat} (hd : d ≤ 100) (hl : l.length ≤ 1000) : CallW pr n_law04_nested [str l, .int .i64 d] s fun v s' => v = str (nest d l) ∧ s' = s := by
  refine CallW.run good ok_law04_nested (by simp) rfl ?_
  (repeat (first | refine pSeq ?_ | refine pReg ?_ | refine sRaw ?_ | refine sCons ?_ | refine sNil ?_ | refine rCons ?_ | refine rNil ?_ | refine kNo ?_ | refine pRow ?_ | refine pBlock ?_ | refine pSkip ?_ | refine pExit ?_ | refine pRet ?_ | refine pCond ?_ | refine gNone ?_ | refine gOn rfl ?_ | refine gOff rfl rfl ?_ | refine gTup rfl ?_))
  refine pLoop (MW.head good (fun i : Nat => d - i) (fun i => i ≤ d) (fun i => [(0, str (nest i l)), (5, .int .i64 d), (6, .int .i64 i)]) (fun i => s) 0 (Nat.zero_le _) (Wk.same ⟨by show some (str l) = some _; simp [nest], rfl, rfl, trivial⟩) ?_)
  intro i hi
  have hn := nest_len i l
  (repeat (first | refine pSeq ?_ | refine pReg ?_ | refine sRaw ?_ | refine sCons ?_ | refine sNil ?_ | refine rCons ?_ | refine rNil ?_ | refine kNo ?_ | refine pRow ?_ | refine pBlock ?_ | refine pSkip ?_ | refine pExit ?_ | refine pRet ?_ | refine pCond ?_ | refine gNone ?_ | refine gOn rfl ?_ | refine gOff rfl rfl ?_ | refine gTup rfl ?_))
  intro q hq
  by_cases hlt : i < d
  · obtain rfl : q = true := by rw [hq]; simp <;> omega
    (repeat (first | refine pSeq ?_ | refine pReg ?_ | refine sRaw ?_ | refine sCons ?_ | refine sNil ?_ | refine rCons ?_ | refine rNil ?_ | refine kNo ?_ | refine pRow ?_ | refine pBlock ?_ | refine pSkip ?_ | refine pExit ?_ | refine pRet ?_ | refine pCond ?_ | refine gNone ?_ | refine gOn rfl ?_ | refine gOff rfl rfl ?_ | refine gTup rfl ?_))
    refine ⟨by simp; omega, ?_⟩
    intro z hz
    (repeat (first | refine pSeq ?_ | refine pReg ?_ | refine sRaw ?_ | refine sCons ?_ | refine sNil ?_ | refine rCons ?_ | refine rNil ?_ | refine kNo ?_ | refine pRow ?_ | refine pBlock ?_ | refine pSkip ?_ | refine pExit ?_ | refine pRet ?_ | refine pCond ?_ | refine gNone ?_ | refine gOn rfl ?_ | refine gOff rfl rfl ?_ | refine gTup rfl ?_))
    refine ⟨by rw [hz]; simp; omega, ?_⟩
    intro z2 hz2
    (repeat (first | refine pSeq ?_ | refine pReg ?_ | refine sRaw ?_ | refine sCons ?_ | refine sNil ?_ | refine rCons ?_ | refine rNil ?_ | refine kNo ?_ | refine pRow ?_ | refine pBlock ?_ | refine pSkip ?_ | refine pExit ?_ | refine pRet ?_ | refine pCond ?_ | refine gNone ?_ | refine gOn rfl ?_ | refine gOff rfl rfl ?_ | refine gTup rfl ?_))
    intro z3 hz3
    rw [i64_id (by omega)] at hz3
    obtain rfl : z3 = ((i + 1 : Nat) : Int) := by omega
    (repeat (first | refine pSeq ?_ | refine pReg ?_ | refine sRaw ?_ | refine sCons ?_ | refine sNil ?_ | refine rCons ?_ | refine rNil ?_ | refine kNo ?_ | refine pRow ?_ | refine pBlock ?_ | refine pSkip ?_ | refine pExit ?_ | refine pRet ?_ | refine pCond ?_ | refine gNone ?_ | refine gOn rfl ?_ | refine gOff rfl rfl ?_ | refine gTup rfl ?_))
    refine ⟨i + 1, hlt, by show d - (i + 1) < d - i; omega, Wk.same ⟨?_, rfl, rfl, trivial⟩⟩
    show some _ = some _
    rw [hz2, hz]
    congr 4
    simp [nest, List.replicate_succ, List.append_assoc, ← List.replicate_succ']
  · obtain rfl : q = false := by rw [hq]; simp <;> omega
    obtain rfl : i = d := by omega
    (repeat (first | refine pSeq ?_ | refine pReg ?_ | refine sRaw ?_ | refine sCons ?_ | refine sNil ?_ | refine rCons ?_ | refine rNil ?_ | refine kNo ?_ | refine pRow ?_ | refine pBlock ?_ | refine pSkip ?_ | refine pExit ?_ | refine pRet ?_ | refine pCond ?_ | refine gNone ?_ | refine gOn rfl ?_ | refine gOff rfl rfl ?_ | refine gTup rfl ?_))
    exact ⟨rfl, rfl⟩

/-! ### White space and comments put together; what stands behind them -/

theorem cm_good (d : Nat) : ∀ (l r : List UInt8) (i : Nat), l.all goodB = true → cm (l ++ r) d false i = cm r d false (i + l.length)
  | [], r, i, _ => rfl
  | c :: l, r, i, h => by
    rw [List.all_cons, Bool.and_eq_true] at h
    obtain ⟨h1, h2, h3, h4⟩ := good_in h.1
    rw [List.cons_append, cm, if_neg (by rw [h1]; simp), if_neg (by simp), if_neg h4, if_neg (fun q => h2 q.1), if_neg h2, if_neg (fun q => h3 q.1), if_neg h3, cm_good d l r (i + 1) h.2, List.length_cons]
    congr 1
    omega
theorem p40 : plainB 40 = true ∧ (40 : UInt8).toNat = 40 := by decide
theorem p41 : plainB 41 = true ∧ (41 : UInt8).toNat = 41 := by decide
theorem cm_open : ∀ (k d i : Nat) (r : List UInt8), d + k ≤ 8 → cm (List.replicate k 40 ++ r) d false i = cm r (d + k) false (i + k)
  | 0, d, i, r, _ => rfl
  | k + 1, d, i, r, h => by
    rw [List.replicate_succ, List.cons_append, cm, if_neg (by rw [p40.1]; simp), if_neg (by simp), if_neg (by rw [p40.2]; omega), if_neg (fun q => by have := q.2; omega), if_pos p40.2, cm_open k (d + 1) (i + 1) r (by omega)]
    congr 1 <;> omega
theorem cm_close : ∀ (d i : Nat) (r : List UInt8), cm (List.replicate (d + 1) 41 ++ r) (d + 1) false i = (i + d + 1, 0)
  | 0, i, r => by
    rw [List.replicate_succ, List.cons_append, cm, if_neg (by rw [p41.1]; simp), if_neg (by simp), if_neg (by rw [p41.2]; omega), if_neg (fun q => by have := p41.2; omega), if_neg (by rw [p41.2]; omega), if_pos ⟨p41.2, rfl⟩]
  | d + 1, i, r => by
    rw [List.replicate_succ, List.cons_append, cm, if_neg (by rw [p41.1]; simp), if_neg (by simp), if_neg (by rw [p41.2]; omega), if_neg (fun q => by have := p41.2; omega), if_neg (by rw [p41.2]; omega), if_neg (fun q => by have := q.2; omega), if_pos p41.2, Nat.add_sub_cancel, cm_close d (i + 1) r]
    congr 1 <;> omega
theorem nest_first (d : Nat) (l r : List UInt8) : (nest (d + 1) l ++ r).take 1 = [40] := by simp [nest, List.replicate_succ]
theorem comment_nest {d : Nat} {l : List UInt8} (r : List UInt8) (hd : d + 1 ≤ 8) (hl : l.all goodB = true) : commentF (nest (d + 1) l ++ r) = (2 * (d + 1) + l.length, 0) := by
  unfold commentF
  rw [if_pos (nest_first d l r), nest, List.append_assoc, List.append_assoc, cm_open (d + 1) 0 0 _ (by omega), cm_good _ _ _ _ hl, Nat.zero_add, cm_close]
  congr 1 <;> omega
theorem comment_deep (k : Nat) (r : List UInt8) : commentF (List.replicate (9 + k) 40 ++ r) = (0, 3) := by
  unfold commentF
  rw [if_pos (by rw [show 9 + k = (8 + k) + 1 by omega, List.replicate_succ]; rfl)]
  rw [show 9 + k = 8 + (k + 1) by omega, ← List.replicate_append_replicate, List.append_assoc, cm_open 8 0 0 _ (Nat.le_refl _), List.replicate_succ, List.cons_append, cm, if_neg (by rw [p40.1]; simp), if_neg (by simp), if_neg (by rw [p40.2]; omega), if_pos ⟨p40.2, rfl⟩]

/-- White space and comments, put together. -/
inductive Filled : List UInt8 → Prop where
  | nil : Filled []
  | wh {c : UInt8} {r : List UInt8} (h : wh c = true) (hr : Filled r) : Filled (c :: r)
  | com {d : Nat} {l r : List UInt8} (hd : d + 1 ≤ 8) (hl : l.all goodB = true) (hr : Filled r) : Filled (nest (d + 1) l ++ r)
theorem Filled.app {a b : List UInt8} (ha : Filled a) (hb : Filled b) : Filled (a ++ b) := by
  induction ha with
  | nil => exact hb
  | wh h _ ih => exact .wh h ih
  | com hd hl _ ih => rw [List.append_assoc]; exact .com hd hl ih

theorem filled_bl {a : List UInt8} (h : Filled a) : ∀ f n, a.length < f → bl f (a ++ [120]) n = (n + a.length, 0) := by
  induction h with
  | nil =>
    intro f n hf
    show bl f [120] n = _
    rw [bl_no hf (by decide) (by decide)]
    rfl
  | @wh c r h hr ih =>
    intro f n hf
    rw [List.cons_append, bl_wh (by omega) h, ih f (n + 1) (by simp at hf; omega), List.length_cons]
    congr 1
    omega
  | @com d l r hd hl hr ih =>
    intro f n hf
    cases f with
    | zero => omega
    | succ f =>
    rw [List.append_assoc]
    have e := comment_nest (d := d) (r ++ [120]) hd hl
    have hlen := nest_len (d + 1) l
    have hf2 : (nest (d + 1) l).length + r.length < f + 1 := by rw [← List.length_append]; exact hf
    cases hq : nest (d + 1) l ++ (r ++ [120]) with
    | nil => rw [List.append_eq_nil_iff] at hq; have := congrArg List.length hq.1; rw [hlen] at this; simp only [List.length_nil] at this; omega
    | cons c q =>
      have h40 : c.toNat = 40 := by
        have := nest_first d l (r ++ [120])
        rw [hq] at this
        simp at this
        rw [this]
        rfl
      rw [hq] at e
      rw [bl_open h40, e, if_pos rfl, ← hq, ← hlen, List.drop_left, ih f _ (by omega), List.length_append]
      congr 1
      omega
theorem filled_blank {a : List UInt8} (h : Filled a) : blankF (a ++ [120]) = (a.length, 0) := by
  unfold blankF
  rw [filled_bl h _ 0 (by simp; omega), Nat.zero_add]

theorem bl_behind : ∀ (n : Nat) (l : List UInt8), l.length ≤ n → ∀ f a, l.length < f → ((bl f l a).2 = 0 → a ≤ (bl f l a).1 ∧ (bl f l a).1 ≤ a + l.length ∧ ∀ c, l[(bl f l a).1 - a]? = some c → wh c = false ∧ c.toNat ≠ 40) ∧ ((bl f l a).2 ≠ 0 → (bl f l a).1 = 0) := by
  intro n
  induction n with
  | zero =>
    intro l hl f a hf
    have : l = [] := List.eq_nil_of_length_eq_zero (by omega)
    subst this
    rw [bl_nil (by omega)]
    exact ⟨fun _ => ⟨Nat.le_refl _, Nat.le_refl _, fun c hc => by simp at hc⟩, fun q => absurd rfl q⟩
  | succ n ih =>
    intro l hl f a hf
    cases l with
    | nil =>
      rw [bl_nil (by omega)]
      exact ⟨fun _ => ⟨Nat.le_refl _, Nat.le_refl _, fun c hc => by simp at hc⟩, fun q => absurd rfl q⟩
    | cons c r =>
      simp only [List.length_cons] at hl hf
      cases hw : wh c with
      | true =>
        rw [bl_wh (by omega) hw]
        obtain ⟨h1, h2⟩ := ih r (by omega) f (a + 1) (by omega)
        refine ⟨fun h => ?_, h2⟩
        obtain ⟨q1, q2, q3⟩ := h1 h
        refine ⟨by omega, by simp only [List.length_cons]; omega, fun x hx => q3 x ?_⟩
        rw [show (bl f r (a + 1)).1 - a = (bl f r (a + 1)).1 - (a + 1) + 1 by omega, List.getElem?_cons_succ] at hx
        exact hx
      | false =>
        by_cases h40 : c.toNat = 40
        · cases f with
          | zero => omega
          | succ f =>
          rw [bl_open h40]
          by_cases he : (commentF (c :: r)).2 = 0
          · rw [if_pos he]
            have hp := comment_pos he
            generalize (commentF (c :: r)).1 = k at hp ⊢
            simp only [List.length_cons] at hp
            have hd : ((c :: r).drop k).length = r.length + 1 - k := by simp
            obtain ⟨h1, h2⟩ := ih ((c :: r).drop k) (by omega) f (a + k) (by omega)
            refine ⟨fun h => ?_, h2⟩
            obtain ⟨q1, q2, q3⟩ := h1 h
            refine ⟨by omega, by simp only [List.length_cons]; omega, fun x hx => q3 x ?_⟩
            rw [List.getElem?_drop, show k + ((bl f ((c :: r).drop k) (a + k)).1 - (a + k)) = (bl f ((c :: r).drop k) (a + k)).1 - a by omega]
            exact hx
          · rw [if_neg he]
            exact ⟨fun q => absurd q he, fun _ => rfl⟩
        · rw [bl_no (by omega) hw h40]
          refine ⟨fun _ => ⟨Nat.le_refl _, by simp, fun x hx => ?_⟩, fun q => absurd rfl q⟩
          rw [Nat.sub_self, List.getElem?_cons_zero] at hx
          cases hx
          exact ⟨hw, h40⟩
theorem blank_behind (l : List UInt8) : ((blankF l).2 = 0 → (blankF l).1 ≤ l.length ∧ ∀ c, l[(blankF l).1]? = some c → wh c = false ∧ c.toNat ≠ 40) ∧ ((blankF l).2 ≠ 0 → (blankF l).1 = 0) := by
  obtain ⟨h1, h2⟩ := bl_behind l.length l (Nat.le_refl _) (l.length + 1) 0 (Nat.lt_succ_self _)
  refine ⟨fun h => ?_, h2⟩
  obtain ⟨_, q2, q3⟩ := h1 h
  exact ⟨by unfold blankF; omega, q3⟩

/-! ### Letters turned, in a state that holds the library's tables -/

def firstV : List Value := (List.range 256).map fun c => .int .u8 (Lib.firstT c)
def accV : List Value := (List.range 32).map fun k => .int .u8 (if k % 2 = 0 then Lib.accLo (k / 2) else Lib.accHi (k / 2))
theorem first_get {c : Nat} (h : c < 256) : firstV[c]? = some (.int .u8 (Lib.firstT c)) := by simp [firstV, h]
theorem acc_get {k : Nat} (h : k < 32) : accV[k]? = some (.int .u8 (if k % 2 = 0 then Lib.accLo (k / 2) else Lib.accHi (k / 2))) := by simp [accV, h]

/-- The library's tables lie there. -/
def Gu (s : SS) : Prop := s.gl = 4 ∧ 4 ≤ s.next ∧ lookH s.heap 2 = some (.cells firstV 5 false true) ∧ lookH s.heap 3 = some (.cells accV 5 false true)
theorem Gu.chg {s s' : SS} (h : Gu s) (c : Chg s s' []) : Gu s' :=
  ⟨c.gl.trans h.1, Nat.le_trans h.2.1 c.next, c.blk 2 _ (by have := h.2.1; omega) (by simp) h.2.2.1, c.blk 3 _ (by have := h.2.1; omega) (by simp) h.2.2.2⟩

theorem Gu.tabs {s : SS} (h : Gu s) {B : Nat} {w0 : World} {ρ : Ren} {w : World} (H : HRel pr B w0 ρ s.st w) : Lib.Utf8Tabs 2 3 w := by
  obtain ⟨e2, h2, b2, o2⟩ := H.glob 2 (by show 2 < s.gl; rw [h.1]; omega)
  obtain ⟨e3, h3, b3, o3⟩ := H.glob 3 (by show 3 < s.gl; rw [h.1]; omega)
  have at3 : ∀ k, k < 32 → w.cell? ⟨3, k, none⟩ = some (.int .u8 (if k % 2 = 0 then Lib.accLo (k / 2) else Lib.accHi (k / 2))) := fun k hk => by
    obtain ⟨v', p1, p2⟩ := H.cellAt h.2.2.2 h3 (acc_get hk)
    rw [b3, o3, Nat.zero_add] at p1
    rw [p1, int_inv p2]
  refine ⟨fun c hc => ?_, fun i hi => ⟨?_, ?_⟩⟩
  · obtain ⟨v', p1, p2⟩ := H.cellAt h.2.2.1 h2 (first_get hc)
    rw [b2, o2, Nat.zero_add] at p1
    rw [p1, int_inv p2]
  · rw [at3 (2 * i) (by omega), if_pos (by omega), show 2 * i / 2 = i by omega]
  · rw [at3 (2 * i + 1) (by omega), if_neg (by omega), show (2 * i + 1) / 2 = i by omega]

theorem map_w {s : SS} {l : List UInt8} (hG : Gu s) (hl : l.length ≤ 1000000) : CallW pr n_strings_Map [.func (.func 34) #[] #[], str l] s fun v s' => v = str (Lib.mapD xl l) ∧ s' = s := by
  refine CallW.kit rfl fun B w0 ρ args' w H ha => ?_
  obtain ⟨v1, v2, rfl, q1, q2⟩ := lrel_two ha
  obtain rfl := str_inv q2
  have e1 : v1 = .func (.func 34) #[] #[] := by
    cases q1 with
    | func fn hy h1 h2 h3 h4 =>
      rename_i a' b'
      have ha : a' = #[] := Array.toList_inj.1 (List.eq_nil_of_length_eq_zero h1.symm)
      have hb : b' = #[] := Array.toList_inj.1 (List.eq_nil_of_length_eq_zero h2.symm)
      rw [ha, hb]
  subst e1
  exact Any.strings_Map_runes Tryd.lays230 Tryd.Builder_Extra_230 34 #[] (enters_of Tryd.func34 (by kernel_rfl) rfl) xl ⟨⟨l⟩⟩ w (by show l.length < _; omega) (xl_runes w) (fun x hx => by have := xl_range x hx; omega) (hG.tabs H)
end Go.Vf.S

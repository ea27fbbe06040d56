import Derived.Test.YtgdkekacalmjoaaDoorBnA
import Derived.Test.YtgdkekacalmjoaaDoorBnB
import Derived.Test.YtgdkekacalmjoaaDoorEngMb
import Derived.Test.YtgdkekacalmjoaaDoorEngBf
/- PaA -/
section
/- Paths: letters, and rows of them. -/
namespace Go.Vf.S
open Go Go.Vf
attribute [local irreducible] wSeq wRow wp wG
set_option linter.unusedVariables false
set_option linter.unusedSimpArgs false
set_option maxRecDepth 10000

def namN (n : Nat) : Bool := decide (97 ≤ n ∧ n ≤ 122 ∨ 65 ≤ n ∧ n ≤ 90 ∨ 48 ≤ n ∧ n ≤ 57 ∨ n = 45)
def valN (n : Nat) : Bool := decide (33 ≤ n ∧ n ≤ 126 ∧ n ≠ 61)
theorem nam_hi (r : Nat) (h : 128 ≤ r) : namN r = false := by unfold namN; exact decide_eq_false (by omega)
theorem val_hi (r : Nat) (h : 128 ≤ r) : valN r = false := by unfold valN; exact decide_eq_false (by omega)

theorem nameLetter_w {s : SS} {r : Nat} (hr : r ≤ 1114111) : CallW pr n_path_nameLetter [.int .i32 r] s fun v s' => v = .bool (namN r) ∧ s' = s := by
  refine CallW.run good ok_path_nameLetter (by simp) rfl ?_
  (repeat' (first | refine pSeq ?_ | refine pReg ?_ | refine sRaw ?_ | refine sCons ?_ | refine sNil ?_ | refine rCons ?_ | refine rNil ?_ | refine kNo ?_ | refine pRow ?_ | refine pBlock ?_ | refine pSkip ?_ | refine pExit ?_ | refine pRet ?_ | refine pCond ?_ | refine gNone ?_ | refine gOn rfl ?_ | refine gOff rfl rfl ?_ | refine gTup rfl ?_ | (intro q hq; cases q <;> simp only [true_eq_decide_iff, false_eq_decide_iff, Bool.not_true, Bool.not_false, Bool.true_eq, Bool.false_eq, decide_eq_true_eq, decide_eq_false_iff_not, reduceCtorEq] at hq)))
  all_goals (refine ⟨bool_eq ?_, rfl⟩; unfold namN; rw [Bool.eq_iff_iff]; simp only [decide_eq_true_eq, true_iff, false_iff, reduceCtorEq]; omega)
theorem valueLetter_w {s : SS} {r : Nat} (hr : r ≤ 1114111) : CallW pr n_path_valueLetter [.int .i32 r] s fun v s' => v = .bool (valN r) ∧ s' = s := by
  refine CallW.run good ok_path_valueLetter (by simp) rfl ?_
  (repeat' (first | refine pSeq ?_ | refine pReg ?_ | refine sRaw ?_ | refine sCons ?_ | refine sNil ?_ | refine rCons ?_ | refine rNil ?_ | refine kNo ?_ | refine pRow ?_ | refine pBlock ?_ | refine pSkip ?_ | refine pExit ?_ | refine pRet ?_ | refine pCond ?_ | refine gNone ?_ | refine gOn rfl ?_ | refine gOff rfl rfl ?_ | refine gTup rfl ?_ | (intro q hq; cases q <;> simp only [true_eq_decide_iff, false_eq_decide_iff, Bool.not_true, Bool.not_false, Bool.true_eq, Bool.false_eq, decide_eq_true_eq, decide_eq_false_iff_not, reduceCtorEq] at hq)))
  all_goals (refine ⟨bool_eq ?_, rfl⟩; unfold valN; rw [Bool.eq_iff_iff]; simp only [decide_eq_true_eq, true_iff, false_iff, reduceCtorEq]; omega)

/-- One or more letters. -/
def rowF (g : Nat → Bool) (l : List UInt8) : Bool := !l.isEmpty && l.all fun c => g c.toNat

theorem row_w {s : SS} {l : List UInt8} {f : FuncId} {g : Nat → Bool} (hl : l.length ≤ 1000000) (hf : ∀ x, callV pr (.func (.func f) ⟨[]⟩ ⟨[]⟩) [x] = some (.enter f [x]))
    (hc : ∀ r s1, r ≤ 1114111 → CallW pr f [.int .i32 (r : Nat)] s1 fun v s2 => v = .bool (g r) ∧ s2 = s1) (hi : ∀ r, 128 ≤ r → g r = false) :
    CallW pr n_path_row [str l, .func (.func f) ⟨[]⟩ ⟨[]⟩] s fun v s' => v = .bool (rowF g l) ∧ Chg s s' [] := by
  refine CallW.run good ok_path_row (by simp) rfl ?_
  (repeat(first|refine pSeq ?_|refine pReg ?_|refine sRaw ?_|refine sCons ?_|refine sNil ?_|refine pBlock ?_|refine pSkip ?_|refine pExit ?_|refine pRet ?_|refine pCond ?_|refine gNone ?_))
  refine srange_W rfl un_S rfl ?_
  (repeat(first|refine pSeq ?_|refine pReg ?_|refine sRaw ?_|refine sCons ?_|refine sNil ?_|refine pBlock ?_|refine pSkip ?_|refine pExit ?_|refine pRet ?_|refine pCond ?_|refine gNone ?_))
  refine pLoop (MW.head good (fun x : It => l.length - x.p) (fun x => At s s.next l x ∧ (l.take x.p).all (fun c => g c.toNat) = true) (fun x => [(0, str l), (1, .func (.func f) ⟨[]⟩ ⟨[]⟩), (8, .pointer (some ⟨s.next, 0, none⟩))]) (fun x => x.s) ⟨0, _⟩ ⟨.start s l, rfl⟩ (Wk.same ⟨rfl, rfl, rfl, trivial⟩) ?_)
  intro ⟨p, s1⟩ ⟨h1, h2⟩
  dsimp only at h1 h2 ⊢
  (repeat(first|refine pSeq ?_|refine pReg ?_|refine sRaw ?_|refine sCons ?_|refine sNil ?_|refine pBlock ?_|refine pSkip ?_|refine pExit ?_|refine pRet ?_|refine pCond ?_|refine gNone ?_))
  refine snext_L rfl rfl h1.2.2.2 (fun he => ?_) (fun c hc' h7 => ?_) (fun c r w hc' h7 hr hr2 _ hw _ => ?_)
  · rw [List.take_of_length_le he] at h2
    (repeat(first|refine pSeq ?_|refine pReg ?_|refine sRaw ?_|refine sCons ?_|refine sNil ?_|refine pBlock ?_|refine pSkip ?_|refine pExit ?_|refine pRet ?_|refine pCond ?_|refine gNone ?_))
    intro q hq
    (repeat(first|refine pSeq ?_|refine pReg ?_|refine sRaw ?_|refine sCons ?_|refine sNil ?_|refine pBlock ?_|refine pSkip ?_|refine pExit ?_|refine pRet ?_|refine pCond ?_|refine gNone ?_))
    refine ⟨bool_eq ?_, h1.1⟩
    rw [hq]
    unfold rowF
    rw [h2]
    cases l <;> simp
  · (repeat(first|refine pSeq ?_|refine pReg ?_|refine sRaw ?_|refine sCons ?_|refine sNil ?_|refine pBlock ?_|refine pSkip ?_|refine pExit ?_|refine pRet ?_|refine pCond ?_|refine gNone ?_))
    refine ⟨.call f [.int .i32 c.toNat], hf _, ?_⟩
    refine (hc c.toNat _ (by omega)).mono fun v s2 q => ?_
    obtain ⟨rfl, rfl⟩ := q
    (repeat(first|refine pSeq ?_|refine pReg ?_|refine sRaw ?_|refine sCons ?_|refine sNil ?_|refine pBlock ?_|refine pSkip ?_|refine pExit ?_|refine pRet ?_|refine pCond ?_|refine gNone ?_))
    intro q hq
    by_cases hp : g c.toNat = true
    · obtain rfl : q = false := by rw [hq, hp]; rfl
      (repeat(first|refine pSeq ?_|refine pReg ?_|refine sRaw ?_|refine sCons ?_|refine sNil ?_|refine pBlock ?_|refine pSkip ?_|refine pExit ?_|refine pRet ?_|refine pCond ?_|refine gNone ?_))
      exact ⟨⟨p + 1, _⟩, ⟨h1.go _, by rw [take_next hc']; simp [h2, hp]⟩, by have : p < l.length := lt_of_get hc'; show l.length - (p + 1) < l.length - p; omega, Wk.same ⟨rfl, rfl, rfl, trivial⟩⟩
    · obtain rfl : q = true := by rw [hq, Bool.eq_false_iff.2 hp]; rfl
      (repeat(first|refine pSeq ?_|refine pReg ?_|refine sRaw ?_|refine sCons ?_|refine sNil ?_|refine pBlock ?_|refine pSkip ?_|refine pExit ?_|refine pRet ?_|refine pCond ?_|refine gNone ?_))
      exact ⟨bool_eq (by unfold rowF; rw [all_no (f := fun c : UInt8 => g c.toNat) hc' (Bool.eq_false_iff.2 hp), Bool.and_false]), (h1.go _).1⟩
  · (repeat(first|refine pSeq ?_|refine pReg ?_|refine sRaw ?_|refine sCons ?_|refine sNil ?_|refine pBlock ?_|refine pSkip ?_|refine pExit ?_|refine pRet ?_|refine pCond ?_|refine gNone ?_))
    refine ⟨.call f [.int .i32 r], hf _, ?_⟩
    refine (hc r _ (by omega)).mono fun v s2 q => ?_
    obtain ⟨rfl, rfl⟩ := q
    (repeat(first|refine pSeq ?_|refine pReg ?_|refine sRaw ?_|refine sCons ?_|refine sNil ?_|refine pBlock ?_|refine pSkip ?_|refine pExit ?_|refine pRet ?_|refine pCond ?_|refine gNone ?_))
    intro q hq
    obtain rfl : q = true := by rw [hq, hi r hr]; rfl
    (repeat(first|refine pSeq ?_|refine pReg ?_|refine sRaw ?_|refine sCons ?_|refine sNil ?_|refine pBlock ?_|refine pSkip ?_|refine pExit ?_|refine pRet ?_|refine pCond ?_|refine gNone ?_))
    exact ⟨bool_eq (by unfold rowF; rw [all_no (f := fun c : UInt8 => g c.toNat) hc' (hi _ h7), Bool.and_false]), (h1.go _).1⟩
end Go.Vf.S
end
/- PaB -/
section
/- Paths: what a known parameter's value says. -/
namespace Go.Vf.S
open Go Go.Vf
attribute [local irreducible] wSeq wRow wp wG
set_option linter.unusedVariables false
set_option linter.unusedSimpArgs false
set_option maxRecDepth 10000

abbrev tPm : TypeId := 53
abbrev tPp : TypeId := 110
abbrev tI : TypeId := 3
theorem pm_ne {s : SS} {a b : Nat} {c c' : List Value} {t t' : TypeId} {g r g' r' : Bool} (h : lookH s.heap a = some (.cells c t g r)) (k : lookH s.heap b = some (.cells c' t' g' r')) (ht : t ≠ t') : a ≠ b := by
  rintro rfl
  rw [h] at k
  cases k
  exact ht rfl
/-- Parameters as they lie. -/
structure Pv where
  has : Bool
  eight : Bool
  size : Nat
def pvCells (p : Pv) : List Value := [.bool p.has, .bool p.eight, .int .i64 p.size]

/-- Where they lie, and the cell that the closures share. -/
structure PvAt (s : SS) (pc pb : Nat) (p : Pv) : Prop where
  cell : lookH s.heap pc = some (.cells [.pointer (some ⟨pb, 0, none⟩)] tPp false false)
  blk : lookH s.heap pb = some (.cells (pvCells p) tPm false false)
  lt : pb < s.next
  ltc : pc < s.next
theorem PvAt.chg {s s' : SS} {pc pb : Nat} {p : Pv} {Z : List Nat} (h : PvAt s pc pb p) (c : Chg s s' Z) (h1 : pc ∉ Z) (h2 : pb ∉ Z) : PvAt s' pc pb p :=
  ⟨c.blk _ _ h.ltc h1 h.cell, c.blk _ _ h.lt h2 h.blk, Nat.lt_of_lt_of_le h.lt c.next, Nat.lt_of_lt_of_le h.ltc c.next⟩
theorem PvAt.ne {s : SS} {pc pb : Nat} {p : Pv} (h : PvAt s pc pb p) : pc ≠ pb := pm_ne h.cell h.blk (by decide)

def sizeE (p : Pv) (l : List UInt8) : Int := if (numberF l 9).2 = 0 then (if p.has then 1 else 0) else 5

theorem known1_w {s : SS} {pc pb : Nat} {p : Pv} {l : List UInt8} (h : PvAt s pc pb p) (hl : l.length ≤ 1000000) :
    CallW pr n_path_Params_known_1 [str l, .pointer (some ⟨pc, 0, none⟩)] s fun v s' => v = .int .i64 (sizeE p l) ∧ PvAt s' pc pb ⟨true, p.eight, (numberF l 9).1⟩ ∧ Chg s s' [pb] := by
  have hne := h.ne
  refine CallW.run good ok_path_Params_known_1 (by simp) rfl ?_
  (repeat(first|refine pSeq ?_|refine pReg ?_|refine sCons ?_|refine sNil ?_|refine rCons ?_|refine rNil ?_|refine kNo ?_|refine pRow ?_|refine pSkip ?_|refine pRet ?_|refine pCond ?_|refine gNone ?_|refine gOn rfl ?_|refine gOff rfl rfl ?_|refine gTup rfl ?_))
  refine (number_w (d := 9) hl).mono fun v s1 q => ?_
  obtain ⟨rfl, c1⟩ := q
  have h1 := h.chg c1 (by simp) (by simp)
  unfold sizeE
  have h05 : (numberF l 9).2 = 0 ∨ (numberF l 9).2 = 5 := by unfold numberF; split <;> simp
  generalize hN : numberF l 9 = N at *
  obtain ⟨a, b⟩ := N
  dsimp only [nRes] at *
  (repeat(first|refine pSeq ?_|refine pReg ?_|refine sCons ?_|refine sNil ?_|refine rCons ?_|refine rNil ?_|refine kNo ?_|refine pRow ?_|refine pSkip ?_|refine pRet ?_|refine pCond ?_|refine gNone ?_|refine gOn rfl ?_|refine gOff rfl rfl ?_|refine gTup rfl ?_))
  intro q hq
  by_cases hb : b = 0
  · subst hb
    obtain rfl : q = true := by rw [hq]; rfl
    (repeat(first|refine pSeq ?_|refine pReg ?_|refine sCons ?_|refine sNil ?_|refine rCons ?_|refine rNil ?_|refine kNo ?_|refine pRow ?_|refine pSkip ?_|refine pRet ?_|refine pCond ?_|refine gNone ?_|refine gOn rfl ?_|refine gOff rfl rfl ?_|refine gTup rfl ?_))
    refine ld1_is rfl h1.cell rfl ?_
    (repeat(first|refine pSeq ?_|refine pReg ?_|refine sCons ?_|refine sNil ?_|refine rCons ?_|refine rNil ?_|refine kNo ?_|refine pRow ?_|refine pSkip ?_|refine pRet ?_|refine pCond ?_|refine gNone ?_|refine gOn rfl ?_|refine gOff rfl rfl ?_|refine gTup rfl ?_))
    refine ldB_is rfl h1.blk rfl ?_
    cases hh : p.has with
    | true =>
      (repeat(first|refine pSeq ?_|refine pReg ?_|refine sCons ?_|refine sNil ?_|refine rCons ?_|refine rNil ?_|refine kNo ?_|refine pRow ?_|refine pSkip ?_|refine pRet ?_|refine pCond ?_|refine gNone ?_|refine gOn rfl ?_|refine gOff rfl rfl ?_|refine gTup rfl ?_))
      refine ld1_is rfl h1.cell rfl ?_
      (repeat(first|refine pSeq ?_|refine pReg ?_|refine sCons ?_|refine sNil ?_|refine rCons ?_|refine rNil ?_|refine kNo ?_|refine pRow ?_|refine pSkip ?_|refine pRet ?_|refine pCond ?_|refine gNone ?_|refine gOn rfl ?_|refine gOff rfl rfl ?_|refine gTup rfl ?_))
      refine ld1_is rfl h1.cell rfl ?_
      (repeat(first|refine pSeq ?_|refine pReg ?_|refine sCons ?_|refine sNil ?_|refine rCons ?_|refine rNil ?_|refine kNo ?_|refine pRow ?_|refine pSkip ?_|refine pRet ?_|refine pCond ?_|refine gNone ?_|refine gOn rfl ?_|refine gOff rfl rfl ?_|refine gTup rfl ?_))
      refine st_abs rfl rfl h1.blk h1.lt rfl rfl fun s2 e2 c2 n2 => ?_
      have cell2 := c2.blk _ _ h1.ltc (by simpa using hne) h1.cell
      refine kEach ⟨fun _ => ld1_is rfl cell2 rfl rfl, trivial⟩ ?_
      (repeat(first|refine pSeq ?_|refine pReg ?_|refine sCons ?_|refine sNil ?_|refine rCons ?_|refine rNil ?_|refine kNo ?_|refine pRow ?_|refine pSkip ?_|refine pRet ?_|refine pCond ?_|refine gNone ?_|refine gOn rfl ?_|refine gOff rfl rfl ?_|refine gTup rfl ?_))
      refine st_abs rfl rfl e2 (by rw [n2]; exact h1.lt) rfl rfl fun s3 e3 c3 n3 => ?_
      (repeat(first|refine pSeq ?_|refine pReg ?_|refine sCons ?_|refine sNil ?_|refine rCons ?_|refine rNil ?_|refine kNo ?_|refine pRow ?_|refine pSkip ?_|refine pRet ?_|refine pCond ?_|refine gNone ?_|refine gOn rfl ?_|refine gOff rfl rfl ?_|refine gTup rfl ?_))
      exact ⟨rfl, ⟨c3.blk _ _ (by rw [n2]; exact h1.ltc) (by simpa using hne) cell2, e3, by rw [n3, n2]; exact h1.lt, by rw [n3, n2]; exact h1.ltc⟩, (c1.nil c2).trans' c3 (fun _ q _ => q) (fun _ q _ => q)⟩
    | false =>
      (repeat(first|refine pSeq ?_|refine pReg ?_|refine sCons ?_|refine sNil ?_|refine rCons ?_|refine rNil ?_|refine kNo ?_|refine pRow ?_|refine pSkip ?_|refine pRet ?_|refine pCond ?_|refine gNone ?_|refine gOn rfl ?_|refine gOff rfl rfl ?_|refine gTup rfl ?_))
      refine ld1_is rfl h1.cell rfl ?_
      (repeat(first|refine pSeq ?_|refine pReg ?_|refine sCons ?_|refine sNil ?_|refine rCons ?_|refine rNil ?_|refine kNo ?_|refine pRow ?_|refine pSkip ?_|refine pRet ?_|refine pCond ?_|refine gNone ?_|refine gOn rfl ?_|refine gOff rfl rfl ?_|refine gTup rfl ?_))
      refine ld1_is rfl h1.cell rfl ?_
      (repeat(first|refine pSeq ?_|refine pReg ?_|refine sCons ?_|refine sNil ?_|refine rCons ?_|refine rNil ?_|refine kNo ?_|refine pRow ?_|refine pSkip ?_|refine pRet ?_|refine pCond ?_|refine gNone ?_|refine gOn rfl ?_|refine gOff rfl rfl ?_|refine gTup rfl ?_))
      refine st_abs rfl rfl h1.blk h1.lt rfl rfl fun s2 e2 c2 n2 => ?_
      have cell2 := c2.blk _ _ h1.ltc (by simpa using hne) h1.cell
      refine kEach ⟨fun _ => ld1_is rfl cell2 rfl rfl, trivial⟩ ?_
      (repeat(first|refine pSeq ?_|refine pReg ?_|refine sCons ?_|refine sNil ?_|refine rCons ?_|refine rNil ?_|refine kNo ?_|refine pRow ?_|refine pSkip ?_|refine pRet ?_|refine pCond ?_|refine gNone ?_|refine gOn rfl ?_|refine gOff rfl rfl ?_|refine gTup rfl ?_))
      refine st_abs rfl rfl e2 (by rw [n2]; exact h1.lt) rfl rfl fun s3 e3 c3 n3 => ?_
      (repeat(first|refine pSeq ?_|refine pReg ?_|refine sCons ?_|refine sNil ?_|refine rCons ?_|refine rNil ?_|refine kNo ?_|refine pRow ?_|refine pSkip ?_|refine pRet ?_|refine pCond ?_|refine gNone ?_|refine gOn rfl ?_|refine gOff rfl rfl ?_|refine gTup rfl ?_))
      exact ⟨rfl, ⟨c3.blk _ _ (by rw [n2]; exact h1.ltc) (by simpa using hne) cell2, e3, by rw [n3, n2]; exact h1.lt, by rw [n3, n2]; exact h1.ltc⟩, (c1.nil c2).trans' c3 (fun _ q _ => q) (fun _ q _ => q)⟩
  · obtain rfl : b = 5 := h05.resolve_left hb
    obtain rfl : q = false := by rw [hq]; rfl
    (repeat(first|refine pSeq ?_|refine pReg ?_|refine sCons ?_|refine sNil ?_|refine rCons ?_|refine rNil ?_|refine kNo ?_|refine pRow ?_|refine pSkip ?_|refine pRet ?_|refine pCond ?_|refine gNone ?_|refine gOn rfl ?_|refine gOff rfl rfl ?_|refine gTup rfl ?_))
    refine ld1_is rfl h1.cell rfl ?_
    (repeat(first|refine pSeq ?_|refine pReg ?_|refine sCons ?_|refine sNil ?_|refine rCons ?_|refine rNil ?_|refine kNo ?_|refine pRow ?_|refine pSkip ?_|refine pRet ?_|refine pCond ?_|refine gNone ?_|refine gOn rfl ?_|refine gOff rfl rfl ?_|refine gTup rfl ?_))
    refine ld1_is rfl h1.cell rfl ?_
    (repeat(first|refine pSeq ?_|refine pReg ?_|refine sCons ?_|refine sNil ?_|refine rCons ?_|refine rNil ?_|refine kNo ?_|refine pRow ?_|refine pSkip ?_|refine pRet ?_|refine pCond ?_|refine gNone ?_|refine gOn rfl ?_|refine gOff rfl rfl ?_|refine gTup rfl ?_))
    refine st_abs rfl rfl h1.blk h1.lt rfl rfl fun s2 e2 c2 n2 => ?_
    have cell2 := c2.blk _ _ h1.ltc (by simpa using hne) h1.cell
    refine kEach ⟨fun _ => ld1_is rfl cell2 rfl rfl, trivial⟩ ?_
    (repeat(first|refine pSeq ?_|refine pReg ?_|refine sCons ?_|refine sNil ?_|refine rCons ?_|refine rNil ?_|refine kNo ?_|refine pRow ?_|refine pSkip ?_|refine pRet ?_|refine pCond ?_|refine gNone ?_|refine gOn rfl ?_|refine gOff rfl rfl ?_|refine gTup rfl ?_))
    refine st_abs rfl rfl e2 (by rw [n2]; exact h1.lt) rfl rfl fun s3 e3 c3 n3 => ?_
    (repeat(first|refine pSeq ?_|refine pReg ?_|refine sCons ?_|refine sNil ?_|refine rCons ?_|refine rNil ?_|refine kNo ?_|refine pRow ?_|refine pSkip ?_|refine pRet ?_|refine pCond ?_|refine gNone ?_|refine gOn rfl ?_|refine gOff rfl rfl ?_|refine gTup rfl ?_))
    exact ⟨rfl, ⟨c3.blk _ _ (by rw [n2]; exact h1.ltc) (by simpa using hne) cell2, e3, by rw [n3, n2]; exact h1.lt, by rw [n3, n2]; exact h1.ltc⟩, (c1.nil c2).trans' c3 (fun _ q _ => q) (fun _ q _ => q)⟩

def eightB (l : List UInt8) : Bool := decide (l.map lowB = [56, 98, 105, 116, 109, 105, 109, 101])
def sevenB (l : List UInt8) : Bool := decide (l.map lowB = [55, 98, 105, 116])
def bodyE (k : Nat) (l : List UInt8) : Int := if 1 ≤ k ∨ (eightB l = false ∧ sevenB l = false) then 1 else 0

theorem known2_w {s : SS} {pc pb bc k : Nat} {p : Pv} {l : List UInt8} (h : PvAt s pc pb p) (hb : lookH s.heap bc = some (.cells [.int .i64 k] tI false false)) (hbl : bc < s.next) (hf : Fine s) (hk : k < 1000000) (hl : l.length ≤ 1000000) :
    CallW pr n_path_Params_known_2 [str l, .pointer (some ⟨bc, 0, none⟩), .pointer (some ⟨pc, 0, none⟩)] s fun v s' => v = .int .i64 (bodyE k l) ∧ PvAt s' pc pb ⟨p.has, eightB l, p.size⟩ ∧ lookH s'.heap bc = some (.cells [.int .i64 (k + 1 : Nat)] tI false false) ∧ Chg s s' [pb, bc] := by
  have hne := h.ne
  have n1 : pc ≠ bc := pm_ne h.cell hb (by decide)
  have n2 : pb ≠ bc := pm_ne h.blk hb (by decide)
  refine CallW.run good ok_path_Params_known_2 (by simp) rfl ?_
  (repeat(first|refine pSeq ?_|refine pReg ?_|refine sCons ?_|refine sNil ?_|refine rCons ?_|refine rNil ?_|refine kNo ?_|refine pRow ?_|refine pSkip ?_|refine pRet ?_|refine pCond ?_|refine gNone ?_|refine gOn rfl ?_|refine gOff rfl rfl ?_|refine gTup rfl ?_))
  refine ldI_is rfl hb rfl ?_
  (repeat(first|refine pSeq ?_|refine pReg ?_|refine sCons ?_|refine sNil ?_|refine rCons ?_|refine rNil ?_|refine kNo ?_|refine pRow ?_|refine pSkip ?_|refine pRet ?_|refine pCond ?_|refine gNone ?_|refine gOn rfl ?_|refine gOff rfl rfl ?_|refine gTup rfl ?_))
  intro z hz
  obtain rfl : z = ((k + 1 : Nat) : Int) := by rw [hz, i64_id (by omega)]; omega
  (repeat(first|refine pSeq ?_|refine pReg ?_|refine sCons ?_|refine sNil ?_|refine rCons ?_|refine rNil ?_|refine kNo ?_|refine pRow ?_|refine pSkip ?_|refine pRet ?_|refine pCond ?_|refine gNone ?_|refine gOn rfl ?_|refine gOff rfl rfl ?_|refine gTup rfl ?_))
  refine st_abs rfl rfl hb hbl rfl rfl fun s1 e1 c1 m1 => ?_
  have h1 := h.chg c1 (by simpa using n1) (by simpa using n2)
  (repeat(first|refine pSeq ?_|refine pReg ?_|refine sCons ?_|refine sNil ?_|refine rCons ?_|refine rNil ?_|refine kNo ?_|refine pRow ?_|refine pSkip ?_|refine pRet ?_|refine pCond ?_|refine gNone ?_|refine gOn rfl ?_|refine gOff rfl rfl ?_|refine gTup rfl ?_))
  refine ld1_is rfl h1.cell rfl ?_
  (repeat(first|refine pSeq ?_|refine pReg ?_|refine sCons ?_|refine sNil ?_|refine rCons ?_|refine rNil ?_|refine kNo ?_|refine pRow ?_|refine pSkip ?_|refine pRet ?_|refine pCond ?_|refine gNone ?_|refine gOn rfl ?_|refine gOff rfl rfl ?_|refine gTup rfl ?_))
  refine (same_w (t := [56, 66, 73, 84, 77, 73, 77, 69]) hl (by simp)).mono fun v s2 q => ?_
  obtain ⟨rfl, c2⟩ := q
  have h2 := h1.chg c2 (by simp) (by simp)
  have e2 := c2.blk _ _ (by rw [m1]; exact hbl) (by simp) e1
  refine kAll (c2.keep (c1.fine hf)) ?_
  (repeat(first|refine pSeq ?_|refine pReg ?_|refine sCons ?_|refine sNil ?_|refine rCons ?_|refine rNil ?_|refine kNo ?_|refine pRow ?_|refine pSkip ?_|refine pRet ?_|refine pCond ?_|refine gNone ?_|refine gOn rfl ?_|refine gOff rfl rfl ?_|refine gTup rfl ?_))
  refine st_abs (cs' := pvCells ⟨p.has, eightB l, p.size⟩) rfl rfl h2.blk h2.lt rfl rfl fun s3 e3 c3 m3 => ?_
  have h3 : PvAt s3 pc pb ⟨p.has, eightB l, p.size⟩ := ⟨c3.blk _ _ h2.ltc (by simpa using hne) h2.cell, e3, by rw [m3]; exact h2.lt, by rw [m3]; exact h2.ltc⟩
  have b3 := c3.blk _ _ (Nat.lt_of_lt_of_le (by rw [m1]; exact hbl) c2.next) (by simpa using n2.symm) e2
  have c03 : Chg s s3 [pb, bc] := (c1.trans' c2 (fun id q _ => q) (fun id q _ => by simp at q)).trans' c3 (fun id q _ => by simp at q; simp [q]) (fun id q _ => by simp at q; simp [q])
  (repeat(first|refine pSeq ?_|refine pReg ?_|refine sCons ?_|refine sNil ?_|refine rCons ?_|refine rNil ?_|refine kNo ?_|refine pRow ?_|refine pSkip ?_|refine pRet ?_|refine pCond ?_|refine gNone ?_|refine gOn rfl ?_|refine gOff rfl rfl ?_|refine gTup rfl ?_))
  refine ldI_is rfl b3 rfl ?_
  (repeat(first|refine pSeq ?_|refine pReg ?_|refine sCons ?_|refine sNil ?_|refine rCons ?_|refine rNil ?_|refine kNo ?_|refine pRow ?_|refine pSkip ?_|refine pRet ?_|refine pCond ?_|refine gNone ?_|refine gOn rfl ?_|refine gOff rfl rfl ?_|refine gTup rfl ?_))
  intro q hq
  by_cases hk1 : 1 ≤ k
  · obtain rfl : q = true := by rw [hq]; simp; omega
    (repeat(first|refine pSeq ?_|refine pReg ?_|refine sCons ?_|refine sNil ?_|refine rCons ?_|refine rNil ?_|refine kNo ?_|refine pRow ?_|refine pSkip ?_|refine pRet ?_|refine pCond ?_|refine gNone ?_|refine gOn rfl ?_|refine gOff rfl rfl ?_|refine gTup rfl ?_))
    exact ⟨by unfold bodyE; rw [if_pos (.inl hk1)]; rfl, h3, b3, c03⟩
  · obtain rfl : q = false := by rw [hq]; simp; omega
    (repeat(first|refine pSeq ?_|refine pReg ?_|refine sCons ?_|refine sNil ?_|refine rCons ?_|refine rNil ?_|refine kNo ?_|refine pRow ?_|refine pSkip ?_|refine pRet ?_|refine pCond ?_|refine gNone ?_|refine gOn rfl ?_|refine gOff rfl rfl ?_|refine gTup rfl ?_))
    refine ld1_is rfl h3.cell rfl ?_
    (repeat(first|refine pSeq ?_|refine pReg ?_|refine sCons ?_|refine sNil ?_|refine rCons ?_|refine rNil ?_|refine kNo ?_|refine pRow ?_|refine pSkip ?_|refine pRet ?_|refine pCond ?_|refine gNone ?_|refine gOn rfl ?_|refine gOff rfl rfl ?_|refine gTup rfl ?_))
    refine ldB_is rfl h3.blk rfl ?_
    cases h8 : eightB l with
    | true =>
      rw [h8] at h3
      (repeat(first|refine pSeq ?_|refine pReg ?_|refine sCons ?_|refine sNil ?_|refine rCons ?_|refine rNil ?_|refine kNo ?_|refine pRow ?_|refine pSkip ?_|refine pRet ?_|refine pCond ?_|refine gNone ?_|refine gOn rfl ?_|refine gOff rfl rfl ?_|refine gTup rfl ?_))
      intro q hq
      obtain rfl : q = false := hq
      (repeat(first|refine pSeq ?_|refine pReg ?_|refine sCons ?_|refine sNil ?_|refine rCons ?_|refine rNil ?_|refine kNo ?_|refine pRow ?_|refine pSkip ?_|refine pRet ?_|refine pCond ?_|refine gNone ?_|refine gOn rfl ?_|refine gOff rfl rfl ?_|refine gTup rfl ?_))
      exact ⟨by unfold bodyE; rw [if_neg (by simp [h8, hk1])]; rfl, h3, b3, c03⟩
    | false =>
      rw [h8] at h3
      (repeat(first|refine pSeq ?_|refine pReg ?_|refine sCons ?_|refine sNil ?_|refine rCons ?_|refine rNil ?_|refine kNo ?_|refine pRow ?_|refine pSkip ?_|refine pRet ?_|refine pCond ?_|refine gNone ?_|refine gOn rfl ?_|refine gOff rfl rfl ?_|refine gTup rfl ?_))
      intro q hq
      obtain rfl : q = true := hq
      (repeat(first|refine pSeq ?_|refine pReg ?_|refine sCons ?_|refine sNil ?_|refine rCons ?_|refine rNil ?_|refine kNo ?_|refine pRow ?_|refine pSkip ?_|refine pRet ?_|refine pCond ?_|refine gNone ?_|refine gOn rfl ?_|refine gOff rfl rfl ?_|refine gTup rfl ?_))
      refine (same_w (t := [55, 66, 73, 84]) hl (by simp)).mono fun v s4 q => ?_
      obtain ⟨rfl, c4⟩ := q
      have h4 := h3.chg c4 (by simp) (by simp)
      have b4 := c4.blk _ _ (Nat.lt_of_lt_of_le (Nat.lt_of_lt_of_le (by rw [m1]; exact hbl) c2.next) c3.next) (by simp) b3
      have c04 : Chg s s4 [pb, bc] := c03.trans' c4 (fun _ q _ => q) (fun id q _ => by simp at q)
      have e7 : decide (l.map lowB = [55, 66, 73, 84].map lowB) = sevenB l := rfl
      rw [e7]
      cases h7 : sevenB l with
      | true =>
        (repeat(first|refine pSeq ?_|refine pReg ?_|refine sCons ?_|refine sNil ?_|refine rCons ?_|refine rNil ?_|refine kNo ?_|refine pRow ?_|refine pSkip ?_|refine pRet ?_|refine pCond ?_|refine gNone ?_|refine gOn rfl ?_|refine gOff rfl rfl ?_|refine gTup rfl ?_))
        intro q hq
        obtain rfl : q = false := hq
        (repeat(first|refine pSeq ?_|refine pReg ?_|refine sCons ?_|refine sNil ?_|refine rCons ?_|refine rNil ?_|refine kNo ?_|refine pRow ?_|refine pSkip ?_|refine pRet ?_|refine pCond ?_|refine gNone ?_|refine gOn rfl ?_|refine gOff rfl rfl ?_|refine gTup rfl ?_))
        exact ⟨by unfold bodyE; rw [if_neg (by simp [h7, hk1])]; rfl, h4, b4, c04⟩
      | false =>
        (repeat(first|refine pSeq ?_|refine pReg ?_|refine sCons ?_|refine sNil ?_|refine rCons ?_|refine rNil ?_|refine kNo ?_|refine pRow ?_|refine pSkip ?_|refine pRet ?_|refine pCond ?_|refine gNone ?_|refine gOn rfl ?_|refine gOff rfl rfl ?_|refine gTup rfl ?_))
        intro q hq
        obtain rfl : q = true := hq
        (repeat(first|refine pSeq ?_|refine pReg ?_|refine sCons ?_|refine sNil ?_|refine rCons ?_|refine rNil ?_|refine kNo ?_|refine pRow ?_|refine pSkip ?_|refine pRet ?_|refine pCond ?_|refine gNone ?_|refine gOn rfl ?_|refine gOff rfl rfl ?_|refine gTup rfl ?_))
        exact ⟨by unfold bodyE; rw [if_pos (by simp [h8, h7])]; rfl, h4, b4, c04⟩
end Go.Vf.S
end
/- PaC -/
section
/- Paths: a parameter. -/
namespace Go.Vf.S
open Go Go.Vf Go.MapKept
attribute [local irreducible] wSeq wRow wp wG
set_option linter.unusedVariables false
set_option linter.unusedSimpArgs false
set_option maxRecDepth 10000

def sizeL : List UInt8 := [115, 105, 122, 101]
def bodyL : List UInt8 := [98, 111, 100, 121]
def knownM (pc bc : Nat) : List MapEntry := [⟨str sizeL, .func (.func n_path_Params_known_1) #[] #[.pointer (some ⟨pc, 0, none⟩)], 0⟩, ⟨str bodyL, .func (.func n_path_Params_known_2) #[] #[.pointer (some ⟨bc, 0, none⟩), .pointer (some ⟨pc, 0, none⟩)], 1⟩]

abbrev tKn : TypeId := 88
abbrev tFe : TypeId := 101
theorem um_kn : pr.underlying tKn = some (.map tS tFe) := by kernel_rfl
theorem kn_keys (pc bc : Nat) : ∀ x ∈ knownM pc bc, IsKey .string x.key := by
  intro x hx
  simp only [knownM, List.mem_cons, List.not_mem_nil, or_false] at hx
  rcases hx with rfl | rfl <;> trivial

theorem kn_size (pc bc : Nat) : ∀ x ∈ knownM pc bc, x.key = str sizeL → x.val = .func (.func n_path_Params_known_1) #[] #[.pointer (some ⟨pc, 0, none⟩)] := by
  intro x hx hk
  simp only [knownM, List.mem_cons, List.not_mem_nil, or_false] at hx
  rcases hx with rfl | rfl
  · rfl
  · simp [str, sizeL, bodyL] at hk
theorem kn_body (pc bc : Nat) : ∀ x ∈ knownM pc bc, x.key = str bodyL → x.val = .func (.func n_path_Params_known_2) #[] #[.pointer (some ⟨bc, 0, none⟩), .pointer (some ⟨pc, 0, none⟩)] := by
  intro x hx hk
  simp only [knownM, List.mem_cons, List.not_mem_nil, or_false] at hx
  rcases hx with rfl | rfl
  · simp [str, sizeL, bodyL] at hk
  · rfl
theorem kn_none (pc bc : Nat) {t : List UInt8} (h1 : ¬t = sizeL) (h2 : ¬t = bodyL) : ∀ x ∈ knownM pc bc, x.key ≠ str t := by
  intro x hx hk
  simp only [knownM, List.mem_cons, List.not_mem_nil, or_false] at hx
  rcases hx with rfl | rfl
  · simp [str] at hk; exact h1 hk.symm
  · simp [str] at hk; exact h2 hk.symm

/-! What a parameter says -/
def nameP (l : List UInt8) : List UInt8 := (cutF 61 l).1
def valP (l : List UInt8) : List UInt8 := (cutF 61 l).2.1
def hasP (l : List UInt8) : Bool := (cutF 61 l).2.2
def formP (l : List UInt8) : Bool := rowF namN (nameP l) && (!hasP l || rowF valN (valP l))
def sayE (p : Pv) (k : Nat) (l : List UInt8) : Int := if formP l = false then 5 else if hasP l = false then 1 else if (nameP l).map lowB = sizeL then sizeE p (valP l) else if (nameP l).map lowB = bodyL then bodyE k (valP l) else 1
def sayV (p : Pv) (l : List UInt8) : Pv := if formP l = true ∧ hasP l = true ∧ (nameP l).map lowB = sizeL then ⟨true, p.eight, (numberF (valP l) 9).1⟩ else if formP l = true ∧ hasP l = true ∧ (nameP l).map lowB = bodyL then ⟨p.has, eightB (valP l), p.size⟩ else p
def sayK (k : Nat) (l : List UInt8) : Nat := if formP l = true ∧ hasP l = true ∧ (nameP l).map lowB = bodyL then k + 1 else k

set_option maxHeartbeats 1000000 in
theorem say_w {s : SS} {pc pb bc mp k : Nat} {p : Pv} {l : List UInt8} (h : PvAt s pc pb p) (hb : lookH s.heap bc = some (.cells [.int .i64 k] tI false false)) (hbl : bc < s.next) (hm : lookH s.heap mp = some (.map (knownM pc bc) 2)) (hml : mp < s.next) (hf : Fine s) (hk : k < 1000000) (hl : l.length ≤ 1000000) :
    CallW pr n_path_say [str l, .map (some mp)] s fun v s' => v = .int .i64 (sayE p k l) ∧ PvAt s' pc pb (sayV p l) ∧ lookH s'.heap bc = some (.cells [.int .i64 (sayK k l)] tI false false) ∧ Chg s s' [pb, bc] := by
  have hlen : (cutF 61 l).1.length ≤ 1000000 ∧ (cutF 61 l).2.1.length ≤ 1000000 := by
    unfold cutF
    split
    · refine ⟨Nat.le_trans (List.takeWhile_sublist _).length_le hl, ?_⟩
      show (l.drop _).length ≤ _
      rw [List.length_drop]; omega
    · exact ⟨hl, by simp⟩
  have eN : nameP l = (cutF 61 l).1 := rfl
  have eV : valP l = (cutF 61 l).2.1 := rfl
  have eH : hasP l = (cutF 61 l).2.2 := rfl
  refine CallW.run good ok_path_say (by simp) rfl ?_
  (repeat(first|refine pSeq ?_|refine pReg ?_|refine sRaw ?_|refine sCons ?_|refine sNil ?_|refine pSkip ?_|refine pRet ?_|refine pCond ?_|refine gNone ?_|refine gOn rfl ?_|refine gOff rfl rfl ?_|refine gTup rfl ?_))
  refine (cut1_w (c := 61) hl).mono fun v s q => ?_
  obtain ⟨rfl, rfl⟩ := q
  generalize cutF 61 l = C at *
  obtain ⟨name, value, valued⟩ := C
  dsimp only at *
  obtain ⟨hname, hvalue⟩ := hlen
  (repeat(first|refine pSeq ?_|refine pReg ?_|refine sRaw ?_|refine sCons ?_|refine sNil ?_|refine pSkip ?_|refine pRet ?_|refine pCond ?_|refine gNone ?_|refine gOn rfl ?_|refine gOff rfl rfl ?_|refine gTup rfl ?_))
  refine (row_w hname (fun x => by kernel_rfl) (fun r s1 hr => nameLetter_w hr) nam_hi).mono fun v s1 q => ?_
  obtain ⟨rfl, c1⟩ := q
  have h1 := h.chg c1 (by simp) (by simp)
  have b1 := c1.blk _ _ hbl (by simp) hb
  have m1 := c1.blk _ _ hml (by simp) hm
  have bl1 := Nat.lt_of_lt_of_le hbl c1.next
  have ml1 := Nat.lt_of_lt_of_le hml c1.next
  (repeat(first|refine pSeq ?_|refine pReg ?_|refine sRaw ?_|refine sCons ?_|refine sNil ?_|refine pSkip ?_|refine pRet ?_|refine pCond ?_|refine gNone ?_|refine gOn rfl ?_|refine gOff rfl rfl ?_|refine gTup rfl ?_))
  intro q hq
  cases hr : rowF namN name with
  | false =>
    obtain rfl : q = true := by rw [hq, hr]; rfl
    (repeat(first|refine pSeq ?_|refine pReg ?_|refine sRaw ?_|refine sCons ?_|refine sNil ?_|refine pSkip ?_|refine pRet ?_|refine pCond ?_|refine gNone ?_|refine gOn rfl ?_|refine gOff rfl rfl ?_|refine gTup rfl ?_))
    exact ⟨by show Value.int .i64 5 = _; rw [show sayE p k l = 5 from by simp [sayE, formP, eN, eV, eH, hr]], by rw [show sayV p l = p from by simp [sayV, formP, eN, eV, eH, hr]]; exact h1, by rw [show sayK k l = k from by simp [sayK, formP, eN, eV, eH, hr]]; exact b1, c1.sub (by simp)⟩
  | true =>
    obtain rfl : q = false := by rw [hq, hr]; rfl
    (repeat(first|refine pSeq ?_|refine pReg ?_|refine sRaw ?_|refine sCons ?_|refine sNil ?_|refine pSkip ?_|refine pRet ?_|refine pCond ?_|refine gNone ?_|refine gOn rfl ?_|refine gOff rfl rfl ?_|refine gTup rfl ?_))
    cases valued with
    | false =>
      (repeat(first|refine pSeq ?_|refine pReg ?_|refine sRaw ?_|refine sCons ?_|refine sNil ?_|refine pSkip ?_|refine pRet ?_|refine pCond ?_|refine gNone ?_|refine gOn rfl ?_|refine gOff rfl rfl ?_|refine gTup rfl ?_))
      refine (lower_w hname).mono fun v s2 q => ?_
      obtain ⟨rfl, c2⟩ := q
      have h2 := h1.chg c2 (by simp) (by simp)
      have b2 := c2.blk _ _ bl1 (by simp) b1
      have m2 := c2.blk _ _ ml1 (by simp) m1
      have c12 : Chg s s2 [] := c1.nil c2
      (repeat(first|refine pSeq ?_|refine pReg ?_|refine sRaw ?_|refine sCons ?_|refine sNil ?_|refine pSkip ?_|refine pRet ?_|refine pCond ?_|refine gNone ?_|refine gOn rfl ?_|refine gOff rfl rfl ?_|refine gTup rfl ?_))
      by_cases hs : name.map lowB = sizeL
      · rw [hs]
        refine lookup_val (d := .string) (v := .func (.func n_path_Params_known_1) #[] #[.pointer (some ⟨pc, 0, none⟩)]) rfl um_kn un_S rfl rfl trivial m2 (kn_keys _ _) ⟨_, List.mem_cons_self .., rfl⟩ (kn_size _ _) ?_
        (repeat(first|refine pSeq ?_|refine pReg ?_|refine sRaw ?_|refine sCons ?_|refine sNil ?_|refine pSkip ?_|refine pRet ?_|refine pCond ?_|refine gNone ?_|refine gOn rfl ?_|refine gOff rfl rfl ?_|refine gTup rfl ?_))
        intro q hq
        obtain rfl : q = false := hq
        (repeat(first|refine pSeq ?_|refine pReg ?_|refine sRaw ?_|refine sCons ?_|refine sNil ?_|refine pSkip ?_|refine pRet ?_|refine pCond ?_|refine gNone ?_|refine gOn rfl ?_|refine gOff rfl rfl ?_|refine gTup rfl ?_))
        intro q hq
        obtain rfl : q = true := hq
        (repeat(first|refine pSeq ?_|refine pReg ?_|refine sRaw ?_|refine sCons ?_|refine sNil ?_|refine pSkip ?_|refine pRet ?_|refine pCond ?_|refine gNone ?_|refine gOn rfl ?_|refine gOff rfl rfl ?_|refine gTup rfl ?_))
        exact ⟨by show Value.int .i64 1 = _; rw [show sayE p k l = 1 from by simp [sayE, formP, eN, eV, eH, hr]], by rw [show sayV p l = p from by simp [sayV, formP, eN, eV, eH, hr]]; exact h2, by rw [show sayK k l = k from by simp [sayK, formP, eN, eV, eH, hr]]; exact b2, c12.sub (by simp)⟩
      by_cases hy : name.map lowB = bodyL
      · rw [hy]
        refine lookup_val (d := .string) (v := .func (.func n_path_Params_known_2) #[] #[.pointer (some ⟨bc, 0, none⟩), .pointer (some ⟨pc, 0, none⟩)]) rfl um_kn un_S rfl rfl trivial m2 (kn_keys _ _) ⟨_, List.mem_cons_of_mem _ (List.mem_cons_self ..), rfl⟩ (kn_body _ _) ?_
        (repeat(first|refine pSeq ?_|refine pReg ?_|refine sRaw ?_|refine sCons ?_|refine sNil ?_|refine pSkip ?_|refine pRet ?_|refine pCond ?_|refine gNone ?_|refine gOn rfl ?_|refine gOff rfl rfl ?_|refine gTup rfl ?_))
        intro q hq
        obtain rfl : q = false := hq
        (repeat(first|refine pSeq ?_|refine pReg ?_|refine sRaw ?_|refine sCons ?_|refine sNil ?_|refine pSkip ?_|refine pRet ?_|refine pCond ?_|refine gNone ?_|refine gOn rfl ?_|refine gOff rfl rfl ?_|refine gTup rfl ?_))
        intro q hq
        obtain rfl : q = true := hq
        (repeat(first|refine pSeq ?_|refine pReg ?_|refine sRaw ?_|refine sCons ?_|refine sNil ?_|refine pSkip ?_|refine pRet ?_|refine pCond ?_|refine gNone ?_|refine gOn rfl ?_|refine gOff rfl rfl ?_|refine gTup rfl ?_))
        exact ⟨by show Value.int .i64 1 = _; rw [show sayE p k l = 1 from by simp [sayE, formP, eN, eV, eH, hr]], by rw [show sayV p l = p from by simp [sayV, formP, eN, eV, eH, hr]]; exact h2, by rw [show sayK k l = k from by simp [sayK, formP, eN, eV, eH, hr]]; exact b2, c12.sub (by simp)⟩
      refine lookup_out (d := .string) (z := .nilFunc) rfl um_kn un_S rfl rfl trivial rfl m2 (kn_keys _ _) (kn_none _ _ hs hy) (fun w => rfl) ?_
      (repeat(first|refine pSeq ?_|refine pReg ?_|refine sRaw ?_|refine sCons ?_|refine sNil ?_|refine pSkip ?_|refine pRet ?_|refine pCond ?_|refine gNone ?_|refine gOn rfl ?_|refine gOff rfl rfl ?_|refine gTup rfl ?_))
      intro q hq
      obtain rfl : q = true := hq
      (repeat(first|refine pSeq ?_|refine pReg ?_|refine sRaw ?_|refine sCons ?_|refine sNil ?_|refine pSkip ?_|refine pRet ?_|refine pCond ?_|refine gNone ?_|refine gOn rfl ?_|refine gOff rfl rfl ?_|refine gTup rfl ?_))
      exact ⟨by show Value.int .i64 1 = _; rw [show sayE p k l = 1 from by simp [sayE, formP, eN, eV, eH, hr]], by rw [show sayV p l = p from by simp [sayV, formP, eN, eV, eH, hr]]; exact h2, by rw [show sayK k l = k from by simp [sayK, formP, eN, eV, eH, hr]]; exact b2, c12.sub (by simp)⟩
    | true =>
      (repeat(first|refine pSeq ?_|refine pReg ?_|refine sRaw ?_|refine sCons ?_|refine sNil ?_|refine pSkip ?_|refine pRet ?_|refine pCond ?_|refine gNone ?_|refine gOn rfl ?_|refine gOff rfl rfl ?_|refine gTup rfl ?_))
      refine (row_w hvalue (fun x => by kernel_rfl) (fun r s1 hr => valueLetter_w hr) val_hi).mono fun v s2 q => ?_
      obtain ⟨rfl, c2⟩ := q
      have h2 := h1.chg c2 (by simp) (by simp)
      have b2 := c2.blk _ _ bl1 (by simp) b1
      have m2 := c2.blk _ _ ml1 (by simp) m1
      have bl2 := Nat.lt_of_lt_of_le bl1 c2.next
      have ml2 := Nat.lt_of_lt_of_le ml1 c2.next
      have c12 : Chg s s2 [] := c1.nil c2
      (repeat(first|refine pSeq ?_|refine pReg ?_|refine sRaw ?_|refine sCons ?_|refine sNil ?_|refine pSkip ?_|refine pRet ?_|refine pCond ?_|refine gNone ?_|refine gOn rfl ?_|refine gOff rfl rfl ?_|refine gTup rfl ?_))
      intro q hq
      cases hv : rowF valN value with
      | false =>
        obtain rfl : q = true := by rw [hq, hv]; rfl
        (repeat(first|refine pSeq ?_|refine pReg ?_|refine sRaw ?_|refine sCons ?_|refine sNil ?_|refine pSkip ?_|refine pRet ?_|refine pCond ?_|refine gNone ?_|refine gOn rfl ?_|refine gOff rfl rfl ?_|refine gTup rfl ?_))
        exact ⟨by show Value.int .i64 5 = _; rw [show sayE p k l = 5 from by simp [sayE, formP, eN, eV, eH, hr, hv]], by rw [show sayV p l = p from by simp [sayV, formP, eN, eV, eH, hr, hv]]; exact h2, by rw [show sayK k l = k from by simp [sayK, formP, eN, eV, eH, hr, hv]]; exact b2, c12.sub (by simp)⟩
      | true =>
        obtain rfl : q = false := by rw [hq, hv]; rfl
        (repeat(first|refine pSeq ?_|refine pReg ?_|refine sRaw ?_|refine sCons ?_|refine sNil ?_|refine pSkip ?_|refine pRet ?_|refine pCond ?_|refine gNone ?_|refine gOn rfl ?_|refine gOff rfl rfl ?_|refine gTup rfl ?_))
        refine (lower_w hname).mono fun v s3 q => ?_
        obtain ⟨rfl, c3⟩ := q
        have h3 := h2.chg c3 (by simp) (by simp)
        have b3 := c3.blk _ _ bl2 (by simp) b2
        have m3 := c3.blk _ _ ml2 (by simp) m2
        have bl3 := Nat.lt_of_lt_of_le bl2 c3.next
        have c13 : Chg s s3 [] := c12.nil c3
        (repeat(first|refine pSeq ?_|refine pReg ?_|refine sRaw ?_|refine sCons ?_|refine sNil ?_|refine pSkip ?_|refine pRet ?_|refine pCond ?_|refine gNone ?_|refine gOn rfl ?_|refine gOff rfl rfl ?_|refine gTup rfl ?_))
        by_cases hs : name.map lowB = sizeL
        · rw [hs]
          refine lookup_val (d := .string) (v := .func (.func n_path_Params_known_1) #[] #[.pointer (some ⟨pc, 0, none⟩)]) rfl um_kn un_S rfl rfl trivial m3 (kn_keys _ _) ⟨_, List.mem_cons_self .., rfl⟩ (kn_size _ _) ?_
          (repeat(first|refine pSeq ?_|refine pReg ?_|refine sRaw ?_|refine sCons ?_|refine sNil ?_|refine pSkip ?_|refine pRet ?_|refine pCond ?_|refine gNone ?_|refine gOn rfl ?_|refine gOff rfl rfl ?_|refine gTup rfl ?_))
          intro q hq
          obtain rfl : q = false := hq
          (repeat(first|refine pSeq ?_|refine pReg ?_|refine sRaw ?_|refine sCons ?_|refine sNil ?_|refine pSkip ?_|refine pRet ?_|refine pCond ?_|refine gNone ?_|refine gOn rfl ?_|refine gOff rfl rfl ?_|refine gTup rfl ?_))
          intro q hq
          obtain rfl : q = false := hq
          (repeat(first|refine pSeq ?_|refine pReg ?_|refine sRaw ?_|refine sCons ?_|refine sNil ?_|refine pSkip ?_|refine pRet ?_|refine pCond ?_|refine gNone ?_|refine gOn rfl ?_|refine gOff rfl rfl ?_|refine gTup rfl ?_))
          refine ⟨.call n_path_Params_known_1 [str value, .pointer (some ⟨pc, 0, none⟩)], by kernel_rfl, ?_⟩
          refine (known1_w h3 hvalue).mono fun v s4 q => ?_
          obtain ⟨rfl, p4, c4⟩ := q
          have nb : pb ≠ bc := pm_ne h3.blk b3 (by decide)
          have b4 := c4.blk _ _ bl3 (by simpa using nb.symm) b3
          (repeat(first|refine pSeq ?_|refine pReg ?_|refine sRaw ?_|refine sCons ?_|refine sNil ?_|refine pSkip ?_|refine pRet ?_|refine pCond ?_|refine gNone ?_|refine gOn rfl ?_|refine gOff rfl rfl ?_|refine gTup rfl ?_))
          exact ⟨by show Value.int .i64 (sizeE p value) = _; rw [show sayE p k l = sizeE p value from by simp [sayE, formP, eN, eV, eH, hr, hv, hs]], by rw [show sayV p l = ⟨true, p.eight, (numberF value 9).1⟩ from by simp [sayV, formP, eN, eV, eH, hr, hv, hs]]; exact p4, by rw [show sayK k l = k from by simp [sayK, formP, eN, eV, eH, hr, hv, hs, sizeL, bodyL]]; exact b4, (c13.nil c4).sub (fun id q _ => by simp at q; simp [q])⟩
        by_cases hy : name.map lowB = bodyL
        · rw [hy]
          refine lookup_val (d := .string) (v := .func (.func n_path_Params_known_2) #[] #[.pointer (some ⟨bc, 0, none⟩), .pointer (some ⟨pc, 0, none⟩)]) rfl um_kn un_S rfl rfl trivial m3 (kn_keys _ _) ⟨_, List.mem_cons_of_mem _ (List.mem_cons_self ..), rfl⟩ (kn_body _ _) ?_
          (repeat(first|refine pSeq ?_|refine pReg ?_|refine sRaw ?_|refine sCons ?_|refine sNil ?_|refine pSkip ?_|refine pRet ?_|refine pCond ?_|refine gNone ?_|refine gOn rfl ?_|refine gOff rfl rfl ?_|refine gTup rfl ?_))
          intro q hq
          obtain rfl : q = false := hq
          (repeat(first|refine pSeq ?_|refine pReg ?_|refine sRaw ?_|refine sCons ?_|refine sNil ?_|refine pSkip ?_|refine pRet ?_|refine pCond ?_|refine gNone ?_|refine gOn rfl ?_|refine gOff rfl rfl ?_|refine gTup rfl ?_))
          intro q hq
          obtain rfl : q = false := hq
          (repeat(first|refine pSeq ?_|refine pReg ?_|refine sRaw ?_|refine sCons ?_|refine sNil ?_|refine pSkip ?_|refine pRet ?_|refine pCond ?_|refine gNone ?_|refine gOn rfl ?_|refine gOff rfl rfl ?_|refine gTup rfl ?_))
          refine ⟨.call n_path_Params_known_2 [str value, .pointer (some ⟨bc, 0, none⟩), .pointer (some ⟨pc, 0, none⟩)], by kernel_rfl, ?_⟩
          refine (known2_w h3 b3 bl3 (c13.fine hf) hk hvalue).mono fun v s4 q => ?_
          obtain ⟨rfl, p4, b4, c4⟩ := q
          (repeat(first|refine pSeq ?_|refine pReg ?_|refine sRaw ?_|refine sCons ?_|refine sNil ?_|refine pSkip ?_|refine pRet ?_|refine pCond ?_|refine gNone ?_|refine gOn rfl ?_|refine gOff rfl rfl ?_|refine gTup rfl ?_))
          exact ⟨by show Value.int .i64 (bodyE k value) = _; rw [show sayE p k l = bodyE k value from by simp [sayE, formP, eN, eV, eH, hr, hv, hy, show ¬ bodyL = sizeL from by decide]], by rw [show sayV p l = ⟨p.has, eightB value, p.size⟩ from by simp [sayV, formP, eN, eV, eH, hr, hv, hy, show ¬ bodyL = sizeL from by decide]]; exact p4, by rw [show sayK k l = k + 1 from by simp [sayK, formP, eN, eV, eH, hr, hv, hy, show ¬ bodyL = sizeL from by decide]]; exact b4, c13.nil c4⟩
        refine lookup_out (d := .string) (z := .nilFunc) rfl um_kn un_S rfl rfl trivial rfl m3 (kn_keys _ _) (kn_none _ _ hs hy) (fun w => rfl) ?_
        (repeat(first|refine pSeq ?_|refine pReg ?_|refine sRaw ?_|refine sCons ?_|refine sNil ?_|refine pSkip ?_|refine pRet ?_|refine pCond ?_|refine gNone ?_|refine gOn rfl ?_|refine gOff rfl rfl ?_|refine gTup rfl ?_))
        intro q hq
        obtain rfl : q = true := hq
        (repeat(first|refine pSeq ?_|refine pReg ?_|refine sRaw ?_|refine sCons ?_|refine sNil ?_|refine pSkip ?_|refine pRet ?_|refine pCond ?_|refine gNone ?_|refine gOn rfl ?_|refine gOff rfl rfl ?_|refine gTup rfl ?_))
        exact ⟨by show Value.int .i64 1 = _; rw [show sayE p k l = 1 from by simp [sayE, formP, eN, eV, eH, hr, hv, hs, hy]], by rw [show sayV p l = p from by simp [sayV, formP, eN, eV, eH, hr, hv, hs, hy]]; exact h3, by rw [show sayK k l = k from by simp [sayK, formP, eN, eV, eH, hr, hv, hs, hy]]; exact b3, c13.sub (by simp)⟩
end Go.Vf.S
end
/- PaD -/
section
/- Paths: what is known. -/
namespace Go.Vf.S
open Go Go.Vf Go.MapKept
attribute [local irreducible] wSeq wRow wp wG
set_option linter.unusedVariables false
set_option linter.unusedSimpArgs false
set_option maxRecDepth 10000

theorem known_w {s : SS} {pb : Nat} {p : Pv} (hb : lookH s.heap pb = some (.cells (pvCells p) tPm false false)) (hl : pb < s.next) (hf : Fine s) :
    CallW pr n_path_Params_known [.pointer (some ⟨pb, 0, none⟩)] s fun v s' => ∃ pc bc mp, v = .map (some mp) ∧ PvAt s' pc pb p ∧ lookH s'.heap bc = some (.cells [.int .i64 0] tI false false) ∧ bc < s'.next ∧ lookH s'.heap mp = some (.map (knownM pc bc) 2) ∧ mp < s'.next ∧ Chg s s' [] ∧ s.next ≤ bc := by
  refine CallW.run good ok_path_Params_known (by simp) rfl ?_
  have cA := Chg.new (s := s) (b := .cells (flat (.pointer (some ⟨pb, 0, none⟩))) tPp false false) []
  have eA : lookH ({ s with heap := (s.next, some (.cells (flat (.pointer (some ⟨pb, 0, none⟩))) tPp false false)) :: s.heap, next := s.next + 1 } : SS).heap s.next = some (.cells [.pointer (some ⟨pb, 0, none⟩)] tPp false false) := lkH
  have nA : ({ s with heap := (s.next, some (.cells (flat (.pointer (some ⟨pb, 0, none⟩))) tPp false false)) :: s.heap, next := s.next + 1 } : SS).next = s.next + 1 := rfl
  (repeat(first|refine pSeq ?_|refine pReg ?_|refine sRaw ?_|refine sCons ?_|refine sNil ?_|refine pRet ?_|refine gNone ?_))
  generalize ({ s with heap := (s.next, some (.cells (flat (.pointer (some ⟨pb, 0, none⟩))) tPp false false)) :: s.heap, next := s.next + 1 } : SS) = s1 at *
  have h1 : PvAt s1 s.next pb p := ⟨eA, cA.blk _ _ hl (by simp) hb, by omega, by omega⟩
  have cB := Chg.new (s := s1) (b := .cells [.int .i64 0] tI false false) []
  refine st_abs rfl rfl lkH (Nat.lt_succ_self _) rfl rfl fun s2 e2 c2 n2 => ?_
  have c12 : Chg s1 s2 [] := cB.fresh c2 (fun id q => by simp at q; omega)
  have h2 := h1.chg c12 (by simp) (by simp)
  have n2' : s2.next = s1.next + 1 := n2
  (repeat(first|refine pSeq ?_|refine pReg ?_|refine sRaw ?_|refine sCons ?_|refine sNil ?_|refine pRet ?_|refine gNone ?_))
  refine ⟨.new (.map [] 0) fun id => .map (some id), rfl, ?_⟩
  (repeat(first|refine pSeq ?_|refine pReg ?_|refine sRaw ?_|refine sCons ?_|refine sNil ?_|refine pRet ?_|refine gNone ?_))
  have cM : Chg s2 ({ s2 with heap := (s2.next, some (.map [] 0)) :: s2.heap, next := s2.next + 1 } : SS) [] := Chg.new []
  have eM : lookH ({ s2 with heap := (s2.next, some (.map [] 0)) :: s2.heap, next := s2.next + 1 } : SS).heap s2.next = some (.map [] 0) := lkH
  have nM : ({ s2 with heap := (s2.next, some (.map [] 0)) :: s2.heap, next := s2.next + 1 } : SS).next = s2.next + 1 := rfl
  generalize ({ s2 with heap := (s2.next, some (.map [] 0)) :: s2.heap, next := s2.next + 1 } : SS) = s3 at cM eM nM ⊢
  refine ⟨.val (.func (.func n_path_Params_known_1) #[] #[.pointer (some ⟨s.next, 0, none⟩)]), rfl, ?_⟩
  (repeat(first|refine pSeq ?_|refine pReg ?_|refine sRaw ?_|refine sCons ?_|refine sNil ?_|refine pRet ?_|refine gNone ?_))
  refine insert_abs rfl um_kn un_S rfl rfl rfl eM (by omega) (by decide) (by decide) fun s4 e4 c4 n4 => ?_
  (repeat(first|refine pSeq ?_|refine pReg ?_|refine sRaw ?_|refine sCons ?_|refine sNil ?_|refine pRet ?_|refine gNone ?_))
  refine ⟨.val (.func (.func n_path_Params_known_2) #[] #[.pointer (some ⟨s1.next, 0, none⟩), .pointer (some ⟨s.next, 0, none⟩)]), rfl, ?_⟩
  (repeat(first|refine pSeq ?_|refine pReg ?_|refine sRaw ?_|refine sCons ?_|refine sNil ?_|refine pRet ?_|refine gNone ?_))
  refine insert_abs rfl um_kn un_S rfl rfl rfl e4 (by omega) rfl rfl fun s5 e5 c5 n5 => ?_
  (repeat(first|refine pSeq ?_|refine pReg ?_|refine sRaw ?_|refine sCons ?_|refine sNil ?_|refine pRet ?_|refine gNone ?_))
  have c25 : Chg s2 s5 [] := (cM.fresh c4 (by simp)).fresh c5 (by simp)
  exact ⟨s.next, s1.next, s2.next, rfl, h2.chg c25 (by simp) (by simp), c25.blk _ _ (by omega) (by simp) e2, by omega, e5, by omega, (cA.nil c12).nil c25, by omega⟩
end Go.Vf.S
end
/- PaE -/
section
/- Paths: what stands ahead of the end. -/
namespace Go.Vf.S
open Go Go.Vf
attribute [local irreducible] wSeq wRow wp wG
set_option linter.unusedVariables false
set_option linter.unusedSimpArgs false
set_option maxRecDepth 10000

def manyP (l : List UInt8) : Nat := (quotedF l).2.1
def insideP (l : List UInt8) : List UInt8 := l.take (manyP l) ++ (cutF 62 (l.drop (manyP l))).1

theorem cutAddress_w {s : SS} {l : List UInt8} (hl : l.length ≤ 1000000) :
    CallW pr n_path_cutAddress [str l] s fun v s' => v = .tuple ⟨[str (insideP l), str (cutF 62 (l.drop (manyP l))).2.1, .bool (cutF 62 (l.drop (manyP l))).2.2]⟩ ∧ Chg s s' [] := by
  have hm : manyP l ≤ l.length := quoted_len l
  refine CallW.run good ok_path_cutAddress (by simp) rfl ?_
  (repeat(first|refine pSeq ?_|refine pReg ?_|refine sCons ?_|refine sNil ?_|refine pRet ?_|refine gNone ?_))
  refine (quoted_w hl).mono fun v s1 q => ?_
  obtain ⟨rfl, c1⟩ := q
  unfold insideP
  unfold manyP at *
  generalize hQ : quotedF l = Q at *
  obtain ⟨a, m, e⟩ := Q
  dsimp only [qRes] at *
  (repeat(first|refine pSeq ?_|refine pReg ?_|refine sCons ?_|refine sNil ?_|refine pRet ?_|refine gNone ?_))
  refine ⟨by omega, ?_⟩
  intro k hk r hr
  have hk : (k : Int) = (m : Int) := hk
  obtain rfl : k = m := by omega
  rw [List.take_of_length_le (by simp)] at hr
  subst hr
  (repeat(first|refine pSeq ?_|refine pReg ?_|refine sCons ?_|refine sNil ?_|refine pRet ?_|refine gNone ?_))
  refine (cut1_w (c := 62) (by rw [List.length_drop]; omega)).mono fun v s2 q => ?_
  obtain ⟨rfl, rfl⟩ := q
  (repeat(first|refine pSeq ?_|refine pReg ?_|refine sCons ?_|refine sNil ?_|refine pRet ?_|refine gNone ?_))
  refine ⟨by omega, ?_⟩
  intro j hj r hr
  have hj : (j : Int) = (k : Int) := hj
  obtain rfl : j = k := by omega
  rw [List.drop_zero, Nat.sub_zero] at hr
  subst hr
  have hc : (cutF 62 (l.drop j)).1.length ≤ l.length := by
    unfold cutF
    split
    · exact Nat.le_trans (List.takeWhile_sublist _).length_le (by rw [List.length_drop]; omega)
    · rw [List.length_drop]; omega
  (repeat(first|refine pSeq ?_|refine pReg ?_|refine sCons ?_|refine sNil ?_|refine pRet ?_|refine gNone ?_))
  refine ⟨by rw [List.length_take]; omega, ?_⟩
  intro w hw
  subst hw
  (repeat(first|refine pSeq ?_|refine pReg ?_|refine sCons ?_|refine sNil ?_|refine pRet ?_|refine gNone ?_))
  exact ⟨rfl, c1⟩
end Go.Vf.S
end
/- PaF -/
section
/- Paths: parameters, one behind the other. -/
namespace Go.Vf.S
open Go Go.Vf
attribute [local irreducible] wSeq wRow wp wG
set_option linter.unusedVariables false
set_option linter.unusedSimpArgs false
set_option maxRecDepth 10000

theorem part_any {c : UInt8} : ∀ {l p : List UInt8}, p ∈ splitF c l → p.length ≤ l.length
  | [], p, h => by
    have : p = [] := by simpa [splitF, sp] using h
    simp [this]
  | x :: r, p, h => by
    have ih := @part_any c r
    unfold splitF at h ih
    by_cases hx : x = c
    · rw [sp, if_pos hx] at h
      rcases List.mem_cons.1 h with e | q
      · simp [e]
      · have := ih q
        simp; omega
    · rw [sp, if_neg hx] at h
      rcases List.mem_cons.1 h with e | q
      · have := ih (List.mem_cons_self ..)
        rw [e]; simp; omega
      · have := ih (List.mem_cons_of_mem _ q)
        simp; omega

/-- The front cut off a row whose room is all its own. -/
theorem slL_rest {P : Program} {T : TL} {s : SS} {K : RR → Prop} {x lo : Operand} {b n cap : Nat} {cs : List Value} {t : TypeId} {r : Bool} (hl : opd T s.gl lo = some (.int .i64 1)) (hx : opd T s.gl x = some (.slice (some ⟨b, 0, none⟩) n cap)) (hb : lookH s.heap b = some (.cells cs t false r)) (h1 : 1 ≤ n) (hc : n ≤ cap)
    (h : ∀ o d, (2 ≤ n → o = 1) → K (.val (.slice (some ⟨b, o, none⟩) (n - 1) d))) : wN P (.slL 1 x (some lo) none) T s K := by
  simp only [wN, hx, hb, opdO, hl]
  refine wBnd_is (k := n) ?_ hc ?_
  · exact rfl
  refine wBnd_is (k := 1) ?_ h1 fun o n' d ho hn hd => ?_
  · exact rfl
  subst hn
  refine h o d fun h2 => ?_
  rw [ho, if_neg (by omega)]

theorem lk_ne {H : List (Nat × Option ABlk)} {a b : Nat} {x y : ABlk} (h : lookH H a = some x) (k : lookH H b = some y) (hne : x ≠ y) : a ≠ b := by
  rintro rfl
  rw [h] at k
  cases k
  exact hne rfl
theorem no2 {a x y : Nat} (h : a ≠ x) (k : a ≠ y) : a ∉ [x, y] := by simp [h, k]

def pv0 : Pv := ⟨false, false, 0⟩
/-- What parameters say, from what the ones ahead said on. -/
def goP : Pv → Nat → Int → List (List UInt8) → Pv × Int
  | p, _, w, [] => if w = 0 then (p, 0) else (pv0, w)
  | p, k, w, x :: r => if sayE p k x = 5 then (pv0, 5) else goP (sayV p x) (sayK k x) (if sayE p k x = 0 then w else sayE p k x) r
def paramsF (l : List UInt8) : Pv × Int := if (sp 32 l).1 = [] then goP pv0 0 0 (sp 32 l).2 else (pv0, 5)

abbrev pmV (p : Pv) : Value := .agg ⟨pvCells p⟩
theorem agg_Pm : aggB pr tPm = some true := by kernel_rfl
theorem sz_Pm : sizeB pr tPm = some 3 := by kernel_rfl
theorem agg3 {p : Pv} : takeN 3 ((pvCells p).drop 0) = some (pvCells p) := rfl

theorem sayK_le (k : Nat) (l : List UInt8) : sayK k l ≤ k + 1 := by
  unfold sayK
  split <;> omega

structure PpIt where
  j : Nat
  p : Pv
  k : Nat
  w : Int
  s : SS

set_option maxHeartbeats 1000000 in
theorem params_w {s : SS} {l : List UInt8} (hf : Fine s) (hl : l.length ≤ 900000) : CallW pr n_path_ParseParams [str l] s fun v s' => v = .tuple ⟨[pmV (paramsF l).1, .int .i64 (paramsF l).2]⟩ ∧ Chg s s' [] := by
  have hcount : (splitF 32 l).length ≤ 900001 := by rw [split_len]; have := @List.count_le_length _ _ 32 l; omega
  have hparts : ∀ p ∈ splitF 32 l, p.length ≤ 1000000 := fun p hp => by have := part_any hp; omega
  have eF : paramsF l = if (sp 32 l).1 = [] then goP pv0 0 0 (sp 32 l).2 else (pv0, 5) := rfl
  have eS : splitF 32 l = (sp 32 l).1 :: (sp 32 l).2 := rfl
  rw [eS] at hcount hparts
  refine CallW.run good ok_path_ParseParams (by simp) rfl ?_
  (repeat(first|refine pSeq ?_|refine pReg ?_|refine sCons ?_|refine sNil ?_|refine pBlock ?_|refine pSkip ?_|refine pExit ?_|refine pRet ?_|refine pCond ?_|refine gNone ?_))
  refine (known_w (p := pv0) (pb := s.next + 1) lkH (Nat.lt_succ_self _) (((Chg.new []).nil (Chg.new [])).fine hf)).mono fun v s3 q => ?_
  obtain ⟨pc, bc, mp, rfl, h3, hb3, bl3, hm3, ml3, c13, hbc⟩ := q
  have c3 : Chg s s3 [] := ((Chg.new []).nil (Chg.new [])).nil c13
  have r3 : lookH s3.heap s.next = some (.cells (pvCells pv0) tPm false false) := c13.blk _ _ (by show s.next < s.next + 1 + 1; omega) (by simp) (((Chg.new []).blk _ _ (Nat.lt_succ_self _) (by simp) lkH))
  have n3 : s.next + 2 ≤ s3.next := c13.next
  have hbc : s.next + 2 ≤ bc := hbc
  clear c13
  (repeat(first|refine pSeq ?_|refine pReg ?_|refine sCons ?_|refine sNil ?_|refine pBlock ?_|refine pSkip ?_|refine pExit ?_|refine pRet ?_|refine pCond ?_|refine gNone ?_))
  refine (Split_f (l := l) (c := 32) (by omega)).mono fun v s4 q => ?_
  obtain ⟨base, cap, rfl, st4, c34, hB, hcap, b, cs, rfl, hb4⟩ := q
  have hBb : s3.next ≤ b := hB b (by simp [blkOf])
  have hlt4 : b < s4.next := by obtain ⟨b', _, _, _, _, e, h, _⟩ := st4; cases e; exact h
  have hcs : ∀ (i : Nat) x, (splitF 32 l)[i]? = some x → cs[i]? = some (str x) := by
    obtain ⟨b', cs', _, _, _, e, h, h', h''⟩ := st4; cases e; rw [hb4] at h'; cases h'; exact h''
  have c4 : Chg s s4 [] := c3.nil c34
  have h4 := h3.chg c34 (by simp) (by simp)
  have hb4' := c34.blk _ _ bl3 (by simp) hb3
  have hm4 := c34.blk _ _ ml3 (by simp) hm3
  have r4 := c34.blk _ _ (by omega) (by simp) r3
  have n4 := c34.next
  rw [eF]
  rw [eS] at *
  generalize hfirst : (sp 32 l).1 = first at *
  generalize hrest : (sp 32 l).2 = rest at *
  (repeat(first|refine pSeq ?_|refine pReg ?_|refine sCons ?_|refine sNil ?_|refine pBlock ?_|refine pSkip ?_|refine pExit ?_|refine pRet ?_|refine pCond ?_|refine gNone ?_))
  refine ⟨by simp, ?_⟩
  intro m hm o ho
  obtain rfl : m = 0 := by omega
  obtain rfl : o = 0 := by omega
  (repeat(first|refine pSeq ?_|refine pReg ?_|refine sCons ?_|refine sNil ?_|refine pBlock ?_|refine pSkip ?_|refine pExit ?_|refine pRet ?_|refine pCond ?_|refine gNone ?_))
  refine ldS_is rfl hb4 (hcs 0 first rfl) ?_
  (repeat(first|refine pSeq ?_|refine pReg ?_|refine sCons ?_|refine sNil ?_|refine pBlock ?_|refine pSkip ?_|refine pExit ?_|refine pRet ?_|refine pCond ?_|refine gNone ?_))
  intro q hq
  by_cases hfe : first = []
  · obtain rfl : q = false := by rw [hq, hfe]; rfl
    rw [if_pos hfe]
    (repeat(first|refine pSeq ?_|refine pReg ?_|refine sCons ?_|refine sNil ?_|refine pBlock ?_|refine pSkip ?_|refine pExit ?_|refine pRet ?_|refine pCond ?_|refine gNone ?_))
    refine slL_rest rfl rfl hb4 (by simp) (by simpa using hcap) fun o d ho => ?_
    have hn1 : (first :: rest).length - 1 = rest.length := by simp
    rw [hn1]
    (repeat(first|refine pSeq ?_|refine pReg ?_|refine sCons ?_|refine sNil ?_|refine pBlock ?_|refine pSkip ?_|refine pExit ?_|refine pRet ?_|refine pCond ?_|refine gNone ?_))
    refine pLoop (MW.head good (fun x : PpIt => rest.length - x.j) (fun x => goP pv0 0 0 rest = goP x.p x.k x.w (rest.drop x.j) ∧ x.j ≤ rest.length ∧ x.k ≤ x.j ∧ PvAt x.s pc (s.next + 1) x.p ∧ lookH x.s.heap bc = some (.cells [.int .i64 x.k] tI false false) ∧ lookH x.s.heap mp = some (.map (knownM pc bc) 2) ∧ lookH x.s.heap s.next = some (.cells (pvCells pv0) tPm false false) ∧ lookH x.s.heap b = some (.cells cs tS false false) ∧ Chg s4 x.s [s.next + 1, bc])
      (fun x => [(2, .pointer (some ⟨s.next, 0, none⟩)), (4, .pointer (some ⟨s.next + 1, 0, none⟩)), (5, .map (some mp)), (7, .int .i64 x.w), (20, .slice (some ⟨b, o, none⟩) rest.length d), (21, .int .i64 (rest.length : Nat)), (22, .int .i64 x.j)]) (fun x => x.s)
      ⟨0, pv0, 0, 0, s4⟩ ⟨by simp, Nat.zero_le _, Nat.le_refl _, h4, hb4', hm4, r4, hb4, .refl _ _⟩ (Wk.same ⟨rfl, rfl, rfl, rfl, rfl, rfl, rfl, trivial⟩) ?_)
    intro ⟨j, p, k, w, s5⟩ ⟨i1, i2, i3, h5, hb5, hm5, r5, b5, c45⟩
    dsimp only at i1 i2 i3 h5 hb5 hm5 r5 b5 c45 ⊢
    have n5 := c45.next
    have c5 : Chg s s5 [] := c4.fresh c45 (by intro id q; simp at q; omega)
    (repeat(first|refine pSeq ?_|refine pReg ?_|refine sCons ?_|refine sNil ?_|refine pBlock ?_|refine pSkip ?_|refine pExit ?_|refine pRet ?_|refine pCond ?_|refine gNone ?_))
    intro q hq
    by_cases hj : j < rest.length
    · obtain rfl : q = true := by rw [hq]; simp <;> omega
      obtain ⟨x, hx⟩ : ∃ x, rest[j]? = some x := ⟨_, List.getElem?_eq_getElem hj⟩
      have hxl : x.length ≤ 1000000 := hparts x (List.mem_cons_of_mem _ (List.mem_of_getElem? hx))
      rw [drop_next hx, goP] at i1
      (repeat(first|refine pSeq ?_|refine pReg ?_|refine sCons ?_|refine sNil ?_|refine pBlock ?_|refine pSkip ?_|refine pExit ?_|refine pRet ?_|refine pCond ?_|refine gNone ?_))
      refine ⟨by omega, ?_⟩
      intro m hm o' ho'
      obtain rfl : m = j := by omega
      obtain rfl : o' = m + 1 := by have := ho (by simp; omega); omega
      (repeat(first|refine pSeq ?_|refine pReg ?_|refine sCons ?_|refine sNil ?_|refine pBlock ?_|refine pSkip ?_|refine pExit ?_|refine pRet ?_|refine pCond ?_|refine gNone ?_))
      refine ldS_is rfl b5 (hcs (m + 1) x (by simpa using hx)) ?_
      (repeat(first|refine pSeq ?_|refine pReg ?_|refine sCons ?_|refine sNil ?_|refine pBlock ?_|refine pSkip ?_|refine pExit ?_|refine pRet ?_|refine pCond ?_|refine gNone ?_))
      refine (say_w h5 hb5 (by omega) hm5 (by omega) (c5.fine hf) (by simp at hcount; omega) hxl).mono fun v s6 q => ?_
      obtain ⟨rfl, h6, hb6, c56⟩ := q
      have hm6 := c56.blk _ _ (by omega) (no2 (lk_ne hm5 h5.blk (by simp)) (lk_ne hm5 hb5 (by simp))) hm5
      have r6 := c56.blk _ _ (by omega) (no2 (by omega) (by omega)) r5
      have b6 := c56.blk _ _ (by omega) (no2 (by omega) (pm_ne b5 hb5 (by decide))) b5
      have n6 := c56.next
      have c46 : Chg s4 s6 [s.next + 1, bc] := c45.trans' c56 (fun _ q _ => q) (fun _ q _ => q)
      have c6 : Chg s s6 [] := c4.fresh c46 (by intro id q; simp at q; omega)
      have hk6 := sayK_le k x
      generalize sayK k x = k' at *
      generalize sayV p x = p' at *
      generalize sayE p k x = e at *
      (repeat(first|refine pSeq ?_|refine pReg ?_|refine sCons ?_|refine sNil ?_|refine pBlock ?_|refine pSkip ?_|refine pExit ?_|refine pRet ?_|refine pCond ?_|refine gNone ?_))
      intro q hq
      by_cases he : e = 5
      · subst he
        obtain rfl : q = true := by rw [hq]; rfl
        rw [if_pos rfl] at i1
        rw [i1]
        (repeat(first|refine pSeq ?_|refine pReg ?_|refine sCons ?_|refine sNil ?_|refine pBlock ?_|refine pSkip ?_|refine pExit ?_|refine pRet ?_|refine pCond ?_|refine gNone ?_))
        refine st_abs (cs' := pvCells pv0) rfl rfl r6 (by omega) rfl rfl fun s7 e7 c7 n7 => ?_
        (repeat(first|refine pSeq ?_|refine pReg ?_|refine sCons ?_|refine sNil ?_|refine pBlock ?_|refine pSkip ?_|refine pExit ?_|refine pRet ?_|refine pCond ?_|refine gNone ?_))
        (repeat (first | with_reducible refine sqRet ?_ | with_reducible refine bkRet ?_ | with_reducible refine hdRet ?_))
        exact ret_cell agg_Pm sz_Pm rfl e7 agg3 rfl ⟨rfl, c6.fresh c7 (by simp)⟩
      · obtain rfl : q = false := by rw [hq]; simpa using he
        rw [if_neg he] at i1
        (repeat(first|refine pSeq ?_|refine pReg ?_|refine sCons ?_|refine sNil ?_|refine pBlock ?_|refine pSkip ?_|refine pExit ?_|refine pRet ?_|refine pCond ?_|refine gNone ?_))
        intro q hq
        by_cases he0 : e = 0
        · subst he0
          obtain rfl : q = false := by rw [hq]; rfl
          rw [if_pos rfl] at i1
          (repeat(first|refine pSeq ?_|refine pReg ?_|refine sCons ?_|refine sNil ?_|refine pBlock ?_|refine pSkip ?_|refine pExit ?_|refine pRet ?_|refine pCond ?_|refine gNone ?_))
          intro z hz
          rw [i64_id (by omega)] at hz
          obtain rfl : z = ((m + 1 : Nat) : Int) := by omega
          (repeat(first|refine pSeq ?_|refine pReg ?_|refine sCons ?_|refine sNil ?_|refine pBlock ?_|refine pSkip ?_|refine pExit ?_|refine pRet ?_|refine pCond ?_|refine gNone ?_))
          exact ⟨⟨m + 1, p', k', w, s6⟩, ⟨i1, (by show m + 1 ≤ rest.length; omega), (by show k' ≤ m + 1; omega), h6, hb6, hm6, r6, b6, c46⟩, by show rest.length - (m + 1) < rest.length - m; omega, Wk.same ⟨rfl, rfl, rfl, rfl, rfl, rfl, rfl, trivial⟩⟩
        · obtain rfl : q = true := by rw [hq]; simpa using he0
          rw [if_neg he0] at i1
          (repeat(first|refine pSeq ?_|refine pReg ?_|refine sCons ?_|refine sNil ?_|refine pBlock ?_|refine pSkip ?_|refine pExit ?_|refine pRet ?_|refine pCond ?_|refine gNone ?_))
          intro z hz
          rw [i64_id (by omega)] at hz
          obtain rfl : z = ((m + 1 : Nat) : Int) := by omega
          (repeat(first|refine pSeq ?_|refine pReg ?_|refine sCons ?_|refine sNil ?_|refine pBlock ?_|refine pSkip ?_|refine pExit ?_|refine pRet ?_|refine pCond ?_|refine gNone ?_))
          exact ⟨⟨m + 1, p', k', e, s6⟩, ⟨i1, (by show m + 1 ≤ rest.length; omega), (by show k' ≤ m + 1; omega), h6, hb6, hm6, r6, b6, c46⟩, by show rest.length - (m + 1) < rest.length - m; omega, Wk.same ⟨rfl, rfl, rfl, rfl, rfl, rfl, rfl, trivial⟩⟩
    · obtain rfl : q = false := by rw [hq]; simp <;> omega
      rw [List.drop_of_length_le (by omega), goP] at i1
      rw [i1]
      (repeat(first|refine pSeq ?_|refine pReg ?_|refine sCons ?_|refine sNil ?_|refine pBlock ?_|refine pSkip ?_|refine pExit ?_|refine pRet ?_|refine pCond ?_|refine gNone ?_))
      intro q hq
      by_cases hw : w = 0
      · subst hw
        obtain rfl : q = false := by rw [hq]; rfl
        rw [if_pos rfl]
        (repeat(first|refine pSeq ?_|refine pReg ?_|refine sCons ?_|refine sNil ?_|refine pBlock ?_|refine pSkip ?_|refine pExit ?_|refine pRet ?_|refine pCond ?_|refine gNone ?_))
        refine ldN_is rfl h5.blk agg3 ?_
        (repeat(first|refine pSeq ?_|refine pReg ?_|refine sCons ?_|refine sNil ?_|refine pBlock ?_|refine pSkip ?_|refine pExit ?_|refine pRet ?_|refine pCond ?_|refine gNone ?_))
        refine st_abs (cs' := pvCells p) rfl rfl r5 (by omega) rfl rfl fun s7 e7 c7 n7 => ?_
        (repeat(first|refine pSeq ?_|refine pReg ?_|refine sCons ?_|refine sNil ?_|refine pBlock ?_|refine pSkip ?_|refine pExit ?_|refine pRet ?_|refine pCond ?_|refine gNone ?_))
        (repeat (first | with_reducible refine sqRet ?_ | with_reducible refine bkRet ?_ | with_reducible refine hdRet ?_))
        exact ret_cell agg_Pm sz_Pm rfl e7 agg3 rfl ⟨rfl, c5.fresh c7 (by simp)⟩
      · obtain rfl : q = true := by rw [hq]; simpa using hw
        rw [if_neg hw]
        (repeat(first|refine pSeq ?_|refine pReg ?_|refine sCons ?_|refine sNil ?_|refine pBlock ?_|refine pSkip ?_|refine pExit ?_|refine pRet ?_|refine pCond ?_|refine gNone ?_))
        refine st_abs (cs' := pvCells pv0) rfl rfl r5 (by omega) rfl rfl fun s7 e7 c7 n7 => ?_
        (repeat(first|refine pSeq ?_|refine pReg ?_|refine sCons ?_|refine sNil ?_|refine pBlock ?_|refine pSkip ?_|refine pExit ?_|refine pRet ?_|refine pCond ?_|refine gNone ?_))
        (repeat (first | with_reducible refine sqRet ?_ | with_reducible refine bkRet ?_ | with_reducible refine hdRet ?_))
        exact ret_cell agg_Pm sz_Pm rfl e7 agg3 rfl ⟨rfl, c5.fresh c7 (by simp)⟩
  · obtain rfl : q = true := by rw [hq]; simpa using hfe
    rw [if_neg hfe]
    (repeat(first|refine pSeq ?_|refine pReg ?_|refine sCons ?_|refine sNil ?_|refine pBlock ?_|refine pSkip ?_|refine pExit ?_|refine pRet ?_|refine pCond ?_|refine gNone ?_))
    refine st_abs (cs' := pvCells pv0) rfl rfl r4 (by omega) rfl rfl fun s5 e5 c5 n5 => ?_
    (repeat(first|refine pSeq ?_|refine pReg ?_|refine sCons ?_|refine sNil ?_|refine pBlock ?_|refine pSkip ?_|refine pExit ?_|refine pRet ?_|refine pCond ?_|refine gNone ?_))
    (repeat (first | with_reducible refine sqRet ?_ | with_reducible refine bkRet ?_ | with_reducible refine hdRet ?_))
    exact ret_cell agg_Pm sz_Pm rfl e5 agg3 rfl ⟨rfl, c4.fresh c5 (by simp)⟩
end Go.Vf.S
end
/- PaG -/
section
/- Paths: routes. -/
namespace Go.Vf.S
open Go Go.Vf
attribute [local irreducible] wSeq wRow wp wG
set_option linter.unusedVariables false
set_option linter.unusedSimpArgs false
set_option maxRecDepth 10000

theorem parse_x (l : List UInt8) : (parseF (120 :: 64 :: l)).2.2 = domF l := by
  have h1 : cutF 64 (120 :: 64 :: l) = ([120], l, true) := by
    unfold cutF
    rw [if_pos (by simp)]
    rfl
  have h2 : partsF (120 :: 64 :: l) = ([120], l, true) := by
    unfold partsF
    rw [if_neg (by simp), h1]
    have : dotF [120] = true := by decide +kernel
    simp [this]
  unfold parseF
  rw [h2]
  by_cases hd : domF l = 0
  · simp [hd]
  · simp [hd]

theorem pdomErr_w {s : SS} {l : List UInt8} (hG : Gb s) (hl : l.length ≤ 900000) : CallW pr n_path_domainError [str l] s fun v s' => v = .int .i64 (domF l) ∧ Chg s s' [] := by
  refine CallW.run good ok_path_domainError (by simp) rfl ?_
  (repeat(first|refine pSeq ?_|refine pReg ?_|refine sCons ?_|refine sNil ?_|refine pRet ?_|refine gNone ?_))
  refine ⟨by simp; omega, ?_⟩
  intro w hw
  subst hw
  (repeat(first|refine pSeq ?_|refine pReg ?_|refine sCons ?_|refine sNil ?_|refine pRet ?_|refine gNone ?_))
  refine (parse_w hG (by simp; omega)).mono fun v s1 q => ?_
  obtain ⟨rfl, c1⟩ := q
  have e : (parseF ([120, 64] ++ l)).2.2 = domF l := parse_x l
  generalize parseF ([120, 64] ++ l) = Q at *
  obtain ⟨a, d, f⟩ := Q
  dsimp only at e ⊢
  subst e
  (repeat(first|refine pSeq ?_|refine pReg ?_|refine sCons ?_|refine sNil ?_|refine pRet ?_|refine gNone ?_))
  refine st_abs (cs' := [str a, str d]) rfl rfl lkH (Nat.lt_succ_self _) rfl rfl fun s2 e2 c2 n2 => ?_
  (repeat(first|refine pSeq ?_|refine pReg ?_|refine sCons ?_|refine sNil ?_|refine pRet ?_|refine gNone ?_))
  exact ⟨rfl, c1.fresh ((Chg.new []).fresh c2 (by simp)) (by simp)⟩

/-- A route's domains, told of its parts; nothing: it is none. -/
def goR : List (List UInt8) → Nat → List (List UInt8) → Option (List (List UInt8) × Nat)
  | done, w, [] => some (done, w)
  | done, w, x :: r => if x.take 1 ≠ [64] ∨ domF (atRest x) = 5 then none else goR (done ++ [atRest x]) (if domF (atRest x) = 3 ∨ 8 < done.length + 1 then 3 else w) r
def routeF (l : List UInt8) : List (List UInt8) × List UInt8 × Nat :=
  if l.take 1 ≠ [64] then ([], l, 0) else if (cutF 58 l).2.2 = false then ([], [], 5) else
    match goR [] 0 (splitF 44 (cutF 58 l).1) with
    | none => ([], [], 5)
    | some (d, w) => (d, (cutF 58 l).2.1, w)

/-- A row of texts that was put together here. -/
def RowAt6 (s : SS) (W : Option Addr) (cw : Nat) (d : List (List UInt8)) : Prop := OwnR tS s W cw d.length (strV d) ∧ (W = none ↔ d = [])

structure RtIt where
  j : Nat
  done : List (List UInt8)
  w : Nat
  W : Option Addr
  cw : Nat
  s : SS

theorem own_none {s : SS} : OwnR tS s none 0 0 (strV []) := ⟨rfl, rfl, rfl⟩

set_option maxHeartbeats 1000000 in
theorem cutRoute_w {s : SS} {l : List UInt8} (hG : Gb s) (hl : l.length ≤ 800000) : CallW pr n_path_cutRoute [str l] s fun v s' => ∃ W cw, v = .tuple ⟨[.slice W (routeF l).1.length cw, str (routeF l).2.1, .int .i64 (routeF l).2.2]⟩ ∧ RowAt6 s' W cw (routeF l).1 ∧ Chg s s' [] ∧ ∀ id ∈ blkOf W, s.next ≤ id := by
  have eF : routeF l = if l.take 1 ≠ [64] then ([], l, 0) else if (cutF 58 l).2.2 = false then ([], [], 5) else
    match goR [] 0 (splitF 44 (cutF 58 l).1) with
    | none => ([], [], 5)
    | some (d, w) => (d, (cutF 58 l).2.1, w) := rfl
  refine CallW.run good ok_path_cutRoute (by simp) rfl ?_
  (repeat(first|refine pSeq ?_|refine pReg ?_|refine sCons ?_|refine sNil ?_|refine pBlock ?_|refine pSkip ?_|refine pExit ?_|refine pRet ?_|refine pCond ?_|refine gNone ?_|refine gOn rfl ?_|refine gOff rfl rfl ?_|refine gTup rfl ?_))
  refine prefix_w.mono fun v s q => ?_
  obtain ⟨rfl, rfl⟩ := q
  have e1 : l.take [(64 : UInt8)].length = l.take 1 := rfl
  rw [e1]
  by_cases h64 : l.take 1 = [64]
  · rw [decide_eq_true h64]
    rw [if_neg (by simpa using h64)] at eF
    have hcl := cut_len 58 l
    (repeat(first|refine pSeq ?_|refine pReg ?_|refine sCons ?_|refine sNil ?_|refine pBlock ?_|refine pSkip ?_|refine pExit ?_|refine pRet ?_|refine pCond ?_|refine gNone ?_|refine gOn rfl ?_|refine gOff rfl rfl ?_|refine gTup rfl ?_))
    intro q hq
    obtain rfl : q = false := hq
    (repeat(first|refine pSeq ?_|refine pReg ?_|refine sCons ?_|refine sNil ?_|refine pBlock ?_|refine pSkip ?_|refine pExit ?_|refine pRet ?_|refine pCond ?_|refine gNone ?_|refine gOn rfl ?_|refine gOff rfl rfl ?_|refine gTup rfl ?_))
    refine (cut1_w (c := 58) (by omega)).mono fun v s q => ?_
    obtain ⟨rfl, rfl⟩ := q
    generalize cutF 58 l = C at *
    obtain ⟨ahead, rest, ended⟩ := C
    dsimp only at hcl eF ⊢
    cases ended with
    | false =>
      rw [if_pos rfl] at eF
      rw [eF]
      (repeat(first|refine pSeq ?_|refine pReg ?_|refine sCons ?_|refine sNil ?_|refine pBlock ?_|refine pSkip ?_|refine pExit ?_|refine pRet ?_|refine pCond ?_|refine gNone ?_|refine gOn rfl ?_|refine gOff rfl rfl ?_|refine gTup rfl ?_))
      intro q hq
      obtain rfl : q = true := hq
      (repeat(first|refine pSeq ?_|refine pReg ?_|refine sCons ?_|refine sNil ?_|refine pBlock ?_|refine pSkip ?_|refine pExit ?_|refine pRet ?_|refine pCond ?_|refine gNone ?_|refine gOn rfl ?_|refine gOff rfl rfl ?_|refine gTup rfl ?_))
      exact ⟨none, 0, rfl, ⟨own_none, by simp⟩, .refl _ _, by simp [blkOf]⟩
    | true =>
      rw [if_neg (by simp)] at eF
      have hcount : (splitF 44 ahead).length ≤ 800001 := by rw [split_len]; have := @List.count_le_length _ _ 44 ahead; omega
      have hparts : ∀ p ∈ splitF 44 ahead, p.length ≤ 800000 := fun p hp => by have := part_any hp; omega
      (repeat(first|refine pSeq ?_|refine pReg ?_|refine sCons ?_|refine sNil ?_|refine pBlock ?_|refine pSkip ?_|refine pExit ?_|refine pRet ?_|refine pCond ?_|refine gNone ?_|refine gOn rfl ?_|refine gOff rfl rfl ?_|refine gTup rfl ?_))
      intro q hq
      obtain rfl : q = false := hq
      (repeat(first|refine pSeq ?_|refine pReg ?_|refine sCons ?_|refine sNil ?_|refine pBlock ?_|refine pSkip ?_|refine pExit ?_|refine pRet ?_|refine pCond ?_|refine gNone ?_|refine gOn rfl ?_|refine gOff rfl rfl ?_|refine gTup rfl ?_))
      refine (Split_w (c := 44) (l := ahead) (by omega)).mono fun v s1 q => ?_
      obtain ⟨base, cap, rfl, st1, c1, hB, hcap⟩ := q
      generalize splitF 44 ahead = ls at *
      obtain ⟨b, cs, t, g, r, rfl, hlt1, hb1, hcs⟩ := st1
      have n1 := c1.next
      have hb := hB b (by simp [blkOf])
      (repeat(first|refine pSeq ?_|refine pReg ?_|refine sCons ?_|refine sNil ?_|refine pBlock ?_|refine pSkip ?_|refine pExit ?_|refine pRet ?_|refine pCond ?_|refine gNone ?_|refine gOn rfl ?_|refine gOff rfl rfl ?_|refine gTup rfl ?_))
      refine pLoop (MW.head good (fun x : RtIt => ls.length - x.j) (fun x => goR [] 0 ls = goR x.done x.w (ls.drop x.j) ∧ x.j ≤ ls.length ∧ x.done.length = x.j ∧ Chg s1 x.s [] ∧ RowAt6 x.s x.W x.cw x.done ∧ ∀ i ∈ blkOf x.W, s1.next ≤ i)
        (fun x => [(2, .slice x.W x.done.length x.cw), (3, str rest), (4, .int .i64 x.w), (25, .slice (some ⟨b, 0, none⟩) ls.length cap), (26, .int .i64 (ls.length : Nat)), (27, .int .i64 x.j)]) (fun x => x.s)
        ⟨0, [], 0, none, 0, s1⟩ ⟨by simp, Nat.zero_le _, rfl, .refl _ _, ⟨own_none, by simp⟩, by simp [blkOf]⟩ (Wk.same ⟨rfl, rfl, rfl, rfl, rfl, rfl, trivial⟩) ?_)
      intro ⟨j, done, w, W, cw, s2⟩ ⟨i1, i2, i3, c12, o2, hW⟩
      dsimp only at i1 i2 i3 c12 o2 hW ⊢
      (repeat(first|refine pSeq ?_|refine pReg ?_|refine sCons ?_|refine sNil ?_|refine pBlock ?_|refine pSkip ?_|refine pExit ?_|refine pRet ?_|refine pCond ?_|refine gNone ?_|refine gOn rfl ?_|refine gOff rfl rfl ?_|refine gTup rfl ?_))
      intro q hq
      by_cases hj : j < ls.length
      · obtain rfl : q = true := by rw [hq]; simp <;> omega
        obtain ⟨x, hx⟩ : ∃ x, ls[j]? = some x := ⟨_, List.getElem?_eq_getElem hj⟩
        have hxl : x.length ≤ 800000 := hparts x (List.mem_of_getElem? hx)
        rw [drop_next hx, goR] at i1
        (repeat(first|refine pSeq ?_|refine pReg ?_|refine sCons ?_|refine sNil ?_|refine pBlock ?_|refine pSkip ?_|refine pExit ?_|refine pRet ?_|refine pCond ?_|refine gNone ?_|refine gOn rfl ?_|refine gOff rfl rfl ?_|refine gTup rfl ?_))
        refine ⟨by omega, ?_⟩
        intro m hm o ho
        obtain rfl : m = j := by omega
        obtain rfl : o = m := by omega
        (repeat(first|refine pSeq ?_|refine pReg ?_|refine sCons ?_|refine sNil ?_|refine pBlock ?_|refine pSkip ?_|refine pExit ?_|refine pRet ?_|refine pCond ?_|refine gNone ?_|refine gOn rfl ?_|refine gOff rfl rfl ?_|refine gTup rfl ?_))
        refine ldS_is rfl (c12.blk _ _ hlt1 (by simp) hb1) (hcs o x hx) ?_
        (repeat(first|refine pSeq ?_|refine pReg ?_|refine sCons ?_|refine sNil ?_|refine pBlock ?_|refine pSkip ?_|refine pExit ?_|refine pRet ?_|refine pCond ?_|refine gNone ?_|refine gOn rfl ?_|refine gOff rfl rfl ?_|refine gTup rfl ?_))
        refine cutP_w.mono fun v s2 q => ?_
        obtain ⟨rfl, rfl⟩ := q
        have e2 : (if x.take [(64 : UInt8)].length = [64] then x.drop [(64 : UInt8)].length else x) = atRest x := rfl
        have e3 : x.take [(64 : UInt8)].length = x.take 1 := rfl
        rw [e2, e3]
        have hal : (atRest x).length ≤ 800000 := by unfold atRest; split <;> (try rw [List.length_drop]) <;> omega
        (repeat(first|refine pSeq ?_|refine pReg ?_|refine sCons ?_|refine sNil ?_|refine pBlock ?_|refine pSkip ?_|refine pExit ?_|refine pRet ?_|refine pCond ?_|refine gNone ?_|refine gOn rfl ?_|refine gOff rfl rfl ?_|refine gTup rfl ?_))
        refine (pdomErr_w ((hG.chg c1 (by simp)).chg c12 (by simp)) (by omega)).mono fun v s3 q => ?_
        obtain ⟨rfl, c23⟩ := q
        have hd := dom_vals (atRest x)
        generalize domF (atRest x) = e at *
        generalize atRest x = y at *
        have c13 : Chg s1 s3 [] := c12.nil c23
        have o3 := o2.1.chg c23 (by simp)
        have n3 := c13.next
        by_cases h1 : x.take 1 = [64]
        · rw [decide_eq_true h1]
          (repeat(first|refine pSeq ?_|refine pReg ?_|refine sCons ?_|refine sNil ?_|refine pBlock ?_|refine pSkip ?_|refine pExit ?_|refine pRet ?_|refine pCond ?_|refine gNone ?_|refine gOn rfl ?_|refine gOff rfl rfl ?_|refine gTup rfl ?_))
          intro q hq
          obtain rfl : q = false := hq
          (repeat(first|refine pSeq ?_|refine pReg ?_|refine sCons ?_|refine sNil ?_|refine pBlock ?_|refine pSkip ?_|refine pExit ?_|refine pRet ?_|refine pCond ?_|refine gNone ?_|refine gOn rfl ?_|refine gOff rfl rfl ?_|refine gTup rfl ?_))
          intro q hq
          by_cases h5 : e = 5
          · obtain rfl : q = true := by rw [hq, h5]; rfl
            rw [if_pos (.inr h5)] at i1
            rw [i1] at eF
            simp only at eF
            rw [eF]
            (repeat(first|refine pSeq ?_|refine pReg ?_|refine sCons ?_|refine sNil ?_|refine pBlock ?_|refine pSkip ?_|refine pExit ?_|refine pRet ?_|refine pCond ?_|refine gNone ?_|refine gOn rfl ?_|refine gOff rfl rfl ?_|refine gTup rfl ?_))
            (repeat (first | with_reducible refine sqRet ?_ | with_reducible refine bkRet ?_ | with_reducible refine hdRet ?_))
            exact ⟨none, 0, rfl, ⟨own_none, by simp⟩, c1.nil c13, by simp [blkOf]⟩
          · obtain rfl : q = false := by rw [hq]; simp; omega
            rw [if_neg (by simp [h1, h5])] at i1
            (repeat(first|refine pSeq ?_|refine pReg ?_|refine sCons ?_|refine sNil ?_|refine pBlock ?_|refine pSkip ?_|refine pExit ?_|refine pRet ?_|refine pCond ?_|refine gNone ?_|refine gOn rfl ?_|refine gOff rfl rfl ?_|refine gTup rfl ?_))
            refine appR (h := OwnR.chg (c := Chg.new []) o3 (by simp)) (size := 1) (by rw [strV_len, Nat.mul_one]) (by omega) rfl rfl lkH rfl rfl fun s4 o4 c34 n4 => ?_
            have c14 : Chg s1 s4 [] := c13.fresh ((Chg.new []).nil c34) hW
            have hlen : (done ++ [y]).length = done.length + 1 := by simp
            have o4' : RowAt6 s4 (some ⟨s3.next + 1, 0, none⟩) 0 (done ++ [y]) := by
              refine ⟨?_, by simp⟩
              rw [hlen]
              simp only [strV, List.map_append]
              exact o4
            (repeat(first|refine pSeq ?_|refine pReg ?_|refine sCons ?_|refine sNil ?_|refine pBlock ?_|refine pSkip ?_|refine pExit ?_|refine pRet ?_|refine pCond ?_|refine gNone ?_|refine gOn rfl ?_|refine gOff rfl rfl ?_|refine gTup rfl ?_))
            intro q hq
            by_cases h3 : e = 3
            · obtain rfl : q = true := by rw [hq, h3]; rfl
              rw [if_pos (.inl h3)] at i1
              (repeat(first|refine pSeq ?_|refine pReg ?_|refine sCons ?_|refine sNil ?_|refine pBlock ?_|refine pSkip ?_|refine pExit ?_|refine pRet ?_|refine pCond ?_|refine gNone ?_|refine gOn rfl ?_|refine gOff rfl rfl ?_|refine gTup rfl ?_))
              intro z hz
              rw [i64_id (by omega)] at hz
              obtain rfl : z = ((o + 1 : Nat) : Int) := by omega
              (repeat(first|refine pSeq ?_|refine pReg ?_|refine sCons ?_|refine sNil ?_|refine pBlock ?_|refine pSkip ?_|refine pExit ?_|refine pRet ?_|refine pCond ?_|refine gNone ?_|refine gOn rfl ?_|refine gOff rfl rfl ?_|refine gTup rfl ?_))
              exact ⟨⟨o + 1, done ++ [y], 3, some ⟨s3.next + 1, 0, none⟩, 0, s4⟩, ⟨i1, (by show o + 1 ≤ ls.length; omega), (by show (done ++ [y]).length = o + 1; omega), c14, o4', by intro i hi; simp only [blkOf, List.mem_singleton] at hi; omega⟩, (by show ls.length - (o + 1) < ls.length - o; omega), Wk.same ⟨by rw [hlen]; rfl, rfl, rfl, rfl, rfl, rfl, trivial⟩⟩
            · obtain rfl : q = false := by rw [hq]; simp; omega
              (repeat(first|refine pSeq ?_|refine pReg ?_|refine sCons ?_|refine sNil ?_|refine pBlock ?_|refine pSkip ?_|refine pExit ?_|refine pRet ?_|refine pCond ?_|refine gNone ?_|refine gOn rfl ?_|refine gOff rfl rfl ?_|refine gTup rfl ?_))
              intro q hq
              by_cases h8 : 8 < done.length + 1
              · obtain rfl : q = true := by rw [hq]; simp <;> omega
                rw [if_pos (.inr h8)] at i1
                (repeat(first|refine pSeq ?_|refine pReg ?_|refine sCons ?_|refine sNil ?_|refine pBlock ?_|refine pSkip ?_|refine pExit ?_|refine pRet ?_|refine pCond ?_|refine gNone ?_|refine gOn rfl ?_|refine gOff rfl rfl ?_|refine gTup rfl ?_))
                intro z hz
                rw [i64_id (by omega)] at hz
                obtain rfl : z = ((o + 1 : Nat) : Int) := by omega
                (repeat(first|refine pSeq ?_|refine pReg ?_|refine sCons ?_|refine sNil ?_|refine pBlock ?_|refine pSkip ?_|refine pExit ?_|refine pRet ?_|refine pCond ?_|refine gNone ?_|refine gOn rfl ?_|refine gOff rfl rfl ?_|refine gTup rfl ?_))
                exact ⟨⟨o + 1, done ++ [y], 3, some ⟨s3.next + 1, 0, none⟩, 0, s4⟩, ⟨i1, (by show o + 1 ≤ ls.length; omega), (by show (done ++ [y]).length = o + 1; omega), c14, o4', by intro i hi; simp only [blkOf, List.mem_singleton] at hi; omega⟩, (by show ls.length - (o + 1) < ls.length - o; omega), Wk.same ⟨by rw [hlen]; rfl, rfl, rfl, rfl, rfl, rfl, trivial⟩⟩
              · obtain rfl : q = false := by rw [hq]; simp <;> omega
                rw [if_neg (by simp [h3]; omega)] at i1
                (repeat(first|refine pSeq ?_|refine pReg ?_|refine sCons ?_|refine sNil ?_|refine pBlock ?_|refine pSkip ?_|refine pExit ?_|refine pRet ?_|refine pCond ?_|refine gNone ?_|refine gOn rfl ?_|refine gOff rfl rfl ?_|refine gTup rfl ?_))
                intro z hz
                rw [i64_id (by omega)] at hz
                obtain rfl : z = ((o + 1 : Nat) : Int) := by omega
                (repeat(first|refine pSeq ?_|refine pReg ?_|refine sCons ?_|refine sNil ?_|refine pBlock ?_|refine pSkip ?_|refine pExit ?_|refine pRet ?_|refine pCond ?_|refine gNone ?_|refine gOn rfl ?_|refine gOff rfl rfl ?_|refine gTup rfl ?_))
                exact ⟨⟨o + 1, done ++ [y], w, some ⟨s3.next + 1, 0, none⟩, 0, s4⟩, ⟨i1, (by show o + 1 ≤ ls.length; omega), (by show (done ++ [y]).length = o + 1; omega), c14, o4', by intro i hi; simp only [blkOf, List.mem_singleton] at hi; omega⟩, (by show ls.length - (o + 1) < ls.length - o; omega), Wk.same ⟨by rw [hlen]; rfl, rfl, rfl, rfl, rfl, rfl, trivial⟩⟩
        · rw [decide_eq_false h1]
          (repeat(first|refine pSeq ?_|refine pReg ?_|refine sCons ?_|refine sNil ?_|refine pBlock ?_|refine pSkip ?_|refine pExit ?_|refine pRet ?_|refine pCond ?_|refine gNone ?_|refine gOn rfl ?_|refine gOff rfl rfl ?_|refine gTup rfl ?_))
          intro q hq
          obtain rfl : q = true := hq
          (repeat(first|refine pSeq ?_|refine pReg ?_|refine sCons ?_|refine sNil ?_|refine pBlock ?_|refine pSkip ?_|refine pExit ?_|refine pRet ?_|refine pCond ?_|refine gNone ?_|refine gOn rfl ?_|refine gOff rfl rfl ?_|refine gTup rfl ?_))
          rw [if_pos (.inl h1)] at i1
          rw [i1] at eF
          simp only at eF
          rw [eF]
          (repeat(first|refine pSeq ?_|refine pReg ?_|refine sCons ?_|refine sNil ?_|refine pBlock ?_|refine pSkip ?_|refine pExit ?_|refine pRet ?_|refine pCond ?_|refine gNone ?_|refine gOn rfl ?_|refine gOff rfl rfl ?_|refine gTup rfl ?_))
          (repeat (first | with_reducible refine sqRet ?_ | with_reducible refine bkRet ?_ | with_reducible refine hdRet ?_))
          exact ⟨none, 0, rfl, ⟨own_none, by simp⟩, c1.nil c13, by simp [blkOf]⟩
      · obtain rfl : q = false := by rw [hq]; simp <;> omega
        rw [List.drop_of_length_le (by omega), goR] at i1
        rw [i1] at eF
        simp only at eF
        rw [eF]
        (repeat(first|refine pSeq ?_|refine pReg ?_|refine sCons ?_|refine sNil ?_|refine pBlock ?_|refine pSkip ?_|refine pExit ?_|refine pRet ?_|refine pCond ?_|refine gNone ?_|refine gOn rfl ?_|refine gOff rfl rfl ?_|refine gTup rfl ?_))
        exact ⟨W, cw, rfl, o2, c1.nil c12, fun id hid => Nat.le_trans n1 (hW id hid)⟩
  · rw [decide_eq_false h64]
    rw [if_pos h64] at eF
    rw [eF]
    (repeat(first|refine pSeq ?_|refine pReg ?_|refine sCons ?_|refine sNil ?_|refine pBlock ?_|refine pSkip ?_|refine pExit ?_|refine pRet ?_|refine pCond ?_|refine gNone ?_|refine gOn rfl ?_|refine gOff rfl rfl ?_|refine gTup rfl ?_))
    intro q hq
    obtain rfl : q = true := hq
    (repeat(first|refine pSeq ?_|refine pReg ?_|refine sCons ?_|refine sNil ?_|refine pBlock ?_|refine pSkip ?_|refine pExit ?_|refine pRet ?_|refine pCond ?_|refine gNone ?_|refine gOn rfl ?_|refine gOff rfl rfl ?_|refine gTup rfl ?_))
    exact ⟨none, 0, rfl, ⟨own_none, by simp⟩, .refl _ _, by simp [blkOf]⟩
end Go.Vf.S
end
/- PaH -/
section
/- Paths: what is read. -/
namespace Go.Vf.S
open Go Go.Vf
attribute [local irreducible] wSeq wRow wp wG
set_option linter.unusedVariables false
set_option linter.unusedSimpArgs false
set_option maxRecDepth 10000

abbrev tPt : TypeId := 26
structure Pth where
  null : Bool
  post : Bool
  route : List (List UInt8)
  a : List UInt8
  d : List UInt8
def ptZ : Pth := ⟨false, false, [], [], []⟩
def ptCells (p : Pth) (W : Option Addr) (cw : Nat) : List Value := [.bool p.null, .bool p.post, .slice W p.route.length cw, str p.a, str p.d]
abbrev ptV (p : Pth) (W : Option Addr) (cw : Nat) : Value := .agg ⟨ptCells p W cw⟩
theorem agg_Pt : aggB pr tPt = some true := by kernel_rfl
theorem sz_Pt : sizeB pr tPt = some 5 := by kernel_rfl
theorem agg5 {p : Pth} {W : Option Addr} {cw : Nat} : takeN 5 ((ptCells p W cw).drop 0) = some (ptCells p W cw) := rfl
theorem row_none {s : SS} : RowAt6 s none 0 [] := ⟨own_none, by simp⟩
theorem RowAt6.chg {s s' : SS} {W : Option Addr} {cw : Nat} {d : List (List UInt8)} {A : List Nat} (h : RowAt6 s W cw d) (c : Chg s s' A) (hA : ∀ id ∈ blkOf W, id ∉ A) : RowAt6 s' W cw d := ⟨h.1.chg c hA, h.2⟩

def pmL : List UInt8 := [112, 111, 115, 116, 109, 97, 115, 116, 101, 114]
def madeF (route : List (List UInt8)) (l : List UInt8) : Pth × Nat :=
  if route = [] ∧ l = [] then (⟨true, false, [], [], []⟩, 0) else if route = [] ∧ l.map lowB = pmL then (⟨false, true, [], [], []⟩, 0) else (⟨false, false, route, (parseF l).1, (parseF l).2.1⟩, (parseF l).2.2)

set_option maxHeartbeats 1000000 in
theorem pmade_w {s : SS} {l : List UInt8} {route : List (List UInt8)} {W : Option Addr} {cw : Nat} (hG : Gb s) (hr : RowAt6 s W cw route) (hl : l.length ≤ 900000) :
    CallW pr n_path_madeOf [.slice W route.length cw, str l] s fun v s' => ∃ W' cw', v = .tuple ⟨[ptV (madeF route l).1 W' cw', .int .i64 (madeF route l).2]⟩ ∧ RowAt6 s' W' cw' (madeF route l).1.route ∧ Chg s s' [] ∧ (W' = none ∨ W' = W) := by
  have eF : madeF route l = if route = [] ∧ l = [] then (⟨true, false, [], [], []⟩, 0) else if route = [] ∧ l.map lowB = pmL then (⟨false, true, [], [], []⟩, 0) else (⟨false, false, route, (parseF l).1, (parseF l).2.1⟩, (parseF l).2.2) := rfl
  refine CallW.run good ok_path_madeOf (by simp) rfl ?_
  have cA : Chg s { s with heap := (s.next, some (.cells (ptCells ptZ none 0) tPt false false)) :: s.heap, next := s.next + 1 } [] := .new _
  (repeat(first|refine pSeq ?_|refine pReg ?_|refine sCons ?_|refine sNil ?_|refine pBlock ?_|refine pSkip ?_|refine pRet ?_|refine pCond ?_|refine gNone ?_|refine gOn rfl ?_|refine gOff rfl rfl ?_|refine gTup rfl ?_))
  rcases W with _ | A
  · obtain rfl : route = [] := hr.2.1 rfl
    obtain ⟨-, -, rfl⟩ := hr.1
    intro q hq
    obtain rfl : q = true := hq
    (repeat(first|refine pSeq ?_|refine pReg ?_|refine sCons ?_|refine sNil ?_|refine pBlock ?_|refine pSkip ?_|refine pRet ?_|refine pCond ?_|refine gNone ?_|refine gOn rfl ?_|refine gOff rfl rfl ?_|refine gTup rfl ?_))
    intro q hq
    by_cases h0 : l = []
    · obtain rfl : q = true := by rw [hq, h0]; rfl
      rw [if_pos ⟨rfl, h0⟩] at eF
      rw [eF]
      (repeat(first|refine pSeq ?_|refine pReg ?_|refine sCons ?_|refine sNil ?_|refine pBlock ?_|refine pSkip ?_|refine pRet ?_|refine pCond ?_|refine gNone ?_|refine gOn rfl ?_|refine gOff rfl rfl ?_|refine gTup rfl ?_))
      refine st_abs (cs' := ptCells ⟨true, false, [], [], []⟩ none 0) rfl rfl lkH (Nat.lt_succ_self _) rfl rfl fun s1 e1 c1 n1 => ?_
      (repeat(first|refine pSeq ?_|refine pReg ?_|refine sCons ?_|refine sNil ?_|refine pBlock ?_|refine pSkip ?_|refine pRet ?_|refine pCond ?_|refine gNone ?_|refine gOn rfl ?_|refine gOff rfl rfl ?_|refine gTup rfl ?_))
      (repeat (first | with_reducible refine sqRet ?_ | with_reducible refine bkRet ?_ | with_reducible refine hdRet ?_))
      exact ret_cell agg_Pt sz_Pt rfl e1 agg5 rfl ⟨none, 0, rfl, row_none, cA.fresh c1 (by simp), .inl rfl⟩
    · obtain rfl : q = false := by rw [hq]; simpa using h0
      rw [if_neg (by simp [h0])] at eF
      (repeat(first|refine pSeq ?_|refine pReg ?_|refine sCons ?_|refine sNil ?_|refine pBlock ?_|refine pSkip ?_|refine pRet ?_|refine pCond ?_|refine gNone ?_|refine gOn rfl ?_|refine gOff rfl rfl ?_|refine gTup rfl ?_))
      intro q hq
      obtain rfl : q = true := hq
      (repeat(first|refine pSeq ?_|refine pReg ?_|refine sCons ?_|refine sNil ?_|refine pBlock ?_|refine pSkip ?_|refine pRet ?_|refine pCond ?_|refine gNone ?_|refine gOn rfl ?_|refine gOff rfl rfl ?_|refine gTup rfl ?_))
      refine (same_w (t := [80, 111, 115, 116, 109, 97, 115, 116, 101, 114]) (by omega) (by simp)).mono fun v s1 q => ?_
      obtain ⟨rfl, c1⟩ := q
      have e7 : decide (l.map lowB = [80, 111, 115, 116, 109, 97, 115, 116, 101, 114].map lowB) = decide (l.map lowB = pmL) := rfl
      rw [e7]
      have k1 := c1.blk _ _ (Nat.lt_succ_self s.next) (by simp) lkH
      have n1 := c1.next
      have n1 : s.next + 1 ≤ s1.next := n1
      by_cases hp : l.map lowB = pmL
      · rw [decide_eq_true hp]
        rw [if_pos ⟨rfl, hp⟩] at eF
        rw [eF]
        (repeat(first|refine pSeq ?_|refine pReg ?_|refine sCons ?_|refine sNil ?_|refine pBlock ?_|refine pSkip ?_|refine pRet ?_|refine pCond ?_|refine gNone ?_|refine gOn rfl ?_|refine gOff rfl rfl ?_|refine gTup rfl ?_))
        refine st_abs (cs' := ptCells ⟨false, true, [], [], []⟩ none 0) rfl rfl k1 (by omega) rfl rfl fun s2 e2 c2 n2 => ?_
        (repeat(first|refine pSeq ?_|refine pReg ?_|refine sCons ?_|refine sNil ?_|refine pBlock ?_|refine pSkip ?_|refine pRet ?_|refine pCond ?_|refine gNone ?_|refine gOn rfl ?_|refine gOff rfl rfl ?_|refine gTup rfl ?_))
        (repeat (first | with_reducible refine sqRet ?_ | with_reducible refine bkRet ?_ | with_reducible refine hdRet ?_))
        exact ret_cell agg_Pt sz_Pt rfl e2 agg5 rfl ⟨none, 0, rfl, row_none, (cA.nil c1).fresh c2 (by simp), .inl rfl⟩
      · rw [decide_eq_false hp]
        rw [if_neg (by simp [hp])] at eF
        rw [eF]
        (repeat(first|refine pSeq ?_|refine pReg ?_|refine sCons ?_|refine sNil ?_|refine pBlock ?_|refine pSkip ?_|refine pRet ?_|refine pCond ?_|refine gNone ?_|refine gOn rfl ?_|refine gOff rfl rfl ?_|refine gTup rfl ?_))
        refine (parse_w ((hG.chg cA (by simp)).chg c1 (by simp)) (by omega)).mono fun v s2 q => ?_
        obtain ⟨rfl, c2⟩ := q
        have k2 := c2.blk _ _ n1 (by simp) k1
        have n2 := c2.next
        generalize parseF l = Q at *
        obtain ⟨a, d, e⟩ := Q
        dsimp only at eF ⊢
        (repeat(first|refine pSeq ?_|refine pReg ?_|refine sCons ?_|refine sNil ?_|refine pBlock ?_|refine pSkip ?_|refine pRet ?_|refine pCond ?_|refine gNone ?_|refine gOn rfl ?_|refine gOff rfl rfl ?_|refine gTup rfl ?_))
        refine st_abs (cs' := [str a, str d]) rfl rfl lkH (Nat.lt_succ_self _) rfl rfl fun s3 e3 c3 n3 => ?_
        have c23 : Chg s2 s3 [] := (Chg.new []).fresh c3 (by simp)
        have k3 := c23.blk _ _ (by omega) (by simp) k2
        have n3' := c23.next
        (repeat(first|refine pSeq ?_|refine pReg ?_|refine sCons ?_|refine sNil ?_|refine pBlock ?_|refine pSkip ?_|refine pRet ?_|refine pCond ?_|refine gNone ?_|refine gOn rfl ?_|refine gOff rfl rfl ?_|refine gTup rfl ?_))
        refine ldN_is rfl e3 agg2 ?_
        (repeat(first|refine pSeq ?_|refine pReg ?_|refine sCons ?_|refine sNil ?_|refine pBlock ?_|refine pSkip ?_|refine pRet ?_|refine pCond ?_|refine gNone ?_|refine gOn rfl ?_|refine gOff rfl rfl ?_|refine gTup rfl ?_))
        refine st_abs (cs' := ptCells ⟨false, false, [], a, d⟩ none 0) rfl rfl k3 (by omega) rfl rfl fun s4 e4 c4 n4 => ?_
        (repeat(first|refine pSeq ?_|refine pReg ?_|refine sCons ?_|refine sNil ?_|refine pBlock ?_|refine pSkip ?_|refine pRet ?_|refine pCond ?_|refine gNone ?_|refine gOn rfl ?_|refine gOff rfl rfl ?_|refine gTup rfl ?_))
        (repeat (first | with_reducible refine sqRet ?_ | with_reducible refine bkRet ?_ | with_reducible refine hdRet ?_))
        exact ret_cell agg_Pt sz_Pt rfl e4 agg5 rfl ⟨none, 0, rfl, row_none, (((cA.nil c1).nil c2).nil c23).fresh c4 (by simp), .inl rfl⟩
  · have hne : route ≠ [] := fun e => by have := hr.2.2 e; cases this
    rw [if_neg (by simp [hne]), if_neg (by simp [hne])] at eF
    rw [eF]
    have hlt := hr.1.lt A.block (by simp [blkOf])
    intro q hq
    obtain rfl : q = false := hq
    (repeat(first|refine pSeq ?_|refine pReg ?_|refine sCons ?_|refine sNil ?_|refine pBlock ?_|refine pSkip ?_|refine pRet ?_|refine pCond ?_|refine gNone ?_|refine gOn rfl ?_|refine gOff rfl rfl ?_|refine gTup rfl ?_))
    intro q hq
    obtain rfl : q = false := hq
    (repeat(first|refine pSeq ?_|refine pReg ?_|refine sCons ?_|refine sNil ?_|refine pBlock ?_|refine pSkip ?_|refine pRet ?_|refine pCond ?_|refine gNone ?_|refine gOn rfl ?_|refine gOff rfl rfl ?_|refine gTup rfl ?_))
    refine (parse_w (hG.chg cA (by simp)) (by omega)).mono fun v s2 q => ?_
    obtain ⟨rfl, c2⟩ := q
    have k2 := c2.blk _ _ (Nat.lt_succ_self s.next) (by simp) lkH
    have n2 := c2.next
    have n2 : s.next + 1 ≤ s2.next := n2
    generalize parseF l = Q at *
    obtain ⟨a, d, e⟩ := Q
    dsimp only at eF ⊢
    (repeat(first|refine pSeq ?_|refine pReg ?_|refine sCons ?_|refine sNil ?_|refine pBlock ?_|refine pSkip ?_|refine pRet ?_|refine pCond ?_|refine gNone ?_|refine gOn rfl ?_|refine gOff rfl rfl ?_|refine gTup rfl ?_))
    refine st_abs (cs' := [str a, str d]) rfl rfl lkH (Nat.lt_succ_self _) rfl rfl fun s3 e3 c3 n3 => ?_
    have c23 : Chg s2 s3 [] := (Chg.new []).fresh c3 (by simp)
    have k3 := c23.blk _ _ (by omega) (by simp) k2
    have n3' := c23.next
    (repeat(first|refine pSeq ?_|refine pReg ?_|refine sCons ?_|refine sNil ?_|refine pBlock ?_|refine pSkip ?_|refine pRet ?_|refine pCond ?_|refine gNone ?_|refine gOn rfl ?_|refine gOff rfl rfl ?_|refine gTup rfl ?_))
    refine ldN_is rfl e3 agg2 ?_
    (repeat(first|refine pSeq ?_|refine pReg ?_|refine sCons ?_|refine sNil ?_|refine pBlock ?_|refine pSkip ?_|refine pRet ?_|refine pCond ?_|refine gNone ?_|refine gOn rfl ?_|refine gOff rfl rfl ?_|refine gTup rfl ?_))
    refine st_abs (cs' := ptCells ⟨false, false, route, a, d⟩ (some A) cw) rfl rfl k3 (by omega) rfl rfl fun s4 e4 c4 n4 => ?_
    have cc : Chg s s4 [] := ((cA.nil c2).nil c23).fresh c4 (by simp)
    (repeat(first|refine pSeq ?_|refine pReg ?_|refine sCons ?_|refine sNil ?_|refine pBlock ?_|refine pSkip ?_|refine pRet ?_|refine pCond ?_|refine gNone ?_|refine gOn rfl ?_|refine gOff rfl rfl ?_|refine gTup rfl ?_))
    (repeat (first | with_reducible refine sqRet ?_ | with_reducible refine bkRet ?_ | with_reducible refine hdRet ?_))
    exact ret_cell agg_Pt sz_Pt rfl e4 agg5 rfl ⟨some A, cw, rfl, hr.chg cc (by simp), cc, .inr rfl⟩
end Go.Vf.S
end
/- PaI -/
section
/- Paths: what is read at the front. -/
namespace Go.Vf.S
open Go Go.Vf
attribute [local irreducible] wSeq wRow wp wG
set_option linter.unusedVariables false
set_option linter.unusedSimpArgs false
set_option maxRecDepth 10000

theorem ret_res {P : Program} {T : TL} {s : SS} {K : Value → SS → Prop} {res : List ResultVar} {l : List Value} (h : resS P T s res = some l) (hK : K (one l) s) : runQ P res K .ret T s := by
  unfold runQ
  simp only [h]
  exact hK
theorem resS_cell {P : Program} {T : TL} {s : SS} {a : Tmp} {t : TypeId} {n c off : Nat} {cs l l' : List Value} {e : TypeId} {g r : Bool} {rs : List ResultVar} (hA : aggB P t = some true) (hz : sizeB P t = some n)
    (ha : look T a = some (.pointer (some ⟨c, off, none⟩))) (hb : lookH s.heap c = some (.cells cs e g r)) (hl : takeN n (cs.drop off) = some l) (hr : resS P T s rs = some l') : resS P T s (.cell a t :: rs) = some (.agg ⟨l⟩ :: l') := by
  have h1 : aOp P (toTr T) s.st (.load t (.tmp a)) = some (.val (.agg ⟨l⟩)) := by
    simp only [aOp, operand, toTr_get, ha, hA, hz, loadRow, SS.get, hb, hl]
    rfl
  simp only [resS, h1, hr]

def atL (l : List UInt8) : List UInt8 := if l.take 1 = [60] then l.drop 1 else l
/-- What stands behind a path's end, if there is one. -/
def restP (l : List UInt8) : List UInt8 := (cutF 62 (l.drop (manyP l))).2.1
def shutP (l : List UInt8) : Bool := (cutF 62 (l.drop (manyP l))).2.2
def errP (n : Nat) (w e : Nat) : Nat := if e = 0 ∧ (256 < n ∨ w = 3) then 3 else e
def pathF (l : List UInt8) : Pth × List UInt8 × Nat :=
  if l.take 1 ≠ [60] ∨ shutP (routeF (atL l)).2.1 = false ∨ (routeF (atL l)).2.2 = 5 then (ptZ, [], 5)
  else if errP (l.length - (restP (routeF (atL l)).2.1).length) (routeF (atL l)).2.2 (madeF (routeF (atL l)).1 (insideP (routeF (atL l)).2.1)).2 = 0 then ((madeF (routeF (atL l)).1 (insideP (routeF (atL l)).2.1)).1, restP (routeF (atL l)).2.1, 0)
  else (ptZ, [], errP (l.length - (restP (routeF (atL l)).2.1).length) (routeF (atL l)).2.2 (madeF (routeF (atL l)).1 (insideP (routeF (atL l)).2.1)).2)

theorem atL_len (l : List UInt8) : (atL l).length ≤ l.length := by unfold atL; split <;> simp
theorem route_len (l : List UInt8) : (routeF l).2.1.length ≤ l.length := by
  unfold routeF
  split
  · simp
  split
  · simp
  have := (cut_len 58 l).2
  split <;> simp_all
theorem rest_len (l : List UInt8) : (restP l).length ≤ l.length := by
  have := (cut_len 62 (l.drop (manyP l))).2
  rw [List.length_drop] at this
  unfold restP; omega
theorem inside_len (l : List UInt8) : (insideP l).length ≤ l.length := by
  have h := quoted_len l
  have := (cut_len 62 (l.drop (manyP l))).1
  unfold insideP
  unfold manyP at *
  rw [List.length_drop] at this
  rw [List.length_append, List.length_take]
  omega
theorem parse_vals (l : List UInt8) : (parseF l).2.2 = 0 ∨ (parseF l).2.2 = 3 ∨ (parseF l).2.2 = 5 := by
  unfold parseF
  split
  · simp
  split
  · exact dom_vals _
  split <;> simp

set_option maxHeartbeats 1000000 in
theorem path_w {s : SS} {l : List UInt8} (hG : Gb s) (hl : l.length ≤ 700000) :
    CallW pr n_path_Parse [str l] s fun v s' => ∃ W cw, v = .tuple ⟨[ptV (pathF l).1 W cw, str (pathF l).2.1, .int .i64 (pathF l).2.2]⟩ ∧ RowAt6 s' W cw (pathF l).1.route ∧ Chg s s' [] ∧ ∀ id ∈ blkOf W, s.next ≤ id := by
  have eF : pathF l = if l.take 1 ≠ [60] ∨ shutP (routeF (atL l)).2.1 = false ∨ (routeF (atL l)).2.2 = 5 then (ptZ, [], 5)
    else if errP (l.length - (restP (routeF (atL l)).2.1).length) (routeF (atL l)).2.2 (madeF (routeF (atL l)).1 (insideP (routeF (atL l)).2.1)).2 = 0 then ((madeF (routeF (atL l)).1 (insideP (routeF (atL l)).2.1)).1, restP (routeF (atL l)).2.1, 0)
    else (ptZ, [], errP (l.length - (restP (routeF (atL l)).2.1).length) (routeF (atL l)).2.2 (madeF (routeF (atL l)).1 (insideP (routeF (atL l)).2.1)).2) := rfl
  have la := atL_len l
  have lr := route_len (atL l)
  have li := inside_len (routeF (atL l)).2.1
  have lb := rest_len (routeF (atL l)).2.1
  refine CallW.run good ok_path_Parse (by simp) rfl ?_
  have cA : Chg s { s with heap := (s.next, some (.cells (ptCells ptZ none 0) tPt false false)) :: s.heap, next := s.next + 1 } [] := .new _
  have eA : lookH ({ s with heap := (s.next, some (.cells (ptCells ptZ none 0) tPt false false)) :: s.heap, next := s.next + 1 } : SS).heap s.next = some (.cells (ptCells ptZ none 0) tPt false false) := lkH
  have nA : ({ s with heap := (s.next, some (.cells (ptCells ptZ none 0) tPt false false)) :: s.heap, next := s.next + 1 } : SS).next = s.next + 1 := rfl
  (repeat(first|refine pSeq ?_|refine pReg ?_|refine sCons ?_|refine sNil ?_|refine pSkip ?_|refine pRet ?_|refine pCond ?_|refine gNone ?_|refine gOn rfl ?_|refine gOff rfl rfl ?_|refine gTup rfl ?_))
  refine cutP_w.mono fun v s0 q => ?_
  obtain ⟨rfl, e0⟩ := q
  rw [← show s0 = ({ s with heap := (s.next, some (.cells (ptCells ptZ none 0) tPt false false)) :: s.heap, next := s.next + 1 } : SS) from e0] at cA eA nA
  clear e0
  have e2 : (if l.take [(60 : UInt8)].length = [60] then l.drop [(60 : UInt8)].length else l) = atL l := rfl
  have e3 : l.take [(60 : UInt8)].length = l.take 1 := rfl
  rw [e2, e3]
  (repeat(first|refine pSeq ?_|refine pReg ?_|refine sCons ?_|refine sNil ?_|refine pSkip ?_|refine pRet ?_|refine pCond ?_|refine gNone ?_|refine gOn rfl ?_|refine gOff rfl rfl ?_|refine gTup rfl ?_))
  refine (cutRoute_w (hG.chg cA (by simp)) (by omega)).mono fun v s1 q => ?_
  obtain ⟨W, cw, rfl, o1, c1, hW⟩ := q
  generalize routeF (atL l) = R at *
  obtain ⟨route, more, w⟩ := R
  dsimp only at eF o1 lr li lb ⊢
  (repeat(first|refine pSeq ?_|refine pReg ?_|refine sCons ?_|refine sNil ?_|refine pSkip ?_|refine pRet ?_|refine pCond ?_|refine gNone ?_|refine gOn rfl ?_|refine gOff rfl rfl ?_|refine gTup rfl ?_))
  refine (cutAddress_w (l := more) (by omega)).mono fun v s2 q => ?_
  obtain ⟨rfl, c2⟩ := q
  rw [show (cutF 62 (more.drop (manyP more))).2.1 = restP more from rfl, show (cutF 62 (more.drop (manyP more))).2.2 = shutP more from rfl]
  have o2 := o1.chg c2 (by simp)
  have c02 : Chg s s2 [] := (cA.nil c1).nil c2
  have k2 := (c1.nil c2).blk _ _ (by omega) (by simp) eA
  have n2 := (c1.nil c2).next
  generalize insideP more = inside at *
  generalize restP more = rest at *
  generalize shutP more = shut at *
  by_cases h60 : l.take 1 = [60]
  · rw [decide_eq_true h60]
    (repeat(first|refine pSeq ?_|refine pReg ?_|refine sCons ?_|refine sNil ?_|refine pSkip ?_|refine pRet ?_|refine pCond ?_|refine gNone ?_|refine gOn rfl ?_|refine gOff rfl rfl ?_|refine gTup rfl ?_))
    intro q hq
    obtain rfl : q = false := hq
    cases shut with
    | false =>
      rw [if_pos (by simp)] at eF
      rw [eF]
      (repeat(first|refine pSeq ?_|refine pReg ?_|refine sCons ?_|refine sNil ?_|refine pSkip ?_|refine pRet ?_|refine pCond ?_|refine gNone ?_|refine gOn rfl ?_|refine gOff rfl rfl ?_|refine gTup rfl ?_))
      intro q hq
      obtain rfl : q = true := hq
      (repeat(first|refine pSeq ?_|refine pReg ?_|refine sCons ?_|refine sNil ?_|refine pSkip ?_|refine pRet ?_|refine pCond ?_|refine gNone ?_|refine gOn rfl ?_|refine gOff rfl rfl ?_|refine gTup rfl ?_))
      refine st_abs (cs' := ptCells ptZ none 0) rfl rfl k2 (by omega) rfl rfl fun s3 e3 c3 n3 => ?_
      (repeat(first|refine pSeq ?_|refine pReg ?_|refine sCons ?_|refine sNil ?_|refine pSkip ?_|refine pRet ?_|refine pCond ?_|refine gNone ?_|refine gOn rfl ?_|refine gOff rfl rfl ?_|refine gTup rfl ?_))
      (repeat (first | with_reducible refine sqRet ?_ | with_reducible refine bkRet ?_ | with_reducible refine hdRet ?_))
      exact ret_res (resS_cell agg_Pt sz_Pt rfl e3 agg5 rfl) ⟨none, 0, rfl, row_none, c02.fresh c3 (by simp), by simp [blkOf]⟩
    | true =>
      (repeat(first|refine pSeq ?_|refine pReg ?_|refine sCons ?_|refine sNil ?_|refine pSkip ?_|refine pRet ?_|refine pCond ?_|refine gNone ?_|refine gOn rfl ?_|refine gOff rfl rfl ?_|refine gTup rfl ?_))
      intro q hq
      obtain rfl : q = false := hq
      (repeat(first|refine pSeq ?_|refine pReg ?_|refine sCons ?_|refine sNil ?_|refine pSkip ?_|refine pRet ?_|refine pCond ?_|refine gNone ?_|refine gOn rfl ?_|refine gOff rfl rfl ?_|refine gTup rfl ?_))
      intro q hq
      by_cases h5 : w = 5
      · obtain rfl : q = true := by rw [hq, h5]; rfl
        rw [if_pos (.inr (.inr h5))] at eF
        rw [eF]
        (repeat(first|refine pSeq ?_|refine pReg ?_|refine sCons ?_|refine sNil ?_|refine pSkip ?_|refine pRet ?_|refine pCond ?_|refine gNone ?_|refine gOn rfl ?_|refine gOff rfl rfl ?_|refine gTup rfl ?_))
        refine st_abs (cs' := ptCells ptZ none 0) rfl rfl k2 (by omega) rfl rfl fun s3 e3 c3 n3 => ?_
        (repeat(first|refine pSeq ?_|refine pReg ?_|refine sCons ?_|refine sNil ?_|refine pSkip ?_|refine pRet ?_|refine pCond ?_|refine gNone ?_|refine gOn rfl ?_|refine gOff rfl rfl ?_|refine gTup rfl ?_))
        (repeat (first | with_reducible refine sqRet ?_ | with_reducible refine bkRet ?_ | with_reducible refine hdRet ?_))
        exact ret_res (resS_cell agg_Pt sz_Pt rfl e3 agg5 rfl) ⟨none, 0, rfl, row_none, c02.fresh c3 (by simp), by simp [blkOf]⟩
      · obtain rfl : q = false := by rw [hq]; simp; omega
        rw [if_neg (by simp [h60, h5])] at eF
        (repeat(first|refine pSeq ?_|refine pReg ?_|refine sCons ?_|refine sNil ?_|refine pSkip ?_|refine pRet ?_|refine pCond ?_|refine gNone ?_|refine gOn rfl ?_|refine gOff rfl rfl ?_|refine gTup rfl ?_))
        refine (pmade_w (l := inside) (hG.chg c02 (by simp)) o2 (by omega)).mono fun v s3 q => ?_
        obtain ⟨W', cw', rfl, o3, c3, hW'⟩ := q
        have hB' : ∀ id ∈ blkOf W', s.next + 1 ≤ id := by
          rcases hW' with rfl | rfl
          · simp [blkOf]
          · intro id hid; have := hW id hid; omega
        have lt' := o3.1.lt
        have k3 := c3.blk _ _ (by omega) (by simp) k2
        have n3 := c3.next
        have c03 := c02.nil c3
        generalize madeF route inside = M at *
        obtain ⟨p, e⟩ := M
        dsimp only at eF o3 ⊢
        (repeat(first|refine pSeq ?_|refine pReg ?_|refine sCons ?_|refine sNil ?_|refine pSkip ?_|refine pRet ?_|refine pCond ?_|refine gNone ?_|refine gOn rfl ?_|refine gOff rfl rfl ?_|refine gTup rfl ?_))
        refine st_abs (cs' := ptCells p W' cw') rfl rfl lkH (Nat.lt_succ_self _) rfl rfl fun s4 e4 c4 n4 => ?_
        have c34 : Chg s3 s4 [] := (Chg.new []).fresh c4 (by simp)
        have n4' : s4.next = s3.next + 1 := n4
        have k4 := c34.blk _ _ (by omega) (by simp) k3
        have o4 := o3.chg c34 (by simp)
        have c04 := c03.nil c34
        (repeat(first|refine pSeq ?_|refine pReg ?_|refine sCons ?_|refine sNil ?_|refine pSkip ?_|refine pRet ?_|refine pCond ?_|refine gNone ?_|refine gOn rfl ?_|refine gOff rfl rfl ?_|refine gTup rfl ?_))
        intro q hq
        by_cases h0 : e = 0
        · subst h0
          obtain rfl : q = true := by rw [hq]; rfl
          (repeat(first|refine pSeq ?_|refine pReg ?_|refine sCons ?_|refine sNil ?_|refine pSkip ?_|refine pRet ?_|refine pCond ?_|refine gNone ?_|refine gOn rfl ?_|refine gOff rfl rfl ?_|refine gTup rfl ?_))
          intro n hn
          (repeat(first|refine pSeq ?_|refine pReg ?_|refine sCons ?_|refine sNil ?_|refine pSkip ?_|refine pRet ?_|refine pCond ?_|refine gNone ?_|refine gOn rfl ?_|refine gOff rfl rfl ?_|refine gTup rfl ?_))
          intro n2 hn2
          (repeat(first|refine pSeq ?_|refine pReg ?_|refine sCons ?_|refine sNil ?_|refine pSkip ?_|refine pRet ?_|refine pCond ?_|refine gNone ?_|refine gOn rfl ?_|refine gOff rfl rfl ?_|refine gTup rfl ?_))
          intro z hz
          rw [i64_id (by omega)] at hz
          (repeat(first|refine pSeq ?_|refine pReg ?_|refine sCons ?_|refine sNil ?_|refine pSkip ?_|refine pRet ?_|refine pCond ?_|refine gNone ?_|refine gOn rfl ?_|refine gOff rfl rfl ?_|refine gTup rfl ?_))
          intro q hq
          by_cases hlong : 256 < l.length - rest.length
          · obtain rfl : q = true := by rw [hq]; simp <;> omega
            have e3 : errP (l.length - rest.length) w 0 = 3 := by unfold errP; rw [if_pos ⟨rfl, .inl hlong⟩]
            rw [e3, if_neg (by simp)] at eF
            rw [eF]
            (repeat(first|refine pSeq ?_|refine pReg ?_|refine sCons ?_|refine sNil ?_|refine pSkip ?_|refine pRet ?_|refine pCond ?_|refine gNone ?_|refine gOn rfl ?_|refine gOff rfl rfl ?_|refine gTup rfl ?_))
            intro q hq
            obtain rfl : q = true := by rw [hq]; rfl
            (repeat(first|refine pSeq ?_|refine pReg ?_|refine sCons ?_|refine sNil ?_|refine pSkip ?_|refine pRet ?_|refine pCond ?_|refine gNone ?_|refine gOn rfl ?_|refine gOff rfl rfl ?_|refine gTup rfl ?_))
            refine st_abs (cs' := ptCells ptZ none 0) rfl rfl k4 (by omega) rfl rfl fun s5 e5 c5 n5 => ?_
            (repeat(first|refine pSeq ?_|refine pReg ?_|refine sCons ?_|refine sNil ?_|refine pSkip ?_|refine pRet ?_|refine pCond ?_|refine gNone ?_|refine gOn rfl ?_|refine gOff rfl rfl ?_|refine gTup rfl ?_))
            (repeat (first | with_reducible refine sqRet ?_ | with_reducible refine bkRet ?_ | with_reducible refine hdRet ?_))
            exact ret_res (resS_cell agg_Pt sz_Pt rfl e5 agg5 rfl) ⟨none, 0, rfl, row_none, c04.fresh c5 (by simp), by simp [blkOf]⟩
          · obtain rfl : q = false := by rw [hq]; simp <;> omega
            (repeat(first|refine pSeq ?_|refine pReg ?_|refine sCons ?_|refine sNil ?_|refine pSkip ?_|refine pRet ?_|refine pCond ?_|refine gNone ?_|refine gOn rfl ?_|refine gOff rfl rfl ?_|refine gTup rfl ?_))
            intro q hq
            by_cases hw3 : w = 3
            · obtain rfl : q = true := by rw [hq, hw3]; rfl
              have e3 : errP (l.length - rest.length) w 0 = 3 := by unfold errP; rw [if_pos ⟨rfl, .inr hw3⟩]
              rw [e3, if_neg (by simp)] at eF
              rw [eF]
              (repeat(first|refine pSeq ?_|refine pReg ?_|refine sCons ?_|refine sNil ?_|refine pSkip ?_|refine pRet ?_|refine pCond ?_|refine gNone ?_|refine gOn rfl ?_|refine gOff rfl rfl ?_|refine gTup rfl ?_))
              intro q hq
              obtain rfl : q = true := by rw [hq]; rfl
              (repeat(first|refine pSeq ?_|refine pReg ?_|refine sCons ?_|refine sNil ?_|refine pSkip ?_|refine pRet ?_|refine pCond ?_|refine gNone ?_|refine gOn rfl ?_|refine gOff rfl rfl ?_|refine gTup rfl ?_))
              refine st_abs (cs' := ptCells ptZ none 0) rfl rfl k4 (by omega) rfl rfl fun s5 e5 c5 n5 => ?_
              (repeat(first|refine pSeq ?_|refine pReg ?_|refine sCons ?_|refine sNil ?_|refine pSkip ?_|refine pRet ?_|refine pCond ?_|refine gNone ?_|refine gOn rfl ?_|refine gOff rfl rfl ?_|refine gTup rfl ?_))
              (repeat (first | with_reducible refine sqRet ?_ | with_reducible refine bkRet ?_ | with_reducible refine hdRet ?_))
              exact ret_res (resS_cell agg_Pt sz_Pt rfl e5 agg5 rfl) ⟨none, 0, rfl, row_none, c04.fresh c5 (by simp), by simp [blkOf]⟩
            · obtain rfl : q = false := by rw [hq]; simp; omega
              have e3 : errP (l.length - rest.length) w 0 = 0 := by unfold errP; rw [if_neg (by rintro ⟨-, r | r⟩ <;> omega)]
              rw [e3, if_pos rfl] at eF
              rw [eF]
              (repeat(first|refine pSeq ?_|refine pReg ?_|refine sCons ?_|refine sNil ?_|refine pSkip ?_|refine pRet ?_|refine pCond ?_|refine gNone ?_|refine gOn rfl ?_|refine gOff rfl rfl ?_|refine gTup rfl ?_))
              intro q hq
              obtain rfl : q = false := by rw [hq]; rfl
              (repeat(first|refine pSeq ?_|refine pReg ?_|refine sCons ?_|refine sNil ?_|refine pSkip ?_|refine pRet ?_|refine pCond ?_|refine gNone ?_|refine gOn rfl ?_|refine gOff rfl rfl ?_|refine gTup rfl ?_))
              refine ldN_is rfl e4 agg5 ?_
              (repeat(first|refine pSeq ?_|refine pReg ?_|refine sCons ?_|refine sNil ?_|refine pSkip ?_|refine pRet ?_|refine pCond ?_|refine gNone ?_|refine gOn rfl ?_|refine gOff rfl rfl ?_|refine gTup rfl ?_))
              refine st_abs (cs' := ptCells p W' cw') rfl rfl k4 (by omega) rfl rfl fun s5 e5 c5 n5 => ?_
              (repeat(first|refine pSeq ?_|refine pReg ?_|refine sCons ?_|refine sNil ?_|refine pSkip ?_|refine pRet ?_|refine pCond ?_|refine gNone ?_|refine gOn rfl ?_|refine gOff rfl rfl ?_|refine gTup rfl ?_))
              (repeat (first | with_reducible refine sqRet ?_ | with_reducible refine bkRet ?_ | with_reducible refine hdRet ?_))
              exact ret_res (resS_cell agg_Pt sz_Pt rfl e5 agg5 rfl) ⟨W', cw', rfl, ⟨o4.1.chg c5 (fun id hid q => by have := hB' id hid; simp at q; omega), o4.2⟩, c04.fresh c5 (by simp), fun id hid => Nat.le_of_succ_le (hB' id hid)⟩
        · obtain rfl : q = false := by rw [hq]; simp; omega
          have e3 : errP (l.length - rest.length) w e = e := by unfold errP; rw [if_neg (by rintro ⟨r, -⟩; exact h0 r)]
          rw [e3, if_neg h0] at eF
          rw [eF]
          (repeat(first|refine pSeq ?_|refine pReg ?_|refine sCons ?_|refine sNil ?_|refine pSkip ?_|refine pRet ?_|refine pCond ?_|refine gNone ?_|refine gOn rfl ?_|refine gOff rfl rfl ?_|refine gTup rfl ?_))
          intro q hq
          obtain rfl : q = true := by rw [hq]; simp; omega
          (repeat(first|refine pSeq ?_|refine pReg ?_|refine sCons ?_|refine sNil ?_|refine pSkip ?_|refine pRet ?_|refine pCond ?_|refine gNone ?_|refine gOn rfl ?_|refine gOff rfl rfl ?_|refine gTup rfl ?_))
          refine st_abs (cs' := ptCells ptZ none 0) rfl rfl k4 (by omega) rfl rfl fun s5 e5 c5 n5 => ?_
          (repeat(first|refine pSeq ?_|refine pReg ?_|refine sCons ?_|refine sNil ?_|refine pSkip ?_|refine pRet ?_|refine pCond ?_|refine gNone ?_|refine gOn rfl ?_|refine gOff rfl rfl ?_|refine gTup rfl ?_))
          (repeat (first | with_reducible refine sqRet ?_ | with_reducible refine bkRet ?_ | with_reducible refine hdRet ?_))
          exact ret_res (resS_cell agg_Pt sz_Pt rfl e5 agg5 rfl) ⟨none, 0, rfl, row_none, c04.fresh c5 (by simp), by simp [blkOf]⟩
  · rw [decide_eq_false h60]
    rw [if_pos (.inl h60)] at eF
    rw [eF]
    (repeat(first|refine pSeq ?_|refine pReg ?_|refine sCons ?_|refine sNil ?_|refine pSkip ?_|refine pRet ?_|refine pCond ?_|refine gNone ?_|refine gOn rfl ?_|refine gOff rfl rfl ?_|refine gTup rfl ?_))
    intro q hq
    obtain rfl : q = true := hq
    (repeat(first|refine pSeq ?_|refine pReg ?_|refine sCons ?_|refine sNil ?_|refine pSkip ?_|refine pRet ?_|refine pCond ?_|refine gNone ?_|refine gOn rfl ?_|refine gOff rfl rfl ?_|refine gTup rfl ?_))
    refine st_abs (cs' := ptCells ptZ none 0) rfl rfl k2 (by omega) rfl rfl fun s3 e3 c3 n3 => ?_
    (repeat(first|refine pSeq ?_|refine pReg ?_|refine sCons ?_|refine sNil ?_|refine pSkip ?_|refine pRet ?_|refine pCond ?_|refine gNone ?_|refine gOn rfl ?_|refine gOff rfl rfl ?_|refine gTup rfl ?_))
    (repeat (first | with_reducible refine sqRet ?_ | with_reducible refine bkRet ?_ | with_reducible refine hdRet ?_))
    exact ret_res (resS_cell agg_Pt sz_Pt rfl e3 agg5 rfl) ⟨none, 0, rfl, row_none, c02.fresh c3 (by simp), by simp [blkOf]⟩
end Go.Vf.S
end
/- PaJ -/
section
/- Paths: what MAIL and RCPT say. -/
namespace Go.Vf.S
open Go Go.Vf
attribute [local irreducible] wSeq wRow wp wG
set_option linter.unusedVariables false
set_option linter.unusedSimpArgs false
set_option maxRecDepth 10000

theorem path_rest_len (l : List UInt8) : (pathF l).2.1.length ≤ l.length := by
  have la := atL_len l
  have lr := route_len (atL l)
  have lb := rest_len (routeF (atL l)).2.1
  unfold pathF
  split
  · simp
  split
  · show (restP _).length ≤ _
    omega
  · simp

def fromF (l : List UInt8) : Pth × Pv × Int :=
  if (pathF l).2.2 ≠ 0 then (ptZ, pv0, (pathF l).2.2) else if (pathF l).1.post = true then (ptZ, pv0, 5) else if (paramsF (pathF l).2.1).2 ≠ 0 then (ptZ, pv0, (paramsF (pathF l).2.1).2) else ((pathF l).1, (paramsF (pathF l).2.1).1, 0)
def toF (l : List UInt8) : Pth × Int :=
  if (pathF l).2.2 ≠ 0 then (ptZ, (pathF l).2.2) else if (pathF l).1.null = true then (ptZ, 5) else if (paramsF (pathF l).2.1).2 = 5 then (ptZ, 5) else if (pathF l).2.1 ≠ [] then (ptZ, 1) else ((pathF l).1, 0)

set_option maxHeartbeats 1000000 in
theorem from_w {s : SS} {l : List UInt8} (hG : Gb s) (hf : Fine s) (hl : l.length ≤ 700000) :
    CallW pr n_path_From [str l] s fun v s' => ∃ W cw, v = .tuple ⟨[ptV (fromF l).1 W cw, pmV (fromF l).2.1, .int .i64 (fromF l).2.2]⟩ ∧ RowAt6 s' W cw (fromF l).1.route ∧ Chg s s' [] ∧ ∀ id ∈ blkOf W, s.next ≤ id := by
  have eF : fromF l = if (pathF l).2.2 ≠ 0 then (ptZ, pv0, ((pathF l).2.2 : Int)) else if (pathF l).1.post = true then (ptZ, pv0, 5) else if (paramsF (pathF l).2.1).2 ≠ 0 then (ptZ, pv0, (paramsF (pathF l).2.1).2) else ((pathF l).1, (paramsF (pathF l).2.1).1, 0) := rfl
  have lp := path_rest_len l
  refine CallW.run good ok_path_From (by simp) rfl ?_
  (repeat(first|refine pSeq ?_|refine pReg ?_|refine sCons ?_|refine sNil ?_|refine rCons ?_|refine rNil ?_|refine kNo ?_|refine pRow ?_|refine pSkip ?_|refine pRet ?_|refine pCond ?_|refine gNone ?_))
  refine (path_w ((hG.chg (Chg.new (A := [])) (by simp)).chg (Chg.new (A := [])) (by simp)) hl).mono fun v s1 q => ?_
  obtain ⟨W, cw, rfl, o1, c01, hW⟩ := q
  have hW : ∀ id ∈ blkOf W, s.next + 2 ≤ id := hW
  have c1 : Chg s s1 [] := ((Chg.new []).nil (Chg.new [])).nil c01
  have k1 : lookH s1.heap s.next = some (.cells (ptCells ptZ none 0) tPt false false) := c01.blk _ _ (by show s.next < s.next + 1 + 1; omega) (by simp) ((Chg.new []).blk _ _ (Nat.lt_succ_self _) (by simp) lkH)
  have q1 : lookH s1.heap (s.next + 1) = some (.cells (pvCells pv0) tPm false false) := c01.blk _ _ (by show s.next + 1 < s.next + 1 + 1; omega) (by simp) lkH
  have n1 : s.next + 2 ≤ s1.next := c01.next
  clear c01
  generalize pathF l = M at *
  obtain ⟨p, rest, e⟩ := M
  dsimp only at eF o1 lp ⊢
  (repeat(first|refine pSeq ?_|refine pReg ?_|refine sCons ?_|refine sNil ?_|refine rCons ?_|refine rNil ?_|refine kNo ?_|refine pRow ?_|refine pSkip ?_|refine pRet ?_|refine pCond ?_|refine gNone ?_))
  refine st_abs (cs' := ptCells p W cw) rfl rfl lkH (Nat.lt_succ_self _) rfl rfl fun s2 e2 c2 n2 => ?_
  have c12 : Chg s1 s2 [] := (Chg.new []).fresh c2 (by simp)
  have n2' : s2.next = s1.next + 1 := n2
  have k2 := c12.blk _ _ (by omega) (by simp) k1
  have q2 := c12.blk _ _ (by omega) (by simp) q1
  have o2 := o1.chg c12 (by simp)
  have c02 := c1.nil c12
  (repeat(first|refine pSeq ?_|refine pReg ?_|refine sCons ?_|refine sNil ?_|refine rCons ?_|refine rNil ?_|refine kNo ?_|refine pRow ?_|refine pSkip ?_|refine pRet ?_|refine pCond ?_|refine gNone ?_))
  intro q hq
  by_cases h0 : e = 0
  · subst h0
    obtain rfl : q = false := by rw [hq]; rfl
    rw [if_neg (by simp)] at eF
    (repeat(first|refine pSeq ?_|refine pReg ?_|refine sCons ?_|refine sNil ?_|refine rCons ?_|refine rNil ?_|refine kNo ?_|refine pRow ?_|refine pSkip ?_|refine pRet ?_|refine pCond ?_|refine gNone ?_))
    refine ldB_is rfl e2 rfl ?_
    cases hpost : p.post with
    | true =>
      rw [hpost, if_pos rfl] at eF
      rw [eF]
      (repeat(first|refine pSeq ?_|refine pReg ?_|refine sCons ?_|refine sNil ?_|refine rCons ?_|refine rNil ?_|refine kNo ?_|refine pRow ?_|refine pSkip ?_|refine pRet ?_|refine pCond ?_|refine gNone ?_))
      refine st_abs (cs' := ptCells ptZ none 0) rfl rfl k2 (by omega) rfl rfl fun s3 e3 c3 n3 => ?_
      have q3 := c3.blk _ _ (by omega) (by simp) q2
      (repeat(first|refine pSeq ?_|refine pReg ?_|refine sCons ?_|refine sNil ?_|refine rCons ?_|refine rNil ?_|refine kNo ?_|refine pRow ?_|refine pSkip ?_|refine pRet ?_|refine pCond ?_|refine gNone ?_))
      refine st_abs (cs' := pvCells pv0) rfl rfl q3 (by omega) rfl rfl fun s4 e4 c4 n4 => ?_
      have k4 := c4.blk _ _ (by omega) (by simp) e3
      (repeat(first|refine pSeq ?_|refine pReg ?_|refine sCons ?_|refine sNil ?_|refine rCons ?_|refine rNil ?_|refine kNo ?_|refine pRow ?_|refine pSkip ?_|refine pRet ?_|refine pCond ?_|refine gNone ?_))
      (repeat (first | with_reducible refine sqRet ?_ | with_reducible refine bkRet ?_ | with_reducible refine hdRet ?_))
      exact ret_res (resS_cell agg_Pt sz_Pt rfl k4 agg5 (resS_cell agg_Pm sz_Pm rfl e4 agg3 rfl)) ⟨none, 0, rfl, row_none, (c02.fresh c3 (by simp)).fresh c4 (by simp), by simp [blkOf]⟩
    | false =>
      rw [hpost, if_neg (by simp)] at eF
      (repeat(first|refine pSeq ?_|refine pReg ?_|refine sCons ?_|refine sNil ?_|refine rCons ?_|refine rNil ?_|refine kNo ?_|refine pRow ?_|refine pSkip ?_|refine pRet ?_|refine pCond ?_|refine gNone ?_))
      refine (params_w (l := rest) (c02.fine hf) (by omega)).mono fun v s3 q => ?_
      obtain ⟨rfl, c23⟩ := q
      have n3 := c23.next
      have k3 := c23.blk _ _ (by omega) (by simp) k2
      have q3 := c23.blk _ _ (by omega) (by simp) q2
      have e3 := c23.blk _ _ (by omega) (by simp) e2
      have o3 := o2.chg c23 (by simp)
      have c03 := c02.nil c23
      generalize paramsF rest = Q at *
      obtain ⟨pm, f⟩ := Q
      dsimp only at eF ⊢
      (repeat(first|refine pSeq ?_|refine pReg ?_|refine sCons ?_|refine sNil ?_|refine rCons ?_|refine rNil ?_|refine kNo ?_|refine pRow ?_|refine pSkip ?_|refine pRet ?_|refine pCond ?_|refine gNone ?_))
      refine st_abs (cs' := pvCells pm) rfl rfl lkH (Nat.lt_succ_self _) rfl rfl fun s4 e4 c4 n4 => ?_
      have c34 : Chg s3 s4 [] := (Chg.new []).fresh c4 (by simp)
      have n4' : s4.next = s3.next + 1 := n4
      have k4 := c34.blk _ _ (by omega) (by simp) k3
      have q4 := c34.blk _ _ (by omega) (by simp) q3
      have p4 := c34.blk _ _ (by omega) (by simp) e3
      have o4 := o3.chg c34 (by simp)
      have c04 := c03.nil c34
      (repeat(first|refine pSeq ?_|refine pReg ?_|refine sCons ?_|refine sNil ?_|refine rCons ?_|refine rNil ?_|refine kNo ?_|refine pRow ?_|refine pSkip ?_|refine pRet ?_|refine pCond ?_|refine gNone ?_))
      intro q hq
      by_cases hf0 : f = 0
      · subst hf0
        obtain rfl : q = false := by rw [hq]; rfl
        rw [if_neg (by simp)] at eF
        rw [eF]
        (repeat(first|refine pSeq ?_|refine pReg ?_|refine sCons ?_|refine sNil ?_|refine rCons ?_|refine rNil ?_|refine kNo ?_|refine pRow ?_|refine pSkip ?_|refine pRet ?_|refine pCond ?_|refine gNone ?_))
        refine ldN_is rfl p4 agg5 ?_
        (repeat(first|refine pSeq ?_|refine pReg ?_|refine sCons ?_|refine sNil ?_|refine rCons ?_|refine rNil ?_|refine kNo ?_|refine pRow ?_|refine pSkip ?_|refine pRet ?_|refine pCond ?_|refine gNone ?_))
        refine ldN_is rfl e4 agg3 ?_
        (repeat(first|refine pSeq ?_|refine pReg ?_|refine sCons ?_|refine sNil ?_|refine rCons ?_|refine rNil ?_|refine kNo ?_|refine pRow ?_|refine pSkip ?_|refine pRet ?_|refine pCond ?_|refine gNone ?_))
        refine st_abs (cs' := ptCells p W cw) rfl rfl k4 (by omega) rfl rfl fun s5 e5 c5 n5 => ?_
        have q5 := c5.blk _ _ (by omega) (by simp) q4
        have p5 := c5.blk _ _ (by omega) (by simp; omega) p4
        have r5 := c5.blk _ _ (by omega) (by simp; omega) e4
        refine kEach ⟨fun _ => ldN_is rfl r5 agg3 rfl, trivial⟩ ?_
        (repeat(first|refine pSeq ?_|refine pReg ?_|refine sCons ?_|refine sNil ?_|refine rCons ?_|refine rNil ?_|refine kNo ?_|refine pRow ?_|refine pSkip ?_|refine pRet ?_|refine pCond ?_|refine gNone ?_))
        refine st_abs (cs' := pvCells pm) rfl rfl q5 (by omega) rfl rfl fun s6 e6 c6 n6 => ?_
        have k6 := c6.blk _ _ (by omega) (by simp) e5
        have o5 : RowAt6 s5 W cw p.route := o4.chg c5 (fun id hid q => by have := hW id hid; simp at q; omega)
        have o6 : RowAt6 s6 W cw p.route := o5.chg c6 (fun id hid q => by have := hW id hid; simp at q; omega)
        (repeat(first|refine pSeq ?_|refine pReg ?_|refine sCons ?_|refine sNil ?_|refine rCons ?_|refine rNil ?_|refine kNo ?_|refine pRow ?_|refine pSkip ?_|refine pRet ?_|refine pCond ?_|refine gNone ?_))
        (repeat (first | with_reducible refine sqRet ?_ | with_reducible refine bkRet ?_ | with_reducible refine hdRet ?_))
        exact ret_res (resS_cell agg_Pt sz_Pt rfl k6 agg5 (resS_cell agg_Pm sz_Pm rfl e6 agg3 rfl)) ⟨W, cw, rfl, o6, (c04.fresh c5 (by simp)).fresh c6 (by simp), fun id hid => by have := hW id hid; omega⟩
      · obtain rfl : q = true := by rw [hq]; simpa using hf0
        rw [if_pos hf0] at eF
        rw [eF]
        (repeat(first|refine pSeq ?_|refine pReg ?_|refine sCons ?_|refine sNil ?_|refine rCons ?_|refine rNil ?_|refine kNo ?_|refine pRow ?_|refine pSkip ?_|refine pRet ?_|refine pCond ?_|refine gNone ?_))
        refine st_abs (cs' := ptCells ptZ none 0) rfl rfl k4 (by omega) rfl rfl fun s5 e5 c5 n5 => ?_
        have q5 := c5.blk _ _ (by omega) (by simp) q4
        (repeat(first|refine pSeq ?_|refine pReg ?_|refine sCons ?_|refine sNil ?_|refine rCons ?_|refine rNil ?_|refine kNo ?_|refine pRow ?_|refine pSkip ?_|refine pRet ?_|refine pCond ?_|refine gNone ?_))
        refine st_abs (cs' := pvCells pv0) rfl rfl q5 (by omega) rfl rfl fun s6 e6 c6 n6 => ?_
        have k6 := c6.blk _ _ (by omega) (by simp) e5
        (repeat(first|refine pSeq ?_|refine pReg ?_|refine sCons ?_|refine sNil ?_|refine rCons ?_|refine rNil ?_|refine kNo ?_|refine pRow ?_|refine pSkip ?_|refine pRet ?_|refine pCond ?_|refine gNone ?_))
        (repeat (first | with_reducible refine sqRet ?_ | with_reducible refine bkRet ?_ | with_reducible refine hdRet ?_))
        exact ret_res (resS_cell agg_Pt sz_Pt rfl k6 agg5 (resS_cell agg_Pm sz_Pm rfl e6 agg3 rfl)) ⟨none, 0, rfl, row_none, (c04.fresh c5 (by simp)).fresh c6 (by simp), by simp [blkOf]⟩
  · obtain rfl : q = true := by rw [hq]; simp; omega
    rw [if_pos h0] at eF
    rw [eF]
    (repeat(first|refine pSeq ?_|refine pReg ?_|refine sCons ?_|refine sNil ?_|refine rCons ?_|refine rNil ?_|refine kNo ?_|refine pRow ?_|refine pSkip ?_|refine pRet ?_|refine pCond ?_|refine gNone ?_))
    refine st_abs (cs' := ptCells ptZ none 0) rfl rfl k2 (by omega) rfl rfl fun s3 e3 c3 n3 => ?_
    have q3 := c3.blk _ _ (by omega) (by simp) q2
    (repeat(first|refine pSeq ?_|refine pReg ?_|refine sCons ?_|refine sNil ?_|refine rCons ?_|refine rNil ?_|refine kNo ?_|refine pRow ?_|refine pSkip ?_|refine pRet ?_|refine pCond ?_|refine gNone ?_))
    refine st_abs (cs' := pvCells pv0) rfl rfl q3 (by omega) rfl rfl fun s4 e4 c4 n4 => ?_
    have k4 := c4.blk _ _ (by omega) (by simp) e3
    (repeat(first|refine pSeq ?_|refine pReg ?_|refine sCons ?_|refine sNil ?_|refine rCons ?_|refine rNil ?_|refine kNo ?_|refine pRow ?_|refine pSkip ?_|refine pRet ?_|refine pCond ?_|refine gNone ?_))
    (repeat (first | with_reducible refine sqRet ?_ | with_reducible refine bkRet ?_ | with_reducible refine hdRet ?_))
    exact ret_res (resS_cell agg_Pt sz_Pt rfl k4 agg5 (resS_cell agg_Pm sz_Pm rfl e4 agg3 rfl)) ⟨none, 0, rfl, row_none, (c02.fresh c3 (by simp)).fresh c4 (by simp), by simp [blkOf]⟩

set_option maxHeartbeats 1000000 in
theorem to_w {s : SS} {l : List UInt8} (hG : Gb s) (hf : Fine s) (hl : l.length ≤ 700000) :
    CallW pr n_path_To [str l] s fun v s' => ∃ W cw, v = .tuple ⟨[ptV (toF l).1 W cw, .int .i64 (toF l).2]⟩ ∧ RowAt6 s' W cw (toF l).1.route ∧ Chg s s' [] ∧ ∀ id ∈ blkOf W, s.next ≤ id := by
  have eF : toF l = if (pathF l).2.2 ≠ 0 then (ptZ, ((pathF l).2.2 : Int)) else if (pathF l).1.null = true then (ptZ, 5) else if (paramsF (pathF l).2.1).2 = 5 then (ptZ, 5) else if (pathF l).2.1 ≠ [] then (ptZ, 1) else ((pathF l).1, 0) := rfl
  have lp := path_rest_len l
  refine CallW.run good ok_path_To (by simp) rfl ?_
  (repeat(first|refine pSeq ?_|refine pReg ?_|refine sCons ?_|refine sNil ?_|refine pSkip ?_|refine pRet ?_|refine pCond ?_|refine gNone ?_))
  refine (path_w (hG.chg (Chg.new (A := [])) (by simp)) hl).mono fun v s1 q => ?_
  obtain ⟨W, cw, rfl, o1, c01, hW⟩ := q
  have hW : ∀ id ∈ blkOf W, s.next + 1 ≤ id := hW
  have c1 : Chg s s1 [] := (Chg.new []).nil c01
  have k1 : lookH s1.heap s.next = some (.cells (ptCells ptZ none 0) tPt false false) := c01.blk _ _ (Nat.lt_succ_self _) (by simp) lkH
  have n1 : s.next + 1 ≤ s1.next := c01.next
  clear c01
  generalize pathF l = M at *
  obtain ⟨p, rest, e⟩ := M
  dsimp only at eF o1 lp ⊢
  (repeat(first|refine pSeq ?_|refine pReg ?_|refine sCons ?_|refine sNil ?_|refine pSkip ?_|refine pRet ?_|refine pCond ?_|refine gNone ?_))
  refine st_abs (cs' := ptCells p W cw) rfl rfl lkH (Nat.lt_succ_self _) rfl rfl fun s2 e2 c2 n2 => ?_
  have c12 : Chg s1 s2 [] := (Chg.new []).fresh c2 (by simp)
  have n2' : s2.next = s1.next + 1 := n2
  have k2 := c12.blk _ _ (by omega) (by simp) k1
  have o2 := o1.chg c12 (by simp)
  have c02 := c1.nil c12
  (repeat(first|refine pSeq ?_|refine pReg ?_|refine sCons ?_|refine sNil ?_|refine pSkip ?_|refine pRet ?_|refine pCond ?_|refine gNone ?_))
  intro q hq
  by_cases h0 : e = 0
  · subst h0
    obtain rfl : q = false := by rw [hq]; rfl
    rw [if_neg (by simp)] at eF
    (repeat(first|refine pSeq ?_|refine pReg ?_|refine sCons ?_|refine sNil ?_|refine pSkip ?_|refine pRet ?_|refine pCond ?_|refine gNone ?_))
    refine ldB_is rfl e2 rfl ?_
    cases hnull : p.null with
    | true =>
      rw [hnull, if_pos rfl] at eF
      rw [eF]
      (repeat(first|refine pSeq ?_|refine pReg ?_|refine sCons ?_|refine sNil ?_|refine pSkip ?_|refine pRet ?_|refine pCond ?_|refine gNone ?_))
      refine st_abs (cs' := ptCells ptZ none 0) rfl rfl k2 (by omega) rfl rfl fun s3 e3 c3 n3 => ?_
      (repeat(first|refine pSeq ?_|refine pReg ?_|refine sCons ?_|refine sNil ?_|refine pSkip ?_|refine pRet ?_|refine pCond ?_|refine gNone ?_))
      (repeat (first | with_reducible refine sqRet ?_ | with_reducible refine bkRet ?_ | with_reducible refine hdRet ?_))
      exact ret_res (resS_cell agg_Pt sz_Pt rfl e3 agg5 rfl) ⟨none, 0, rfl, row_none, c02.fresh c3 (by simp), by simp [blkOf]⟩
    | false =>
      rw [hnull, if_neg (by simp)] at eF
      (repeat(first|refine pSeq ?_|refine pReg ?_|refine sCons ?_|refine sNil ?_|refine pSkip ?_|refine pRet ?_|refine pCond ?_|refine gNone ?_))
      refine (params_w (l := rest) (c02.fine hf) (by omega)).mono fun v s3 q => ?_
      obtain ⟨rfl, c23⟩ := q
      have n3 := c23.next
      have k3 := c23.blk _ _ (by omega) (by simp) k2
      have e3 := c23.blk _ _ (by omega) (by simp) e2
      have o3 := o2.chg c23 (by simp)
      have c03 := c02.nil c23
      generalize paramsF rest = Q at *
      obtain ⟨pm, f⟩ := Q
      dsimp only at eF ⊢
      (repeat(first|refine pSeq ?_|refine pReg ?_|refine sCons ?_|refine sNil ?_|refine pSkip ?_|refine pRet ?_|refine pCond ?_|refine gNone ?_))
      refine st_abs (cs' := pvCells pm) rfl rfl lkH (Nat.lt_succ_self _) rfl rfl fun s4 e4 c4 n4 => ?_
      have c34 : Chg s3 s4 [] := (Chg.new []).fresh c4 (by simp)
      have n4' : s4.next = s3.next + 1 := n4
      have k4 := c34.blk _ _ (by omega) (by simp) k3
      have p4 := c34.blk _ _ (by omega) (by simp) e3
      have o4 := o3.chg c34 (by simp)
      have c04 := c03.nil c34
      (repeat(first|refine pSeq ?_|refine pReg ?_|refine sCons ?_|refine sNil ?_|refine pSkip ?_|refine pRet ?_|refine pCond ?_|refine gNone ?_))
      intro q hq
      by_cases h5 : f = 5
      · subst h5
        obtain rfl : q = true := by rw [hq]; rfl
        rw [if_pos rfl] at eF
        rw [eF]
        (repeat(first|refine pSeq ?_|refine pReg ?_|refine sCons ?_|refine sNil ?_|refine pSkip ?_|refine pRet ?_|refine pCond ?_|refine gNone ?_))
        refine st_abs (cs' := ptCells ptZ none 0) rfl rfl k4 (by omega) rfl rfl fun s5 e5 c5 n5 => ?_
        (repeat(first|refine pSeq ?_|refine pReg ?_|refine sCons ?_|refine sNil ?_|refine pSkip ?_|refine pRet ?_|refine pCond ?_|refine gNone ?_))
        (repeat (first | with_reducible refine sqRet ?_ | with_reducible refine bkRet ?_ | with_reducible refine hdRet ?_))
        exact ret_res (resS_cell agg_Pt sz_Pt rfl e5 agg5 rfl) ⟨none, 0, rfl, row_none, c04.fresh c5 (by simp), by simp [blkOf]⟩
      · obtain rfl : q = false := by rw [hq]; simpa using h5
        rw [if_neg h5] at eF
        (repeat(first|refine pSeq ?_|refine pReg ?_|refine sCons ?_|refine sNil ?_|refine pSkip ?_|refine pRet ?_|refine pCond ?_|refine gNone ?_))
        intro q hq
        by_cases hr : rest = []
        · obtain rfl : q = false := by rw [hq, hr]; rfl
          rw [if_neg (by simpa using hr)] at eF
          rw [eF]
          (repeat(first|refine pSeq ?_|refine pReg ?_|refine sCons ?_|refine sNil ?_|refine pSkip ?_|refine pRet ?_|refine pCond ?_|refine gNone ?_))
          refine ldN_is rfl p4 agg5 ?_
          (repeat(first|refine pSeq ?_|refine pReg ?_|refine sCons ?_|refine sNil ?_|refine pSkip ?_|refine pRet ?_|refine pCond ?_|refine gNone ?_))
          refine st_abs (cs' := ptCells p W cw) rfl rfl k4 (by omega) rfl rfl fun s5 e5 c5 n5 => ?_
          (repeat(first|refine pSeq ?_|refine pReg ?_|refine sCons ?_|refine sNil ?_|refine pSkip ?_|refine pRet ?_|refine pCond ?_|refine gNone ?_))
          (repeat (first | with_reducible refine sqRet ?_ | with_reducible refine bkRet ?_ | with_reducible refine hdRet ?_))
          exact ret_res (resS_cell agg_Pt sz_Pt rfl e5 agg5 rfl) ⟨W, cw, rfl, o4.chg c5 (fun id hid q => by have := hW id hid; simp at q; omega), c04.fresh c5 (by simp), fun id hid => by have := hW id hid; omega⟩
        · obtain rfl : q = true := by rw [hq]; simpa using hr
          rw [if_pos hr] at eF
          rw [eF]
          (repeat(first|refine pSeq ?_|refine pReg ?_|refine sCons ?_|refine sNil ?_|refine pSkip ?_|refine pRet ?_|refine pCond ?_|refine gNone ?_))
          refine st_abs (cs' := ptCells ptZ none 0) rfl rfl k4 (by omega) rfl rfl fun s5 e5 c5 n5 => ?_
          (repeat(first|refine pSeq ?_|refine pReg ?_|refine sCons ?_|refine sNil ?_|refine pSkip ?_|refine pRet ?_|refine pCond ?_|refine gNone ?_))
          (repeat (first | with_reducible refine sqRet ?_ | with_reducible refine bkRet ?_ | with_reducible refine hdRet ?_))
          exact ret_res (resS_cell agg_Pt sz_Pt rfl e5 agg5 rfl) ⟨none, 0, rfl, row_none, c04.fresh c5 (by simp), by simp [blkOf]⟩
  · obtain rfl : q = true := by rw [hq]; simp; omega
    rw [if_pos h0] at eF
    rw [eF]
    (repeat(first|refine pSeq ?_|refine pReg ?_|refine sCons ?_|refine sNil ?_|refine pSkip ?_|refine pRet ?_|refine pCond ?_|refine gNone ?_))
    refine st_abs (cs' := ptCells ptZ none 0) rfl rfl k2 (by omega) rfl rfl fun s3 e3 c3 n3 => ?_
    (repeat(first|refine pSeq ?_|refine pReg ?_|refine sCons ?_|refine sNil ?_|refine pSkip ?_|refine pRet ?_|refine pCond ?_|refine gNone ?_))
    (repeat (first | with_reducible refine sqRet ?_ | with_reducible refine bkRet ?_ | with_reducible refine hdRet ?_))
    exact ret_res (resS_cell agg_Pt sz_Pt rfl e3 agg5 rfl) ⟨none, 0, rfl, row_none, c02.fresh c3 (by simp), by simp [blkOf]⟩
end Go.Vf.S
end
/- PaK -/
section
/- Paths: the chapter's rows. -/
namespace Go.Vf.S
open Go Go.Vf
attribute [local irreducible] wSeq wRow wp wG
set_option linter.unusedVariables false
set_option linter.unusedSimpArgs false
set_option maxRecDepth 10000

theorem row1 : fromF [60, 97, 64, 98, 46, 99, 62, 32, 83, 73, 90, 69, 61, 53] = (⟨false, false, [], [97], [98, 46, 99]⟩, ⟨true, false, 5⟩, 0) := by kernel_rfl
theorem row2 : fromF [60, 64, 120, 44, 64, 121, 58, 97, 64, 98, 46, 99, 62] = (⟨false, false, [[120], [121]], [97], [98, 46, 99]⟩, pv0, 0) := by kernel_rfl
theorem row3 : fromF [60, 62] = (⟨true, false, [], [], []⟩, pv0, 0) := by kernel_rfl
theorem row4 : toF [60, 112, 111, 115, 116, 77, 97, 115, 116, 101, 114, 62] = (⟨false, true, [], [], []⟩, 0) := by kernel_rfl
theorem row5 : toF [60, 62] = (ptZ, 5) := by kernel_rfl

set_option maxHeartbeats 2000000 in
theorem ptells_w {s : SS} (hG : Gb s) (hf : Fine s) : CallW pr n_law06_tells [] s fun v s' => v = .bool true ∧ Chg s s' [] := by
  refine CallW.run good ok_law06_tells (by simp) rfl ?_
  have c0 : Chg s s [] := .refl _ _

  (repeat(first|refine pSeq ?_|refine pReg ?_|refine sCons ?_|refine sNil ?_|refine pRet ?_|refine gNone ?_|refine gOn rfl ?_|refine gOff rfl rfl ?_|refine gTup rfl ?_))
  refine (from_w (hG.chg c0 (by simp)) (c0.fine hf) (by simp)).mono fun v s1 q => ?_
  obtain ⟨W1, cw1, rfl, o1, d1, hW1⟩ := q
  rw [row1]
  rw [row1] at o1
  have ns1 := d1.next
  have cs1 := c0.nil d1
  dsimp only at o1 ⊢
  (repeat(first|refine pSeq ?_|refine pReg ?_|refine sCons ?_|refine sNil ?_|refine pRet ?_|refine gNone ?_|refine gOn rfl ?_|refine gOff rfl rfl ?_|refine gTup rfl ?_))
  refine st_abs (cs' := ptCells ⟨false, false, [], [97], [98, 46, 99]⟩ W1 cw1) rfl rfl (lkT (by show s1.next + 1 ≠ s1.next; omega) lkH) (by show s1.next < s1.next + 1 + 1; omega) rfl rfl fun s2 x1 f1 m1 => ?_
  have ns2 : s2.next = s1.next + 2 := m1
  have x1 : lookH s2.heap s1.next = some (.cells (ptCells ⟨false, false, [], [97], [98, 46, 99]⟩ W1 cw1) tPt false false) := x1
  have y1 := f1.blk (s1.next + 1) _ (by show s1.next + 1 < s1.next + 1 + 1; omega) (by simp) lkH
  have g1 : Chg s1 s2 [] := ((Chg.new []).nil (Chg.new [])).fresh f1 (by simp)
  clear f1 m1
  (repeat(first|refine pSeq ?_|refine pReg ?_|refine sCons ?_|refine sNil ?_|refine pRet ?_|refine gNone ?_|refine gOn rfl ?_|refine gOff rfl rfl ?_|refine gTup rfl ?_))
  refine st_abs (cs' := pvCells ⟨true, false, 5⟩) rfl rfl y1 (by show s1.next + 1 < s2.next; omega) rfl rfl fun s3 z1 f1 m1 => ?_
  have z1 : lookH s3.heap (s1.next + 1) = some (.cells (pvCells ⟨true, false, 5⟩) tPm false false) := z1
  have x1 := f1.blk _ _ (by omega) (by simp) x1
  have g1 : Chg s1 s3 [] := g1.fresh f1 (by simp)
  have ns3 : s3.next = s1.next + 2 := by omega
  clear f1 m1 y1 ns2
  have cs3 := cs1.nil g1
  (repeat(first|refine pSeq ?_|refine pReg ?_|refine sCons ?_|refine sNil ?_|refine pRet ?_|refine gNone ?_|refine gOn rfl ?_|refine gOff rfl rfl ?_|refine gTup rfl ?_))
  refine (from_w (hG.chg cs3 (by simp)) (cs3.fine hf) (by simp)).mono fun v s4 q => ?_
  obtain ⟨W2, cw2, rfl, o2, d2, hW2⟩ := q
  rw [row2]
  rw [row2] at o2
  have ns4 := d2.next
  have cs4 := cs3.nil d2
  have x1 := d2.blk _ _ (by omega) (by simp) x1
  have z1 := d2.blk _ _ (by omega) (by simp) z1
  dsimp only at o2 ⊢
  (repeat(first|refine pSeq ?_|refine pReg ?_|refine sCons ?_|refine sNil ?_|refine pRet ?_|refine gNone ?_|refine gOn rfl ?_|refine gOff rfl rfl ?_|refine gTup rfl ?_))
  refine st_abs (cs' := ptCells ⟨false, false, [[120], [121]], [97], [98, 46, 99]⟩ W2 cw2) rfl rfl (lkT (by show s4.next + 1 ≠ s4.next; omega) lkH) (by show s4.next < s4.next + 1 + 1; omega) rfl rfl fun s5 x2 f2 m2 => ?_
  have ns5 : s5.next = s4.next + 2 := m2
  have x2 : lookH s5.heap s4.next = some (.cells (ptCells ⟨false, false, [[120], [121]], [97], [98, 46, 99]⟩ W2 cw2) tPt false false) := x2
  have y2 := f2.blk (s4.next + 1) _ (by show s4.next + 1 < s4.next + 1 + 1; omega) (by simp) lkH
  have g2 : Chg s4 s5 [] := ((Chg.new []).nil (Chg.new [])).fresh f2 (by simp)
  clear f2 m2
  (repeat(first|refine pSeq ?_|refine pReg ?_|refine sCons ?_|refine sNil ?_|refine pRet ?_|refine gNone ?_|refine gOn rfl ?_|refine gOff rfl rfl ?_|refine gTup rfl ?_))
  refine st_abs (cs' := pvCells pv0) rfl rfl y2 (by show s4.next + 1 < s5.next; omega) rfl rfl fun s6 z2 f2 m2 => ?_
  have z2 : lookH s6.heap (s4.next + 1) = some (.cells (pvCells pv0) tPm false false) := z2
  have x2 := f2.blk _ _ (by omega) (by simp) x2
  have g2 : Chg s4 s6 [] := g2.fresh f2 (by simp)
  have ns6 : s6.next = s4.next + 2 := by omega
  clear f2 m2 y2 ns5
  have cs6 := cs4.nil g2
  have x1 := g2.blk _ _ (by omega) (by simp) x1
  have z1 := g2.blk _ _ (by omega) (by simp) z1
  have o2 := o2.chg g2 (by simp)
  (repeat(first|refine pSeq ?_|refine pReg ?_|refine sCons ?_|refine sNil ?_|refine pRet ?_|refine gNone ?_|refine gOn rfl ?_|refine gOff rfl rfl ?_|refine gTup rfl ?_))
  refine (from_w (hG.chg cs6 (by simp)) (cs6.fine hf) (by simp)).mono fun v s7 q => ?_
  obtain ⟨W3, cw3, rfl, o3, d3, hW3⟩ := q
  rw [row3]
  rw [row3] at o3
  have ns7 := d3.next
  have cs7 := cs6.nil d3
  have x1 := d3.blk _ _ (by omega) (by simp) x1
  have z1 := d3.blk _ _ (by omega) (by simp) z1
  have x2 := d3.blk _ _ (by omega) (by simp) x2
  have z2 := d3.blk _ _ (by omega) (by simp) z2
  have o2 := o2.chg d3 (by simp)
  dsimp only at o3 ⊢
  (repeat(first|refine pSeq ?_|refine pReg ?_|refine sCons ?_|refine sNil ?_|refine pRet ?_|refine gNone ?_|refine gOn rfl ?_|refine gOff rfl rfl ?_|refine gTup rfl ?_))
  refine st_abs (cs' := ptCells ⟨true, false, [], [], []⟩ W3 cw3) rfl rfl (lkT (by show s7.next + 1 ≠ s7.next; omega) lkH) (by show s7.next < s7.next + 1 + 1; omega) rfl rfl fun s8 x3 f3 m3 => ?_
  have ns8 : s8.next = s7.next + 2 := m3
  have x3 : lookH s8.heap s7.next = some (.cells (ptCells ⟨true, false, [], [], []⟩ W3 cw3) tPt false false) := x3
  have y3 := f3.blk (s7.next + 1) _ (by show s7.next + 1 < s7.next + 1 + 1; omega) (by simp) lkH
  have g3 : Chg s7 s8 [] := ((Chg.new []).nil (Chg.new [])).fresh f3 (by simp)
  clear f3 m3
  (repeat(first|refine pSeq ?_|refine pReg ?_|refine sCons ?_|refine sNil ?_|refine pRet ?_|refine gNone ?_|refine gOn rfl ?_|refine gOff rfl rfl ?_|refine gTup rfl ?_))
  refine st_abs (cs' := pvCells pv0) rfl rfl y3 (by show s7.next + 1 < s8.next; omega) rfl rfl fun s9 z3 f3 m3 => ?_
  have z3 : lookH s9.heap (s7.next + 1) = some (.cells (pvCells pv0) tPm false false) := z3
  have x3 := f3.blk _ _ (by omega) (by simp) x3
  have g3 : Chg s7 s9 [] := g3.fresh f3 (by simp)
  have ns9 : s9.next = s7.next + 2 := by omega
  clear f3 m3 y3 ns8
  have cs9 := cs7.nil g3
  have x1 := g3.blk _ _ (by omega) (by simp) x1
  have z1 := g3.blk _ _ (by omega) (by simp) z1
  have x2 := g3.blk _ _ (by omega) (by simp) x2
  have z2 := g3.blk _ _ (by omega) (by simp) z2
  have o2 := o2.chg g3 (by simp)
  (repeat(first|refine pSeq ?_|refine pReg ?_|refine sCons ?_|refine sNil ?_|refine pRet ?_|refine gNone ?_|refine gOn rfl ?_|refine gOff rfl rfl ?_|refine gTup rfl ?_))
  refine (to_w (hG.chg cs9 (by simp)) (cs9.fine hf) (by simp)).mono fun v s10 q => ?_
  obtain ⟨W4, cw4, rfl, o4, d4, hW4⟩ := q
  rw [row4]
  rw [row4] at o4
  have ns10 := d4.next
  have cs10 := cs9.nil d4
  have x1 := d4.blk _ _ (by omega) (by simp) x1
  have z1 := d4.blk _ _ (by omega) (by simp) z1
  have x2 := d4.blk _ _ (by omega) (by simp) x2
  have z2 := d4.blk _ _ (by omega) (by simp) z2
  have x3 := d4.blk _ _ (by omega) (by simp) x3
  have z3 := d4.blk _ _ (by omega) (by simp) z3
  have o2 := o2.chg d4 (by simp)
  dsimp only at o4 ⊢
  (repeat(first|refine pSeq ?_|refine pReg ?_|refine sCons ?_|refine sNil ?_|refine pRet ?_|refine gNone ?_|refine gOn rfl ?_|refine gOff rfl rfl ?_|refine gTup rfl ?_))
  refine st_abs (cs' := ptCells ⟨false, true, [], [], []⟩ W4 cw4) rfl rfl lkH (Nat.lt_succ_self _) rfl rfl fun s12 x4 f4 m4 => ?_
  have ns12 : s12.next = s10.next + 1 := m4
  have x4 : lookH s12.heap s10.next = some (.cells (ptCells ⟨false, true, [], [], []⟩ W4 cw4) tPt false false) := x4
  have g4 : Chg s10 s12 [] := (Chg.new []).fresh f4 (by simp)
  clear f4 m4
  have cs12 := cs10.nil g4
  have x1 := g4.blk _ _ (by omega) (by simp) x1
  have z1 := g4.blk _ _ (by omega) (by simp) z1
  have x2 := g4.blk _ _ (by omega) (by simp) x2
  have z2 := g4.blk _ _ (by omega) (by simp) z2
  have x3 := g4.blk _ _ (by omega) (by simp) x3
  have z3 := g4.blk _ _ (by omega) (by simp) z3
  have o2 := o2.chg g4 (by simp)
  (repeat(first|refine pSeq ?_|refine pReg ?_|refine sCons ?_|refine sNil ?_|refine pRet ?_|refine gNone ?_|refine gOn rfl ?_|refine gOff rfl rfl ?_|refine gTup rfl ?_))
  refine (to_w (hG.chg cs12 (by simp)) (cs12.fine hf) (by simp)).mono fun v s13 q => ?_
  obtain ⟨W5, cw5, rfl, o5, d5, hW5⟩ := q
  rw [row5]
  rw [row5] at o5
  have ns13 := d5.next
  have cs13 := cs12.nil d5
  have x1 := d5.blk _ _ (by omega) (by simp) x1
  have z1 := d5.blk _ _ (by omega) (by simp) z1
  have x2 := d5.blk _ _ (by omega) (by simp) x2
  have z2 := d5.blk _ _ (by omega) (by simp) z2
  have x3 := d5.blk _ _ (by omega) (by simp) x3
  have z3 := d5.blk _ _ (by omega) (by simp) z3
  have x4 := d5.blk _ _ (by omega) (by simp) x4
  have o2 := o2.chg d5 (by simp)
  dsimp only at o5 ⊢
  (repeat(first|refine pSeq ?_|refine pReg ?_|refine sCons ?_|refine sNil ?_|refine pRet ?_|refine gNone ?_|refine gOn rfl ?_|refine gOff rfl rfl ?_|refine gTup rfl ?_))
  refine st_abs (cs' := ptCells ptZ W5 cw5) rfl rfl lkH (Nat.lt_succ_self _) rfl rfl fun s15 x5 f5 m5 => ?_
  have ns15 : s15.next = s13.next + 1 := m5
  have x5 : lookH s15.heap s13.next = some (.cells (ptCells ptZ W5 cw5) tPt false false) := x5
  have g5 : Chg s13 s15 [] := (Chg.new []).fresh f5 (by simp)
  clear f5 m5
  have cs15 := cs13.nil g5
  have x1 := g5.blk _ _ (by omega) (by simp) x1
  have z1 := g5.blk _ _ (by omega) (by simp) z1
  have x2 := g5.blk _ _ (by omega) (by simp) x2
  have z2 := g5.blk _ _ (by omega) (by simp) z2
  have x3 := g5.blk _ _ (by omega) (by simp) x3
  have z3 := g5.blk _ _ (by omega) (by simp) z3
  have x4 := g5.blk _ _ (by omega) (by simp) x4
  have o2 := o2.chg g5 (by simp)
  (repeat(first|refine pSeq ?_|refine pReg ?_|refine sCons ?_|refine sNil ?_|refine pRet ?_|refine gNone ?_|refine gOn rfl ?_|refine gOff rfl rfl ?_|refine gTup rfl ?_))
  obtain ⟨b2, g2, rfl, e2⟩ := o2.1.pos (by simp)
  intro q hq
  obtain rfl : q = true := by rw [hq]; rfl
  (repeat(first|refine pSeq ?_|refine pReg ?_|refine sCons ?_|refine sNil ?_|refine pRet ?_|refine gNone ?_|refine gOn rfl ?_|refine gOff rfl rfl ?_|refine gTup rfl ?_))
  refine ldN_is (new := [str [97], str [98, 46, 99]]) rfl x1 rfl ?_
  (repeat(first|refine pSeq ?_|refine pReg ?_|refine sCons ?_|refine sNil ?_|refine pRet ?_|refine gNone ?_|refine gOn rfl ?_|refine gOff rfl rfl ?_|refine gTup rfl ?_))
  intro q hq
  obtain rfl : q = true := by rw [hq]; rfl
  (repeat(first|refine pSeq ?_|refine pReg ?_|refine sCons ?_|refine sNil ?_|refine pRet ?_|refine gNone ?_|refine gOn rfl ?_|refine gOff rfl rfl ?_|refine gTup rfl ?_))
  refine ldI_is rfl z1 rfl ?_
  (repeat(first|refine pSeq ?_|refine pReg ?_|refine sCons ?_|refine sNil ?_|refine pRet ?_|refine gNone ?_|refine gOn rfl ?_|refine gOff rfl rfl ?_|refine gTup rfl ?_))
  intro q hq
  obtain rfl : q = true := by rw [hq]; rfl
  (repeat(first|refine pSeq ?_|refine pReg ?_|refine sCons ?_|refine sNil ?_|refine pRet ?_|refine gNone ?_|refine gOn rfl ?_|refine gOff rfl rfl ?_|refine gTup rfl ?_))
  refine ldB_is rfl z1 rfl ?_
  (repeat(first|refine pSeq ?_|refine pReg ?_|refine sCons ?_|refine sNil ?_|refine pRet ?_|refine gNone ?_|refine gOn rfl ?_|refine gOff rfl rfl ?_|refine gTup rfl ?_))
  intro q hq
  obtain rfl : q = true := by rw [hq]; rfl
  (repeat(first|refine pSeq ?_|refine pReg ?_|refine sCons ?_|refine sNil ?_|refine pRet ?_|refine gNone ?_|refine gOn rfl ?_|refine gOff rfl rfl ?_|refine gTup rfl ?_))
  refine ld1_is rfl x2 rfl ?_
  (repeat(first|refine pSeq ?_|refine pReg ?_|refine sCons ?_|refine sNil ?_|refine pRet ?_|refine gNone ?_|refine gOn rfl ?_|refine gOff rfl rfl ?_|refine gTup rfl ?_))
  intro q hq
  obtain rfl : q = true := by rw [hq]; rfl
  (repeat(first|refine pSeq ?_|refine pReg ?_|refine sCons ?_|refine sNil ?_|refine pRet ?_|refine gNone ?_|refine gOn rfl ?_|refine gOff rfl rfl ?_|refine gTup rfl ?_))
  refine ld1_is rfl x2 rfl ?_
  (repeat(first|refine pSeq ?_|refine pReg ?_|refine sCons ?_|refine sNil ?_|refine pRet ?_|refine gNone ?_|refine gOn rfl ?_|refine gOff rfl rfl ?_|refine gTup rfl ?_))
  refine ⟨by simp, ?_⟩
  intro m hm o ho
  obtain rfl : m = 1 := by omega
  obtain rfl : o = 1 := by omega
  (repeat(first|refine pSeq ?_|refine pReg ?_|refine sCons ?_|refine sNil ?_|refine pRet ?_|refine gNone ?_|refine gOn rfl ?_|refine gOff rfl rfl ?_|refine gTup rfl ?_))
  refine ldS_is (l := [121]) rfl e2 rfl ?_
  (repeat(first|refine pSeq ?_|refine pReg ?_|refine sCons ?_|refine sNil ?_|refine pRet ?_|refine gNone ?_|refine gOn rfl ?_|refine gOff rfl rfl ?_|refine gTup rfl ?_))
  intro q hq
  obtain rfl : q = true := by rw [hq]; rfl
  (repeat(first|refine pSeq ?_|refine pReg ?_|refine sCons ?_|refine sNil ?_|refine pRet ?_|refine gNone ?_|refine gOn rfl ?_|refine gOff rfl rfl ?_|refine gTup rfl ?_))
  intro q hq
  obtain rfl : q = true := by rw [hq]; rfl
  (repeat(first|refine pSeq ?_|refine pReg ?_|refine sCons ?_|refine sNil ?_|refine pRet ?_|refine gNone ?_|refine gOn rfl ?_|refine gOff rfl rfl ?_|refine gTup rfl ?_))
  refine ldB_is rfl x3 rfl ?_
  (repeat(first|refine pSeq ?_|refine pReg ?_|refine sCons ?_|refine sNil ?_|refine pRet ?_|refine gNone ?_|refine gOn rfl ?_|refine gOff rfl rfl ?_|refine gTup rfl ?_))
  intro q hq
  obtain rfl : q = true := by rw [hq]; rfl
  (repeat(first|refine pSeq ?_|refine pReg ?_|refine sCons ?_|refine sNil ?_|refine pRet ?_|refine gNone ?_|refine gOn rfl ?_|refine gOff rfl rfl ?_|refine gTup rfl ?_))
  refine ldB_is rfl x4 rfl ?_
  (repeat(first|refine pSeq ?_|refine pReg ?_|refine sCons ?_|refine sNil ?_|refine pRet ?_|refine gNone ?_|refine gOn rfl ?_|refine gOff rfl rfl ?_|refine gTup rfl ?_))
  intro q hq
  obtain rfl : q = true := by rw [hq]; rfl
  (repeat(first|refine pSeq ?_|refine pReg ?_|refine sCons ?_|refine sNil ?_|refine pRet ?_|refine gNone ?_|refine gOn rfl ?_|refine gOff rfl rfl ?_|refine gTup rfl ?_))
  exact ⟨rfl, cs15⟩
end Go.Vf.S
end
/- PaL -/
section
/- Paths: their texts. -/
namespace Go.Vf.S
open Go Go.Vf
attribute [local irreducible] wSeq wRow wp wG
set_option linter.unusedVariables false
set_option linter.unusedSimpArgs false
set_option maxRecDepth 10000

def textP (p : Pth) : List UInt8 := if p.null = true then [60, 62] else if p.post = true then [60, 80, 111, 115, 116, 109, 97, 115, 116, 101, 114, 62] else if mayF p.a p.d = false then [] else 60 :: (textF p.a p.d ++ [62])

theorem text_short {a d : List UInt8} : (textF a d).length ≤ 2 * a.length + 3 + d.length := by
  unfold textF
  split
  · have := quote_len a
    unfold wordF
    split <;> simp <;> omega
  · simp

theorem ptext_w {s : SS} {p : Pth} {W : Option Addr} {cw : Nat} (hG : Gb s) (ha : p.a.length ≤ 300000) (hd : p.d.length ≤ 300000) :
    CallW pr n_path_Path_Text [ptV p W cw] s fun v s' => v = str (textP p) ∧ Chg s s' [] := by
  obtain ⟨nl, po, rt, a, d⟩ := p
  dsimp only at ha hd
  have eT : textP ⟨nl, po, rt, a, d⟩ = if nl = true then [60, 62] else if po = true then [60, 80, 111, 115, 116, 109, 97, 115, 116, 101, 114, 62] else if mayF a d = false then [] else 60 :: (textF a d ++ [62]) := rfl
  refine CallW.run good ok_path_Path_Text (by simp) rfl ?_
  have c0 := Chg.new (s := s) (b := .cells (ptCells ⟨nl, po, rt, a, d⟩ W cw) tPt false false) []
  have e0 : lookH ({ s with heap := (s.next, some (.cells (ptCells ⟨nl, po, rt, a, d⟩ W cw) tPt false false)) :: s.heap, next := s.next + 1 } : SS).heap s.next = some (.cells (ptCells ⟨nl, po, rt, a, d⟩ W cw) tPt false false) := lkH
  (repeat(first|refine pSeq ?_|refine pReg ?_|refine sCons ?_|refine sNil ?_|refine pBlock ?_|refine pSkip ?_|refine pRet ?_|refine pCond ?_|refine gNone ?_))
  refine ldB_is rfl e0 rfl ?_
  cases nl with
  | true =>
    rw [if_pos rfl] at eT
    rw [eT]
    (repeat(first|refine pSeq ?_|refine pReg ?_|refine sCons ?_|refine sNil ?_|refine pBlock ?_|refine pSkip ?_|refine pRet ?_|refine pCond ?_|refine gNone ?_))
    (repeat (first | with_reducible refine sqRet ?_ | with_reducible refine bkRet ?_ | with_reducible refine hdRet ?_))
    exact ⟨rfl, c0⟩
  | false =>
    rw [if_neg (by simp)] at eT
    (repeat(first|refine pSeq ?_|refine pReg ?_|refine sCons ?_|refine sNil ?_|refine pBlock ?_|refine pSkip ?_|refine pRet ?_|refine pCond ?_|refine gNone ?_))
    refine ldB_is rfl e0 rfl ?_
    cases po with
    | true =>
      rw [if_pos rfl] at eT
      rw [eT]
      (repeat(first|refine pSeq ?_|refine pReg ?_|refine sCons ?_|refine sNil ?_|refine pBlock ?_|refine pSkip ?_|refine pRet ?_|refine pCond ?_|refine gNone ?_))
      (repeat (first | with_reducible refine sqRet ?_ | with_reducible refine bkRet ?_ | with_reducible refine hdRet ?_))
      exact ⟨rfl, c0⟩
    | false =>
      rw [if_neg (by simp)] at eT
      (repeat(first|refine pSeq ?_|refine pReg ?_|refine sCons ?_|refine sNil ?_|refine pBlock ?_|refine pSkip ?_|refine pRet ?_|refine pCond ?_|refine gNone ?_))
      refine ldN_is (new := [str a, str d]) rfl e0 rfl ?_
      (repeat(first|refine pSeq ?_|refine pReg ?_|refine sCons ?_|refine sNil ?_|refine pBlock ?_|refine pSkip ?_|refine pRet ?_|refine pCond ?_|refine gNone ?_))
      refine (may_w (a := a) (d := d) (by omega) (by omega)).mono fun v s1 q => ?_
      obtain ⟨rfl, c1⟩ := q
      have e1 := c1.blk _ _ (Nat.lt_succ_self _) (by simp) e0
      cases hm : mayF a d with
      | false =>
        rw [hm, if_pos rfl] at eT
        rw [eT]
        (repeat(first|refine pSeq ?_|refine pReg ?_|refine sCons ?_|refine sNil ?_|refine pBlock ?_|refine pSkip ?_|refine pRet ?_|refine pCond ?_|refine gNone ?_))
        intro q hq
        obtain rfl : q = true := hq
        (repeat(first|refine pSeq ?_|refine pReg ?_|refine sCons ?_|refine sNil ?_|refine pBlock ?_|refine pSkip ?_|refine pRet ?_|refine pCond ?_|refine gNone ?_))
        (repeat (first | with_reducible refine sqRet ?_ | with_reducible refine bkRet ?_ | with_reducible refine hdRet ?_))
        exact ⟨rfl, c0.nil c1⟩
      | true =>
        rw [hm, if_neg (by simp)] at eT
        rw [eT]
        (repeat(first|refine pSeq ?_|refine pReg ?_|refine sCons ?_|refine sNil ?_|refine pBlock ?_|refine pSkip ?_|refine pRet ?_|refine pCond ?_|refine gNone ?_))
        intro q hq
        obtain rfl : q = false := hq
        (repeat(first|refine pSeq ?_|refine pReg ?_|refine sCons ?_|refine sNil ?_|refine pBlock ?_|refine pSkip ?_|refine pRet ?_|refine pCond ?_|refine gNone ?_))
        refine ldN_is (new := [str a, str d]) rfl e1 rfl ?_
        (repeat(first|refine pSeq ?_|refine pReg ?_|refine sCons ?_|refine sNil ?_|refine pBlock ?_|refine pSkip ?_|refine pRet ?_|refine pCond ?_|refine gNone ?_))
        refine (text_w (a := a) (d := d) ((hG.chg c0 (by simp)).chg c1 (by simp)) (by omega) (by omega)).mono fun v s2 q => ?_
        obtain ⟨rfl, c2⟩ := q
        have hs := @text_short a d
        (repeat(first|refine pSeq ?_|refine pReg ?_|refine sCons ?_|refine sNil ?_|refine pBlock ?_|refine pSkip ?_|refine pRet ?_|refine pCond ?_|refine gNone ?_))
        refine ⟨by simp; omega, ?_⟩
        intro w hw
        subst hw
        (repeat(first|refine pSeq ?_|refine pReg ?_|refine sCons ?_|refine sNil ?_|refine pBlock ?_|refine pSkip ?_|refine pRet ?_|refine pCond ?_|refine gNone ?_))
        refine ⟨by simp; omega, ?_⟩
        intro w hw
        subst hw
        (repeat(first|refine pSeq ?_|refine pReg ?_|refine sCons ?_|refine sNil ?_|refine pBlock ?_|refine pSkip ?_|refine pRet ?_|refine pCond ?_|refine gNone ?_))
        exact ⟨rfl, (c0.nil c1).nil c2⟩
end Go.Vf.S
end
/- PaN -/
section
/- Paths: there and back, of what is read and what is told. -/
namespace Go.Vf.S
open Go Go.Vf
set_option linter.unusedVariables false
set_option linter.unusedSimpArgs false
set_option maxRecDepth 10000

theorem many_no {l : List UInt8} (h : ¬l.take 1 = [34]) : manyP l = 0 := by
  unfold manyP quotedF
  rw [if_neg h]
theorem cut_is {c : UInt8} {f r : List UInt8} (h : c ∉ f) : cutF c (f ++ c :: r) = (f, r, true) := by
  unfold cutF
  rw [if_pos (by simp), while_first h, show f ++ c :: r = (f ++ [c]) ++ r by simp, show f.length + 1 = (f ++ [c]).length by simp, List.drop_left]
/-- What is cut, when it is. -/
theorem cut_back {c : UInt8} {l : List UInt8} (h : (cutF c l).2.2 = true) : l = (cutF c l).1 ++ c :: (cutF c l).2.1 ∧ c ∉ (cutF c l).1 := by
  unfold cutF at h ⊢
  split at h
  · rename_i hc
    obtain ⟨f, r, rfl, hf⟩ := List.eq_append_cons_of_mem hc
    rw [if_pos hc, while_first hf, show f ++ c :: r = (f ++ [c]) ++ r by simp, show f.length + 1 = (f ++ [c]).length by simp, List.drop_left]
    exact ⟨by simp, hf⟩
  · cases h

theorem lab_has {d : List UInt8} {c : UInt8} (h : domF d = 0) (hc : c ≠ 46) (h1 : c ≠ 91) (h2 : c ≠ 93) (hb : labB c = false) (hd : digB c = false) : c ∉ d := by
  intro q
  unfold domF at h
  rw [lab_no q hc hb] at h
  have hl : litF d = true := by
    cases hl : litF d with
    | true => rfl
    | false => rw [hl] at h; cases h
  unfold litF at hl
  rw [Bool.and_eq_true, Bool.and_eq_true, decide_eq_true_eq] at hl
  obtain ⟨⟨e1, e2⟩, e3, e4⟩ := hl
  obtain ⟨m, hm⟩ := e2
  match d, e1, q, hm, e3 with
  | x :: d, e1, q, hm, e3 =>
    have hx : x = 91 := by simpa using e1
    have hm : m ++ [93] = d := hm
    subst hm
    have hi : inner (x :: (m ++ [93])) = m := by
      unfold inner
      simp
    rw [hi] at e3
    have qm : c ∈ m := by
      rcases List.mem_cons.1 q with q | q
      · exact absurd (q.trans hx) h1
      · rcases List.mem_append.1 q with q | q
        · exact q
        · exact absurd (List.mem_singleton.1 q) h2
    obtain ⟨p, hp, hq⟩ := mem_part hc qm
    have ho := (List.all_eq_true.1 e3) p hp
    unfold octF at ho
    have ho := (of_decide_eq_true ho).1
    unfold numberF at ho
    split at ho
    · rename_i hh
      have := (List.all_eq_true.1 hh.2.2) c hq
      rw [hd] at this
      cases this
    · cases ho

theorem text_is {a d : List UInt8} (h : mayF a d = true) : textF a d = wordF a ++ 64 :: d := by unfold textF; rw [if_pos h]
theorem word_is {a d : List UInt8} (h : mayF a d = true) : (dotF a = true ∧ wordF a = a) ∨ (wordF a = quoteL a) := by
  obtain ⟨h1, h2, h3, h4⟩ := may_parts h
  unfold wordF
  by_cases hd : dotF a = true
  · exact .inl ⟨hd, by rw [if_pos hd]⟩
  · right
    rw [if_neg hd]
    unfold quoteF
    rw [if_pos h3]
theorem word_first {a d : List UInt8} (h : mayF a d = true) (r : List UInt8) : ¬(wordF a ++ r).take 1 = [64] := by
  obtain ⟨h1, h2, h3, h4⟩ := may_parts h
  rcases word_is h with ⟨hd, e⟩ | e
  · rw [e]
    match a, h1, hd with
    | x :: a, _, hd =>
      intro q
      have : x = 64 := by simpa using q
      exact dot_no hd (c := 64) (by decide) (by decide) (by rw [this]; exact List.mem_cons_self ..)
  · rw [e]
    unfold quoteL
    simp
theorem word_inside {a d : List UInt8} (h : mayF a d = true) (r : List UInt8) : insideP (textF a d ++ 62 :: r) = textF a d ∧ restP (textF a d ++ 62 :: r) = r ∧ shutP (textF a d ++ 62 :: r) = true := by
  obtain ⟨h1, h2, h3, h4⟩ := may_parts h
  have hd62 : (62 : UInt8) ∉ d := lab_has h4 (by decide) (by decide) (by decide) (by decide) (by decide)
  have key : ∃ m f, manyP (textF a d ++ 62 :: r) = m ∧ (textF a d ++ 62 :: r).drop m = f ++ 62 :: r ∧ (textF a d ++ 62 :: r).take m ++ f = textF a d ∧ (62 : UInt8) ∉ f := by
    rw [text_is h]
    rcases word_is h with ⟨hd, e⟩ | e
    · rw [e]
      refine ⟨0, a ++ 64 :: d, many_no ?_, rfl, rfl, ?_⟩
      · match a, h1, hd with
        | x :: a, _, hd =>
          intro q
          have : x = 34 := by simpa using q
          exact dot_no hd (c := 34) (by decide) (by decide) (by rw [this]; exact List.mem_cons_self ..)
      · intro q
        rcases List.mem_append.1 q with q | q
        · exact dot_no hd (c := 62) (by decide) (by decide) q
        · rcases List.mem_cons.1 q with q | q
          · cases q
          · exact hd62 q
    · rw [e]
      refine ⟨(quoteL a).length, 64 :: d, ?_, ?_, ?_, ?_⟩
      · unfold manyP
        rw [List.append_assoc, quoted_of _ h3]
      · rw [List.append_assoc, List.drop_left]
      · rw [List.append_assoc, List.take_left]
      · intro q
        rcases List.mem_cons.1 q with q | q
        · cases q
        · exact hd62 q
  obtain ⟨m, f, k1, k2, k3, k4⟩ := key
  unfold insideP restP shutP
  rw [k1, k2, cut_is k4]
  exact ⟨k3, rfl, rfl⟩

theorem route_no {l : List UInt8} (h : ¬l.take 1 = [64]) : routeF l = ([], l, 0) := by
  unfold routeF
  rw [if_pos h]
theorem made_text {a d : List UInt8} (h : mayF a d = true) : madeF [] (textF a d) = (⟨false, false, [], a, d⟩, 0) := by
  have hm : (64 : UInt8) ∈ textF a d := by rw [text_is h]; simp
  unfold madeF
  rw [if_neg (by rintro ⟨-, q⟩; rw [q] at hm; cases hm), if_neg ?_, parse_text h]
  rintro ⟨-, q⟩
  have h2 : (64 : UInt8) ∈ (textF a d).map lowB := List.mem_map.2 ⟨64, hm, by decide⟩
  rw [q] at h2
  revert h2
  decide

theorem path_known {l more ins rest : List UInt8} (h1 : l = 60 :: more) (h2 : ¬more.take 1 = [64]) (h3 : insideP more = ins ∧ restP more = rest ∧ shutP more = true) :
    pathF l = if errP (l.length - rest.length) 0 (madeF [] ins).2 = 0 then ((madeF [] ins).1, rest, 0) else (ptZ, [], errP (l.length - rest.length) 0 (madeF [] ins).2) := by
  have ha : atL l = more := by unfold atL; rw [h1, if_pos (by rfl)]; rfl
  unfold pathF
  rw [ha, route_no h2]
  simp only [h3.1, h3.2.1, h3.2.2]
  rw [if_neg (by rw [h1]; simp)]

theorem path_text {a d : List UInt8} (h : mayF a d = true) (r : List UInt8) : pathF (60 :: (textF a d ++ [62]) ++ r) = if 256 < (textF a d).length + 2 then (ptZ, [], 3) else (⟨false, false, [], a, d⟩, r, 0) := by
  have e : 60 :: (textF a d ++ [62]) ++ r = 60 :: (textF a d ++ 62 :: r) := by simp
  rw [e, path_known rfl (by rw [text_is h, List.append_assoc]; exact word_first h _) (word_inside h r), made_text h]
  have hl : (60 :: (textF a d ++ 62 :: r)).length - r.length = (textF a d).length + 2 := by simp; omega
  rw [hl]
  dsimp only
  by_cases h256 : 256 < (textF a d).length + 2
  · have e3 : errP ((textF a d).length + 2) 0 0 = 3 := by unfold errP; rw [if_pos ⟨rfl, .inl h256⟩]
    rw [e3, if_pos h256, if_neg (by decide)]
  · have e3 : errP ((textF a d).length + 2) 0 0 = 0 := by unfold errP; rw [if_neg (by rintro ⟨-, q | q⟩ <;> omega)]
    rw [e3, if_neg h256, if_pos rfl]
theorem path_null (r : List UInt8) : pathF (60 :: 62 :: r) = (⟨true, false, [], [], []⟩, r, 0) := by
  have h3 : insideP (62 :: r) = [] ∧ restP (62 :: r) = r ∧ shutP (62 :: r) = true := by
    unfold insideP restP shutP
    rw [many_no (by simp), List.drop_zero, List.take_zero, show (62 : UInt8) :: r = [] ++ 62 :: r from rfl, cut_is (by simp)]
    exact ⟨rfl, rfl, rfl⟩
  rw [path_known rfl (by simp) h3]
  have hl : (60 :: 62 :: r).length - r.length = 2 := by simp; omega
  rw [hl]
  rfl
theorem path_post (r : List UInt8) : pathF ([60, 80, 111, 115, 116, 109, 97, 115, 116, 101, 114, 62] ++ r) = (⟨false, true, [], [], []⟩, r, 0) := by
  have e : [60, 80, 111, 115, 116, 109, 97, 115, 116, 101, 114, 62] ++ r = 60 :: ([80, 111, 115, 116, 109, 97, 115, 116, 101, 114] ++ 62 :: r) := rfl
  have h3 : insideP ([80, 111, 115, 116, 109, 97, 115, 116, 101, 114] ++ 62 :: r) = [80, 111, 115, 116, 109, 97, 115, 116, 101, 114] ∧ restP ([80, 111, 115, 116, 109, 97, 115, 116, 101, 114] ++ 62 :: r) = r ∧ shutP ([80, 111, 115, 116, 109, 97, 115, 116, 101, 114] ++ 62 :: r) = true := by
    unfold insideP restP shutP
    rw [many_no (by simp), List.drop_zero, List.take_zero, cut_is (by decide)]
    exact ⟨rfl, rfl, rfl⟩
  rw [e, path_known rfl (by simp) h3]
  have hl : (60 :: ([80, 111, 115, 116, 109, 97, 115, 116, 101, 114] ++ 62 :: r)).length - r.length = 12 := by simp; omega
  rw [hl]
  rfl

/-- A text that is told is no longer than what was read. -/
theorem text_le {x : List UInt8} (h : (parseF x).2.2 = 0) : (textF (parseF x).1 (parseF x).2.1).length ≤ x.length := by
  have hm := parse_may h
  have e1 := text_is hm
  have e2 := word_is hm
  unfold parseF at h e1 e2 ⊢
  by_cases h1 : (partsF x).2.2 = false
  · rw [if_pos h1] at h; cases h
  rw [if_neg h1] at h e1 e2 ⊢
  by_cases h2 : domF (partsF x).2.1 ≠ 0
  · rw [if_pos h2] at h; exact absurd h h2
  rw [if_neg h2] at h e1 e2 ⊢
  by_cases h3 : 64 < (partsF x).1.length
  · rw [if_pos h3] at h; cases h
  rw [if_neg h3] at e1 e2 ⊢
  have h1 : (partsF x).2.2 = true := by simpa using h1
  rw [e1, List.length_append, List.length_cons]
  dsimp only at e2
  clear h h2 h3 e1 hm
  unfold partsF at h1 e2 ⊢
  split at h1
  · rename_i h34
    rw [if_pos h34] at e2 ⊢
    obtain ⟨q1, q2, q3⟩ := of_decide_eq_true h1
    have qi := quoted_is (l := x) (t := (quotedF x).1) (n := (quotedF x).2.1) (by rw [← q2])
    have hw : (wordF (quotedF x).1).length ≤ (quotedF x).2.1 := by
      rcases e2 with ⟨-, e⟩ | e
      · rw [show wordF (quotedF x).1 = (quotedF x).1 from e]
        have := quote_long (quotedF x).1
        omega
      · rw [show wordF (quotedF x).1 = quoteL (quotedF x).1 from e]
        exact qi.2.2.2.2
    have hr : (atRest (x.drop (quotedF x).2.1)).length + 1 + (quotedF x).2.1 ≤ x.length := by
      unfold atRest
      rw [if_pos q1]
      have : 0 < (x.drop (quotedF x).2.1).length := by
        rcases Nat.eq_zero_or_pos (x.drop (quotedF x).2.1).length with z | z
        · rw [List.length_eq_zero_iff.1 z] at q1; cases q1
        · exact z
      rw [List.length_drop] at this ⊢
      rw [List.length_drop]
      omega
    show (wordF (quotedF x).1).length + ((atRest (x.drop (quotedF x).2.1)).length + 1) ≤ _
    omega
  · rename_i h34
    rw [if_neg h34] at e2 ⊢
    have h1 : ((cutF 64 x).2.2 && dotF (cutF 64 x).1) = true := h1
    rw [Bool.and_eq_true] at h1
    have hc := congrArg List.length (cut_back h1.1).1
    rw [List.length_append, List.length_cons] at hc
    have hw : (wordF (cutF 64 x).1).length = (cutF 64 x).1.length := by unfold wordF; rw [if_pos h1.2]
    show (wordF (cutF 64 x).1).length + ((cutF 64 x).2.1.length + 1) ≤ _
    omega

theorem rest_behind {l : List UInt8} (h : shutP l = true) : l = insideP l ++ 62 :: restP l := by
  have := (cut_back (c := 62) (l := l.drop (manyP l)) h).1
  unfold insideP restP
  rw [List.append_assoc, ← this, List.take_append_drop]
theorem route_behind (l : List UInt8) : (routeF l).2.1 <:+ l ∨ (routeF l).2.2 = 5 := by
  unfold routeF
  split
  · exact .inl (List.suffix_refl _)
  split
  · exact .inr rfl
  · rename_i h
    have h : (cutF 58 l).2.2 = true := by simpa using h
    split
    · exact .inr rfl
    · refine .inl ⟨(cutF 58 l).1 ++ [58], ?_⟩
      rw [List.append_assoc]
      exact (cut_back h).1.symm

/-- What is read is a path and what stood behind, and has a text that is read as the same. -/
theorem path_back {l : List UInt8} (h : (pathF l).2.2 = 0) : (pathF l).2.1 <:+ l ∧ (pathF l).2.1.length + 2 ≤ l.length ∧ pathF (textP (pathF l).1) = (⟨(pathF l).1.null, (pathF l).1.post, [], (pathF l).1.a, (pathF l).1.d⟩, [], 0) := by
  have eF : pathF l = if l.take 1 ≠ [60] ∨ shutP (routeF (atL l)).2.1 = false ∨ (routeF (atL l)).2.2 = 5 then (ptZ, [], 5)
    else if errP (l.length - (restP (routeF (atL l)).2.1).length) (routeF (atL l)).2.2 (madeF (routeF (atL l)).1 (insideP (routeF (atL l)).2.1)).2 = 0 then ((madeF (routeF (atL l)).1 (insideP (routeF (atL l)).2.1)).1, restP (routeF (atL l)).2.1, 0)
    else (ptZ, [], errP (l.length - (restP (routeF (atL l)).2.1).length) (routeF (atL l)).2.2 (madeF (routeF (atL l)).1 (insideP (routeF (atL l)).2.1)).2) := rfl
  by_cases h1 : l.take 1 ≠ [60] ∨ shutP (routeF (atL l)).2.1 = false ∨ (routeF (atL l)).2.2 = 5
  · rw [eF, if_pos h1] at h; cases h
  rw [if_neg h1] at eF
  by_cases h2 : errP (l.length - (restP (routeF (atL l)).2.1).length) (routeF (atL l)).2.2 (madeF (routeF (atL l)).1 (insideP (routeF (atL l)).2.1)).2 = 0
  · rw [if_pos h2] at eF
    rw [eF]
    dsimp only
    simp only [not_or, ne_eq, Classical.not_not, Bool.not_eq_false] at h1
    obtain ⟨h60, hs, h5⟩ := h1
    have hat : l = 60 :: atL l := by
      match l, h60 with
      | x :: l, h60 =>
        have : x = 60 := by simpa using h60
        subst this
        rfl
    have hsuf := (route_behind (atL l)).resolve_right h5
    have hb := rest_behind hs
    generalize (routeF (atL l)).2.1 = more at *
    generalize (routeF (atL l)).2.2 = w at *
    generalize (routeF (atL l)).1 = route at *
    have hl1 := congrArg List.length hat
    have hl2 := hsuf.length_le
    have hl3 := congrArg List.length hb
    rw [List.length_cons] at hl1
    rw [List.length_append, List.length_cons] at hl3
    have s1 : restP more <:+ more := ⟨insideP more ++ [62], by rw [List.append_assoc]; exact hb.symm⟩
    have s2 : atL l <:+ l := ⟨[60], by rw [List.singleton_append]; exact hat.symm⟩
    refine ⟨(s1.trans hsuf).trans s2, by omega, ?_⟩
    have h20 : (madeF route (insideP more)).2 = 0 ∧ ¬(256 < l.length - (restP more).length) := by
      unfold errP at h2
      split at h2
      · cases h2
      · rename_i hn
        exact ⟨h2, fun q => hn ⟨h2, .inl q⟩⟩
    obtain ⟨h20, h256⟩ := h20
    unfold madeF at h20 ⊢
    by_cases n1 : route = [] ∧ insideP more = []
    · rw [if_pos n1]
      exact path_null []
    rw [if_neg n1] at h20 ⊢
    by_cases n2 : route = [] ∧ (insideP more).map lowB = pmL
    · rw [if_pos n2]
      exact path_post []
    rw [if_neg n2] at h20 ⊢
    have h20 : (parseF (insideP more)).2.2 = 0 := h20
    have hm := parse_may h20
    have hle := text_le h20
    have et : textP ⟨false, false, route, (parseF (insideP more)).1, (parseF (insideP more)).2.1⟩ = 60 :: (textF (parseF (insideP more)).1 (parseF (insideP more)).2.1 ++ [62]) := by
      unfold textP
      rw [if_neg (by simp), if_neg (by simp), if_neg (by simp [hm])]
    rw [et]
    have := path_text hm []
    rw [List.append_nil] at this
    rw [this, if_neg (by omega)]
  · rw [eF, if_neg h2] at h
    exact absurd h h2
theorem path_err {l : List UInt8} (h : (pathF l).2.2 ≠ 0) : (pathF l).1 = ptZ ∧ (pathF l).2.1 = [] := by
  unfold pathF at h ⊢
  split
  · exact ⟨rfl, rfl⟩
  split
  · rename_i h1 h2
    rw [if_neg h1, if_pos h2] at h
    exact absurd rfl h
  · exact ⟨rfl, rfl⟩
theorem parse_lens (l : List UInt8) : (parseF l).1.length ≤ l.length ∧ (parseF l).2.1.length ≤ l.length := by
  have := parts_len l
  unfold parseF
  split
  · simp
  split
  · simp
  split
  · simp
  · exact this
theorem path_lens (l : List UInt8) : (pathF l).1.a.length ≤ l.length ∧ (pathF l).1.d.length ≤ l.length := by
  unfold pathF
  split
  · simp [ptZ]
  split
  · have h1 := atL_len l
    have h2 := route_len (atL l)
    have h3 := inside_len (routeF (atL l)).2.1
    have h4 := parse_lens (insideP (routeF (atL l)).2.1)
    unfold madeF
    split
    · simp
    split
    · simp
    · constructor
      · show (parseF _).1.length ≤ _
        omega
      · show (parseF _).2.1.length ≤ _
        omega
  · simp [ptZ]
end Go.Vf.S
end

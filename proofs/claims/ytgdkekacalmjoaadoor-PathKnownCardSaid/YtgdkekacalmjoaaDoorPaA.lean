import Derived.Test.YtgdkekacalmjoaaDoorTxA
/- Paths: letters, and rows of them. -/
namespace Go.Vf.S
open Go Go.Vf
attribute [local irreducible] wSeq wRow wp wG
set_option linter.unusedVariables false
set_option linter.unusedSimpArgs false
set_option maxRecDepth 10000

def namN (n : Nat) : Bool := decide (97 ≤ n ∧ n ≤ 122 ∨ 65 ≤ n ∧ n ≤ 90 ∨ 48 ≤ n ∧ n ≤ 57 ∨ n = 45)
def valN (n : Nat) : Bool := decide (33 ≤ n ∧ n ≤ 126 ∧ n ≠ 61)
theorem nam_hi (r : Nat) (h : 128 ≤ r) : namN r = false := by unfold namN; exact decide_eq_false (by omega)
theorem val_hi (r : Nat) (h : 128 ≤ r) : valN r = false := by unfold valN; exact decide_eq_false (by omega)

theorem nameLetter_w {s : SS} {r : Nat} (hr : r ≤ 1114111) : CallW pr n_path_nameLetter [.int .i32 r] s fun v s' => v = .bool (namN r) ∧ s' = s := by
  refine CallW.run good ok_path_nameLetter (by simp) rfl ?_
  (repeat' (first | refine pSeq ?_ | refine pReg ?_ | refine sRaw ?_ | refine sCons ?_ | refine sNil ?_ | refine rCons ?_ | refine rNil ?_ | refine kNo ?_ | refine pRow ?_ | refine pBlock ?_ | refine pSkip ?_ | refine pExit ?_ | refine pRet ?_ | refine pCond ?_ | refine gNone ?_ | refine gOn rfl ?_ | refine gOff rfl rfl ?_ | refine gTup rfl ?_ | (intro q hq; cases q <;> simp only [true_eq_decide_iff, false_eq_decide_iff, Bool.not_true, Bool.not_false, Bool.true_eq, Bool.false_eq, decide_eq_true_eq, decide_eq_false_iff_not, reduceCtorEq] at hq)))
  all_goals (refine ⟨bool_eq ?_, rfl⟩; unfold namN; rw [Bool.eq_iff_iff]; simp only [decide_eq_true_eq, true_iff, false_iff, reduceCtorEq]; omega)
theorem valueLetter_w {s : SS} {r : Nat} (hr : r ≤ 1114111) : CallW pr n_path_valueLetter [.int .i32 r] s fun v s' => v = .bool (valN r) ∧ s' = s := by
  refine CallW.run good ok_path_valueLetter (by simp) rfl ?_
  (repeat' (first | refine pSeq ?_ | refine pReg ?_ | refine sRaw ?_ | refine sCons ?_ | refine sNil ?_ | refine rCons ?_ | refine rNil ?_ | refine kNo ?_ | refine pRow ?_ | refine pBlock ?_ | refine pSkip ?_ | refine pExit ?_ | refine pRet ?_ | refine pCond ?_ | refine gNone ?_ | refine gOn rfl ?_ | refine gOff rfl rfl ?_ | refine gTup rfl ?_ | (intro q hq; cases q <;> simp only [true_eq_decide_iff, false_eq_decide_iff, Bool.not_true, Bool.not_false, Bool.true_eq, Bool.false_eq, decide_eq_true_eq, decide_eq_false_iff_not, reduceCtorEq] at hq)))
  all_goals (refine ⟨bool_eq ?_, rfl⟩; unfold valN; rw [Bool.eq_iff_iff]; simp only [decide_eq_true_eq, true_iff, false_iff, reduceCtorEq]; omega)

/-- One or more letters. -/
def rowF (g : Nat → Bool) (l : List UInt8) : Bool := !l.isEmpty && l.all fun c => g c.toNat

theorem row_w {s : SS} {l : List UInt8} {f : FuncId} {g : Nat → Bool} (hl : l.length ≤ 1000000) (hf : ∀ x, callV pr (.func (.func f) ⟨[]⟩ ⟨[]⟩) [x] = some (.enter f [x]))
    (hc : ∀ r s1, r ≤ 1114111 → CallW pr f [.int .i32 (r : Nat)] s1 fun v s2 => v = .bool (g r) ∧ s2 = s1) (hi : ∀ r, 128 ≤ r → g r = false) :
    CallW pr n_path_row [str l, .func (.func f) ⟨[]⟩ ⟨[]⟩] s fun v s' => v = .bool (rowF g l) ∧ Chg s s' [] := by
  refine CallW.run good ok_path_row (by simp) rfl ?_
  (repeat(first|refine pSeq ?_|refine pReg ?_|refine sRaw ?_|refine sCons ?_|refine sNil ?_|refine pBlock ?_|refine pSkip ?_|refine pExit ?_|refine pRet ?_|refine pCond ?_|refine gNone ?_))
  refine srange_W rfl un_S rfl ?_
  (repeat(first|refine pSeq ?_|refine pReg ?_|refine sRaw ?_|refine sCons ?_|refine sNil ?_|refine pBlock ?_|refine pSkip ?_|refine pExit ?_|refine pRet ?_|refine pCond ?_|refine gNone ?_))
  refine pLoop (MW.head good (fun x : It => l.length - x.p) (fun x => At s s.next l x ∧ (l.take x.p).all (fun c => g c.toNat) = true) (fun x => [(0, str l), (1, .func (.func f) ⟨[]⟩ ⟨[]⟩), (8, .pointer (some ⟨s.next, 0, none⟩))]) (fun x => x.s) ⟨0, _⟩ ⟨.start s l, rfl⟩ (Wk.same ⟨rfl, rfl, rfl, trivial⟩) ?_)
  intro ⟨p, s1⟩ ⟨h1, h2⟩
  dsimp only at h1 h2 ⊢
  (repeat(first|refine pSeq ?_|refine pReg ?_|refine sRaw ?_|refine sCons ?_|refine sNil ?_|refine pBlock ?_|refine pSkip ?_|refine pExit ?_|refine pRet ?_|refine pCond ?_|refine gNone ?_))
  refine snext_L rfl rfl h1.2.2.2 (fun he => ?_) (fun c hc' h7 => ?_) (fun c r w hc' h7 hr hr2 _ hw _ => ?_)
  · rw [List.take_of_length_le he] at h2
    (repeat(first|refine pSeq ?_|refine pReg ?_|refine sRaw ?_|refine sCons ?_|refine sNil ?_|refine pBlock ?_|refine pSkip ?_|refine pExit ?_|refine pRet ?_|refine pCond ?_|refine gNone ?_))
    intro q hq
    (repeat(first|refine pSeq ?_|refine pReg ?_|refine sRaw ?_|refine sCons ?_|refine sNil ?_|refine pBlock ?_|refine pSkip ?_|refine pExit ?_|refine pRet ?_|refine pCond ?_|refine gNone ?_))
    refine ⟨bool_eq ?_, h1.1⟩
    rw [hq]
    unfold rowF
    rw [h2]
    cases l <;> simp
  · (repeat(first|refine pSeq ?_|refine pReg ?_|refine sRaw ?_|refine sCons ?_|refine sNil ?_|refine pBlock ?_|refine pSkip ?_|refine pExit ?_|refine pRet ?_|refine pCond ?_|refine gNone ?_))
    refine ⟨.call f [.int .i32 c.toNat], hf _, ?_⟩
    refine (hc c.toNat _ (by omega)).mono fun v s2 q => ?_
    obtain ⟨rfl, rfl⟩ := q
    (repeat(first|refine pSeq ?_|refine pReg ?_|refine sRaw ?_|refine sCons ?_|refine sNil ?_|refine pBlock ?_|refine pSkip ?_|refine pExit ?_|refine pRet ?_|refine pCond ?_|refine gNone ?_))
    intro q hq
    by_cases hp : g c.toNat = true
    · obtain rfl : q = false := by rw [hq, hp]; rfl
      (repeat(first|refine pSeq ?_|refine pReg ?_|refine sRaw ?_|refine sCons ?_|refine sNil ?_|refine pBlock ?_|refine pSkip ?_|refine pExit ?_|refine pRet ?_|refine pCond ?_|refine gNone ?_))
      exact ⟨⟨p + 1, _⟩, ⟨h1.go _, by rw [take_next hc']; simp [h2, hp]⟩, by have : p < l.length := lt_of_get hc'; show l.length - (p + 1) < l.length - p; omega, Wk.same ⟨rfl, rfl, rfl, trivial⟩⟩
    · obtain rfl : q = true := by rw [hq, Bool.eq_false_iff.2 hp]; rfl
      (repeat(first|refine pSeq ?_|refine pReg ?_|refine sRaw ?_|refine sCons ?_|refine sNil ?_|refine pBlock ?_|refine pSkip ?_|refine pExit ?_|refine pRet ?_|refine pCond ?_|refine gNone ?_))
      exact ⟨bool_eq (by unfold rowF; rw [all_no (f := fun c : UInt8 => g c.toNat) hc' (Bool.eq_false_iff.2 hp), Bool.and_false]), (h1.go _).1⟩
  · (repeat(first|refine pSeq ?_|refine pReg ?_|refine sRaw ?_|refine sCons ?_|refine sNil ?_|refine pBlock ?_|refine pSkip ?_|refine pExit ?_|refine pRet ?_|refine pCond ?_|refine gNone ?_))
    refine ⟨.call f [.int .i32 r], hf _, ?_⟩
    refine (hc r _ (by omega)).mono fun v s2 q => ?_
    obtain ⟨rfl, rfl⟩ := q
    (repeat(first|refine pSeq ?_|refine pReg ?_|refine sRaw ?_|refine sCons ?_|refine sNil ?_|refine pBlock ?_|refine pSkip ?_|refine pExit ?_|refine pRet ?_|refine pCond ?_|refine gNone ?_))
    intro q hq
    obtain rfl : q = true := by rw [hq, hi r hr]; rfl
    (repeat(first|refine pSeq ?_|refine pReg ?_|refine sRaw ?_|refine sCons ?_|refine sNil ?_|refine pBlock ?_|refine pSkip ?_|refine pExit ?_|refine pRet ?_|refine pCond ?_|refine gNone ?_))
    exact ⟨bool_eq (by unfold rowF; rw [all_no (f := fun c : UInt8 => g c.toNat) hc' (hi _ h7), Bool.and_false]), (h1.go _).1⟩
end Go.Vf.S

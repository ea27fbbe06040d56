import Derived.Test.YthhcngkblihliaaDoorHdMg
import Derived.Test.YthhcngkblihliaaDoorHdMh
/- Whether a blank behind a comma stands in a text. -/
namespace Go.Vf.S
open Go Go.Vf Go.Proofs Go.RowKit
attribute [local irreducible] wSeq wRow wp wG
set_option linter.unusedVariables false
set_option linter.unusedSimpArgs false
set_option maxRecDepth 10000

theorem com_cons {c : UInt8} {l : List UInt8} {i : Nat} (h : 1 ≤ i) : comB (c :: l) (i + 1) = comB l i := by
  unfold comB
  obtain ⟨j, rfl⟩ : ∃ j, i = j + 1 := ⟨i - 1, by omega⟩
  have h1 : decide (1 ≤ j + 1 + 1) = decide (1 ≤ j + 1) := by rw [decide_eq_true (by omega), decide_eq_true (by omega)]
  rw [h1]
  rfl
theorem com_drop {l : List UInt8} {i k : Nat} (h : 1 ≤ i) : comB (l.drop k) i = comB l (k + i) := by
  unfold comB
  rw [List.getElem?_drop, List.getElem?_drop, show k + (i - 1) = k + i - 1 by omega]
  congr 1
  rw [decide_eq_true h, decide_eq_true (by omega)]
theorem idx_com : ∀ {l : List UInt8}, (∀ i, 1 ≤ i → comB l i = false) → Lib.index l [44, 32] = -1
  | [], _ => rfl
  | c :: l, h => by
    have hp : ([44, 32] : List UInt8).isPrefixOf (c :: l) = false := by
      rw [Bool.eq_false_iff]
      intro q
      have h1 := h 1 (Nat.le_refl _)
      cases l with
      | nil => simp [List.isPrefixOf] at q
      | cons d l =>
        simp only [List.isPrefixOf, Bool.and_eq_true, beq_iff_eq, Bool.and_true] at q
        obtain ⟨rfl, rfl⟩ := q
        simp [comB] at h1
    rw [idx_skip hp, idx_com fun i hi => by rw [← com_cons (c := c) hi]; exact h _ (by omega), if_pos rfl]
theorem contains2_w {s : SS} {l m : List UInt8} (hM : Gx s) (hl : l.length ≤ 1000000) : CallW pr n_strings_Contains [str l, str m] s fun v s' => v = .bool (decide (0 ≤ Lib.index l m)) ∧ s' = s := by
  refine CallW.run good ok_strings_Contains (by simp) rfl ?_
  (repeat(first|refine pSeq ?_|refine pReg ?_|refine sCons ?_|refine sNil ?_|refine pRet ?_|refine gNone ?_))
  refine (sIndex_w hM hl).mono fun v s q => ?_
  obtain ⟨rfl, rfl⟩ := q
  (repeat(first|refine pSeq ?_|refine pReg ?_|refine sCons ?_|refine sNil ?_|refine pRet ?_|refine gNone ?_))
  intro q hq
  (repeat(first|refine pSeq ?_|refine pReg ?_|refine sCons ?_|refine sNil ?_|refine pRet ?_|refine gNone ?_))
  exact ⟨bool_eq hq, rfl⟩
/-- None behind the first byte, in what stands from a place on. -/
theorem no_com {l : List UInt8} {k : Nat} (h : ∀ i, k + 1 ≤ i → comB l i = false) : decide (0 ≤ Lib.index (l.drop k) [44, 32]) = false := by
  rw [idx_com fun i hi => by rw [com_drop hi]; exact h _ (by omega)]
  rfl
end Go.Vf.S

import Derived.Test.YtgdkekacalmjoaaDoorAdC
/- What is wrong with a domain: the document's. -/
namespace Go.Vf.S
open Go Go.Vf
attribute [local irreducible] wSeq wRow wp wG
set_option linter.unusedVariables false
set_option linter.unusedSimpArgs false
set_option maxRecDepth 10000

theorem all_no' {α : Type} {l : List α} {p : Nat} {c : α} {f : α → Bool} (h : l[p]? = some c) (hf : f c = false) : l.all f = false := by
  rw [List.all_eq_false]
  exact ⟨c, List.mem_of_getElem? h, by simp [hf]⟩
theorem last_iff {m : List UInt8} {c d : UInt8} (h : m[m.length - 1]? = some d) : [c] <:+ m ↔ d = c := by
  rw [List.suffix_iff_eq_drop]
  have hl := lt_of_get h
  rw [List.length_singleton, drop_next h, List.drop_of_length_le (by omega)]
  simp
  exact ⟨fun e => e.symm, fun e => e.symm⟩
theorem first_iff {m : List UInt8} {c d : UInt8} (h : m[0]? = some d) : m.take 1 = [c] ↔ d = c := by
  cases m with
  | nil => cases h
  | cons x r => cases h; simp
theorem lit_short {l : List UInt8} (h : l.length < 2) : litF l = false := by
  unfold litF
  rw [decide_eq_false, Bool.false_and]
  rintro ⟨h1, h2⟩
  have := h2.length_le
  simp at this
  omega
theorem lit_first {l : List UInt8} {d : UInt8} (h : l[0]? = some d) (hd : d ≠ 91) : litF l = false := by
  unfold litF
  rw [decide_eq_false, Bool.false_and]
  rintro ⟨h1, h2⟩
  exact hd ((first_iff h).1 h1)
theorem lit_last {l : List UInt8} {d : UInt8} (hl : 2 ≤ l.length) (h : l[l.length - 1]? = some d) (hd : d ≠ 93) : litF l = false := by
  unfold litF
  rw [decide_eq_false, Bool.false_and]
  rintro ⟨h1, h2⟩
  refine hd ((last_iff (m := l.drop 1) ?_).1 h2)
  rw [List.getElem?_drop, List.length_drop, show 1 + (l.length - 1 - 1) = l.length - 1 by omega, h]
theorem lit_is {l : List UInt8} {c d : UInt8} (hl : 2 ≤ l.length) (h0 : l[0]? = some c) (hc : c = 91) (h : l[l.length - 1]? = some d) (hd : d = 93) : litF l = ((splitF 46 (inner l)).all octF && (splitF 46 (inner l)).length == 4) := by
  unfold litF
  rw [decide_eq_true, Bool.true_and]
  refine ⟨(first_iff h0).2 hc, (last_iff (m := l.drop 1) ?_).2 hd⟩
  rw [List.getElem?_drop, List.length_drop, show 1 + (l.length - 1 - 1) = l.length - 1 by omega, h]

theorem oct_no {x : List UInt8} (h : ¬((numberF x 3).2 = 0 ∧ (numberF x 3).1 ≤ 255 ∧ (x = [48] ∨ x.head? ≠ some 48))) : octF x = false := decide_eq_false h
theorem oct_ok {x : List UInt8} (h : (numberF x 3).2 = 0 ∧ (numberF x 3).1 ≤ 255 ∧ (x = [48] ∨ x.head? ≠ some 48)) : octF x = true := decide_eq_true h
theorem num_ne {x : List UInt8} {d : Int} (h : (numberF x d).2 = 0) : 1 ≤ x.length := by
  unfold numberF at h
  split at h
  · rename_i q; exact q.1
  · simp at h
end Go.Vf.S

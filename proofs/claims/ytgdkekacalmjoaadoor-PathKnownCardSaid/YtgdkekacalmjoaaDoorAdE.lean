import Derived.Test.YtgdkekacalmjoaaDoorAdD
/- What is wrong with a domain: the document's way through it. -/
namespace Go.Vf.S
open Go Go.Vf
attribute [local irreducible] wSeq wRow wp wG
set_option linter.unusedVariables false
set_option linter.unusedSimpArgs false
set_option maxRecDepth 10000

theorem mem_part {c : UInt8} (hc : c ≠ 46) : ∀ {l : List UInt8}, c ∈ l → ∃ p ∈ splitF 46 l, c ∈ p
  | x :: l, h => by
    unfold splitF
    rw [sp]
    by_cases hx : x = 46
    · rw [if_pos hx]
      have h1 : c ∈ l := by
        rcases List.mem_cons.1 h with rfl | h
        · exact absurd hx hc
        · exact h
      obtain ⟨p, hp, hq⟩ := mem_part hc h1
      exact ⟨p, List.mem_cons_of_mem _ hp, hq⟩
    · rw [if_neg hx]
      rcases List.mem_cons.1 h with rfl | h
      · exact ⟨_, List.mem_cons_self .., List.mem_cons_self ..⟩
      · obtain ⟨p, hp, hq⟩ := mem_part hc h
        rcases List.mem_cons.1 hp with rfl | hp
        · exact ⟨_, List.mem_cons_self .., List.mem_cons_of_mem _ hq⟩
        · exact ⟨p, List.mem_cons_of_mem _ hp, hq⟩
theorem lab_no {l : List UInt8} {c : UInt8} (h : c ∈ l) (hc : c ≠ 46) (hb : labB c = false) : (splitF 46 l).all labelF = false := by
  obtain ⟨p, hp, hq⟩ := mem_part hc h
  rw [List.all_eq_false]
  refine ⟨p, hp, ?_⟩
  have : p.all labB = false := by rw [List.all_eq_false]; exact ⟨c, hq, by simp [hb]⟩
  unfold labelF
  rw [this]
  simp
theorem dom_first {l : List UInt8} {c : UInt8} (h : l[0]? = some c) (hc : c = 91) : domF l = if litF l = true then 0 else 5 := by
  unfold domF
  rw [lab_no (c := c) (List.mem_of_getElem? h) (by rw [hc]; decide) (by rw [hc]; decide)]
  rfl
theorem dom_name {l : List UInt8} (h : ∀ c, l[0]? = some c → c ≠ 91) : domF l = if (splitF 46 l).all labelF = true then (if longF l = true then 3 else 0) else 5 := by
  have : litF l = false := by
    cases l with
    | nil => rfl
    | cons c r => exact lit_first rfl (h c rfl)
  unfold domF
  rw [if_neg (by rw [this]; simp)]

structure DIt where
  i : Nat
  f : Nat
  done : List (List UInt8)
  long : Bool

/-- Behind so many bytes: the parts that are done, and the one that stands there. -/
def DAt (l : List UInt8) (x : DIt) : Prop :=
  ((x.i ≤ l.length ∧ splitF 46 l = x.done ++ splitF 46 (l.drop x.f) ∧ x.f ≤ x.i ∧ ((l.drop x.f).take (x.i - x.f)).all labB = true) ∨ (x.i = l.length + 1 ∧ splitF 46 l = x.done)) ∧
  x.done.all labelF = true ∧ x.long = (decide (255 < l.length) || x.done.any fun p => decide (63 < p.length))

theorem ends_is {g : List UInt8} {a b : UInt8} (ha : g[0]? = some a) (hb : g[g.length - 1]? = some b) : endsF g = (decide (a ≠ 45) && decide (b ≠ 45)) := by
  unfold endsF
  rw [List.getLast?_eq_getElem?, head_at ha, hb]
  cases g with
  | nil => cases ha
  | cons x r => simp
theorem lab_dot : labB 46 = false := by decide
end Go.Vf.S

import Derived.Test.YtfminjggoaegdaaGreatDoorEngBd
import Derived.SliceStrings
section
namespace Go.Vf
open Go.RowKit Go.ChangeShapes
set_option linter.unusedVariables false
set_option linter.unusedSimpArgs false
def Laid (xs : List (RE × ABlk)) (id : Nat) (ρ : Ren) : Prop := ∀ (i : Nat) x, xs[i]? = some x → ρ (id + i) = some x.1
def LaidS (xs : List (RE × ABlk)) (id : Nat) (s : SS) : Prop := (∀ (i : Nat) x, xs[i]? = some x → lookH s.heap (id + i) = some x.2) ∧ id + xs.length ≤ s.next
theorem Laid.left {a b : List (RE × ABlk)} {id : Nat} {ρ : Ren} (h : Laid (a ++ b) id ρ) : Laid a id ρ := fun i x hi => h i x (by rw [List.getElem?_append_left (List.getElem?_eq_some_iff.1 hi).1]; exact hi)
theorem Laid.right {a b : List (RE × ABlk)} {id : Nat} {ρ : Ren} (h : Laid (a ++ b) id ρ) : Laid b (id + a.length) ρ := fun i x hi => by
 rw [Nat.add_assoc]
 exact h (a.length + i) x (by rw [List.getElem?_append_right (by omega), Nat.add_sub_cancel_left]; exact hi)
theorem LaidS.left {a b : List (RE × ABlk)} {id : Nat} {s : SS} (h : LaidS (a ++ b) id s) : LaidS a id s :=
 ⟨fun i x hi => h.1 i x (by rw [List.getElem?_append_left (List.getElem?_eq_some_iff.1 hi).1]; exact hi), by have := h.2; rw [List.length_append] at this; omega⟩
theorem LaidS.right {a b : List (RE × ABlk)} {id : Nat} {s : SS} (h : LaidS (a ++ b) id s) : LaidS b (id + a.length) s :=
 ⟨fun i x hi => by
  rw [Nat.add_assoc]
  exact h.1 (a.length + i) x (by rw [List.getElem?_append_right (by omega), Nat.add_sub_cancel_left]; exact hi), by have := h.2; rw [List.length_append] at this; omega⟩
section
variable {H : Type} {enc : TypeId × Value → H} {P : Program} {W : World}
def GoodL (P : Program) (W : World) (xs : List (RE × ABlk)) (id : Nat) : Prop :=
 ∀ ρ : Ren, Laid xs id ρ → ∀ (i : Nat) x, xs[i]? = some x → BRel P ρ W x.1 x.2 ∧ x.2.ro = true ∧ x.1.blk < W.heap.size
theorem GoodL.nil (id : Nat) : GoodL P W [] id := fun _ _ i x h => by simp at h
theorem GoodL.app {a b : List (RE × ABlk)} {id : Nat} (ha : GoodL P W a id) (hb : GoodL P W b (id + a.length)) : GoodL P W (a ++ b) id := by
 intro ρ hρ i x hi
 rcases Nat.lt_or_ge i a.length with q | q
 ·rw [List.getElem?_append_left q] at hi
  exact ha ρ hρ.left i x hi
 ·rw [List.getElem?_append_right q] at hi
  exact hb ρ hρ.right _ x hi
theorem GoodL.start {xs : List (RE × ABlk)} (h : GoodL P W xs 0) : HRel P W.heap.size W (renOf xs) (startS xs 0).st W ∧ FreeFrom (renOf xs) (startS xs 0).next ∧ Laid xs 0 (renOf xs) ∧ LaidS xs 0 (startS xs 0) ∧ Fine (startS xs 0) := by
 have hl : Laid xs 0 (renOf xs) := fun i x hi => by simp [renOf, hi]
 obtain ⟨h1, h2⟩ := startS_rel (P := P) (W := W) (bs := xs) (gl := 0) (fun i e b hi => h _ hl i (e, b) hi) (fun g hg => by omega)
 refine ⟨h1, h2, hl, ⟨fun i x hi => ?_, Nat.le_of_eq (Nat.zero_add _)⟩, fun id hid => ?_⟩
 ·simp [startS, heapOf_look, hi]
 ·have hid' : xs.length ≤ id := hid
  simp [startS, heapOf_look]
  omega
end
end Go.Vf
end
section
namespace Go.Vf
open Go.RowKit Go.ChangeShapes
set_option linter.unusedVariables false
set_option linter.unusedSimpArgs false
section
variable {H : Type} {enc : TypeId × Value → H} {P : Program} {W : World}
end
end Go.Vf
end

import Derived.Test.YthhcngkblihliaaDoorHdLa
import Derived.Test.YthhcngkblihliaaDoorHdMa
/- Lines behind the first one begin with a blank: whether they may be folded from their second byte on or from their third one is the same. So the program's field and the document's are one. (No program.) -/
namespace Go.Vf.S
open Go Go.Vf Go.Proofs
set_option linter.unusedVariables false
set_option linter.unusedSimpArgs false

theorem place_12 {l : List UInt8} (h : l[0]? ≠ some 44) : placeF l 1 = placeF l 2 := by
  unfold placeF
  rcases Nat.lt_or_ge 1 l.length with q | q
  · have hc : comB l 1 = false := by
      unfold comB
      have : (l[1 - 1]? == some 44) = false := by simpa using h
      rw [this, Bool.false_and, Bool.and_false]
    rw [show l.length - 1 = (l.length - 2) + 1 by omega, fpF, if_pos ⟨q, .inl (by omega)⟩, hc]
    rfl
  · rw [show l.length - 1 = 0 by omega, show l.length - 2 = 0 by omega]
    rfl
theorem fold_12 : ∀ (n : Nat), (∀ (z : Nat) (l : List UInt8), foldF 1 n z l = foldF 2 n z l) ∧ ∀ l : List UInt8, l[0]? = some 32 → foldF 1 n 1 l = foldF 2 n 2 l
  | 0 => ⟨fun _ _ => rfl, fun _ _ => rfl⟩
  | n + 1 => by
    obtain ⟨h1, h2⟩ := fold_12 n
    have key : ∀ (z : Nat) (l : List UInt8) (a : Nat), placeF l z = some a → foldF 1 n 1 (l.drop a) = foldF 2 n 2 (l.drop a) := fun z l a hp => h2 _ (by
      obtain ⟨-, -, h5, -⟩ := com_lt (place_is hp).1
      rw [List.getElem?_drop, Nat.add_zero]
      exact h5)
    have g1 : ∀ (z : Nat) (l : List UInt8), foldF 1 (n + 1) z l = foldF 2 (n + 1) z l := fun z l => by
      rw [foldF, foldF]
      split
      · cases hp : placeF l z with
        | none => rfl
        | some a =>
          dsimp only
          rw [key z l a hp]
      · rfl
    refine ⟨g1, fun l hl => ?_⟩
    rw [g1 1 l, foldF, foldF, place_12 (by rw [hl]; decide)]

theorem lay_agree (nm v : List UInt8) : layF nm v = layR nm v := by
  unfold layF layR
  rw [(fold_12 _).1]
end Go.Vf.S

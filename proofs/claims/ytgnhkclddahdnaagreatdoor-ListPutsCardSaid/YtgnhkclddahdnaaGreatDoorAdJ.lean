import Derived.Test.YtgnhkclddahdnaaGreatDoorBnB
namespace Go.Vf.S
open Go Go.Vf
attribute [local irreducible] wSeq wRow wp wG
set_option linter.unusedVariables false
set_option linter.unusedSimpArgs false
set_option maxRecDepth 10000

abbrev cmpB := Lib.compareBytes
theorem cmp_self : ∀ a : List UInt8, cmpB a a = 0
 | [] => rfl
 | x :: a => by
  show Lib.compareBytes (x :: a) (x :: a) = 0
  rw [Lib.compareBytes, if_neg (UInt8.lt_irrefl x), if_neg (UInt8.lt_irrefl x)]
  exact cmp_self a
theorem byte_eq {x y : UInt8} (h1 : ¬x < y) (h2 : ¬y < x) : x = y := UInt8.le_antisymm (UInt8.not_lt.1 h2) (UInt8.not_lt.1 h1)
theorem cmp_zero : ∀ {a b : List UInt8}, cmpB a b = 0 → a = b
 | [], [], _ => rfl
 | [], _ :: _, h => by simp [cmpB, Lib.compareBytes] at h
 | _ :: _, [], h => by simp [cmpB, Lib.compareBytes] at h
 | x :: a, y :: b, h => by
  have h : Lib.compareBytes (x :: a) (y :: b) = 0 := h
  rw [Lib.compareBytes] at h
  split at h
  ·simp at h
  ·split at h
   ·simp at h
   ·rename_i h1 h2
    rw [byte_eq h1 h2, cmp_zero h]
def compF2 (x y : List UInt8 × List UInt8) : Int := if cmpB x.2 y.2 ≠ 0 then cmpB x.2 y.2 else cmpB x.1 y.1
theorem comp_self (x : List UInt8 × List UInt8) : compF2 x x = 0 := by unfold compF2; rw [cmp_self, cmp_self]; rfl
theorem comp_zero {x y : List UInt8 × List UInt8} : compF2 x y = 0 ↔ x = y := by
 constructor
 ·intro h
  unfold compF2 at h
  split at h
  ·contradiction
  ·rename_i h1
   exact Prod.ext (cmp_zero h) (cmp_zero (by omega))
 ·rintro rfl
  exact comp_self _
def nF (a d : List UInt8) : List UInt8 × List UInt8 := (nrmL a, d.map lowB)
theorem same_nF (a d b e : List UInt8) : sameF a d b e = decide (nF a d = nF b e) := by
 unfold sameF nF
 rw [Bool.eq_iff_iff]
 simp

end Go.Vf.S

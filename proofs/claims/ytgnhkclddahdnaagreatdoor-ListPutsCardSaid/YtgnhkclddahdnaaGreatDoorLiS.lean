import Derived.Test.YtgnhkclddahdnaaGreatDoorLbT
import Derived.Test.YtgnhkclddahdnaaGreatDoorBnB
import Derived.Test.YtgnhkclddahdnaaGreatDoorChecked
import Derived.WalkKit
namespace Go.Vf.S
open Go Go.Proofs Go.RowKit
set_option linter.unusedVariables false
set_option linter.unusedSimpArgs false
end Go.Vf.S

namespace Go.Vf.S
open Go Go.Vf Go.Proofs Go.RowKit
attribute [local irreducible] wSeq wRow wp wG
set_option linter.unusedVariables false
set_option linter.unusedSimpArgs false
set_option maxRecDepth 10000

abbrev AA := List UInt8 × List UInt8
def adC (x : AA) : List Value := [str x.1, str x.2]
def adsC (xs : List AA) : List Value := xs.flatMap adC
theorem adsC_len (xs : List AA) : (adsC xs).length = xs.length * 2 := by
 induction xs with
 | nil => rfl
 | cons x xs ih =>
  unfold adsC at ih ⊢
  rw [List.flatMap_cons, List.length_append, ih, List.length_cons]
  show 2 + _ = _
  omega
theorem adsC_app (a b : List AA) : adsC (a ++ b) = adsC a ++ adsC b := by unfold adsC; rw [List.flatMap_append]
theorem ads_drop : ∀ (xs : List AA) (i : Nat), (adsC xs).drop (i * 2) = adsC (xs.drop i)
 | xs, 0 => by simp
 | [], i + 1 => by simp [adsC]
 | x :: xs, i + 1 => by
  have ih := ads_drop xs i
  rw [List.drop_succ_cons, ← ih, show (i + 1) * 2 = 2 + i * 2 by omega, ← List.drop_drop]
  rfl
theorem ads_take {xs : List AA} {i : Nat} {x : AA} (h : xs[i]? = some x) : takeN 2 ((adsC xs).drop (i * 2)) = some (adC x) := by
 rw [ads_drop, drop_next h]
 show takeN 2 (adC x ++ adsC _) = _
 rw [takeN_take _ _ (by rw [List.length_append]; show 2 ≤ 2 + _; omega)]
 exact congrArg some (List.take_left' (l₁ := adC x) rfl)
abbrev AdO (s : SS) (W : Option Addr) (cw : Nat) (xs : List AA) : Prop := OwnR tAd s W cw xs.length (adsC xs)
def AdRd (s : SS) (W : Option Addr) (xs : List AA) : Prop := match W with
 | none => xs = []
 | some ⟨b, off, sp⟩ => off = 0 ∧ sp = none ∧ b < s.next ∧ ∃ t g r, lookH s.heap b = some (.cells (adsC xs) t g r)
theorem AdRd.chg {s s' : SS} {W : Option Addr} {xs : List AA} (h : AdRd s W xs) (c : Chg s s' []) : AdRd s' W xs := by
 cases W with
 | none => exact h
 | some a =>
  obtain ⟨b, off, sp⟩ := a
  obtain ⟨h1, h2, h3, t, g, r, h4⟩ := h
  exact ⟨h1, h2, Nat.lt_of_lt_of_le h3 c.next, t, g, r, c.blk _ _ h3 (by simp) h4⟩
theorem AdRd.at {s : SS} {W : Option Addr} {xs : List AA} (h : AdRd s W xs) (hn : xs ≠ []) : ∃ b t g r, W = some ⟨b, 0, none⟩ ∧ b < s.next ∧ lookH s.heap b = some (.cells (adsC xs) t g r) := by
 cases W with
 | none => exact absurd h hn
 | some a =>
  obtain ⟨b, off, sp⟩ := a
  obtain ⟨rfl, rfl, h3, t, g, r, h4⟩ := h
  exact ⟨b, t, g, r, rfl, h3, h4⟩
theorem ads_nil {xs : List AA} (h : adsC xs = []) : xs = [] := by
 have := congrArg List.length h
 rw [adsC_len] at this
 exact List.length_eq_zero_iff.1 (by simp only [List.length_nil] at this; omega)
theorem rd_own {s : SS} {W : Option Addr} {cw : Nat} {xs : List AA} (h : AdO s W cw xs) : AdRd s W xs := by
 cases W with
 | none =>
  obtain ⟨h1, h2, h3⟩ := h
  exact ads_nil h1
 | some a =>
  obtain ⟨b, off, sp⟩ := a
  obtain ⟨rfl, rfl, h3, g, h4, h5⟩ := h
  exact ⟨rfl, rfl, h3, _, _, _, h4⟩

structure AdI where
 i : Nat
 W : Option Addr
 cw : Nat
 s : SS

end Go.Vf.S

import Derived.Test.YthhcngkblihliaaDoorHdY
import Derived.Test.YthhcngkblihliaaDoorBnH
/- The document's own: a field laid anew. -/
namespace Go.Vf.S
open Go Go.Vf Go.Proofs Go.RowKit
attribute [local irreducible] wSeq wRow wp wG
set_option linter.unusedVariables false
set_option linter.unusedSimpArgs false
set_option maxRecDepth 10000

/-- The place, gone through to the line's end. -/
def fpR (l : List UInt8) : Nat → Nat → Option Nat → Option Nat
  | 0, _, o => o
  | n + 1, i, o => fpR l n (i + 1) (if comB l i = true ∧ (i ≤ 78 ∨ o = none) then some i else o)
theorem fpR_stay {l : List UInt8} {o : Option Nat} (ho : o ≠ none) : ∀ (n i : Nat), 78 < i → fpR l n i o = o
  | 0, _, _ => rfl
  | n + 1, i, h => by
    rw [fpR, if_neg (fun q => q.2.elim (fun x => by omega) ho), fpR_stay ho n (i + 1) (by omega)]
theorem fp_eq {l : List UInt8} : ∀ (n i : Nat) (o : Option Nat), i + n = l.length → fpF l n i o = fpR l n i o
  | 0, _, _, _ => rfl
  | n + 1, i, o, h => by
    by_cases hc : i ≤ 78 ∨ o = none
    · rw [fpF, if_pos ⟨by omega, hc⟩, fpR, fp_eq n (i + 1) _ (by omega)]
      congr 1
      by_cases hb : comB l i = true
      · rw [if_pos hb, if_pos ⟨hb, hc⟩]
      · rw [if_neg hb, if_neg (fun q => hb q.1)]
    · rw [fp_stop (fun q => hc q.2), fpR_stay (fun e => hc (.inr e)) _ _ (by omega)]
theorem place_R (l : List UInt8) (z : Nat) : placeF l z = fpR l (l.length - z) z none := by
  unfold placeF
  rcases Nat.lt_or_ge z l.length with h | h
  · exact fp_eq _ _ _ (by omega)
  · rw [show l.length - z = 0 by omega]
    rfl
def atI : Option Nat → Int
  | none => -1
  | some a => a
theorem com_iff' {l : List UInt8} {i : Nat} {a b : UInt8} (h1 : 1 ≤ i) (ha : l[i - 1]? = some a) (hb : l[i]? = some b) : comB l i = (decide (a.toNat = 44) && decide (b.toNat = 32)) := by
  unfold comB
  rw [ha, hb, Bool.eq_iff_iff]
  simp only [Bool.and_eq_true, decide_eq_true_eq, beq_iff_eq, Option.some.injEq, h1, true_and]
  constructor
  · rintro ⟨rfl, rfl⟩; exact ⟨rfl, rfl⟩
  · exact fun h => ⟨UInt8.toNat_inj.1 h.1, UInt8.toNat_inj.1 h.2⟩

/-- The document's field. -/
def layR (nm v : List UInt8) : Option Fld := if isNm nm = true ∧ v.all okB = true then some ⟨nm, trimF v, jn (foldF 2 (nm ++ 58 :: 32 :: v).length (nm.length + 3) (nm ++ 58 :: 32 :: v))⟩ else none

structure RlI where
  acc : List (List UInt8)
  l : List UInt8
  z : Nat
  k : Nat
theorem jn_snoc' (a : List (List UInt8)) (l : List UInt8) : jn (a ++ [l]) = jn a ++ l ++ [13, 10] := by rw [jn_app, jn_one, List.append_assoc]

end Go.Vf.S

import Derived.Test.YthhcngkblihliaaDoorBnA
import Derived.Test.YthhcngkblihliaaDoorAdS
/- The library's case and replacements. -/
namespace Go.Vf.S
open Go Go.Vf Go.Proofs Go.RowKit
attribute [local irreducible] wSeq wRow wp wG
set_option linter.unusedVariables false
set_option linter.unusedSimpArgs false
set_option maxRecDepth 10000

theorem count_le (sub : List UInt8) : ∀ (n : Nat) (l : List UInt8), Lib.countFrom sub n l ≤ n
  | 0, _ => by unfold Lib.countFrom; exact Nat.le_refl _
  | n + 1, l => by
    unfold Lib.countFrom
    split
    · omega
    · have := count_le sub n (l.drop ((Lib.index l sub).toNat + sub.length))
      omega
theorem replace_w {s : SS} {l new : List UInt8} {a b : UInt8} (hM : Gx s) (hl : l.length ≤ 1000000) (hn : new.length ≤ 3) (hne : [a, b] ≠ new) : CallW pr 79 [str l, str [a, b], str new] s fun v s' => v = str (rep a b new l) ∧ s' = s := by
  refine CallW.kit rfl fun B w0 ρ args' w H hr => ?_
  obtain ⟨v1, v2, v3, rfl, q1, q2, q3⟩ := lrel_3 hr
  obtain rfl := str_inv q1
  obtain rfl := str_inv q2
  obtain rfl := str_inv q3
  obtain ⟨g1, g2, m, g4⟩ := hM
  obtain ⟨e, he, hb, ho⟩ := H.glob gMx g1
  obtain ⟨v', p1, p2⟩ := H.cellAt g4 he (off := 0) rfl
  rw [hb, ho, int_inv p2] at p1
  have hc : Lib.countB ⟨⟨l⟩⟩ ⟨⟨[a, b]⟩⟩ ≤ 1000001 := Nat.le_trans (count_le [a, b] (l.length + 1) l) (by omega)
  have := Any.strings_ReplaceAll Tryd.lays155 Tryd.Builder_Extra_155 ⟨⟨l⟩⟩ ⟨⟨[a, b]⟩⟩ ⟨⟨new⟩⟩ m w (by show l.length < _; omega) p1 (by show 1 ≤ 2; omega) (by
    show l.length + Lib.countB ⟨⟨l⟩⟩ ⟨⟨[a, b]⟩⟩ * new.length ≤ _
    have : Lib.countB ⟨⟨l⟩⟩ ⟨⟨[a, b]⟩⟩ * new.length ≤ 1000001 * 3 := Nat.mul_le_mul hc hn
    omega)
  rw [← replace_rep hne]
  exact this
end Go.Vf.S

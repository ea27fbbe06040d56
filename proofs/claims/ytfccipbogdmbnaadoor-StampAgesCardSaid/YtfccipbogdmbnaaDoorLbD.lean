import Derived.Test.YtfccipbogdmbnaaDoorBnA
import Derived.Test.YtfccipbogdmbnaaDoorAdS
/- The library's case and replacements. -/
namespace Go.Vf.S
open Go Go.Vf Go.Proofs Go.RowKit
attribute [local irreducible] wSeq wRow wp wG
set_option linter.unusedVariables false
set_option linter.unusedSimpArgs false
set_option maxRecDepth 10000

theorem toUpper_w {s : SS} {l : List UInt8} (hl : l.length ≤ 1000000) (ha : asc l) : CallW pr 24 [str l] s fun v s' => v = str (l.map Lib.upperB) ∧ s' = s := by
  refine CallW.kit rfl fun B w0 ρ args' w H hr => ?_
  obtain ⟨v1, rfl, q1⟩ := lrel_1 hr
  obtain rfl := str_inv q1
  exact Any.strings_ToUpper_ascii Tryd.lays158 Tryd.Builder_Extra_158 ⟨⟨l⟩⟩ w (by show l.length ≤ _; omega) (asc_at ha)
theorem toLower_w {s : SS} {l : List UInt8} (hl : l.length ≤ 1000000) (ha : asc l) : CallW pr 23 [str l] s fun v s' => v = str (l.map Lib.lowerB) ∧ s' = s := by
  refine CallW.kit rfl fun B w0 ρ args' w H hr => ?_
  obtain ⟨v1, rfl, q1⟩ := lrel_1 hr
  obtain rfl := str_inv q1
  exact Any.strings_ToLower_ascii Tryd.lays159 Tryd.Builder_Extra_159 ⟨⟨l⟩⟩ w (by show l.length ≤ _; omega) (asc_at ha)
theorem count_le (sub : List UInt8) : ∀ (n : Nat) (l : List UInt8), Lib.countFrom sub n l ≤ n
  | 0, _ => by unfold Lib.countFrom; exact Nat.le_refl _
  | n + 1, l => by
    unfold Lib.countFrom
    split
    · omega
    · have := count_le sub n (l.drop ((Lib.index l sub).toNat + sub.length))
      omega
end Go.Vf.S

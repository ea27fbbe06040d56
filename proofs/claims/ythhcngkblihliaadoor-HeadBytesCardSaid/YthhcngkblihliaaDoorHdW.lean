import Derived.Test.YthhcngkblihliaaDoorHdV
import Derived.Test.YthhcngkblihliaaDoorBnI
import Derived.Test.YthhcngkblihliaaDoorBnH
import Derived.Test.YthhcngkblihliaaDoorAdT
/- The law HeadReadsAgain, from any state. -/
namespace Go.Vf.S
open Go Go.Vf Go.Proofs Go.RowKit
attribute [local irreducible] wSeq wRow wp wG
set_option linter.unusedVariables false
set_option linter.unusedSimpArgs false
set_option maxRecDepth 10000

theorem containsAny_w {s : SS} {l m : List UInt8} (hl : l.length ≤ 1000000) (hm : m.length ≤ 1000000) (ha : asc l) (hb : asc m) : CallW pr 21 [str l, str m] s fun v s' => v = .bool (Lib.containsAny l m) ∧ s' = s := by
  refine CallW.kit rfl fun B w0 ρ args' w H hr => ?_
  obtain ⟨v1, v2, rfl, q1, q2⟩ := lrel_2 hr
  obtain rfl := str_inv q1
  obtain rfl := str_inv q2
  exact Any.strings_ContainsAny_laid Tryd.lays150 (by kernel_rfl) ⟨⟨l⟩⟩ ⟨⟨m⟩⟩ w (by show l.length < _; omega) (by show m.length < _; omega) (asc_at ha) (asc_at hb)

end Go.Vf.S

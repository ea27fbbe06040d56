import Derived.Test.YthhcngkblihliaaDoorLbD
import Derived.Test.YthhcngkblihliaaDoorBnA
import Derived.Lib.Case
/- Upper case and lower case. -/
namespace Go.Vf.S
open Go Go.Vf Go.Proofs Go.RowKit
set_option linter.unusedVariables false
set_option linter.unusedSimpArgs false
set_option maxRecDepth 10000

theorem all_bytes {p : UInt8 → Bool} (h : ((List.range 256).all fun n => p (UInt8.ofNat n)) = true) (c : UInt8) : p c = true := by
  rw [List.all_eq_true] at h
  have := h c.toNat (List.mem_range.2 c.toNat_lt)
  rwa [UInt8.ofNat_toNat] at this
theorem lower_is (c : UInt8) : Lib.lowerB c = lowB c := by
  have := all_bytes (p := fun c => Lib.lowerB c == lowB c) (by decide +kernel) c
  simpa using this
theorem lower_upper (c : UInt8) : lowB (Lib.upperB c) = lowB c := by
  have := all_bytes (p := fun c => lowB (Lib.upperB c) == lowB c) (by decide +kernel) c
  simpa using this
theorem low_up_map (l : List UInt8) : (l.map Lib.upperB).map lowB = l.map lowB := by simp [List.map_map, Function.comp_def, lower_upper]
theorem lower_map (l : List UInt8) : l.map Lib.lowerB = l.map lowB := by congr 1; funext c; exact lower_is c
end Go.Vf.S

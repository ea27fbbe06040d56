import Derived.Test.YtgdkekacalmjoaaDoorFn
import Derived.KernelRfl
/- More functions of the seat, made ready. -/
namespace Go.Vf.S
open Go.Proofs
set_option maxRecDepth 100000
abbrev n_law06_PathParams_1 : Nat := 19
def m_law06_PathParams_1 : MF := ⟨17, [(.tmp 2)], (.seq (.reg [⟨(some 2), none, (.mov (.const (.string ⟨#[]⟩)))⟩]) (.seq (.reg [⟨(some 3), none, (.mov (.const (.string ⟨#[]⟩)))⟩]) (.block 0 (.loop (.block 1 (.seq (.reg [⟨(some 4), none, (.mov (.tmp 0))⟩, ⟨(some 5), none, (.bin .rem .none (.tmp 4) (.const (.int .u32 10)))⟩, ⟨(some 6), none, (.bin .add .none (.const (.int .u32 48)) (.tmp 5))⟩, ⟨(some 7), none, (.toInt .u8 (.tmp 6))⟩, ⟨(some 8), none, (.mkS 5 1 [(.int .u8 0)] [(0, (1, (.tmp 7)))])⟩, ⟨(some 9), none, (.toStr (.tmp 8))⟩, ⟨(some 10), none, (.mov (.tmp 3))⟩, ⟨(some 11), none, (.bin .add .none (.tmp 9) (.tmp 10))⟩, ⟨(some 3), none, (.mov (.tmp 11))⟩]) (.seq (.reg [⟨(some 12), none, (.mov (.tmp 0))⟩, ⟨(some 13), none, (.bin .quo .none (.tmp 12) (.const (.int .u32 10)))⟩, ⟨(some 0), none, (.mov (.tmp 13))⟩]) (.seq (.reg [⟨(some 14), none, (.mov (.tmp 0))⟩, ⟨(some 15), none, (.bin .eql .none (.tmp 14) (.const (.int .u32 0)))⟩]) (.cond (.tmp 15) (.seq (.reg [⟨(some 16), none, (.mov (.tmp 3))⟩, ⟨(some 2), none, (.mov (.tmp 16))⟩]) .ret) .skip)))))))))⟩
theorem ok_law06_PathParams_1 : compF pr 19 = some m_law06_PathParams_1 := by kernel_rfl
end Go.Vf.S

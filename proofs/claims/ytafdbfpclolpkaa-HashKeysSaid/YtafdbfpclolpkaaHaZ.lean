import Derived.Test.YtafdbfpclolpkaaFn
import Derived.Test.YtafdbfpclolpkaaEngBd
/- What the rows of the seat have in common: no law of them reads a listed variable. -/
namespace Go.Vf.S
open Go Go.Vf
theorem byte_wf10 {z : Int} (h : (Lit.int .u8 z).wf = true) : ∃ c : UInt8, z = (c.toNat : Int) := by
  have : 0 ≤ z ∧ z ≤ 255 := by simpa [Lit.wf, IntKind.min, IntKind.max, IntKind.signed, IntKind.bits] using h
  exact ⟨UInt8.ofNat z.toNat, by rw [UInt8.toNat_ofNat']; omega⟩
theorem own10 : ownKnob pr.godebug = none := by kernel_rfl
theorem laidOut10 : laidOutB pr = true := by kernel_rfl
end Go.Vf.S

import Derived.Test.YtgnhkclddahdnaaGreatDoorBnA
import Derived.Test.YtgnhkclddahdnaaGreatDoorShR
import Derived.Test.YtgnhkclddahdnaaGreatDoorEngBe
namespace Go.Vf.S
open Go Go.Vf Go.Proofs Go.RowKit
attribute [local irreducible] wSeq wRow wp wG
set_option linter.unusedVariables false
set_option linter.unusedSimpArgs false
set_option maxRecDepth 10000

abbrev gFi : Nat := 0
abbrev gAc : Nat := 1
abbrev tU8 : TypeId := 5
def fiV : List Value := (List.range 256).map fun c => .int .u8 (Lib.firstT c)
def acV : List Value := (List.range 32).map fun k => .int .u8 (if k % 2 = 0 then Lib.accLo (k / 2) else Lib.accHi (k / 2))
theorem fi_get {c : Nat} (h : c < 256) : fiV[c]? = some (.int .u8 (Lib.firstT c)) := by simp [fiV, h]
theorem ac_get {k : Nat} (h : k < 32) : acV[k]? = some (.int .u8 (if k % 2 = 0 then Lib.accLo (k / 2) else Lib.accHi (k / 2))) := by simp [acV, h]

structure Gv (s : SS) : Prop where
 g1 : gFi < s.gl
 g2 : gAc < s.gl
 n1 : gFi < s.next
 n2 : gAc < s.next
 b1 : lookH s.heap gFi = some (.cells fiV tU8 false true)
 b2 : lookH s.heap gAc = some (.cells acV tU8 false true)
theorem Gv.chg {s s' : SS} (h : Gv s) (c : Chg s s' []) : Gv s' :=
 ⟨by rw [c.gl]; exact h.g1, by rw [c.gl]; exact h.g2, Nat.lt_of_lt_of_le h.n1 c.next, Nat.lt_of_lt_of_le h.n2 c.next, c.blk _ _ h.n1 (by simp) h.b1, c.blk _ _ h.n2 (by simp) h.b2⟩
end Go.Vf.S

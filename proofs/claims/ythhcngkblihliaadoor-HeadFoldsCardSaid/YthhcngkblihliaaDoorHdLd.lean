import Derived.Test.YthhcngkblihliaaDoorHdLc
/- A field laid ahead of all others; one laid in its place. -/
namespace Go.Vf.S
open Go Go.Vf Go.Proofs Go.RowKit
attribute [local irreducible] wSeq wRow wp wG
set_option linter.unusedVariables false
set_option linter.unusedSimpArgs false
set_option maxRecDepth 10000

abbrev aheadF (m : Msg) (nm v : List UInt8) : Msg × Nat := withF m 0 0 nm v
def putF (m : Msg) (k : Int) (v : List UInt8) : Msg × Nat := if k < 0 then (msZ, 1) else match m.fs[k.toNat]? with
  | none => (msZ, 1)
  | some f => withF m k.toNat (k.toNat + 1) f.n v
/-- What a call tells that answers a message. -/
def TellM (s : SS) (r : Msg × Nat) (u : Value) (s' : SS) : Prop := ∃ W cw, u = .tuple ⟨[msV r.1 W cw, .int .i64 r.2]⟩ ∧ FsO s' W cw r.1.fs ∧ Chg s s' [] ∧ ∀ id ∈ blkOf W, s.next ≤ id

end Go.Vf.S

import Derived.Test.YtgdkekacalmjoaaDoorTxA
/- A comment at the front. -/
namespace Go.Vf.S
open Go Go.Vf
attribute [local irreducible] wSeq wRow wp wG
set_option linter.unusedVariables false
set_option linter.unusedSimpArgs false
set_option maxRecDepth 10000

/-- Byte by byte: so deep, behind a backslash or not. -/
def cm : List UInt8 → Nat → Bool → Nat → Nat × Nat
  | [], _, _, _ => (0, 4)
  | c :: r, d, e, i =>
    if plainB c = false ∧ (e = true ∨ c.toNat ≠ 9) then (0, 5)
    else if e = true then cm r d false (i + 1)
    else if c.toNat = 92 then cm r d true (i + 1)
    else if c.toNat = 40 ∧ d = 8 then (0, 3)
    else if c.toNat = 40 then cm r (d + 1) false (i + 1)
    else if c.toNat = 41 ∧ d = 1 then (i + 1, 0)
    else if c.toNat = 41 then cm r (d - 1) false (i + 1)
    else cm r d false (i + 1)
def commentF (l : List UInt8) : Nat × Nat := if l.take 1 = [40] then cm l 0 false 0 else (0, 5)
abbrev cRes (q : Nat × Nat) : Value := .tuple ⟨[.int .i64 q.1, .int .i64 q.2]⟩

structure CIt where
  p : Nat
  s : SS
  d : Nat
  e : Bool

end Go.Vf.S

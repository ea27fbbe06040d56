import Derived.Test.YtgdkekacalmjoaaDoorAdH
/- What wakes the laws; addresses of texts: the law. -/
namespace Go.Vf.S
open Go Go.Vf
attribute [local irreducible] wSeq wRow wp wG
set_option linter.unusedVariables false
set_option linter.unusedSimpArgs false
set_option maxRecDepth 10000

theorem few_str {l0 l : List UInt8} {n k : Nat} (h : l = (l0.drop 0).take (n - 0)) (hn : n ≤ k) : l.length ≤ k := by
  rw [h, List.length_take]
  omega

end Go.Vf.S

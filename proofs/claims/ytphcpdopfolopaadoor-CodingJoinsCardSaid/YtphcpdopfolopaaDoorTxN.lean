import Derived.Test.YtphcpdopfolopaaDoorTxF
/- Atoms. -/
namespace Go.Vf.S
open Go Go.Vf
attribute [local irreducible] wSeq wRow wp wG
set_option linter.unusedVariables false
set_option linter.unusedSimpArgs false
set_option maxRecDepth 10000

def signsL : List UInt8 := [33, 35, 36, 37, 38, 39, 42, 43, 45, 47, 61, 63, 94, 95, 96, 123, 124, 125, 126]
def letN (n : Nat) : Bool := decide (97 ≤ n ∧ n ≤ 122) || (decide (65 ≤ n ∧ n ≤ 90) || (decide (48 ≤ n ∧ n ≤ 57) || signsL.any fun c => c.toNat == n))
def letB (c : UInt8) : Bool := letN c.toNat
def atomsV : List Value := (List.range 128).map fun i => .bool (letN i)
theorem atoms_get {i : Nat} (h : i < 128) : atomsV[i]? = some (.bool (letN i)) := by simp [atomsV, h]
def gA : ABlk := .cells atomsV 4 false true
theorem signs_lt : ∀ c ∈ signsL, c.toNat < 127 := by decide
theorem let_hi {n : Nat} (h : 127 ≤ n) : letN n = false := by
  have : (signsL.any fun c => c.toNat == n) = false := by
    rw [List.any_eq_false]
    intro c hc
    have := signs_lt c hc
    simp
    omega
  unfold letN
  rw [this]
  simp
  omega

theorem ixaG {P : Program} {T : TL} {s : SS} {K : RR → Prop} {len z g : Nat} {i : Operand} {k : IntKind} {iv : Int} (hg : g < s.gl) (hi : opd T s.gl i = some (.int k iv)) (h : wIdx (.int k iv) len fun m => ∀ o, o = 0 + m * z → K (.val (.pointer (some ⟨g, o, none⟩)))) : wN P (.ixaA len z (.global g) i) T s K := by
  have e : opd T s.gl (.global g) = some (.pointer (some ⟨g, 0, none⟩)) := by
    have hb : Nat.blt g s.gl = true := by rw [Nat.blt_eq]; exact hg
    simp only [opd, hb, cond_true]
  simp only [wN, e, hi]
  exact h

def atomF (l : List UInt8) : Bool := l.all letB && !l.isEmpty

end Go.Vf.S

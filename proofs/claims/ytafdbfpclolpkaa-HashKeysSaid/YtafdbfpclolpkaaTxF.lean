import Derived.Test.YtafdbfpclolpkaaTxA
/- Sets of bytes; what is taken off a text's ends. -/
namespace Go.Vf.S
open Go Go.Vf
attribute [local irreducible] wSeq wRow wp wG
set_option linter.unusedVariables false
set_option linter.unusedSimpArgs false
set_option maxRecDepth 10000

/-- A set of bytes, laid out. -/
def tab (f : Nat → Bool) : List Value := (List.range 256).map fun i => .bool (f i)
theorem tab_len (f : Nat → Bool) : (tab f).length = 256 := by simp [tab]
theorem tab_get {f : Nat → Bool} {i : Nat} (h : i < 256) : (tab f)[i]? = some (.bool (f i)) := by simp [tab, h]
theorem tab_take (f : Nat → Bool) : takeN 256 ((tab f).drop 0) = some (tab f) := by
  rw [List.drop_zero, takeN_take _ _ (by rw [tab_len]; omega), List.take_of_length_le (by rw [tab_len]; omega)]
theorem setRow_one : ∀ {l : List Value} {i : Nat} {v : Value}, i < l.length → setRow l i [v] = some (l.set i v)
  | x :: l, 0, v, _ => by cases l <;> rfl
  | x :: l, i + 1, v, h => by simp only [setRow, setRow_one (show i < l.length by simpa using h), List.set_cons_succ]
theorem setRow_all : ∀ {l m : List Value}, l.length = m.length → setRow l 0 m = some m
  | [], [], _ => rfl
  | x :: l, y :: m, h => by simp only [setRow, setRow_all (l := l) (m := m) (by simpa using h)]
theorem flat_tab (f : Nat → Bool) : flat (.agg ⟨tab f⟩) = tab f := rfl
theorem tab_set {f : Nat → Bool} {i : Nat} (h : i < 256) : setRow (tab f) i [.bool true] = some (tab fun k => f k || k == i) := by
  rw [setRow_one (by rw [tab_len]; exact h)]
  congr 1
  apply List.ext_getElem? fun j => ?_
  rw [List.getElem?_set, tab_len]
  by_cases q : j < 256
  · rw [tab_get q]
    by_cases e : i = j
    · subst e; rw [tab_get h]; simp [h]
    · rw [if_neg e, tab_get q]; simp [Ne.symm e]
  · rw [List.getElem?_eq_none (by rw [tab_len]; omega), if_neg (by omega), List.getElem?_eq_none (by rw [tab_len]; omega)]
theorem tab_all1 (f : Nat → Bool) : (Nat.beq (flat (.agg ⟨tab f⟩)).length 256 && all1 (flat (.agg ⟨tab f⟩))) = true := by
  rw [flat_tab, tab_len]
  have : ∀ l : List Nat, all1 (l.map fun i => Value.bool (f i)) = true := fun l => by
    induction l with
    | nil => rfl
    | cons a l ih => exact ih
  exact this _
theorem tab_row (f g : Nat → Bool) : setRow (tab f) 0 (flat (.agg ⟨tab g⟩)) = some (tab g) := by
  rw [flat_tab]
  exact setRow_all (by rw [tab_len, tab_len])

def inB (k : List UInt8) (i : Nat) : Bool := k.any fun c => c.toNat == i

structure SIt where
  i : Nat
  s : SS

/-- White space. -/
def wh (c : UInt8) : Bool := decide (c.toNat = 32 ∨ c.toNat = 9)

end Go.Vf.S

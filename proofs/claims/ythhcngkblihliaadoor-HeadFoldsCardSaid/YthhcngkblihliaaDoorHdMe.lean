import Derived.Test.YthhcngkblihliaaDoorHdMd
import Derived.Test.YthhcngkblihliaaDoorHdLd
import Derived.Test.YthhcngkblihliaaDoorBnI
/- What the law HeadLays says, from any state, if the program's Lay and the document's agree. (Written by tools/gen_hdme.py.) -/
namespace Go.Vf.S
open Go Go.Vf Go.Proofs Go.RowKit
attribute [local irreducible] wSeq wRow wp wG
set_option linter.unusedVariables false
set_option linter.unusedSimpArgs false
set_option maxRecDepth 10000

theorem ahead_eq (hE : ∀ nm v, layF nm v = layR nm v) (m : Msg) (nm v : List UInt8) : aheadF m nm v = aheadR m nm v := by
  show withF m 0 0 nm v = _
  unfold withF aheadR
  rw [hE]
  cases layR nm v with
  | none => rfl
  | some f => rfl
theorem put_eq (hE : ∀ nm v, layF nm v = layR nm v) (m : Msg) (k : Int) (v : List UInt8) : putF m k v = putR m k v := by
  unfold putF putR
  by_cases hk : k < 0
  · rw [if_pos hk, if_pos hk]
  · rw [if_neg hk, if_neg hk]
    cases hg : m.fs[k.toNat]? with
    | none => rfl
    | some g =>
      dsimp only
      unfold withF
      rw [hE]
      cases layR g.n v with
      | none => rfl
      | some f =>
        dsimp only
        unfold withR
        rw [List.set_eq_take_append_cons_drop, if_pos (lt_of_get hg)]
theorem with_many {m : Msg} {fs : List Fld} {n : Nat} (h : fs.length ≤ n) : (withR m fs).1.fs.length ≤ n := by
  unfold withR
  split
  · exact Nat.zero_le _
  · exact h
theorem ahead_many {m : Msg} {nm v : List UInt8} {A : Msg × Nat} (h : A = aheadR m nm v) {n : Nat} (hn : m.fs.length ≤ n) : A.1.fs.length ≤ n + 1 := by
  rw [h]
  unfold aheadR
  cases layR nm v with
  | none => exact Nat.zero_le _
  | some f => exact with_many (by simp only [List.length_cons]; omega)
theorem put_many {m : Msg} {k : Int} {v : List UInt8} {A : Msg × Nat} (h : A = putR m k v) {n : Nat} (hn : m.fs.length ≤ n) : A.1.fs.length ≤ n := by
  rw [h]
  unfold putR
  split
  · exact Nat.zero_le _
  · split
    · exact Nat.zero_le _
    · split
      · exact Nat.zero_le _
      · exact with_many (by rw [List.length_set]; exact hn)
abbrev tCh : TypeId := 26

end Go.Vf.S

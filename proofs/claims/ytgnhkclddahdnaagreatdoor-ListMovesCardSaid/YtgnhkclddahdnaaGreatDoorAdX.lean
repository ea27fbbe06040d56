import Derived.Test.YtgnhkclddahdnaaGreatDoorAdY
import Derived.Test.YtgnhkclddahdnaaGreatDoorBnB
import Derived.Lib.SmallJoins
/- Addresses that are handed in. -/
namespace Go.Vf.S
open Go Go.Vf Go.Proofs Go.Proofs.YtgnhkclddahdnaaGreatDoor Go.RowKit Go.ChangeShapes Go.WideShapes
set_option linter.unusedVariables false
set_option linter.unusedSimpArgs false
set_option maxRecDepth 100000

theorem lst2 {α : Type} : ∀ {l : List α}, l.length = 2 → ∃ a b, l = [a, b]
  | [a, b], _ => ⟨a, b, rfl⟩
section
variable {H : Type} {enc : TypeId × Value → H} {w : World} {base : Nat} {spare : Nat → Bool} {held : Bool} {b0 : Nat} {v : Value} {d : DataW H} {p : List MemPlace} {n : Nat}

theorem trod_Ad {cs : List Value} {x : DataW H × List MemPlace} (h : DataW.trod enc pr w base spare held n tAd cs = some x) : ∃ a e, cs = [str a, str e] ∧ x.2 = [] := by
  obtain ⟨y0, y1, m, rfl, hl, h0, h1⟩ := trod_struct2 Tryz.underlying27 h
  obtain ⟨⟨⟨a⟩⟩, e0, rfl, _⟩ := DataW.trod_string Tryz.underlying9 h0
  obtain ⟨⟨⟨e⟩⟩, e1, rfl, _⟩ := DataW.trod_string Tryz.underlying9 h1
  have c2 : pr.cellsOf tAd = 2 := by kernel_rfl
  have c1 : pr.cellsOf 9 = 1 := by kernel_rfl
  rw [c2] at hl
  rw [c1] at e0 e1
  obtain ⟨u, w, rfl⟩ := lst2 hl
  refine ⟨a, e, ?_, rfl⟩
  have q0 : u = str a := (List.cons.inj e0).1
  have q1 : w = str e := (List.cons.inj e1).1
  rw [q0, q1]

end
end Go.Vf.S

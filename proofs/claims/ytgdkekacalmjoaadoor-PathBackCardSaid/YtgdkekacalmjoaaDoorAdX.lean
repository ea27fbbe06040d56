import Derived.Test.YtgdkekacalmjoaaDoorAdY
import Derived.Test.YtgdkekacalmjoaaDoorBnB
import Derived.Lib.SmallJoins
/- Addresses that are handed in. -/
namespace Go.Vf.S
open Go Go.Vf Go.Proofs Go.Proofs.YtgdkekacalmjoaaDoor Go.RowKit Go.ChangeShapes Go.WideShapes
set_option linter.unusedVariables false
set_option linter.unusedSimpArgs false
set_option maxRecDepth 100000

theorem lst2 {α : Type} : ∀ {l : List α}, l.length = 2 → ∃ a b, l = [a, b]
  | [a, b], _ => ⟨a, b, rfl⟩
theorem lst3 {α : Type} : ∀ {l : List α}, l.length = 3 → ∃ a b c, l = [a, b, c]
  | [a, b, c], _ => ⟨a, b, c, rfl⟩
theorem lst6 {α : Type} : ∀ {l : List α}, l.length = 6 → ∃ a b c d e f, l = [a, b, c, d, e, f]
  | [a, b, c, d, e, f], _ => ⟨a, b, c, d, e, f, rfl⟩

theorem adV_rel {ρ : Ren} (a d : List UInt8) : VRel ρ (adV a d) (adV a d) := plain_rel (v := adV a d) rfl

section
variable {H : Type} {enc : TypeId × Value → H} {w : World} {base : Nat} {spare : Nat → Bool} {held : Bool} {b0 : Nat} {v : Value} {d : DataW H} {p : List MemPlace} {n : Nat}

theorem trod_Ad {cs : List Value} {x : DataW H × List MemPlace} (h : DataW.trod enc pr w base spare held n tAd cs = some x) : ∃ a e, cs = [str a, str e] ∧ x.2 = [] := by
  obtain ⟨y0, y1, m, rfl, hl, h0, h1⟩ := trod_struct2 Tryd.underlying24 h
  obtain ⟨⟨⟨a⟩⟩, e0, rfl, _⟩ := DataW.trod_string Tryd.underlying9 h0
  obtain ⟨⟨⟨e⟩⟩, e1, rfl, _⟩ := DataW.trod_string Tryd.underlying9 h1
  have c2 : pr.cellsOf tAd = 2 := by kernel_rfl
  have c1 : pr.cellsOf 9 = 1 := by kernel_rfl
  rw [c2] at hl
  rw [c1] at e0 e1
  obtain ⟨u, w, rfl⟩ := lst2 hl
  refine ⟨a, e, ?_, rfl⟩
  have q0 : u = str a := (List.cons.inj e0).1
  have q1 : w = str e := (List.cons.inj e1).1
  rw [q0, q1]

theorem open_Ad (hv : Value.okWide pr w .any b0 tAd v) (h : DataW.Trod enc pr w base spare held tAd v d p) : ∃ a e, v = adV a e ∧ p = [] := by
  obtain ⟨cs, rfl, hsz⟩ := okWide_struct Tryd.underlying24 hv
  obtain ⟨fuel, hf⟩ := h
  obtain ⟨a, e, h1, h2⟩ := trod_Ad hf
  refine ⟨a, e, ?_, h2⟩
  obtain ⟨cs⟩ := cs
  have h1 : cs = [str a, str e] := h1
  rw [h1]

end
end Go.Vf.S

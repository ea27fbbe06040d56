import Derived.Test.YtipfcmgecdgfhaaDoorAdY
import Derived.Test.YtipfcmgecdgfhaaDoorAdF
import Derived.Lib.SmallJoins
/- Addresses that are handed in. -/
namespace Go.Vf.S
open Go Go.Vf Go.Proofs Go.Proofs.YtipfcmgecdgfhaaDoor Go.RowKit Go.ChangeShapes Go.WideShapes
set_option linter.unusedVariables false
set_option linter.unusedSimpArgs false
set_option maxRecDepth 100000

theorem lst2 {α : Type} : ∀ {l : List α}, l.length = 2 → ∃ a b, l = [a, b]
  | [a, b], _ => ⟨a, b, rfl⟩
theorem lst3 {α : Type} : ∀ {l : List α}, l.length = 3 → ∃ a b c, l = [a, b, c]
  | [a, b, c], _ => ⟨a, b, c, rfl⟩
theorem lst6 {α : Type} : ∀ {l : List α}, l.length = 6 → ∃ a b c d e f, l = [a, b, c, d, e, f]
  | [a, b, c, d, e, f], _ => ⟨a, b, c, d, e, f, rfl⟩

theorem adV_rel {ρ : Ren} (a d : List UInt8) : VRel ρ (adV a d) (adV a d) := plain_rel (v := adV a d) rfl

theorem un_3A : pr.underlying 44 = some (.array 3 tAd) := by kernel_rfl

section
variable {H : Type} {enc : TypeId × Value → H} {w : World} {base : Nat} {spare : Nat → Bool} {held : Bool} {b0 : Nat} {v : Value} {d : DataW H} {p : List MemPlace} {n : Nat}

theorem trod_Ad {cs : List Value} {x : DataW H × List MemPlace} (h : DataW.trod enc pr w base spare held n tAd cs = some x) : ∃ a e, cs = [str a, str e] ∧ x.2 = [] := by
  obtain ⟨y0, y1, m, rfl, hl, h0, h1⟩ := trod_struct2 Tryd.underlying23 h
  obtain ⟨⟨⟨a⟩⟩, e0, rfl, _⟩ := DataW.trod_string Tryd.underlying9 h0
  obtain ⟨⟨⟨e⟩⟩, e1, rfl, _⟩ := DataW.trod_string Tryd.underlying9 h1
  have c2 : pr.cellsOf tAd = 2 := by kernel_rfl
  have c1 : pr.cellsOf 9 = 1 := by kernel_rfl
  rw [c2] at hl
  rw [c1] at e0 e1
  obtain ⟨u, w, rfl⟩ := lst2 hl
  refine ⟨a, e, ?_, rfl⟩
  have q0 : u = str a := (List.cons.inj e0).1
  have q1 : w = str e := (List.cons.inj e1).1
  rw [q0, q1]

theorem open_Ad (hv : Value.okWide pr w .any b0 tAd v) (h : DataW.Trod enc pr w base spare held tAd v d p) : ∃ a e, v = adV a e ∧ p = [] := by
  obtain ⟨cs, rfl, hsz⟩ := okWide_struct Tryd.underlying23 hv
  obtain ⟨fuel, hf⟩ := h
  obtain ⟨a, e, h1, h2⟩ := trod_Ad hf
  refine ⟨a, e, ?_, h2⟩
  obtain ⟨cs⟩ := cs
  have h1 : cs = [str a, str e] := h1
  rw [h1]

theorem open_3Ad (hv : Value.okWide pr w .any b0 44 v) (h : DataW.Trod enc pr w base spare held 44 v d p) : ∃ x y z : List UInt8 × List UInt8, v = .agg ⟨[str x.1, str x.2, str y.1, str y.2, str z.1, str z.2]⟩ ∧ p = [] := by
  have hcs : ∃ cs, v = .agg cs ∧ cs.size = pr.cellsOf 44 := by
    unfold Value.okWide at hv
    rw [un_3A] at hv
    obtain ⟨cs, h1, h2, _⟩ := hv
    exact ⟨cs, h1, h2⟩
  obtain ⟨cs, rfl, hsz⟩ := hcs
  obtain ⟨fuel, hf⟩ := h
  obtain ⟨xs, m, _, hx, hl, hlen, hel⟩ := DataW.trod_array un_3A hf
  obtain ⟨cs⟩ := cs
  have c2 : pr.cellsOf tAd = 2 := by kernel_rfl
  have c6 : pr.cellsOf 44 = 6 := by kernel_rfl
  rw [c6] at hsz
  obtain ⟨u0, u1, u2, u3, u4, u5, rfl⟩ := lst6 (l := cs) hsz
  obtain ⟨x0, x1, x2, rfl⟩ := lst3 hlen
  have g0 := hel 0 (by omega)
  have g1 := hel 1 (by omega)
  have g2 := hel 2 (by omega)
  rw [c2] at g0 g1 g2
  obtain ⟨a0, e0, q0, r0⟩ := trod_Ad (x := x0) g0
  obtain ⟨a1, e1, q1, r1⟩ := trod_Ad (x := x1) g1
  obtain ⟨a2, e2, q2, r2⟩ := trod_Ad (x := x2) g2
  have q0 : [u0, u1] = [str a0, str e0] := q0
  have q1 : [u2, u3] = [str a1, str e1] := q1
  have q2 : [u4, u5] = [str a2, str e2] := q2
  cases q0
  cases q1
  cases q2
  refine ⟨(a0, e0), (a1, e1), (a2, e2), rfl, ?_⟩
  have hp : p = [x0, x1, x2].flatMap (·.2) := (Prod.mk.inj hx).2
  rw [hp]
  simp [r0, r1, r2]
end
end Go.Vf.S

import Derived.Test.YthhcngkblihliaaDoorHdU
import Derived.Test.YthhcngkblihliaaDoorHdMe
/- A change that is handed in. -/
namespace Go.Vf.S
open Go Go.Vf Go.Proofs Go.Proofs.YthhcngkblihliaaDoor Go.RowKit Go.ChangeShapes Go.WideShapes
set_option linter.unusedVariables false
set_option linter.unusedSimpArgs false
set_option maxRecDepth 100000

section
variable {H : Type} {enc : TypeId × Value → H} {W : World} {b0 : Nat} {v : Value} {d : DataW H} {p : List MemPlace}
theorem open_Ch (hv : Value.okWide pr W .any b0 tCh v) (h : DataW.Trod enc pr W 0 (fun _ => true) true tCh v d p) : ∃ (a b : List UInt8) (k : Int), v = .agg ⟨[str a, str b, .int .i64 k]⟩ ∧ p = [] := by
  obtain ⟨cs, rfl, hsz⟩ := okWide_struct Tryd.underlying26 hv
  obtain ⟨fuel, hf⟩ := h
  obtain ⟨y0, y1, y2, n, hx, hl, h0, h1, h2⟩ := Go.Deep.trod_struct3 Tryd.underlying26 hf
  obtain ⟨cs⟩ := cs
  have c3 : pr.cellsOf tCh = 3 := by kernel_rfl
  have ci : pr.cellsOf 3 = 1 := by kernel_rfl
  have c1 : pr.cellsOf 9 = 1 := by kernel_rfl
  have hl3 : cs.length = 3 := by rw [c3] at hsz; exact hsz
  obtain ⟨u0, u1, u2, rfl⟩ := l3_is hl3
  rw [c1] at h0 h1
  obtain ⟨⟨⟨a⟩⟩, e0, rfl, _⟩ := DataW.trod_string Tryd.underlying9 h0
  obtain ⟨⟨⟨b⟩⟩, e1, rfl, _⟩ := DataW.trod_string Tryd.underlying9 h1
  obtain ⟨c, e2, rfl, hw⟩ := DataW.trod_int Tryd.underlying3 h2
  have e0 : [u0] = [Value.string ⟨⟨a⟩⟩] := e0
  have e1 : [u1] = [Value.string ⟨⟨b⟩⟩] := e1
  have e2 : [u2] = [Value.int .i64 c] := e2
  cases e0
  cases e1
  cases e2
  exact ⟨a, b, c, rfl, (Prod.mk.inj hx).2⟩
end
end Go.Vf.S

import Derived.Test.YthhcngkblihliaaDoorHdU
import Derived.Test.YthhcngkblihliaaDoorHdMl
/- Texts that are handed in; numbers of 64 bits. -/
namespace Go.Vf.S
open Go Go.Vf Go.Proofs Go.Proofs.YthhcngkblihliaaDoor Go.RowKit Go.ChangeShapes Go.WideShapes
set_option linter.unusedVariables false
set_option linter.unusedSimpArgs false
set_option maxRecDepth 100000
abbrev tWs : TypeId := 52
theorem u64_in {z : Int} (h : (Lit.int .u64 z).wf = true) : 0 ≤ z ∧ z ≤ 18446744073709551615 := by
  simpa [Lit.wf, IntKind.min, IntKind.max, IntKind.signed, IntKind.bits] using h
section
variable {H : Type} {enc : TypeId × Value → H} {W : World} {b0 : Nat} {v : Value} {d : DataW H} {p : List MemPlace}

theorem trod_St {n : Nat} {cs : List Value} {x : DataW H × List MemPlace} (h : DataW.trod enc pr W 0 (fun _ => true) true n tS cs = some x) : ∃ l : List UInt8, cs = [str l] := by
  obtain ⟨⟨⟨a⟩⟩, e0, _⟩ := DataW.trod_string Tryd.underlying9 h
  exact ⟨a, e0⟩
theorem flat_strV (ls : List (List UInt8)) : ls.flatMap (fun l => [str l]) = strV ls := by
  unfold strV
  induction ls with
  | nil => rfl
  | cons a ls ih => rw [List.flatMap_cons, ih]; rfl
theorem open_Ws {m : Int} (hv : Value.okWide pr W .any b0 tWs v) (h : DataW.Trod enc pr W 0 (fun _ => true) true tWs v d p) (hnf : ∀ b off, MemPlace.cell b off ∈ p → W.frozen? ⟨b, off, none⟩ = false)
    (g1 : GoodB pr W ⟨gMax, 0, 1, 1, false⟩ (.cells [.int .i64 m] 3 false true)) (id : Nat) :
    ∃ (ba : Option Addr) (ls : List (List UInt8)) (e1 : RE), GoodB pr W e1 (.cells (strV ls) tS true true) ∧ (∀ ρ : Ren, ρ id = some e1 → VRel ρ (.slice ba ls.length 0) v) ∧ ls.length ≤ 9223372036854775807 ∧
      ∀ s : SS, id < s.next → lookH s.heap id = some (.cells (strV ls) tS true true) → WsRd s ba ls := by
  obtain ⟨a, len, cap, rfl⟩ := okWide_slice Tryd.underlying52 hv
  obtain ⟨fuel, hf⟩ := h
  have h0 : DataW.trod enc pr W 0 (fun _ => true) true fuel tWs [.slice a len cap] = some (d, p) := hf
  obtain ⟨ba, fs, re, q1, q2, q3, q4⟩ := inner_recs (α := List UInt8) (C := fun l => [str l]) (k := 1) Tryd.underlying52 (by kernel_rfl) (by omega) (by kernel_rfl) (fun _ => rfl) (fun _ => rfl) (fun fuel cs x h => trod_St h) h0 hnf (no_row (t := tS) (k := 1) g1 (by kernel_rfl)) rfl id
  rw [flat_strV] at q1
  refine ⟨ba, fs, re, q1, q2, ?_, fun s hlt hs => ?_⟩
  · have : maxLen = 9223372036854775807 := by kernel_rfl
    omega
  · rcases q4 with ⟨rfl, rfl⟩ | rfl
    · rfl
    · exact ⟨rfl, rfl, hlt, _, _, _, hs⟩
end
end Go.Vf.S

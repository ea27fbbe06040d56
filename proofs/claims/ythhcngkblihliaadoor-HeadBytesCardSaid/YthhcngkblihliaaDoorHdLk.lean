import Derived.Test.YthhcngkblihliaaDoorHdU
import Derived.Test.YthhcngkblihliaaDoorHdLj
/- Lines and a change that are handed in. -/
namespace Go.Vf.S
open Go Go.Vf Go.Proofs Go.Proofs.YthhcngkblihliaaDoor Go.RowKit Go.ChangeShapes Go.WideShapes
set_option linter.unusedVariables false
set_option linter.unusedSimpArgs false
set_option maxRecDepth 100000
abbrev tLw : TypeId := 49
theorem byte_nat {z : Int} (h : (Lit.int .u8 z).wf = true) : ∃ m : Nat, z = (m : Int) ∧ m < 256 := by
  have : 0 ≤ z ∧ z ≤ 255 := by simpa [Lit.wf, IntKind.min, IntKind.max, IntKind.signed, IntKind.bits] using h
  exact ⟨z.toNat, by omega, by omega⟩
section
variable {H : Type} {enc : TypeId × Value → H} {W : World} {b0 : Nat} {v : Value} {d : DataW H} {p : List MemPlace}

theorem trod_Ln {n : Nat} {cs : List Value} {x : DataW H × List MemPlace} (h : DataW.trod enc pr W 0 (fun _ => true) true n tLn cs = some x) : ∃ f : { f : Lin // f.k < 256 }, cs = lnC f.1 := by
  obtain ⟨y0, y1, y2, m, rfl, hl, h0, h1, h2⟩ := Go.Deep.trod_struct3 Tryd.underlying83 h
  obtain ⟨⟨⟨a⟩⟩, e0, rfl, _⟩ := DataW.trod_string Tryd.underlying9 h0
  obtain ⟨⟨⟨b⟩⟩, e1, rfl, _⟩ := DataW.trod_string Tryd.underlying9 h1
  obtain ⟨c, e2, -, hw⟩ := DataW.trod_int Tryd.underlying5 h2
  obtain ⟨k, rfl, hk⟩ := byte_nat hw
  have c3 : pr.cellsOf tLn = 3 := by kernel_rfl
  have c1 : pr.cellsOf 9 = 1 := by kernel_rfl
  rw [c3] at hl
  have cb : pr.cellsOf 5 = 1 := by kernel_rfl
  rw [c1] at e0 e1
  rw [cb] at e2
  obtain ⟨u, w, z, rfl⟩ := l3_is hl
  refine ⟨⟨⟨a, b, k⟩, hk⟩, ?_⟩
  have q0 : u = str a := (List.cons.inj e0).1
  have q1 : w = str b := (List.cons.inj e1).1
  have q2 : z = .int .u8 k := (List.cons.inj e2).1
  rw [q0, q1, q2]
  rfl

theorem open_Ls {m : Int} (hv : Value.okWide pr W .any b0 tLw v) (h : DataW.Trod enc pr W 0 (fun _ => true) true tLw v d p) (hnf : ∀ b off, MemPlace.cell b off ∈ p → W.frozen? ⟨b, off, none⟩ = false)
    (g1 : GoodB pr W ⟨gMax, 0, 1, 1, false⟩ (.cells [.int .i64 m] 3 false true)) (id : Nat) :
    ∃ (ba : Option Addr) (ls : List Lin) (e1 : RE), (∀ x ∈ ls, x.k < 256) ∧ GoodB pr W e1 (.cells (lnsC ls) tLn true true) ∧ (∀ ρ : Ren, ρ id = some e1 → VRel ρ (.slice ba ls.length 0) v) ∧ ls.length ≤ 9223372036854775807 ∧
      ∀ s : SS, id < s.next → lookH s.heap id = some (.cells (lnsC ls) tLn true true) → LnRd s ba ls := by
  obtain ⟨a, len, cap, rfl⟩ := okWide_slice Tryd.underlying49 hv
  obtain ⟨fuel, hf⟩ := h
  have h0 : DataW.trod enc pr W 0 (fun _ => true) true fuel tLw [.slice a len cap] = some (d, p) := hf
  obtain ⟨ba, fs, re, q1, q2, q3, q4⟩ := inner_recs (α := { f : Lin // f.k < 256 }) (C := fun f => lnC f.1) (k := 3) Tryd.underlying49 (by kernel_rfl) (by omega) (by kernel_rfl) (fun _ => rfl) (fun _ => rfl) (fun fuel cs x h => trod_Ln h) h0 hnf (no_row (t := tLn) (k := 3) g1 (by kernel_rfl)) rfl id
  have ef : fs.flatMap (fun f => lnC f.1) = lnsC (fs.map Subtype.val) := by unfold lnsC; rw [List.flatMap_map]
  rw [ef] at q1
  refine ⟨ba, fs.map Subtype.val, re, fun x hx => ?_, q1, fun ρ hρ => ?_, ?_, fun s hlt hs => ?_⟩
  · obtain ⟨y, -, rfl⟩ := List.mem_map.1 hx
    exact y.2
  · rw [List.length_map]
    exact q2 ρ hρ
  · have : maxLen = 9223372036854775807 := by kernel_rfl
    rw [List.length_map]
    omega
  · rcases q4 with ⟨rfl, rfl⟩ | rfl
    · rfl
    · exact ⟨rfl, rfl, hlt, _, _, _, hs⟩

theorem open_Pu (hv : Value.okWide pr W .any b0 tPu v) (h : DataW.Trod enc pr W 0 (fun _ => true) true tPu v d p) : ∃ (pv : List UInt8) (k : Nat) (ea : Bool), k < 256 ∧ v = .agg ⟨[str pv, .int .u8 k, .bool ea]⟩ ∧ p = [] := by
  obtain ⟨cs, rfl, hsz⟩ := okWide_struct Tryd.underlying51 hv
  obtain ⟨fuel, hf⟩ := h
  obtain ⟨y0, y1, y2, n, hx, hl, h0, h1, h2⟩ := Go.Deep.trod_struct3 Tryd.underlying51 hf
  obtain ⟨cs⟩ := cs
  have c3 : pr.cellsOf tPu = 3 := by kernel_rfl
  have cb : pr.cellsOf 5 = 1 := by kernel_rfl
  have c1 : pr.cellsOf 9 = 1 := by kernel_rfl
  have hl3 : cs.length = 3 := by rw [c3] at hsz; exact hsz
  obtain ⟨u0, u1, u2, rfl⟩ := l3_is hl3
  rw [c1] at h0
  rw [cb] at h1
  obtain ⟨⟨⟨a⟩⟩, e0, rfl, _⟩ := DataW.trod_string Tryd.underlying9 h0
  obtain ⟨c, e1, rfl, hw⟩ := DataW.trod_int Tryd.underlying5 h1
  obtain ⟨ea, e2, rfl⟩ := DataW.trod_bool Tryd.underlying4 h2
  obtain ⟨k, rfl, hk⟩ := byte_nat hw
  have e0 : [u0] = [Value.string ⟨⟨a⟩⟩] := e0
  have e1 : [u1] = [Value.int .u8 (k : Int)] := e1
  have e2 : [u2] = [Value.bool ea] := e2
  cases e0
  cases e1
  cases e2
  exact ⟨a, k, ea, hk, rfl, (Prod.mk.inj hx).2⟩
end
end Go.Vf.S

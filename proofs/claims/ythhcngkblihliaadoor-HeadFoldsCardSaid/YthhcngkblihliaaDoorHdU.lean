import Derived.Test.YthhcngkblihliaaDoorLbM
import Derived.Test.YthhcngkblihliaaDoorBnH
import Derived.Test.YthhcngkblihliaaDoorEngAt
import Derived.Deep.Strs
/- Messages that are handed in. -/
namespace Go.Vf.S
open Go Go.Vf Go.Proofs Go.Proofs.YthhcngkblihliaaDoor Go.RowKit Go.ChangeShapes Go.WideShapes
set_option linter.unusedVariables false
set_option linter.unusedSimpArgs false
set_option maxRecDepth 100000

theorem l3_is {α : Type} : ∀ {l : List α}, l.length = 3 → ∃ a b c, l = [a, b, c]
  | [a, b, c], _ => ⟨a, b, c, rfl⟩

/-- An empty row that no one reads. -/
theorem no_row {W : World} {m : Int} {t : TypeId} {k : Nat} (g1 : GoodB pr W ⟨gMax, 0, 1, 1, false⟩ (.cells [.int .i64 m] 3 false true)) (hz : (pr.info? t).map (·.size) = some k) : GoodB pr W ⟨gMax, 0, 0, k, true⟩ (.cells [] t true true) := by
  refine ⟨fun ρ => ?_, rfl, g1.2.2⟩
  obtain ⟨h1, rc, lo, hi, t0, h2, -⟩ := g1.1 ρ
  exact ⟨rfl, rc, lo, hi, t0, h2, (fun z => by cases z), fun i hi => absurd hi (Nat.not_lt_zero i), Nat.zero_le _, Nat.le_refl _, hz, fun i v hv => by simp at hv⟩

section
variable {H : Type} {enc : TypeId × Value → H} {W : World} {b0 : Nat} {v : Value} {d : DataW H} {p : List MemPlace}

theorem trod_Fl {n : Nat} {cs : List Value} {x : DataW H × List MemPlace} (h : DataW.trod enc pr W 0 (fun _ => true) true n tFl cs = some x) : ∃ f : Fld, cs = flC f := by
  obtain ⟨y0, y1, y2, m, rfl, hl, h0, h1, h2⟩ := Go.Deep.trod_struct3 Tryd.underlying33 h
  obtain ⟨⟨⟨a⟩⟩, e0, rfl, _⟩ := DataW.trod_string Tryd.underlying9 h0
  obtain ⟨⟨⟨b⟩⟩, e1, rfl, _⟩ := DataW.trod_string Tryd.underlying9 h1
  obtain ⟨⟨⟨c⟩⟩, e2, rfl, _⟩ := DataW.trod_string Tryd.underlying9 h2
  have c3 : pr.cellsOf tFl = 3 := by kernel_rfl
  have c1 : pr.cellsOf 9 = 1 := by kernel_rfl
  rw [c3] at hl
  rw [c1] at e0 e1 e2
  obtain ⟨u, w, z, rfl⟩ := l3_is hl
  refine ⟨⟨a, b, c⟩, ?_⟩
  have q0 : u = str a := (List.cons.inj e0).1
  have q1 : w = str b := (List.cons.inj e1).1
  have q2 : z = str c := (List.cons.inj e2).1
  rw [q0, q1, q2]
  rfl

theorem open_Ms {m : Int} (hv : Value.okWide pr W .any b0 tMs v) (h : DataW.Trod enc pr W 0 (fun _ => true) true tMs v d p) (hnf : ∀ b off, MemPlace.cell b off ∈ p → W.frozen? ⟨b, off, none⟩ = false)
    (g1 : GoodB pr W ⟨gMax, 0, 1, 1, false⟩ (.cells [.int .i64 m] 3 false true)) (id : Nat) :
    ∃ (ba : Option Addr) (m : Msg) (e1 : RE), GoodB pr W e1 (.cells (fsC m.fs) tFl true true) ∧ (∀ ρ : Ren, ρ id = some e1 → VRel ρ (msV m ba 0) v) ∧ m.fs.length ≤ 9223372036854775807 ∧
      ∀ s : SS, id < s.next → lookH s.heap id = some (.cells (fsC m.fs) tFl true true) → FsRd s ba m.fs := by
  obtain ⟨cs, rfl, hsz⟩ := okWide_struct Tryd.underlying24 hv
  obtain ⟨fuel, hf⟩ := h
  obtain ⟨y0, y1, y2, n, hx, hl, h0, h1, h2⟩ := Go.Deep.trod_struct3 Tryd.underlying24 hf
  obtain ⟨cs⟩ := cs
  have c3 : pr.cellsOf tMs = 3 := by kernel_rfl
  have cb : pr.cellsOf 4 = 1 := by kernel_rfl
  have cl : pr.cellsOf 22 = 1 := by kernel_rfl
  have c1 : pr.cellsOf 9 = 1 := by kernel_rfl
  have hl3 : cs.length = 3 := by rw [c3] at hsz; exact hsz
  obtain ⟨u0, u1, u2, rfl⟩ := l3_is hl3
  rw [cl] at h0
  rw [c1] at h1
  rw [cb] at h2
  obtain ⟨⟨⟨bd⟩⟩, e1, rfl, _⟩ := DataW.trod_string Tryd.underlying9 h1
  obtain ⟨ea, e2, rfl⟩ := DataW.trod_bool Tryd.underlying4 h2
  have e1 : [u1] = [Value.string ⟨⟨bd⟩⟩] := e1
  have e2 : [u2] = [Value.bool ea] := e2
  cases e1
  cases e2
  have hp : p = (y0.2 ++ ([] ++ []) : List MemPlace) := (Prod.mk.inj hx).2
  have h0 : DataW.trod enc pr W 0 (fun _ => true) true n 22 [u0] = some y0 := h0
  obtain ⟨ba, fs, re, q1, q2, q3, q4⟩ := inner_recs (C := flC) (k := 3) Tryd.underlying22 (by kernel_rfl) (by omega) (by kernel_rfl) (fun _ => rfl) (fun _ => rfl) (fun fuel cs x h => trod_Fl h) h0 (fun b off q => hnf b off (by rw [hp]; simpa using q)) (no_row (t := tFl) (k := 3) g1 (by kernel_rfl)) rfl id
  refine ⟨ba, ⟨fs, bd, ea⟩, re, q1, fun ρ hρ => ?_, by
    have : maxLen = 9223372036854775807 := by kernel_rfl
    dsimp only; omega, fun s hlt hs => ?_⟩
  · have := q2 ρ hρ
    refine .agg rfl fun i v v' hi hi' => ?_
    match i, hi, hi' with
    | 0, hi, hi' => cases hi; cases hi'; exact this
    | 1, hi, hi' => cases hi; cases hi'; exact .string _
    | 2, hi, hi' => cases hi; cases hi'; exact .bool _
    | i + 3, hi, hi' => simp [msC] at hi
  · rcases q4 with ⟨rfl, rfl⟩ | rfl
    · rfl
    · exact ⟨rfl, rfl, hlt, _, _, _, _, [], hs, by rw [List.append_nil]⟩
end
end Go.Vf.S

import Derived.Test.YtgnhkclddahdnaaGreatDoorLmB
import Derived.Test.YtgnhkclddahdnaaGreatDoorLiW
import Derived.Test.YtgnhkclddahdnaaGreatDoorAdX
import Derived.Test.YtgnhkclddahdnaaGreatDoorEngAt
/- Rows of addresses that are handed in, and that one knows to be read only. -/
namespace Go.Vf.S
open Go Go.Vf Go.Proofs Go.Proofs.YtgnhkclddahdnaaGreatDoor Go.RowKit Go.ChangeShapes Go.WideShapes
set_option linter.unusedVariables false
set_option linter.unusedSimpArgs false
set_option maxRecDepth 100000
section
variable {H : Type} {enc : TypeId × Value → H} {W : World} {b0 : Nat} {v : Value} {d : DataW H} {p : List MemPlace}
theorem open_AdsH (hv : Value.okWide pr W .any b0 tAs v) (h : DataW.Trod enc pr W 0 (fun _ => true) true tAs v d p) (hnf : ∀ b off, MemPlace.cell b off ∈ p → W.frozen? ⟨b, off, none⟩ = false)
    (g0 : GoodB pr W ⟨gAt, 0, 128, 1, false⟩ gA) (id : Nat) :
    ∃ (ba : Option Addr) (ls : List AA) (e1 : RE), GoodB pr W e1 (.cells (adsC ls) tAd true true) ∧ (∀ ρ : Ren, ρ id = some e1 → VRel ρ (.slice ba ls.length 0) v) ∧ ls.length ≤ 9223372036854775807 ∧
      ∀ s : SS, id < s.next → lookH s.heap id = some (.cells (adsC ls) tAd true true) → AdH s ba ls := by
  obtain ⟨a, len, cap, rfl⟩ := okWide_slice Tryz.underlying22 hv
  obtain ⟨fuel, hf⟩ := h
  have h0 : DataW.trod enc pr W 0 (fun _ => true) true fuel tAs [.slice a len cap] = some (d, p) := hf
  obtain ⟨ba, fs, re, q1, q2, q3, q4⟩ := inner_recs (α := AA) (C := adC) (k := 2) Tryz.underlying22 (by kernel_rfl) (by omega) (by kernel_rfl) (fun _ => rfl) (fun _ => rfl) (fun fuel cs x h => by
    obtain ⟨a, e, hc, -⟩ := trod_Ad h
    exact ⟨(a, e), hc⟩) h0 hnf (no_rowW (t := tAd) (k := 2) g0 (by kernel_rfl)) rfl id
  refine ⟨ba, fs, re, q1, q2, ?_, fun s hlt hs => ?_⟩
  · have : maxLen = 9223372036854775807 := by kernel_rfl
    omega
  · rcases q4 with ⟨rfl, rfl⟩ | rfl
    · rfl
    · exact ⟨rfl, rfl, hlt, hs⟩
end
end Go.Vf.S

import Derived.Test.YtafdbfpclolpkaaHaW
import Derived.Test.YtafdbfpclolpkaaHaZ
import Derived.Test.YtafdbfpclolpkaaHaN
import Derived.Test.YtafdbfpclolpkaaEngP
import Derived.Test.YtafdbfpclolpkaaRows
import Derived.WalkKit
/- The law HashKnown of the row's Go text answers true, whatever it is given, and leaves what was there as it was: no condition. -/
namespace Go.Proofs.Ytafdbfpclolpkaa.hashKnown
open Go Go.Vf Go.Vf.S Go.ChangeShapes Go.WideShapes Go.ChangeAt Go.RowKit
set_option linter.unusedVariables false
set_option linter.unusedSimpArgs false
set_option maxRecDepth 100000 in
theorem lifted (os : Os) (started : os.Started) (H : Type) (enc : TypeId × Value → H) :
    ReturnsInHanded {} Try.checked os n_law10_HashKnown .any (Rows.hashKnownSpec.pre6 enc Try.prog Try.f6 Rows.hashKnownRow.domain false) (Rows.hashKnownSpec.post enc Try.prog Try.f6 false true false false) := by
  refine returnsInHanded_of_change (C := Try.checked) own10 started (by kernel_rfl) Try.func6
    (ChangeSpec.witness6 (enc := enc) (C := Try.checked) false ⟨#[], #[], []⟩ 8 (by kernel_rfl) (by kernel_rfl) (by kernel_rfl) (by kernel_rfl)) ?_
  intro W base args ds gs before hval0 hW hcnd _
  have hW' := hW
  obtain ⟨p, q, hA0, hV, rfl, hfz, hnd⟩ := hW
  have hA : DataW.TrodAll enc Try.prog W 0 (fun _ => true) true Try.f6.params.toList args.toList ds p := hA0
  rw [Try.params6] at hA
  obtain ⟨rfl, rfl⟩ := trodVars_none hV
  obtain ⟨rfl, rfl, rfl⟩ := trodAll_none hA
  simp only [List.append_nil] at hW'
  obtain ⟨HR, HF, HL, HS, Hf⟩ := (GoodL.nil (P := Try.prog) (W := W) 0).start
  have fin := CallW.answer (hknown_w Hf) rfl HR HF (args' := [])
    (.nil _)
  refine fin.mono fun e W' ⟨he, hg⟩ => ?_
  subst he
  exact ⟨_, rfl, Vf.post_fresh (pa := []) (pv := []) hW' hg (fun _ _ _ => (trodAll_cons_mk (shut_bool Try.underlying4 _) trodAll_mk0)) (fun _ _ => trodAll_mk0) (fun _ _ => rfl) rfl
    (ok_one (by kernel_rfl) rfl (okWide_bool_mk Try.underlying4 _))⟩
theorem proved : Rows.HashKnownSaid :=
  OpenClaim.holds_of_wide n_law10_HashKnown Try.f6 rfl rfl rfl rfl rfl rfl rfl ⟨rfl, rfl, rfl, rfl, rfl⟩ rfl rfl rfl rfl rfl (by kernel_rfl) Try.func6 (by kernel_rfl)
    (of_decide_eq_true (by kernel_rfl)) (by unfold Func.isWrapper; first | (rw [if_pos (by decide +kernel)]; kernel_rfl) | (rw [if_neg (by decide +kernel)]; exact ⟨rfl, rfl⟩))
    (fun os started H enc _ => lifted os started H enc)
#print axioms proved
end Go.Proofs.Ytafdbfpclolpkaa.hashKnown

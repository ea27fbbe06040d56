import Derived.Test.YtioildcpkcijkaaDoorLgN
import Derived.Test.YtioildcpkcijkaaDoorLgT
import Derived.Test.YtioildcpkcijkaaDoorEngP
import Derived.Test.YtioildcpkcijkaaDoorTie
import Derived.Test.YtioildcpkcijkaaDoorCards
import Derived.SevenTiedAt
/- The law LogKnown of the row's Go text answers true and leaves what was there as it was; its one listed variable is laid as the program's text lays it. -/
namespace Go.Proofs.YtioildcpkcijkaaDoor.logKnown
open Go Go.Vf Go.Vf.S Go.ChangeShapes Go.WideShapes Go.ChangeAt Go.RowKit
set_option linter.unusedVariables false
set_option linter.unusedSimpArgs false
set_option maxRecDepth 100000 in
theorem lifted (os : Os) (started : os.Started) (H : Type) (enc : TypeId × Value → H) :
    ReturnsInHanded {} Tryd.checked os n_law03_LogKnown .any (fun w args => (Rows.logKnownSpec.pre enc Tryd.prog Tryd.f7 Rows.logKnownRow.domain false w args ∧ laidMetH Tryd.prog laidL w) ∧ sizedMet enc Tryd.prog Tryd.f7 (OpenSpec.ofChange Rows.logKnownSpec) false w args)
      (Rows.logKnownSpec.post enc Tryd.prog Tryd.f7 false true false false) := by
  refine returnsInHanded_of_change_and (C := Tryd.checked) (X := fun w _ => laidMetH Tryd.prog laidL w) (fun _ _ _ hh h => h.of_heap hh) own started (by kernel_rfl) Tryd.func7
    (ChangeSpec.witness_shaped (enc := enc) (C := Tryd.checked) (os := os) (X := fun w _ => laidMetH Tryd.prog laidL w) false (World.laidAll Tryd.prog os laidL) #[] 8 (World.laidAll_os _ _ _)
      (World.shaped_of_ZipB (by kernel_rfl) (by kernel_rfl)) (by kernel_rfl) (by kernel_rfl) (by kernel_rfl)
      (by rw [MakeChecks.laidMetH_plain _ _ _ (by kernel_rfl)]; exact laidMet_laidAll _ (by kernel_rfl) (by kernel_rfl))) ?_
  intro W base args ds gs before hval0 hW hc _ hL _
  have hW' := hW
  obtain ⟨p, q, hA0, hV, rfl, hfz, hnd⟩ := hW
  have hA : DataW.TrodAll enc Tryd.prog W 0 (fun _ => true) true Tryd.f7.params.toList args.toList ds p := hA0
  rw [Tryd.params7] at hA
  obtain ⟨rfl, rfl, rfl⟩ := trodAll_none hA
  obtain ⟨rfl, rfl⟩ := trodVars_none hV
  simp only [List.append_nil] at hW'
  have g0 := steps_good hL
  obtain ⟨HR, HF⟩ := startS_rel (P := Tryd.prog) (W := W) (bs := [(⟨0, 0, 16, 1, false⟩, gB)]) (gl := 1) (fun i e b h => by
    match i, h with
    | 0, h => cases h; exact ⟨g0.1 _, g0.2.1, g0.2.2⟩
    | i + 1, h => simp at h) (fun g hg => by
    obtain rfl : g = 0 := by omega
    exact ⟨_, _, rfl, rfl, rfl⟩)
  have fin := CallW.answer (known_w ⟨rfl, rfl, Nat.le_refl _, startS_fine _ _⟩) rfl HR HF (args' := []) (.nil _)
  refine fin.mono fun e W' ⟨he, hg⟩ => ?_
  subst he
  exact ⟨_, rfl, Vf.post_fresh (pa := []) (pv := []) hW' hg (fun _ _ _ => (trodAll_cons_mk (shut_bool Tryd.underlying4 _) trodAll_mk0)) (fun _ _ => trodAll_mk0) (fun _ _ => rfl) rfl
    (ok_one (by kernel_rfl) rfl (okWide_bool_mk Tryd.underlying4 _))⟩
theorem holds : Rows.LogKnownSaid :=
  OpenClaim.holds_of_wide n_law03_LogKnown Tryd.f7 rfl rfl rfl rfl rfl rfl rfl ⟨rfl, rfl, rfl, rfl, rfl⟩ rfl rfl rfl rfl rfl (by kernel_rfl) Tryd.func7 (by kernel_rfl)
    (of_decide_eq_true (by kernel_rfl)) (by unfold Func.isWrapper; first | (rw [if_pos (by decide +kernel)]; kernel_rfl) | (rw [if_neg (by decide +kernel)]; exact ⟨rfl, rfl⟩))
    (fun os started H enc _ => lifted os started H enc)
theorem proved : Rows.LogKnownCardSaid :=
  Claim7.holds_tied_plain_at .later [] [.data] true _ false holds (fun _ h => by cases h) (by kernel_rfl) (fun _ h => by cases h) logKnown_row_tie rfl ⟨rfl, rfl⟩ (by kernel_rfl) rfl
    (fun f fn hf hfn => by
      obtain rfl : f = n_law03_LogKnown := Option.some.inj ((show Tryd.prog.funcNamed "postrider/postriderlaw03.LogKnown" = some n_law03_LogKnown by kernel_rfl).symm.trans hf) |>.symm
      obtain rfl : fn = Tryd.f7 := (Option.some.inj (Tryd.func7.symm.trans hfn)).symm
      exact ⟨by kernel_rfl, fun j t ht => by
        rw [Tryd.params7] at ht
        simp at ht⟩)
    (by kernel_rfl)
#print axioms proved
end Go.Proofs.YtioildcpkcijkaaDoor.logKnown

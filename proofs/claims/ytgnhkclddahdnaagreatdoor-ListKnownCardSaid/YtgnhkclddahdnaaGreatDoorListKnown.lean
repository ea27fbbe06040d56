import Derived.Test.YtgnhkclddahdnaaGreatDoorLkA
import Derived.Test.YtgnhkclddahdnaaGreatDoorLbU
import Derived.Test.YtgnhkclddahdnaaGreatDoorEngP
import Derived.Test.YtgnhkclddahdnaaGreatDoorTie
import Derived.Test.YtgnhkclddahdnaaGreatDoorCards
import Derived.SevenTiedAt
/- The law ListKnown of the row's Go text answers true, whatever it is given, and leaves what was there as it was; its listed variables are laid as the program's text lays them. -/
namespace Go.Proofs.YtgnhkclddahdnaaGreatDoor.listKnown
open Go Go.Vf Go.Vf.S Go.ChangeShapes Go.WideShapes Go.ChangeAt Go.RowKit
set_option linter.unusedVariables false
set_option linter.unusedSimpArgs false
set_option maxRecDepth 100000 in
theorem lifted (os : Os) (started : os.Started) (H : Type) (enc : TypeId × Value → H) :
    ReturnsInHanded {} Tryz.checked os n_law08_ListKnown .any (fun w args => (Rows.listKnownSpec.pre enc Tryz.prog Tryz.f5 Rows.listKnownRow.domain false w args ∧ laidMetH Tryz.prog laidL3 w) ∧ sizedMet enc Tryz.prog Tryz.f5 (OpenSpec.ofChange Rows.listKnownSpec) false w args)
      (Rows.listKnownSpec.post enc Tryz.prog Tryz.f5 false true false false) := by
  refine hand_shaped (C := Tryz.checked) (X := fun w _ => laidMetH Tryz.prog laidL3 w) (fun _ _ _ hh h => h.of_heap hh) own started (by kernel_rfl) Tryz.func5
    (ChangeSpec.witness_shaped (enc := enc) (C := Tryz.checked) (os := os) (X := fun w _ => laidMetH Tryz.prog laidL3 w) false (World.laidAll Tryz.prog os laidL3) #[] 8 (World.laidAll_os _ _ _)
      (World.shaped_of_ZipB (by kernel_rfl) (by kernel_rfl)) (by kernel_rfl) (by kernel_rfl) (by kernel_rfl)
      (by rw [MakeChecks.laidMetH_plain _ _ _ (by kernel_rfl)]; exact laidMet_laidAll _ (by kernel_rfl) (by kernel_rfl))) ?_
  intro W base args ds gs before hval0 hW hL hsh
  have hval : ∀ (j : Nat) t v, Tryz.f5.params[j]? = some t → args[j]? = some v → Value.okWide Tryz.prog W .any base t v := hval0
  have hW' := hW
  obtain ⟨p, q, hA0, hV, rfl, hfz, hnd⟩ := hW
  have hA : DataW.TrodAll enc Tryz.prog W 0 (fun _ => true) true Tryz.f5.params.toList args.toList ds p := hA0
  have hA1 := hA0
  rw [Tryz.params5] at hA hval
  obtain ⟨rfl, rfl⟩ := trodVars_none hV
  obtain ⟨rfl, rfl, rfl⟩ := trodAll_none hA
  have tabs := tabs_laid3 hL
  have g0 := atoms_good hL
  obtain ⟨HR, HF⟩ := startU_rel g0 (fi_good hsh tabs) (ac_good hsh tabs)
  have fin := CallW.answer (lknown_w (s := startU) startU_Gb startU_fine) rfl HR HF (args' := [])
    (.nil _)
  refine fin.mono fun e W' ⟨he, hg⟩ => ?_
  subst he
  exact ⟨_, rfl, Vf.post_fresh (pa := []) (pv := []) hW' hg (fun _ _ _ => trodAll_cons_mk (shut_bool Tryz.underlying4 _) trodAll_mk0)
    (fun _ _ => trodAll_mk0) (fun _ _ => rfl) rfl (ok_one (by kernel_rfl) rfl (okWide_bool_mk Tryz.underlying4 _))⟩
theorem holds : Rows.ListKnownSaid :=
  OpenClaim.holds_of_wide n_law08_ListKnown Tryz.f5 rfl rfl rfl rfl rfl rfl rfl ⟨rfl, rfl, rfl, rfl, rfl⟩ rfl rfl rfl rfl rfl (by kernel_rfl) Tryz.func5 (by kernel_rfl)
    (of_decide_eq_true (by kernel_rfl)) (by unfold Func.isWrapper; first | (rw [if_pos (by decide +kernel)]; kernel_rfl) | (rw [if_neg (by decide +kernel)]; exact ⟨rfl, rfl⟩))
    (fun os started H enc _ => lifted os started H enc)
theorem proved : Rows.ListKnownCardSaid :=
  Claim7.holds_tied_plain_at .later [] [.data, .data, .pinned] true _ false holds (fun _ h => by cases h) (by kernel_rfl) (fun _ h => by cases h) listKnown_row_tie rfl ⟨rfl, rfl⟩ (by kernel_rfl) rfl
    (fun f fn hf hfn => by
      obtain rfl : f = n_law08_ListKnown := Option.some.inj ((show Tryz.prog.funcNamed "postrider/postriderlaw08.ListKnown" = some n_law08_ListKnown by kernel_rfl).symm.trans hf) |>.symm
      obtain rfl : fn = Tryz.f5 := (Option.some.inj (Tryz.func5.symm.trans hfn)).symm
      exact ⟨by kernel_rfl, fun j t ht => by
        rw [Tryz.params5] at ht
        simp at ht⟩)
    (by kernel_rfl)
#print axioms proved
end Go.Proofs.YtgnhkclddahdnaaGreatDoor.listKnown

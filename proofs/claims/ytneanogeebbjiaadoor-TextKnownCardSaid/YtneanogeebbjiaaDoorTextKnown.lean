/- The law TextKnown of the row's Go text answers true, whatever it is given, and leaves what was there as it was; its listed variables are laid as the program's text lays them. -/
import Derived.Test.YtneanogeebbjiaaDoorTxR
import Derived.Test.YtneanogeebbjiaaDoorTxY
import Derived.Test.YtneanogeebbjiaaDoorEngP
import Derived.Test.YtneanogeebbjiaaDoorTie
import Derived.Test.YtneanogeebbjiaaDoorCards
import Derived.SevenTiedAt
namespace Go.Proofs.YtneanogeebbjiaaDoor.textKnown
open Go Go.Vf Go.Vf.S Go.ChangeShapes Go.WideShapes Go.ChangeAt Go.RowKit
set_option linter.unusedVariables false
set_option linter.unusedSimpArgs false
set_option maxRecDepth 100000 in
theorem lifted (os : Os) (started : os.Started) (H : Type) (enc : TypeId × Value → H) :
    ReturnsInHanded {} Tryd.checked os n_law04_TextKnown .any (fun w args => (Rows.textKnownSpec.pre enc Tryd.prog Tryd.f8 Rows.textKnownRow.domain false w args ∧ laidMetH Tryd.prog laidL3 w) ∧ sizedMet enc Tryd.prog Tryd.f8 (OpenSpec.ofChange Rows.textKnownSpec) false w args)
      (Rows.textKnownSpec.post enc Tryd.prog Tryd.f8 false true false false) := by
  refine returnsInHanded_of_change_and (C := Tryd.checked) (X := fun w _ => laidMetH Tryd.prog laidL3 w) (fun _ _ _ hh h => h.of_heap hh) own started (by kernel_rfl) Tryd.func8
    (ChangeSpec.witness_shaped (enc := enc) (C := Tryd.checked) (os := os) (X := fun w _ => laidMetH Tryd.prog laidL3 w) false (World.laidAll Tryd.prog os laidL3) #[] 8 (World.laidAll_os _ _ _)
      (World.shaped_of_ZipB (by kernel_rfl) (by kernel_rfl)) (by kernel_rfl) (by kernel_rfl) (by kernel_rfl)
      (by rw [MakeChecks.laidMetH_plain _ _ _ (by kernel_rfl)]; exact laidMet_laidAll _ (by kernel_rfl) (by kernel_rfl))) ?_
  intro W base args ds gs before hval0 hW hc _ hL _
  have hval : ∀ (j : Nat) t v, Tryd.f8.params[j]? = some t → args[j]? = some v → Value.okWide Tryd.prog W .any base t v := hval0
  have hW' := hW
  obtain ⟨p, q, hA0, hV, rfl, hfz, hnd⟩ := hW
  have hA : DataW.TrodAll enc Tryd.prog W 0 (fun _ => true) true Tryd.f8.params.toList args.toList ds p := hA0
  have hA1 := hA0
  rw [Tryd.params8] at hA hval
  obtain ⟨rfl, rfl⟩ := trodVars_none hV
  obtain ⟨rfl, rfl, rfl⟩ := trodAll_none hA
  have g0 := atoms_good hL
  obtain ⟨HR, HF⟩ := startS_rel (P := Tryd.prog) (W := W) (bs := [(⟨0, 0, 128, 1, false⟩, gA)]) (gl := 1) (fun i e b h => by
    match i, h with
    | 0, h => cases h; exact ⟨g0.1 _, g0.2.1, g0.2.2⟩
    | i + 1, h => simp at h) (fun g hg => by
    obtain rfl : g = 0 := by omega
    exact ⟨_, _, rfl, rfl, rfl⟩)
  have hF : Fine (startS [((⟨0, 0, 128, 1, false⟩ : RE), gA)] 1) := fun id hid => by
    have hid' : 1 ≤ id := hid
    exact lkN (by omega) rfl
  have fin := CallW.answer (known_w (s := startS [((⟨0, 0, 128, 1, false⟩ : RE), gA)] 1) ⟨Nat.le_refl 1, Nat.le_refl 1, rfl⟩ hF) rfl HR HF (args' := []) (.nil _)
  refine fin.mono fun e W' ⟨he, hg⟩ => ?_
  subst he
  exact ⟨_, rfl, Vf.post_fresh (pa := []) (pv := []) hW' hg (fun _ _ _ => trodAll_cons_mk (shut_bool Tryd.underlying4 _) trodAll_mk0)
    (fun _ _ => trodAll_mk0) (fun _ _ => rfl) rfl (ok_one (by kernel_rfl) rfl (okWide_bool_mk Tryd.underlying4 _))⟩
theorem holds : Rows.TextKnownSaid :=
  OpenClaim.holds_of_wide n_law04_TextKnown Tryd.f8 rfl rfl rfl rfl rfl rfl rfl ⟨rfl, rfl, rfl, rfl, rfl⟩ rfl rfl rfl rfl rfl (by kernel_rfl) Tryd.func8 (by kernel_rfl)
    (of_decide_eq_true (by kernel_rfl)) (by unfold Func.isWrapper; first | (rw [if_pos (by decide +kernel)]; kernel_rfl) | (rw [if_neg (by decide +kernel)]; exact ⟨rfl, rfl⟩))
    (fun os started H enc _ => lifted os started H enc)
theorem proved : Rows.TextKnownCardSaid :=
  Claim7.holds_tied_plain_at .later [] [.data, .data, .pinned] true _ false holds (fun _ h => by cases h) (by kernel_rfl) (fun _ h => by cases h) textKnown_row_tie rfl ⟨rfl, rfl⟩ (by kernel_rfl) rfl
    (fun f fn hf hfn => by
      obtain rfl : f = n_law04_TextKnown := Option.some.inj ((show Tryd.prog.funcNamed "postrider/postriderlaw04.TextKnown" = some n_law04_TextKnown by kernel_rfl).symm.trans hf) |>.symm
      obtain rfl : fn = Tryd.f8 := (Option.some.inj (Tryd.func8.symm.trans hfn)).symm
      exact ⟨by kernel_rfl, fun j t ht => by
        rw [Tryd.params8] at ht
        simp at ht⟩)
    (by kernel_rfl)
#print axioms proved
end Go.Proofs.YtneanogeebbjiaaDoor.textKnown

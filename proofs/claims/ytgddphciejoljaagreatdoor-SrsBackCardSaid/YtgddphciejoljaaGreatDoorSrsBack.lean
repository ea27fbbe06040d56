import Derived.Test.YtgddphciejoljaaGreatDoorMg5
import Derived.Test.YtgddphciejoljaaGreatDoorEngP
import Derived.Test.YtgddphciejoljaaGreatDoorTie
import Derived.Test.YtgddphciejoljaaGreatDoorCards
import Derived.SevenTiedAt
/- The law SrsBack of the row's Go text answers true, whatever it is given, and leaves what was there as it was; its listed variables are laid as the program's text lays them. -/
namespace Go.Proofs.YtgddphciejoljaaGreatDoor.srsBack
open Go Go.Vf Go.Vf.S Go.ChangeShapes Go.WideShapes Go.ChangeAt Go.RowKit
set_option linter.unusedVariables false
set_option linter.unusedSimpArgs false
set_option maxRecDepth 100000 in
theorem lifted (os : Os) (started : os.Started) (H : Type) (enc : TypeId × Value → H) :
    ReturnsInHanded {} Tryz.checked os n_law12_SrsBack .any (fun w args => (Rows.srsBackSpec.pre enc Tryz.prog Tryz.f3 Rows.srsBackRow.domain false w args ∧ laidMetH Tryz.prog laidD w) ∧ sizedMet enc Tryz.prog Tryz.f3 (OpenSpec.ofChange Rows.srsBackSpec) false w args)
      (Rows.srsBackSpec.post enc Tryz.prog Tryz.f3 false true false false) := by
  refine hand_shaped (C := Tryz.checked) (X := fun w _ => laidMetH Tryz.prog laidD w) (fun _ _ _ hh h => h.of_heap hh) own started (by kernel_rfl) Tryz.func3
    (ChangeSpec.witness_shaped (enc := enc) (C := Tryz.checked) (os := os) (X := fun w _ => laidMetH Tryz.prog laidD w) false (World.laidAll Tryz.prog os laidD) #[.agg #[.string ⟨#[]⟩, .string ⟨#[]⟩], .string ⟨#[]⟩, .int .u16 0, .int .u16 0] 8 (World.laidAll_os _ _ _)
      (World.shaped_of_ZipB (by kernel_rfl) (by kernel_rfl)) (by kernel_rfl) (by kernel_rfl) (by kernel_rfl)
      (by rw [MakeChecks.laidMetH_plain _ _ _ (by kernel_rfl)]; exact laidMet_laidAll _ (by kernel_rfl) (by kernel_rfl))) ?_
  intro W base args ds gs before hval0 hW hL hsh
  have hval : ∀ (j : Nat) t v, Tryz.f3.params[j]? = some t → args[j]? = some v → Value.okWide Tryz.prog W .any base t v := hval0
  have hW' := hW
  obtain ⟨p, q, hA0, hV, rfl, hfz, hnd⟩ := hW
  have hA : DataW.TrodAll enc Tryz.prog W 0 (fun _ => true) true Tryz.f3.params.toList args.toList ds p := hA0
  have hA1 := hA0
  rw [Tryz.params3] at hA hval
  obtain ⟨rfl, rfl⟩ := trodVars_none hV
  obtain ⟨v1, vs1, d1, ds1, p1, q1, ea1, rfl, rfl, t1, hA⟩ := trodAll_cons hA
  obtain ⟨v2, vs2, d2, ds2, p2, q2, rfl, rfl, rfl, t2, hA⟩ := trodAll_cons hA
  obtain ⟨v3, vs3, d3, ds3, p3, q3, rfl, rfl, rfl, t3, hA⟩ := trodAll_cons hA
  obtain ⟨v4, vs4, d4, ds4, p4, q4, rfl, rfl, rfl, t4, hA⟩ := trodAll_cons hA
  obtain ⟨rfl, rfl, rfl⟩ := trodAll_nil hA
  obtain ⟨args⟩ := args
  simp only at ea1
  subst ea1
  have hlt : ∀ x ∈ p1 ++ (p2 ++ (p3 ++ (p4 ++ []))) ++ [], x.block < W.heap.size := fun x hx => hW'.lt x hx
  obtain ⟨a1, b1, rfl, rfl⟩ := open_Ad (hval 0 23 v1 rfl rfl) t1
  obtain ⟨⟨⟨a2⟩⟩, rfl, rfl, rfl, _⟩ := ChangeMaps.open_string Tryz.underlying9 (hval 1 9 v2 rfl rfl) t2
  obtain ⟨x3, rfl, rfl, rfl, w3⟩ := open_int Tryz.underlying24 (hval 2 24 v3 rfl rfl) t3
  obtain ⟨a3, rfl, h3⟩ := u16_nat w3
  obtain ⟨x4, rfl, rfl, rfl, w4⟩ := open_int Tryz.underlying24 (hval 3 24 v4 rfl rfl) t4
  obtain ⟨a4, rfl, h4⟩ := u16_nat w4
  obtain ⟨mx, hT⟩ := tabsRD hL hsh
  obtain ⟨HR, HF⟩ := startR_rel hT
  have fin := CallW.answer (lsback_w (s := startR mx) (startR_Gk _) (startR_Gv _) (startR_fine _) h3 h4) rfl HR HF (args' := [adV a1 b1, .string ⟨⟨a2⟩⟩, .int .u16 (a3 : Nat), .int .u16 (a4 : Nat)])
    (.cons (adV_rel _ _) (.cons (.string _) (.cons (.int _ _) (.cons (.int _ _) (.nil _)))))
  refine fin.mono fun e W' ⟨he, hg⟩ => ?_
  subst he
  exact ⟨_, rfl, Vf.post_fresh (pa := [] ++ ([] ++ ([] ++ ([] ++ [])))) (pv := []) hW' hg (fun _ _ _ => trodAll_cons_mk (shut_bool Tryz.underlying4 _) trodAll_mk0)
    (fun sp hsp => all_stays laidOut hg (by kernel_rfl) hA1 (fun x hx => hsp x (by simp at hx)) (fun x hx => hlt x (by simp at hx))) (fun _ _ => rfl) rfl (ok_one (by kernel_rfl) rfl (okWide_bool_mk Tryz.underlying4 _))⟩
theorem holds : Rows.SrsBackSaid :=
  OpenClaim.holds_of_wide n_law12_SrsBack Tryz.f3 rfl rfl rfl rfl rfl rfl rfl ⟨rfl, rfl, rfl, rfl, rfl⟩ rfl rfl rfl rfl rfl (by kernel_rfl) Tryz.func3 (by kernel_rfl)
    (of_decide_eq_true (by kernel_rfl)) (by unfold Func.isWrapper; first | (rw [if_pos (by decide +kernel)]; kernel_rfl) | (rw [if_neg (by decide +kernel)]; exact ⟨rfl, rfl⟩))
    (fun os started H enc _ => lifted os started H enc)
theorem proved : Rows.SrsBackCardSaid :=
  Claim7.holds_tied_plain_at .later [] [.data, .wider, .pinned, .pinned] true _ false holds (fun _ h => by cases h) (by kernel_rfl) (fun _ h => by cases h) srsBack_row_tie rfl ⟨rfl, rfl⟩ (by kernel_rfl) rfl
    (fun f fn hf hfn => by
      obtain rfl : f = n_law12_SrsBack := Option.some.inj ((show Tryz.prog.funcNamed "postrider/postriderlaw12.SrsBack" = some n_law12_SrsBack by kernel_rfl).symm.trans hf) |>.symm
      obtain rfl : fn = Tryz.f3 := (Option.some.inj (Tryz.func3.symm.trans hfn)).symm
      exact ⟨by kernel_rfl, fun j t ht => by
        rw [Tryz.params3] at ht
        have : ∀ t ∈ [23, 9, 24, 24], Tryz.prog.wantsStandIn t = false := by decide +kernel
        exact this t (by have := List.mem_of_getElem? (by simpa using ht); simpa using this)⟩)
    (by kernel_rfl)
#print axioms proved
end Go.Proofs.YtgddphciejoljaaGreatDoor.srsBack

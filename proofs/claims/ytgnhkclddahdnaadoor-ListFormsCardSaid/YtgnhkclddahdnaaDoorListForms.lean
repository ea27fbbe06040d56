import Derived.Test.YtgnhkclddahdnaaDoorLiV
import Derived.Test.YtgnhkclddahdnaaDoorLiW
import Derived.Test.YtgnhkclddahdnaaDoorEngP
import Derived.Test.YtgnhkclddahdnaaDoorTie
import Derived.Test.YtgnhkclddahdnaaDoorCards
import Derived.SevenTiedAt
/- The law ListForms of the row's Go text answers true, whatever it is given, and leaves what was there as it was; its listed variables are laid as the program's text lays them. -/
namespace Go.Proofs.YtgnhkclddahdnaaDoor.listForms
open Go Go.Vf Go.Vf.S Go.ChangeShapes Go.WideShapes Go.ChangeAt Go.RowKit
set_option linter.unusedVariables false
set_option linter.unusedSimpArgs false
set_option maxRecDepth 100000 in
theorem lifted (os : Os) (started : os.Started) (H : Type) (enc : TypeId × Value → H) :
    ReturnsInHanded {} Tryd.checked os n_law08_ListForms .any (fun w args => (Rows.listFormsSpec.pre enc Tryd.prog Tryd.f4 Rows.listFormsRow.domain false w args ∧ laidMetH Tryd.prog laidL3 w) ∧ sizedMet enc Tryd.prog Tryd.f4 (OpenSpec.ofChange Rows.listFormsSpec) false w args)
      (Rows.listFormsSpec.post enc Tryd.prog Tryd.f4 false true false false) := by
  refine hand_shaped (C := Tryd.checked) (X := fun w _ => laidMetH Tryd.prog laidL3 w) (fun _ _ _ hh h => h.of_heap hh) own started (by kernel_rfl) Tryd.func4
    (ChangeSpec.witness_shaped (enc := enc) (C := Tryd.checked) (os := os) (X := fun w _ => laidMetH Tryd.prog laidL3 w) false (World.laidAll Tryd.prog os laidL3) #[.slice none 0 0, .int .u32 0] 8 (World.laidAll_os _ _ _)
      (World.shaped_of_ZipB (by kernel_rfl) (by kernel_rfl)) (by kernel_rfl) (by kernel_rfl) (by kernel_rfl)
      (by rw [MakeChecks.laidMetH_plain _ _ _ (by kernel_rfl)]; exact laidMet_laidAll _ (by kernel_rfl) (by kernel_rfl))) ?_
  intro W base args ds gs before hval0 hW hL hsh
  have hval : ∀ (j : Nat) t v, Tryd.f4.params[j]? = some t → args[j]? = some v → Value.okWide Tryd.prog W .any base t v := hval0
  have hW' := hW
  obtain ⟨p, q, hA0, hV, rfl, hfz, hnd⟩ := hW
  have hA : DataW.TrodAll enc Tryd.prog W 0 (fun _ => true) true Tryd.f4.params.toList args.toList ds p := hA0
  have hA1 := hA0
  rw [Tryd.params4] at hA hval
  obtain ⟨rfl, rfl⟩ := trodVars_none hV
  obtain ⟨v1, vs1, d1, ds1, p1, q1, ea1, rfl, rfl, t1, hA⟩ := trodAll_cons hA
  obtain ⟨v2, vs2, d2, ds2, p2, q2, rfl, rfl, rfl, t2, hA⟩ := trodAll_cons hA
  obtain ⟨rfl, rfl, rfl⟩ := trodAll_nil hA
  obtain ⟨args⟩ := args
  simp only at ea1
  subst ea1
  have hlt : ∀ x ∈ p1 ++ (p2 ++ []) ++ [], x.block < W.heap.size := fun x hx => hW'.lt x hx
  have tabs := tabs_laid3 hL
  have g0 := atoms_good hL
  obtain ⟨ba1, m1, e1, h1, r1, l1, o1⟩ := open_Ads (hval 0 38 v1 rfl rfl) t1 (fun b off h => hfz b off (by simp [h])) g0 gTopU
  obtain ⟨x2, rfl, rfl, rfl, w2⟩ := open_int Tryd.underlying39 (hval 1 39 v2 rfl rfl) t2
  obtain ⟨a2, rfl, h2⟩ := u32_in w2
  obtain ⟨HR, HF, Hid⟩ := startW_rel g0 (fi_good hsh tabs) (ac_good hsh tabs) h1
  have fin := CallW.answer (lforms_w (s := startW e1 (.cells (adsC m1) tAd true true)) (A := ba1) (ca := 0) (ls := m1) (f := a2) (startW_Gb _ _) (startW_Gv _ _) (startW_fine _ _) (o1 _ (by rw [startW_next]; exact Nat.lt_succ_self _) startW_last) l1 h2) rfl HR HF (args' := [v1, .int .u32 (a2 : Nat)])
    (.cons (r1 _ Hid) (.cons (.int _ _) (.nil _)))
  refine fin.mono fun e W' ⟨he, hg⟩ => ?_
  subst he
  exact ⟨_, rfl, Vf.post_fresh (pa := p1 ++ ([] ++ [])) (pv := []) hW' hg (fun _ _ _ => trodAll_cons_mk (shut_bool Tryd.underlying4 _) trodAll_mk0)
    (fun sp hsp => all_stays laidOut hg (by kernel_rfl) hA1 (fun x hx => hsp x (by simpa using hx)) (fun x hx => hlt x (by simpa using hx))) (fun _ _ => rfl) rfl (ok_one (by kernel_rfl) rfl (okWide_bool_mk Tryd.underlying4 _))⟩
theorem holds : Rows.ListFormsSaid :=
  OpenClaim.holds_of_wide n_law08_ListForms Tryd.f4 rfl rfl rfl rfl rfl rfl rfl ⟨rfl, rfl, rfl, rfl, rfl⟩ rfl rfl rfl rfl rfl (by kernel_rfl) Tryd.func4 (by kernel_rfl)
    (of_decide_eq_true (by kernel_rfl)) (by unfold Func.isWrapper; first | (rw [if_pos (by decide +kernel)]; kernel_rfl) | (rw [if_neg (by decide +kernel)]; exact ⟨rfl, rfl⟩))
    (fun os started H enc _ => lifted os started H enc)
theorem proved : Rows.ListFormsCardSaid :=
  Claim7.holds_tied_plain_at .later [] [.data, .data, .pinned] true _ false holds (fun _ h => by cases h) (by kernel_rfl) (fun _ h => by cases h) listForms_row_tie rfl ⟨rfl, rfl⟩ (by kernel_rfl) rfl
    (fun f fn hf hfn => by
      obtain rfl : f = n_law08_ListForms := Option.some.inj ((show Tryd.prog.funcNamed "postrider/postriderlaw08.ListForms" = some n_law08_ListForms by kernel_rfl).symm.trans hf) |>.symm
      obtain rfl : fn = Tryd.f4 := (Option.some.inj (Tryd.func4.symm.trans hfn)).symm
      exact ⟨by kernel_rfl, fun j t ht => by
        rw [Tryd.params4] at ht
        have : ∀ t ∈ [38, 39], Tryd.prog.wantsStandIn t = false := by decide +kernel
        exact this t (by have := List.mem_of_getElem? (by simpa using ht); simpa using this)⟩)
    (by kernel_rfl)
#print axioms proved
end Go.Proofs.YtgnhkclddahdnaaDoor.listForms

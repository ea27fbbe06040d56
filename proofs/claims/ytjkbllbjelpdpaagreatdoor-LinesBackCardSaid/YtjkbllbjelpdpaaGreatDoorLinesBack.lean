import Derived.Test.YtjkbllbjelpdpaaGreatDoorMg5
import Derived.Test.YtjkbllbjelpdpaaGreatDoorEngP
import Derived.Test.YtjkbllbjelpdpaaGreatDoorTie
import Derived.Test.YtjkbllbjelpdpaaGreatDoorCards
import Derived.SevenTiedAt
/- The law LinesBack of the row's Go text answers true, whatever it is given, and leaves what was there as it was; its listed variables are laid as the program's text lays them. -/
namespace Go.Proofs.YtjkbllbjelpdpaaGreatDoor.linesBack
open Go Go.Vf Go.Vf.S Go.ChangeShapes Go.WideShapes Go.ChangeAt Go.RowKit
set_option linter.unusedVariables false
set_option linter.unusedSimpArgs false
set_option maxRecDepth 100000 in
theorem lifted (os : Os) (started : os.Started) (H : Type) (enc : TypeId × Value → H) :
    ReturnsInHanded {} Tryz.checked os n_law13_LinesBack .any (fun w args => (Rows.linesBackSpec.pre enc Tryz.prog Tryz.f3 Rows.linesBackRow.domain false w args ∧ laidMetH Tryz.prog laidN w) ∧ sizedMet enc Tryz.prog Tryz.f3 (OpenSpec.ofChange Rows.linesBackSpec) false w args)
      (Rows.linesBackSpec.post enc Tryz.prog Tryz.f3 false true false false) := by
  refine hand_shaped (C := Tryz.checked) (X := fun w _ => laidMetH Tryz.prog laidN w) (fun _ _ _ hh h => h.of_heap hh) own started (by kernel_rfl) Tryz.func3
    (ChangeSpec.witness_shaped (enc := enc) (C := Tryz.checked) (os := os) (X := fun w _ => laidMetH Tryz.prog laidN w) false (World.laidAll Tryz.prog os laidN) #[.slice none 0 0, .slice none 0 0] 8 (World.laidAll_os _ _ _)
      (World.shaped_of_ZipB (by kernel_rfl) (by kernel_rfl)) (by kernel_rfl) (by kernel_rfl) (by kernel_rfl)
      (by rw [MakeChecks.laidMetH_plain _ _ _ (by kernel_rfl)]; exact laidMet_laidAll _ (by kernel_rfl) (by kernel_rfl))) ?_
  intro W base args ds gs before hval0 hW hL hsh
  have hval : ∀ (j : Nat) t v, Tryz.f3.params[j]? = some t → args[j]? = some v → Value.okWide Tryz.prog W .any base t v := hval0
  have hW' := hW
  obtain ⟨p, q, hA0, hV, rfl, hfz, hnd⟩ := hW
  have hA : DataW.TrodAll enc Tryz.prog W 0 (fun _ => true) true Tryz.f3.params.toList args.toList ds p := hA0
  have hA1 := hA0
  rw [Tryz.params3] at hA hval
  obtain ⟨rfl, rfl⟩ := trodVars_none hV
  obtain ⟨v1, vs1, d1, ds1, p1, q1, ea1, rfl, rfl, t1, hA⟩ := trodAll_cons hA
  obtain ⟨v2, vs2, d2, ds2, p2, q2, rfl, rfl, rfl, t2, hA⟩ := trodAll_cons hA
  obtain ⟨rfl, rfl, rfl⟩ := trodAll_nil hA
  obtain ⟨args⟩ := args
  simp only at ea1
  subst ea1
  have hlt : ∀ x ∈ p1 ++ (p2 ++ []) ++ [], x.block < W.heap.size := fun x hx => hW'.lt x hx
  obtain ⟨mx, gM⟩ := max_good hsh
  obtain ⟨ba1, m1, zs1, g1, r1, o1⟩ := arg_ents (hval 0 22 v1 rfl rfl) t1 (fun b off h => hfz b off (by simp [h])) (gMax + 1)
  obtain ⟨ba2, m2, zs2, g2, r2, o2⟩ := arg_bt (hval 1 23 v2 rfl rfl) t2 (fun b off h => hfz b off (by simp [h])) (gMax + 1 + zs1.length)
  obtain ⟨HR, HF, HM, Hf, HL, HS⟩ := startM_relL (xs := zs1 ++ zs2) gM (g1.app g2)
  have fin := CallW.answer ((back_w (s := (startM mx (zs1 ++ zs2))) (M := ba1) (W := ba2) (cw := 0) (xs := m1) (bt := m2) Hf (o1 _ HS.left).1 (o1 _ HS.left).2 (o2 _ HS.right)).mono fun v s q => q.1) rfl HR HF (args' := [v1, v2])
    (.cons (r1 _ HL.left) (.cons (r2 _ HL.right) (.nil _)))
  refine fin.mono fun e W' ⟨he, hg⟩ => ?_
  subst he
  exact ⟨_, rfl, Vf.post_fresh (pa := p1 ++ (p2 ++ [])) (pv := []) hW' hg (fun _ _ _ => trodAll_cons_mk (shut_bool Tryz.underlying4 _) trodAll_mk0)
    (fun sp hsp => all_stays laidOut hg (by kernel_rfl) hA1 (fun x hx => hsp x (by simpa using hx)) (fun x hx => hlt x (by simpa using hx))) (fun _ _ => rfl) rfl (ok_one (by kernel_rfl) rfl (okWide_bool_mk Tryz.underlying4 _))⟩
theorem holds : Rows.LinesBackSaid :=
  OpenClaim.holds_of_wide n_law13_LinesBack Tryz.f3 rfl rfl rfl rfl rfl rfl rfl ⟨rfl, rfl, rfl, rfl, rfl⟩ rfl rfl rfl rfl rfl (by kernel_rfl) Tryz.func3 (by kernel_rfl)
    (of_decide_eq_true (by kernel_rfl)) (by unfold Func.isWrapper; first | (rw [if_pos (by decide +kernel)]; kernel_rfl) | (rw [if_neg (by decide +kernel)]; exact ⟨rfl, rfl⟩))
    (fun os started H enc _ => lifted os started H enc)
theorem proved : Rows.LinesBackCardSaid :=
  Claim7.holds_tied_plain_at .later [] [.data, .data, .data, .pinned, .pinned] true _ true holds (fun _ h => by cases h) (by kernel_rfl) (fun _ h => by cases h) linesBack_row_tie rfl ⟨rfl, rfl⟩ (by kernel_rfl) rfl
    (fun f fn hf hfn => by
      obtain rfl : f = n_law13_LinesBack := Option.some.inj ((show Tryz.prog.funcNamed "postrider/postriderlaw13.LinesBack" = some n_law13_LinesBack by kernel_rfl).symm.trans hf) |>.symm
      obtain rfl : fn = Tryz.f3 := (Option.some.inj (Tryz.func3.symm.trans hfn)).symm
      exact ⟨by kernel_rfl, fun j t ht => by
        rw [Tryz.params3] at ht
        have : ∀ t ∈ [22, 23], Tryz.prog.wantsStandIn t = false := by decide +kernel
        exact this t (by have := List.mem_of_getElem? (by simpa using ht); simpa using this)⟩)
    (by kernel_rfl)
#print axioms proved
end Go.Proofs.YtjkbllbjelpdpaaGreatDoor.linesBack

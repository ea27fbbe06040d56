import Derived.Test.YtfminjggoaegdaaGreatDoorMg7
import Derived.Test.YtfminjggoaegdaaGreatDoorEngP
import Derived.Test.YtfminjggoaegdaaGreatDoorTie
import Derived.Test.YtfminjggoaegdaaGreatDoorCards
import Derived.SevenTiedAt
namespace Go.Proofs.YtfminjggoaegdaaGreatDoor.aliasLists
open Go Go.Vf Go.Vf.S Go.ChangeShapes Go.WideShapes Go.ChangeAt Go.RowKit
set_option linter.unusedVariables false
set_option linter.unusedSimpArgs false
set_option maxRecDepth 100000 in
theorem lifted (os : Os) (started : os.Started) (H : Type) (enc : TypeId × Value → H) :
  ReturnsInHanded {} Tryz.checked os n_law14_AliasLists .any (fun w args => (Rows.aliasListsSpec.pre enc Tryz.prog Tryz.f4 Rows.aliasListsRow.domain false w args ∧ laidMetH Tryz.prog laid14 w) ∧ sizedMet enc Tryz.prog Tryz.f4 (OpenSpec.ofChange Rows.aliasListsSpec) false w args)
   (Rows.aliasListsSpec.post enc Tryz.prog Tryz.f4 false true false false) := by
 refine hand_shaped (C := Tryz.checked) (X := fun w _ => laidMetH Tryz.prog laid14 w) (fun _ _ _ hh h => h.of_heap hh) own started (by kernel_rfl) Tryz.func4
  (ChangeSpec.witness_shaped (enc := enc) (C := Tryz.checked) (os := os) (X := fun w _ => laidMetH Tryz.prog laid14 w) false (World.laidAll Tryz.prog os laid14) #[.string ⟨#[]⟩, .string ⟨#[]⟩, .slice none 0 0] 8 (World.laidAll_os _ _ _)
   (World.shaped_of_ZipB (by kernel_rfl) (by kernel_rfl)) (by kernel_rfl) (by kernel_rfl) (by kernel_rfl)
   (by rw [MakeChecks.laidMetH_plain _ _ _ (by kernel_rfl)]; exact laidMet_laidAll _ (by kernel_rfl) (by kernel_rfl))) ?_
 intro W base args ds gs before hval0 hW hL hsh
 have hval : ∀ (j : Nat) t v, Tryz.f4.params[j]? = some t → args[j]? = some v → Value.okWide Tryz.prog W .any base t v := hval0
 have hW' := hW
 obtain ⟨p, q, hA0, hV, rfl, hfz, hnd⟩ := hW
 have hA : DataW.TrodAll enc Tryz.prog W 0 (fun _ => true) true Tryz.f4.params.toList args.toList ds p := hA0
 have hA1 := hA0
 rw [Tryz.params4] at hA hval
 obtain ⟨rfl, rfl⟩ := trodVars_none hV
 obtain ⟨v1, vs1, d1, ds1, p1, q1, ea1, rfl, rfl, t1, hA⟩ := trodAll_cons hA
 obtain ⟨v2, vs2, d2, ds2, p2, q2, rfl, rfl, rfl, t2, hA⟩ := trodAll_cons hA
 obtain ⟨v3, vs3, d3, ds3, p3, q3, rfl, rfl, rfl, t3, hA⟩ := trodAll_cons hA
 obtain ⟨rfl, rfl, rfl⟩ := trodAll_nil hA
 obtain ⟨args⟩ := args
 simp only at ea1
 subst ea1
 have hlt : ∀ x ∈ p1 ++ (p2 ++ (p3 ++ [])) ++ [], x.block < W.heap.size := fun x hx => hW'.lt x hx
 have hT := tabs14 hL
 obtain ⟨⟨⟨a1⟩⟩, rfl, rfl, rfl, sz1⟩ := ChangeMaps.open_string Tryz.underlying9 (hval 0 9 v1 rfl rfl) t1
 obtain ⟨⟨⟨a2⟩⟩, rfl, rfl, rfl, sz2⟩ := ChangeMaps.open_string Tryz.underlying9 (hval 1 9 v2 rfl rfl) t2
 obtain ⟨ba3, m3, e3, g3, r3, l3, s3, o3⟩ := open_Tgs (hval 2 35 v3 rfl rfl) t3 (fun b off h => hfz b off (by simp [h])) hT.at_ (gAt + 1)
 obtain ⟨HR, HF, HF0, HG0, Hf, HL, HS⟩ := start14_rel (xs := [(e3, .cells (tgCs m3) tTg true true)]) hT (good_one g3 _)
 have fin := CallW.answer ((show CallW pr n_law14_AliasLists [str a1, str a2, .slice ba3 m3.length 0] (start14 [(e3, .cells (tgCs m3) tTg true true)]) fun v s' => v = .bool true ∧ Chg (start14 [(e3, .cells (tgCs m3) tTg true true)]) s' [] from lists14_w Hf HF0 HG0 (by have h := sz1; rw [max_is14] at h; exact h) (by have h := sz2; rw [max_is14] at h; exact h) (o3 _ (by have := HS.2; simp only [List.length_cons, List.length_nil] at this; omega) (HS.1 0 _ rfl)) (fun t ht => ⟨(s3 t ht).1, (s3 t ht).2.2⟩) l3).mono fun v s q => q.1) rfl HR HF (args' := [.string ⟨⟨a1⟩⟩, .string ⟨⟨a2⟩⟩, v3])
  (.cons (.string _) (.cons (.string _) (.cons (r3 _ (HL 0 _ rfl)) (.nil _))))
 refine fin.mono fun e W' ⟨he, hg⟩ => ?_
 subst he
 exact ⟨_, rfl, Vf.post_fresh (pa := [] ++ ([] ++ (p3 ++ []))) (pv := []) hW' hg (fun _ _ _ => trodAll_cons_mk (shut_bool Tryz.underlying4 _) trodAll_mk0)
  (fun sp hsp => all_stays laidOut hg (by kernel_rfl) hA1 (fun x hx => hsp x (by simpa using hx)) (fun x hx => hlt x (by simpa using hx))) (fun _ _ => rfl) rfl (ok_one (by kernel_rfl) rfl (okWide_bool_mk Tryz.underlying4 _))⟩
theorem holds : Rows.AliasListsSaid :=
 OpenClaim.holds_of_wide n_law14_AliasLists Tryz.f4 rfl rfl rfl rfl rfl rfl rfl ⟨rfl, rfl, rfl, rfl, rfl⟩ rfl rfl rfl rfl rfl (by kernel_rfl) Tryz.func4 (by kernel_rfl)
  (of_decide_eq_true (by kernel_rfl)) (by unfold Func.isWrapper; first | (rw [if_pos (by decide +kernel)]; kernel_rfl) | (rw [if_neg (by decide +kernel)]; exact ⟨rfl, rfl⟩))
  (fun os started H enc _ => lifted os started H enc)
theorem proved : Rows.AliasListsCardSaid :=
 Claim7.holds_tied_plain_at .later [] [.data, .data, .data, .data, .data, .pinned, .pinned] true _ false holds (fun _ h => by cases h) (by kernel_rfl) (fun _ h => by cases h) aliasLists_row_tie rfl ⟨rfl, rfl⟩ (by kernel_rfl) rfl
  (fun f fn hf hfn => by
   obtain rfl : f = n_law14_AliasLists := Option.some.inj ((show Tryz.prog.funcNamed "postrider/postriderlaw14.AliasLists" = some n_law14_AliasLists by kernel_rfl).symm.trans hf) |>.symm
   obtain rfl : fn = Tryz.f4 := (Option.some.inj (Tryz.func4.symm.trans hfn)).symm
   exact ⟨by kernel_rfl, fun j t ht => by
    rw [Tryz.params4] at ht
    have : ∀ t ∈ [9, 9, 35], Tryz.prog.wantsStandIn t = false := by decide +kernel
    exact this t (by have := List.mem_of_getElem? (by simpa using ht); simpa using this)⟩)
  (by kernel_rfl)
#print axioms proved
end Go.Proofs.YtfminjggoaegdaaGreatDoor.aliasLists

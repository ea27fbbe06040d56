import Derived.Test.YtphcpdopfolopaaDoorCoW
import Derived.Test.YtphcpdopfolopaaDoorCoR
import Derived.Test.YtphcpdopfolopaaDoorEngP
import Derived.Test.YtphcpdopfolopaaDoorTie
import Derived.Test.YtphcpdopfolopaaDoorCards
import Derived.SevenTiedAt
/- The law CodingJoins of the row's Go text answers true, whatever it is given, and leaves what was there as it was; its listed variables are laid as the program's text lays them. -/
namespace Go.Proofs.YtphcpdopfolopaaDoor.codingJoins
open Go Go.Vf Go.Vf.S Go.ChangeShapes Go.WideShapes Go.ChangeAt Go.RowKit
set_option linter.unusedVariables false
set_option linter.unusedSimpArgs false
set_option maxRecDepth 100000 in
theorem lifted (os : Os) (started : os.Started) (H : Type) (enc : TypeId × Value → H) :
    ReturnsInHanded {} Tryd.checked os n_law11_CodingJoins .any (fun w args => (Rows.codingJoinsSpec.pre enc Tryd.prog Tryd.f5 Rows.codingJoinsRow.domain false w args ∧ laidMetH Tryd.prog laidC w) ∧ sizedMet enc Tryd.prog Tryd.f5 (OpenSpec.ofChange Rows.codingJoinsSpec) false w args)
      (Rows.codingJoinsSpec.post enc Tryd.prog Tryd.f5 false true false false) := by
  refine hand_shaped (C := Tryd.checked) (X := fun w _ => laidMetH Tryd.prog laidC w) (fun _ _ _ hh h => h.of_heap hh) own started (by kernel_rfl) Tryd.func5
    (ChangeSpec.witness_shaped (enc := enc) (C := Tryd.checked) (os := os) (X := fun w _ => laidMetH Tryd.prog laidC w) false (World.laidAll Tryd.prog os laidC) #[.slice none 0 0, .slice none 0 0, .int .u16 0] 8 (World.laidAll_os _ _ _)
      (World.shaped_of_ZipB (by kernel_rfl) (by kernel_rfl)) (by kernel_rfl) (by kernel_rfl) (by kernel_rfl)
      (by rw [MakeChecks.laidMetH_plain _ _ _ (by kernel_rfl)]; exact laidMet_laidAll _ (by kernel_rfl) (by kernel_rfl))) ?_
  intro W base args ds gs before hval0 hW hL hsh
  have hval : ∀ (j : Nat) t v, Tryd.f5.params[j]? = some t → args[j]? = some v → Value.okWide Tryd.prog W .any base t v := hval0
  have hW' := hW
  obtain ⟨p, q, hA0, hV, rfl, hfz, hnd⟩ := hW
  have hA : DataW.TrodAll enc Tryd.prog W 0 (fun _ => true) true Tryd.f5.params.toList args.toList ds p := hA0
  have hA1 := hA0
  rw [Tryd.params5] at hA hval
  obtain ⟨rfl, rfl⟩ := trodVars_none hV
  obtain ⟨v1, vs1, d1, ds1, p1, q1, ea1, rfl, rfl, t1, hA⟩ := trodAll_cons hA
  obtain ⟨v2, vs2, d2, ds2, p2, q2, rfl, rfl, rfl, t2, hA⟩ := trodAll_cons hA
  obtain ⟨v3, vs3, d3, ds3, p3, q3, rfl, rfl, rfl, t3, hA⟩ := trodAll_cons hA
  obtain ⟨rfl, rfl, rfl⟩ := trodAll_nil hA
  obtain ⟨args⟩ := args
  simp only at ea1
  subst ea1
  have hlt : ∀ x ∈ p1 ++ (p2 ++ (p3 ++ [])) ++ [], x.block < W.heap.size := fun x hx => hW'.lt x hx
  obtain ⟨sb1, l1, xs1, a1a, a1b, a1c⟩ := arg_bs (hval 0 22 v1 rfl rfl) t1 (fun b off h => hfz b off (by simp [h])) (1)
  obtain ⟨sb2, l2, xs2, a2a, a2b, a2c⟩ := arg_bs (hval 1 22 v2 rfl rfl) t2 (fun b off h => hfz b off (by simp [h])) (1 + xs1.length)
  obtain ⟨x3, rfl, rfl, rfl, w3⟩ := open_int Tryd.underlying40 (hval 2 40 v3 rfl rfl) t3
  obtain ⟨a3, rfl, h3⟩ := u16_nat w3
  obtain ⟨HR, HF, HL, HS, HG, Hf⟩ := startC_rel (tabsC hL) (a1a.app a2a)
  have fin := CallW.answer (cjoins_w (s := startS (bsC (xs1 ++ xs2)) 1) HG Hf (a1c _ HS.left) (a2c _ HS.right) h3) rfl HR HF (args' := [v1, v2, .int .u16 (a3 : Nat)])
    (.cons (a1b _ HL.left) (.cons (a2b _ HL.right) (.cons (.int _ _) (.nil _))))
  refine fin.mono fun e W' ⟨he, hg⟩ => ?_
  subst he
  exact ⟨_, rfl, Vf.post_fresh (pa := p1 ++ (p2 ++ ([] ++ []))) (pv := []) hW' hg (fun _ _ _ => trodAll_cons_mk (shut_bool Tryd.underlying4 _) trodAll_mk0)
    (fun sp hsp => all_stays laidOut hg (by kernel_rfl) hA1 (fun x hx => hsp x (by simpa using hx)) (fun x hx => hlt x (by simpa using hx))) (fun _ _ => rfl) rfl (ok_one (by kernel_rfl) rfl (okWide_bool_mk Tryd.underlying4 _))⟩
theorem holds : Rows.CodingJoinsSaid :=
  OpenClaim.holds_of_wide n_law11_CodingJoins Tryd.f5 rfl rfl rfl rfl rfl rfl rfl ⟨rfl, rfl, rfl, rfl, rfl⟩ rfl rfl rfl rfl rfl (by kernel_rfl) Tryd.func5 (by kernel_rfl)
    (of_decide_eq_true (by kernel_rfl)) (by unfold Func.isWrapper; first | (rw [if_pos (by decide +kernel)]; kernel_rfl) | (rw [if_neg (by decide +kernel)]; exact ⟨rfl, rfl⟩))
    (fun os started H enc _ => lifted os started H enc)
theorem proved : Rows.CodingJoinsCardSaid :=
  Claim7.holds_tied_plain_at .later [] [.data, .wider, .pinned] true _ false holds (fun _ h => by cases h) (by kernel_rfl) (fun _ h => by cases h) codingJoins_row_tie rfl ⟨rfl, rfl⟩ (by kernel_rfl) rfl
    (fun f fn hf hfn => by
      obtain rfl : f = n_law11_CodingJoins := Option.some.inj ((show Tryd.prog.funcNamed "postrider/postriderlaw11.CodingJoins" = some n_law11_CodingJoins by kernel_rfl).symm.trans hf) |>.symm
      obtain rfl : fn = Tryd.f5 := (Option.some.inj (Tryd.func5.symm.trans hfn)).symm
      exact ⟨by kernel_rfl, fun j t ht => by
        rw [Tryd.params5] at ht
        have : ∀ t ∈ [22, 22, 40], Tryd.prog.wantsStandIn t = false := by decide +kernel
        exact this t (by have := List.mem_of_getElem? (by simpa using ht); simpa using this)⟩)
    (by kernel_rfl)
#print axioms proved
end Go.Proofs.YtphcpdopfolopaaDoor.codingJoins

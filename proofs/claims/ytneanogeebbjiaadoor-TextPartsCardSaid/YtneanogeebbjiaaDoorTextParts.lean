/- The law TextParts of the row's Go text answers true, whatever it is given, and leaves what was there as it was; its listed variables are laid as the program's text lays them. -/
import Derived.Test.YtneanogeebbjiaaDoorTxV
import Derived.Test.YtneanogeebbjiaaDoorTxY
import Derived.Test.YtneanogeebbjiaaDoorEngP
import Derived.Test.YtneanogeebbjiaaDoorTie
import Derived.Test.YtneanogeebbjiaaDoorCards
import Derived.SevenTiedAt
namespace Go.Proofs.YtneanogeebbjiaaDoor.textParts
open Go Go.Vf Go.Vf.S Go.ChangeShapes Go.WideShapes Go.ChangeAt Go.RowKit
set_option linter.unusedVariables false
set_option linter.unusedSimpArgs false
set_option maxRecDepth 100000 in
theorem lifted (os : Os) (started : os.Started) (H : Type) (enc : TypeId × Value → H) :
    ReturnsInHanded {} Tryd.checked os n_law04_TextParts .any (fun w args => (Rows.textPartsSpec.pre enc Tryd.prog Tryd.f7 Rows.textPartsRow.domain false w args ∧ laidMetH Tryd.prog laidL3 w) ∧ sizedMet enc Tryd.prog Tryd.f7 (OpenSpec.ofChange Rows.textPartsSpec) false w args)
      (Rows.textPartsSpec.post enc Tryd.prog Tryd.f7 false true false false) := by
  refine hand_shaped (C := Tryd.checked) (X := fun w _ => laidMetH Tryd.prog laidL3 w) (fun _ _ _ hh h => h.of_heap hh) own started (by kernel_rfl) Tryd.func7
    (ChangeSpec.witness_shaped (enc := enc) (C := Tryd.checked) (os := os) (X := fun w _ => laidMetH Tryd.prog laidL3 w) false (World.laidAll Tryd.prog os laidL3) #[.string ⟨#[]⟩, .int .u8 0] 8 (World.laidAll_os _ _ _)
      (World.shaped_of_ZipB (by kernel_rfl) (by kernel_rfl)) (by kernel_rfl) (by kernel_rfl) (by kernel_rfl)
      (by rw [MakeChecks.laidMetH_plain _ _ _ (by kernel_rfl)]; exact laidMet_laidAll _ (by kernel_rfl) (by kernel_rfl))) ?_
  intro W base args ds gs before hval0 hW hL hsh
  have hval : ∀ (j : Nat) t v, Tryd.f7.params[j]? = some t → args[j]? = some v → Value.okWide Tryd.prog W .any base t v := hval0
  have hW' := hW
  obtain ⟨p, q, hA0, hV, rfl, hfz, hnd⟩ := hW
  have hA : DataW.TrodAll enc Tryd.prog W 0 (fun _ => true) true Tryd.f7.params.toList args.toList ds p := hA0
  have hA1 := hA0
  rw [Tryd.params7] at hA hval
  obtain ⟨rfl, rfl⟩ := trodVars_none hV
  obtain ⟨v1, vs1, d1, ds1, p1, q1, ea1, rfl, rfl, t1, hA⟩ := trodAll_cons hA
  obtain ⟨v2, vs2, d2, ds2, p2, q2, rfl, rfl, rfl, t2, hA⟩ := trodAll_cons hA
  obtain ⟨rfl, rfl, rfl⟩ := trodAll_nil hA
  obtain ⟨args⟩ := args
  simp only at ea1
  subst ea1
  have hlt : ∀ x ∈ p1 ++ (p2 ++ []) ++ [], x.block < W.heap.size := fun x hx => hW'.lt x hx
  obtain ⟨⟨⟨l⟩⟩, rfl, rfl, rfl, _⟩ := ChangeMaps.open_string Tryd.underlying9 (hval 0 9 v1 rfl rfl) t1
  obtain ⟨x2, rfl, rfl, rfl, w2⟩ := open_int Tryd.underlying5 (hval 1 5 v2 rfl rfl) t2
  obtain ⟨c, rfl⟩ := byte_of_wf w2
  obtain ⟨mx, g1⟩ := max_good hsh
  have g0 := atoms_good hL
  obtain ⟨HR, HF⟩ := startS_rel (P := Tryd.prog) (W := W) (bs := [(⟨0, 0, 128, 1, false⟩, gA), (⟨1, 0, 1, 1, false⟩, .cells [.int .i64 mx] 3 false true)]) (gl := 2) (fun i e b h => by
    match i, h with
    | 0, h => cases h; exact ⟨g0.1 _, g0.2.1, g0.2.2⟩
    | 1, h => cases h; exact ⟨g1.1 _, g1.2.1, g1.2.2⟩
    | i + 2, h => simp at h) (fun g hg => by
    match g, hg with
    | 0, _ => exact ⟨_, _, rfl, rfl, rfl⟩
    | 1, _ => exact ⟨_, _, rfl, rfl, rfl⟩)
  have fin := CallW.answer (parts_w (s := startS [((⟨0, 0, 128, 1, false⟩ : RE), gA), (⟨1, 0, 1, 1, false⟩, .cells [.int .i64 mx] 3 false true)] 2) (l0 := l) (c := c) ⟨rfl, Nat.le_refl 2, rfl, mx, rfl⟩) rfl HR HF (args' := [.string ⟨⟨l⟩⟩, .int .u8 c.toNat])
    (.cons (.string _) (.cons (.int _ _) (.nil _)))
  refine fin.mono fun e W' ⟨he, hg⟩ => ?_
  subst he
  exact ⟨_, rfl, Vf.post_fresh (pa := [] ++ ([] ++ [])) (pv := []) hW' hg (fun _ _ _ => trodAll_cons_mk (shut_bool Tryd.underlying4 _) trodAll_mk0)
    (fun sp hsp => all_stays laidOut hg (by kernel_rfl) hA1 (fun x hx => hsp x (by simp at hx)) (fun x hx => hlt x (by simp at hx))) (fun _ _ => rfl) rfl (ok_one (by kernel_rfl) rfl (okWide_bool_mk Tryd.underlying4 _))⟩
theorem holds : Rows.TextPartsSaid :=
  OpenClaim.holds_of_wide n_law04_TextParts Tryd.f7 rfl rfl rfl rfl rfl rfl rfl ⟨rfl, rfl, rfl, rfl, rfl⟩ rfl rfl rfl rfl rfl (by kernel_rfl) Tryd.func7 (by kernel_rfl)
    (of_decide_eq_true (by kernel_rfl)) (by unfold Func.isWrapper; first | (rw [if_pos (by decide +kernel)]; kernel_rfl) | (rw [if_neg (by decide +kernel)]; exact ⟨rfl, rfl⟩))
    (fun os started H enc _ => lifted os started H enc)
theorem proved : Rows.TextPartsCardSaid :=
  Claim7.holds_tied_plain_at .later [] [.data, .data, .pinned] true _ false holds (fun _ h => by cases h) (by kernel_rfl) (fun _ h => by cases h) textParts_row_tie rfl ⟨rfl, rfl⟩ (by kernel_rfl) rfl
    (fun f fn hf hfn => by
      obtain rfl : f = n_law04_TextParts := Option.some.inj ((show Tryd.prog.funcNamed "postrider/postriderlaw04.TextParts" = some n_law04_TextParts by kernel_rfl).symm.trans hf) |>.symm
      obtain rfl : fn = Tryd.f7 := (Option.some.inj (Tryd.func7.symm.trans hfn)).symm
      exact ⟨by kernel_rfl, fun j t ht => by
        rw [Tryd.params7] at ht
        have : ∀ t ∈ [9, 5], Tryd.prog.wantsStandIn t = false := by decide +kernel
        exact this t (by have := List.mem_of_getElem? (by simpa using ht); simpa using this)⟩)
    (by kernel_rfl)
#print axioms proved
end Go.Proofs.YtneanogeebbjiaaDoor.textParts

/- The law TextBlank of the row's Go text answers true, whatever it is given, and leaves what was there as it was; its listed variables are laid as the program's text lays them. -/
import Derived.Test.YtneanogeebbjiaaDoorTxBf
import Derived.Test.YtneanogeebbjiaaDoorTxY
import Derived.Test.YtneanogeebbjiaaDoorEngP
import Derived.Test.YtneanogeebbjiaaDoorTie
import Derived.Test.YtneanogeebbjiaaDoorCards
import Derived.SevenTiedAt
namespace Go.Proofs.YtneanogeebbjiaaDoor.textBlank
open Go Go.Vf Go.Vf.S Go.ChangeShapes Go.WideShapes Go.ChangeAt Go.RowKit
set_option linter.unusedVariables false
set_option linter.unusedSimpArgs false
set_option maxRecDepth 100000 in
theorem lifted (os : Os) (started : os.Started) (H : Type) (enc : TypeId × Value → H) :
    ReturnsInHanded {} Tryd.checked os n_law04_TextBlank .any (fun w args => (Rows.textBlankSpec.pre enc Tryd.prog Tryd.f6 Rows.textBlankRow.domain false w args ∧ laidMetH Tryd.prog laidL w) ∧ sizedMet enc Tryd.prog Tryd.f6 (OpenSpec.ofChange Rows.textBlankSpec) false w args)
      (Rows.textBlankSpec.post enc Tryd.prog Tryd.f6 false true false false) := by
  refine hand_shaped (C := Tryd.checked) (X := fun w _ => laidMetH Tryd.prog laidL w) (fun _ _ _ hh h => h.of_heap hh) own started (by kernel_rfl) Tryd.func6
    (ChangeSpec.witness_shaped (enc := enc) (C := Tryd.checked) (os := os) (X := fun w _ => laidMetH Tryd.prog laidL w) false (World.laidAll Tryd.prog os laidL) #[.slice none 0 0, .string ⟨#[]⟩, .int .u8 0] 8 (World.laidAll_os _ _ _)
      (World.shaped_of_ZipB (by kernel_rfl) (by kernel_rfl)) (by kernel_rfl) (by kernel_rfl) (by kernel_rfl)
      (by rw [MakeChecks.laidMetH_plain _ _ _ (by kernel_rfl)]; exact laidMet_laidAll _ (by kernel_rfl) (by kernel_rfl))) ?_
  intro W base args ds gs before hval0 hW hL hsh
  have hval : ∀ (j : Nat) t v, Tryd.f6.params[j]? = some t → args[j]? = some v → Value.okWide Tryd.prog W .any base t v := hval0
  have hW' := hW
  obtain ⟨p, q, hA0, hV, rfl, hfz, hnd⟩ := hW
  have hA : DataW.TrodAll enc Tryd.prog W 0 (fun _ => true) true Tryd.f6.params.toList args.toList ds p := hA0
  have hA1 := hA0
  rw [Tryd.params6] at hA hval
  obtain ⟨rfl, rfl⟩ := trodVars_none hV
  obtain ⟨v1, vs1, d1, ds1, p1, q1, ea1, rfl, rfl, t1, hA⟩ := trodAll_cons hA
  obtain ⟨v2, vs2, d2, ds2, p2, q2, rfl, rfl, rfl, t2, hA⟩ := trodAll_cons hA
  obtain ⟨v3, vs3, d3, ds3, p3, q3, rfl, rfl, rfl, t3, hA⟩ := trodAll_cons hA
  obtain ⟨rfl, rfl, rfl⟩ := trodAll_nil hA
  obtain ⟨args⟩ := args
  simp only at ea1
  subst ea1
  have hlt : ∀ x ∈ p1 ++ (p2 ++ (p3 ++ [])) ++ [], x.block < W.heap.size := fun x hx => hW'.lt x hx
  obtain ⟨⟨⟨bl⟩⟩, rfl, rfl, rfl, _⟩ := ChangeMaps.open_string Tryd.underlying9 (hval 1 9 v2 rfl rfl) t2
  obtain ⟨x3, rfl, rfl, rfl, w3⟩ := open_int Tryd.underlying5 (hval 2 5 v3 rfl rfl) t3
  obtain ⟨c, rfl⟩ := byte_of_wf w3
  have tabs := tabs_laid hL
  have g0 := void_good hsh (g := 0) (by decide +kernel) (by kernel_rfl)
  have g1 := void_good hsh (g := 1) (by decide +kernel) (by kernel_rfl)
  have g2 := first_good hsh tabs
  have g3 := acc_good hsh tabs
  have gd : GoodB Tryd.prog W ⟨0, 0, 0, 1, true⟩ (.cells [] 9 true true) := by
    obtain ⟨⟨zero, t⟩, hz⟩ := Option.isSome_iff_exists.1 (show (((begin Tryd.prog (fun _ _ => 0) default).world.heap[0]?).bind Obj.row?).isSome = true by kernel_rfl)
    obtain ⟨⟨cs⟩, hh, _, _⟩ := hsh.1 0 zero t (by decide +kernel) hz
    exact ⟨fun ρ => ⟨rfl, cs, 0, 0, t, hh, (fun z => by cases z), (fun i hi _ => by omega), Nat.zero_le _, Nat.le_refl _, (by kernel_rfl), fun i v hv => by simp at hv⟩, rfl, (Array.getElem?_eq_some_iff.1 hh).1⟩
  obtain ⟨fuel, ht1⟩ := t1
  rw [slice_cells Tryd.underlying27 (hval 0 27 v1 rfl rfl)] at ht1
  obtain ⟨ba, ss, eA, gA4, rA, hmx, hba⟩ := inner_strs Tryd.underlying27 Tryd.underlying9 (by kernel_rfl) ht1 (fun b off h => hfz b off (by simp [h])) gd 4
  rw [strV_of] at gA4
  obtain ⟨HR, HF⟩ := startS_rel (P := Tryd.prog) (W := W) (bs := [(⟨0, 0, 0, 1, false⟩, .cells [] 4 false true), (⟨1, 0, 0, 1, false⟩, .cells [] 4 false true), (⟨2, 0, 256, 1, false⟩, .cells firstV 5 false true), (⟨3, 0, 32, 1, false⟩, .cells accV 5 false true), (eA, .cells (strV (ss.map fun z => z.data.toList)) 9 true true)]) (gl := 4) (fun i e b h => by
    match i, h with
    | 0, h => cases h; exact ⟨g0.1 _, g0.2.1, g0.2.2⟩
    | 1, h => cases h; exact ⟨g1.1 _, g1.2.1, g1.2.2⟩
    | 2, h => cases h; exact ⟨g2.1 _, g2.2.1, g2.2.2⟩
    | 3, h => cases h; exact ⟨g3.1 _, g3.2.1, g3.2.2⟩
    | 4, h => cases h; exact ⟨gA4.1 _, gA4.2.1, gA4.2.2⟩
    | i + 5, h => simp at h) (fun g hg => by
    match g, hg with
    | 0, _ => exact ⟨_, _, rfl, rfl, rfl⟩
    | 1, _ => exact ⟨_, _, rfl, rfl, rfl⟩
    | 2, _ => exact ⟨_, _, rfl, rfl, rfl⟩
    | 3, _ => exact ⟨_, _, rfl, rfl, rfl⟩)
  generalize hst : startS _ 4 = st at HR HF
  have look4 : lookH st.heap 4 = some (.cells (strV (ss.map fun z => z.data.toList)) 9 true true) := by rw [← hst]; rfl
  have hGu : Gu st := by rw [← hst]; exact ⟨rfl, (show 4 ≤ 5 by omega), rfl, rfl⟩
  have hFi : Fine st := by
    rw [← hst]
    intro id hid
    have hid' : 5 ≤ id := hid
    exact lkN (by omega) (lkN (by omega) (lkN (by omega) (lkN (by omega) (lkN (by omega) rfl))))
  have hnx : 4 < st.next := by rw [← hst]; exact (show 4 < 5 by omega)
  have hBb : ba = none ∧ (ss.map fun z => z.data.toList) = [] ∨ ∃ b t g r, ba = some ⟨b, 0, none⟩ ∧ b < st.next ∧ lookH st.heap b = some (.cells (strV (ss.map fun z => z.data.toList)) t g r) := by
    rcases hba with ⟨h1, h2⟩ | h1
    · left; exact ⟨h1, by rw [h2]; rfl⟩
    · right; exact ⟨4, _, _, _, h1, hnx, look4⟩
  have law := blanks_w (b0 := bl) (d := c) hGu hFi hBb
  rw [List.length_map] at law
  have fin := CallW.answer law rfl HR HF (args' := [v1, .string ⟨⟨bl⟩⟩, .int .u8 c.toNat])
    (.cons (rA _ rfl) (.cons (.string _) (.cons (.int _ _) (.nil _))))
  refine fin.mono fun e W' ⟨he, hg⟩ => ?_
  subst he
  exact ⟨_, rfl, Vf.post_fresh (pa := p1 ++ ([] ++ ([] ++ []))) (pv := []) hW' hg (fun _ _ _ => trodAll_cons_mk (shut_bool Tryd.underlying4 _) trodAll_mk0)
    (fun sp hsp => all_stays laidOut hg (by kernel_rfl) hA1 (fun x hx => hsp x (by simpa using hx)) (fun x hx => hlt x (by simpa using hx))) (fun _ _ => rfl) rfl (ok_one (by kernel_rfl) rfl (okWide_bool_mk Tryd.underlying4 _))⟩
theorem holds : Rows.TextBlankSaid :=
  OpenClaim.holds_of_wide n_law04_TextBlank Tryd.f6 rfl rfl rfl rfl rfl rfl rfl ⟨rfl, rfl, rfl, rfl, rfl⟩ rfl rfl rfl rfl rfl (by kernel_rfl) Tryd.func6 (by kernel_rfl)
    (of_decide_eq_true (by kernel_rfl)) (by unfold Func.isWrapper; first | (rw [if_pos (by decide +kernel)]; kernel_rfl) | (rw [if_neg (by decide +kernel)]; exact ⟨rfl, rfl⟩))
    (fun os started H enc _ => lifted os started H enc)
theorem proved : Rows.TextBlankCardSaid :=
  Claim7.holds_tied_plain_at .later [] [.data, .pinned] true _ false holds (fun _ h => by cases h) (by kernel_rfl) (fun _ h => by cases h) textBlank_row_tie rfl ⟨rfl, rfl⟩ (by kernel_rfl) rfl
    (fun f fn hf hfn => by
      obtain rfl : f = n_law04_TextBlank := Option.some.inj ((show Tryd.prog.funcNamed "postrider/postriderlaw04.TextBlank" = some n_law04_TextBlank by kernel_rfl).symm.trans hf) |>.symm
      obtain rfl : fn = Tryd.f6 := (Option.some.inj (Tryd.func6.symm.trans hfn)).symm
      exact ⟨by kernel_rfl, fun j t ht => by
        rw [Tryd.params6] at ht
        have : ∀ t ∈ [27, 9, 5], Tryd.prog.wantsStandIn t = false := by decide +kernel
        exact this t (by have := List.mem_of_getElem? (by simpa using ht); simpa using this)⟩)
    (by kernel_rfl)
#print axioms proved
end Go.Proofs.YtneanogeebbjiaaDoor.textBlank

/- The law FrameBits of the row's Go text answers true, whatever it is given, and leaves what was there as it was; its one listed variable is laid as the program's text lays it. -/
import Derived.Test.YtddjgbljpeafiaaDoorFrS
import Derived.Test.YtddjgbljpeafiaaDoorEngP
import Derived.Test.YtddjgbljpeafiaaDoorTie
import Derived.Test.YtddjgbljpeafiaaDoorCards
import Derived.SevenTiedAt
namespace Go.Proofs.YtddjgbljpeafiaaDoor.frameBits
open Go Go.Vf Go.Vf.S Go.ChangeShapes Go.WideShapes Go.ChangeAt Go.RowKit
set_option linter.unusedVariables false
set_option linter.unusedSimpArgs false
set_option maxRecDepth 100000 in
theorem lifted (os : Os) (started : os.Started) (H : Type) (enc : TypeId × Value → H) :
    ReturnsInHanded {} Tryd.checked os n_law02_FrameBits .any (fun w args => (Rows.frameBitsSpec.pre enc Tryd.prog Tryd.f6 Rows.frameBitsRow.domain false w args ∧ laidMetH Tryd.prog laidL w) ∧ sizedMet enc Tryd.prog Tryd.f6 (OpenSpec.ofChange Rows.frameBitsSpec) false w args)
      (Rows.frameBitsSpec.post enc Tryd.prog Tryd.f6 false true false false) := by
  refine returnsInHanded_of_change_and (C := Tryd.checked) (X := fun w _ => laidMetH Tryd.prog laidL w) (fun _ _ _ hh h => h.of_heap hh) own started (by kernel_rfl) Tryd.func6
    (ChangeSpec.witness_shaped (enc := enc) (C := Tryd.checked) (os := os) (X := fun w _ => laidMetH Tryd.prog laidL w) false (World.laidAll Tryd.prog os laidL) #[.slice none 0 0, .int .u32 0, .int .u32 0, .int .u16 0, .int .u32 0] 8 (World.laidAll_os _ _ _)
      (World.shaped_of_ZipB (by kernel_rfl) (by kernel_rfl)) (by kernel_rfl) (by kernel_rfl) (by kernel_rfl)
      (by rw [MakeChecks.laidMetH_plain _ _ _ (by kernel_rfl)]; exact laidMet_laidAll _ (by kernel_rfl) (by kernel_rfl))) ?_
  intro W base args ds gs before hval0 hW hc _ hL _
  have hval : ∀ (j : Nat) t v, Tryd.f6.params[j]? = some t → args[j]? = some v → Value.okWide Tryd.prog W .any base t v := hval0
  have hW' := hW
  obtain ⟨p, q, hA0, hV, rfl, hfz, hnd⟩ := hW
  have hA : DataW.TrodAll enc Tryd.prog W 0 (fun _ => true) true Tryd.f6.params.toList args.toList ds p := hA0
  have hA1 := hA0
  rw [Tryd.params6] at hA hval
  obtain ⟨rfl, rfl⟩ := trodVars_none hV
  obtain ⟨v1, vs1, d1, ds1, p1, q1, ea1, rfl, rfl, t1, hA⟩ := trodAll_cons hA
  obtain ⟨v3, vs3, d3, ds3, p3, q3, rfl, rfl, rfl, t3, hA⟩ := trodAll_cons hA
  obtain ⟨v4, vs4, d4, ds4, p4, q4, rfl, rfl, rfl, t4, hA⟩ := trodAll_cons hA
  obtain ⟨v5, vs5, d5, ds5, p5, q5, rfl, rfl, rfl, t5, hA⟩ := trodAll_cons hA
  obtain ⟨v6, vs6, d6, ds6, p6, q6, rfl, rfl, rfl, t6, hA⟩ := trodAll_cons hA
  obtain ⟨rfl, rfl, rfl⟩ := trodAll_nil hA
  obtain ⟨args⟩ := args
  simp only at ea1
  subst ea1
  have hlt : ∀ x ∈ p1 ++ (p3 ++ (p4 ++ (p5 ++ (p6 ++ [])))) ++ [], x.block < W.heap.size := fun x hx => hW'.lt x hx
  have g0 := steps_good hL
  obtain ⟨x3, rfl, rfl, rfl, w3⟩ := open_int Tryd.underlying23 (hval 1 23 v3 rfl rfl) t3
  obtain ⟨x4, rfl, rfl, rfl, w4⟩ := open_int Tryd.underlying23 (hval 2 23 v4 rfl rfl) t4
  obtain ⟨x5, rfl, rfl, rfl, w5⟩ := open_int Tryd.underlying38 (hval 3 38 v5 rfl rfl) t5
  obtain ⟨x6, rfl, rfl, rfl, w6⟩ := open_int Tryd.underlying23 (hval 4 23 v6 rfl rfl) t6
  obtain ⟨bit, rfl, hbit⟩ : ∃ c : Nat, x5 = (c : Int) ∧ c < 65536 := ⟨x5.toNat, by simp [Lit.wf, IntKind.min, IntKind.max, IntKind.signed, IntKind.bits] at w5; omega⟩
  obtain ⟨a, rfl⟩ := u32_of_wf w3
  obtain ⟨k, rfl⟩ := u32_of_wf w4
  obtain ⟨o, rfl⟩ := u32_of_wf w6
  obtain ⟨b1, n1, l1, e1, B1, g1, r1, s1⟩ := arg_bytes Tryd.underlying22 Tryd.underlying5 (by kernel_rfl) (hval 0 22 v1 rfl rfl) t1 (fun b off h => hfz b off (by simp [h])) g0 1
  obtain ⟨HR, HF⟩ := startS_rel (P := Tryd.prog) (W := W) (bs := [(⟨0, 0, 16, 1, false⟩, gB), (e1, B1)]) (gl := 1) (fun i e b h => by
    match i, h with
    | 0, h => cases h; exact ⟨g0.1 _, g0.2.1, g0.2.2⟩
    | 1, h => cases h; exact ⟨g1.1 _, g1.2.1, g1.2.2⟩
    | i + 2, h => simp at h) (fun g hg => by
    obtain rfl : g = 0 := by omega
    exact ⟨_, _, rfl, rfl, rfl⟩)
  have fin := CallW.answer (bits_w (s1 _ rfl (show 1 < 2 by decide)) rfl rfl (show 1 ≤ 2 by decide) a k o bit hbit) rfl HR HF (args' := [v1, .int .u32 a.toNat, .int .u32 k.toNat, .int .u16 bit, .int .u32 o.toNat])
    (.cons (r1 _ rfl) (.cons (.int _ _) (.cons (.int _ _) (.cons (.int _ _) (.cons (.int _ _) (.nil _))))))
  refine fin.mono fun e W' ⟨he, hg⟩ => ?_
  subst he
  exact ⟨_, rfl, Vf.post_fresh (pa := p1 ++ ([] ++ ([] ++ ([] ++ ([] ++ []))))) (pv := []) hW' hg (fun _ _ _ => trodAll_cons_mk (shut_bool Tryd.underlying4 _) trodAll_mk0)
    (fun sp hsp => all_stays laidOut hg (by kernel_rfl) hA1 (fun x hx => hsp x (by simpa using hx)) (fun x hx => hlt x (by simpa using hx))) (fun _ _ => rfl) rfl (ok_one (by kernel_rfl) rfl (okWide_bool_mk Tryd.underlying4 _))⟩
theorem holds : Rows.FrameBitsSaid :=
  OpenClaim.holds_of_wide n_law02_FrameBits Tryd.f6 rfl rfl rfl rfl rfl rfl rfl ⟨rfl, rfl, rfl, rfl, rfl⟩ rfl rfl rfl rfl rfl (by kernel_rfl) Tryd.func6 (by kernel_rfl)
    (of_decide_eq_true (by kernel_rfl)) (by unfold Func.isWrapper; first | (rw [if_pos (by decide +kernel)]; kernel_rfl) | (rw [if_neg (by decide +kernel)]; exact ⟨rfl, rfl⟩))
    (fun os started H enc _ => lifted os started H enc)
theorem proved : Rows.FrameBitsCardSaid :=
  Claim7.holds_tied_plain_at .later [] [.data] true _ false holds (fun _ h => by cases h) (by kernel_rfl) (fun _ h => by cases h) frameBits_row_tie rfl ⟨rfl, rfl⟩ (by kernel_rfl) rfl
    (fun f fn hf hfn => by
      obtain rfl : f = n_law02_FrameBits := Option.some.inj ((show Tryd.prog.funcNamed "postrider/postriderlaw02.FrameBits" = some n_law02_FrameBits by kernel_rfl).symm.trans hf) |>.symm
      obtain rfl : fn = Tryd.f6 := (Option.some.inj (Tryd.func6.symm.trans hfn)).symm
      exact ⟨by kernel_rfl, fun j t ht => by
        rw [Tryd.params6] at ht
        have : ∀ t ∈ [22, 23, 23, 38, 23], Tryd.prog.wantsStandIn t = false := by decide +kernel
        exact this t (by have := List.mem_of_getElem? (by simpa using ht); simpa using this)⟩)
    (by kernel_rfl)
#print axioms proved
end Go.Proofs.YtddjgbljpeafiaaDoor.frameBits

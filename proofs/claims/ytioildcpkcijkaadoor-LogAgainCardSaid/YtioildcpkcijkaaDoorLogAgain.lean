import Derived.Test.YtioildcpkcijkaaDoorLgM
import Derived.Test.YtioildcpkcijkaaDoorLgT
import Derived.Test.YtioildcpkcijkaaDoorEngBd
import Derived.Test.YtioildcpkcijkaaDoorEngP
import Derived.Test.YtioildcpkcijkaaDoorTie
import Derived.Test.YtioildcpkcijkaaDoorCards
import Derived.SevenTiedAt
/- The law LogAgain of the row's Go text answers true, whatever it is given, and leaves what was there as it was; its one listed variable is laid as the program's text lays it. -/
namespace Go.Proofs.YtioildcpkcijkaaDoor.logAgain
open Go Go.Vf Go.Vf.S Go.ChangeShapes Go.WideShapes Go.ChangeAt Go.RowKit
set_option linter.unusedVariables false
set_option linter.unusedSimpArgs false
set_option maxRecDepth 100000 in
theorem lifted (os : Os) (started : os.Started) (H : Type) (enc : TypeId × Value → H) :
    ReturnsInHanded {} Tryd.checked os n_law03_LogAgain .any (fun w args => (Rows.logAgainSpec.pre enc Tryd.prog Tryd.f5 Rows.logAgainRow.domain false w args ∧ laidMetH Tryd.prog laidL w) ∧ sizedMet enc Tryd.prog Tryd.f5 (OpenSpec.ofChange Rows.logAgainSpec) false w args)
      (Rows.logAgainSpec.post enc Tryd.prog Tryd.f5 false true false false) := by
  refine returnsInHanded_of_change_and (C := Tryd.checked) (X := fun w _ => laidMetH Tryd.prog laidL w) (fun _ _ _ hh h => h.of_heap hh) own started (by kernel_rfl) Tryd.func5
    (ChangeSpec.witness_shaped (enc := enc) (C := Tryd.checked) (os := os) (X := fun w _ => laidMetH Tryd.prog laidL w) false (World.laidAll Tryd.prog os laidL) #[.slice none 0 0, .int .i64 0, .slice none 0 0] 8 (World.laidAll_os _ _ _)
      (World.shaped_of_ZipB (by kernel_rfl) (by kernel_rfl)) (by kernel_rfl) (by kernel_rfl) (by kernel_rfl)
      (by rw [MakeChecks.laidMetH_plain _ _ _ (by kernel_rfl)]; exact laidMet_laidAll _ (by kernel_rfl) (by kernel_rfl))) ?_
  intro W base args ds gs before hval0 hW hc _ hL _
  have hval : ∀ (j : Nat) t v, Tryd.f5.params[j]? = some t → args[j]? = some v → Value.okWide Tryd.prog W .any base t v := hval0
  have hW' := hW
  obtain ⟨p, q, hA0, hV, rfl, hfz, hnd⟩ := hW
  have hA : DataW.TrodAll enc Tryd.prog W 0 (fun _ => true) true Tryd.f5.params.toList args.toList ds p := hA0
  have hA1 := hA0
  rw [Tryd.params5] at hA hval
  obtain ⟨rfl, rfl⟩ := trodVars_none hV
  obtain ⟨v1, vs1, d1, ds1, p1, q1, ea1, rfl, rfl, t1, hA⟩ := trodAll_cons hA
  obtain ⟨v2, vs2, d2, ds2, p2, q2, rfl, rfl, rfl, t2, hA⟩ := trodAll_cons hA
  obtain ⟨v3, vs3, d3, ds3, p3, q3, rfl, rfl, rfl, t3, hA⟩ := trodAll_cons hA
  obtain ⟨rfl, rfl, rfl⟩ := trodAll_nil hA
  obtain ⟨args⟩ := args
  simp only at ea1
  subst ea1
  have hlt : ∀ x ∈ p1 ++ (p2 ++ (p3 ++ [])) ++ [], x.block < W.heap.size := fun x hx => hW'.lt x hx
  have g0 := steps_good hL
  obtain ⟨x2, rfl, rfl, rfl, w2⟩ := open_int Tryd.underlying3 (hval 1 3 v2 rfl rfl) t2
  obtain ⟨b3, n3, l3, e3, B3, g3, r3, s3⟩ := arg_bytes Tryd.underlying37 Tryd.underlying5 (by kernel_rfl) (hval 2 37 v3 rfl rfl) t3 (fun b off h => hfz b off (by simp [h])) g0 1
  have fin : Calls Tryd.prog n_law03_LogAgain ⟨[v1, .int .i64 x2, v3]⟩ W fun e w' => e = .returned (.bool true) ∧ Below W.heap.size W w' := by
    rcases arg_rows (P := Tryd.prog) Tryd.underlying54 Tryd.underlying37 Tryd.underlying5 (by kernel_rfl) (by kernel_rfl) (hval 0 54 v1 rfl rfl) t1 (fun b off h => hfz b off (by simp [h])) 2 with rfl | ⟨rows, eo, xs, hx, r1, r2, rr3, r4, r5⟩
    · obtain ⟨HR, HF⟩ := startS_rel (P := Tryd.prog) (W := W) (bs := [(⟨0, 0, 16, 1, false⟩, gB), (e3, B3)]) (gl := 1) (fun i e b h => by
        match i, h with
        | 0, h => cases h; exact ⟨g0.1 _, g0.2.1, g0.2.2⟩
        | 1, h => cases h; exact ⟨g3.1 _, g3.2.1, g3.2.2⟩
        | i + 2, h => simp at h) (fun g hg => by
        obtain rfl : g = 0 := by omega
        exact ⟨_, _, rfl, rfl, rfl⟩)
      have hb := s3 (startS [(⟨0, 0, 16, 1, false⟩, gB), (e3, B3)] 1) rfl (show 1 < 2 by decide)
      obtain rfl : n3 = l3.length := hb.1.1
      exact CallW.answer (again_w (lb := none) (rows := []) ⟨rfl, fun r hr => by simp at hr⟩ ⟨rfl, rfl, show 1 ≤ 2 by decide, startS_fine _ _⟩ x2 hb.slc hb.1.lt) rfl HR HF (args' := [.slice none 0 0, .int .i64 x2, v3]) (.cons (.nilSlice 0 0) (.cons (.int _ _) (.cons (r3 _ rfl) (.nil _))))
    · obtain ⟨HR, HF⟩ := startS_rel (P := Tryd.prog) (W := W) (bs := (⟨0, 0, 16, 1, false⟩, gB) :: (e3, B3) :: (eo, .cells (rows.map fun r => .slice r.1 r.2.1 0) 37 true true) :: xs) (gl := 1) (fun i e b h => by
        match i, h with
        | 0, h => cases h; exact ⟨g0.1 _, g0.2.1, g0.2.2⟩
        | 1, h => cases h; exact ⟨g3.1 _, g3.2.1, g3.2.2⟩
        | 2, h =>
          cases h
          refine ⟨r2 _ fun i x hi => ?_, rfl, rr3⟩
          simp only [renOf]
          rw [show 2 + 1 + i = i + 1 + 1 + 1 from by omega, List.getElem?_cons_succ, List.getElem?_cons_succ, List.getElem?_cons_succ, hi]
          rfl
        | i + 3, h =>
          rw [List.getElem?_cons_succ, List.getElem?_cons_succ, List.getElem?_cons_succ] at h
          have := r4 i (e, b) h
          exact ⟨this.1 _, this.2.1, this.2.2⟩) (fun g hg => by
        obtain rfl : g = 0 := by omega
        exact ⟨_, _, rfl, rfl, rfl⟩)
      have hb := s3 (startS ((⟨0, 0, 16, 1, false⟩, gB) :: (e3, B3) :: (eo, .cells (rows.map fun r => .slice r.1 r.2.1 0) 37 true true) :: xs) 1) rfl (by show 1 < xs.length + 1 + 1 + 1; omega)
      obtain rfl : n3 = l3.length := hb.1.1
      refine CallW.answer (again_w (lb := some ⟨2, 0, none⟩) (rows := rows) ⟨⟨rfl, rfl, by show 2 < xs.length + 1 + 1 + 1; omega, by show 2 < xs.length + 1 + 1 + 1; omega, _, true, rfl⟩, fun r hr => ?_⟩ ⟨rfl, rfl, by show 1 ≤ xs.length + 1 + 1 + 1; omega, startS_fine _ _⟩ x2 hb.slc hb.1.lt) rfl HR HF (args' := [v1, .int .i64 x2, v3]) (.cons (r1 _ rfl) (.cons (.int _ _) (.cons (r3 _ rfl) (.nil _))))
      obtain ⟨i, hi⟩ := List.getElem?_of_mem hr
      have hlt := (List.getElem?_eq_some_iff.1 hi).1
      have ha := r5 i xs[i] r (List.getElem?_eq_getElem (by omega)) hi (startS ((⟨0, 0, 16, 1, false⟩, gB) :: (e3, B3) :: (eo, .cells (rows.map fun r => .slice r.1 r.2.1 0) 37 true true) :: xs) 1) (by
        simp only [startS, heapOf_look, Nat.zero_le, if_true, Nat.sub_zero]
        rw [show 2 + 1 + i = i + 1 + 1 + 1 from by omega, List.getElem?_cons_succ, List.getElem?_cons_succ, List.getElem?_cons_succ, List.getElem?_eq_getElem (by omega)]
        rfl) (by show 2 + 1 + i < xs.length + 1 + 1 + 1; omega)
      exact ⟨ha.slc, ha.1.lt⟩
  refine fin.mono fun e W' ⟨he, hg⟩ => ?_
  subst he
  exact ⟨_, rfl, Vf.post_fresh (pa := p1 ++ ([] ++ (p3 ++ []))) (pv := []) hW' hg (fun _ _ _ => trodAll_cons_mk (shut_bool Tryd.underlying4 _) trodAll_mk0)
    (fun sp hsp => all_stays laidOut hg (by kernel_rfl) hA1 (fun x hx => hsp x (by simpa using hx)) (fun x hx => hlt x (by simpa using hx))) (fun _ _ => rfl) rfl (ok_one (by kernel_rfl) rfl (okWide_bool_mk Tryd.underlying4 _))⟩
theorem holds : Rows.LogAgainSaid :=
  OpenClaim.holds_of_wide n_law03_LogAgain Tryd.f5 rfl rfl rfl rfl rfl rfl rfl ⟨rfl, rfl, rfl, rfl, rfl⟩ rfl rfl rfl rfl rfl (by kernel_rfl) Tryd.func5 (by kernel_rfl)
    (of_decide_eq_true (by kernel_rfl)) (by unfold Func.isWrapper; first | (rw [if_pos (by decide +kernel)]; kernel_rfl) | (rw [if_neg (by decide +kernel)]; exact ⟨rfl, rfl⟩))
    (fun os started H enc _ => lifted os started H enc)
theorem proved : Rows.LogAgainCardSaid :=
  Claim7.holds_tied_plain_at .later [] [.data] true _ false holds (fun _ h => by cases h) (by kernel_rfl) (fun _ h => by cases h) logAgain_row_tie rfl ⟨rfl, rfl⟩ (by kernel_rfl) rfl
    (fun f fn hf hfn => by
      obtain rfl : f = n_law03_LogAgain := Option.some.inj ((show Tryd.prog.funcNamed "postrider/postriderlaw03.LogAgain" = some n_law03_LogAgain by kernel_rfl).symm.trans hf) |>.symm
      obtain rfl : fn = Tryd.f5 := (Option.some.inj (Tryd.func5.symm.trans hfn)).symm
      exact ⟨by kernel_rfl, fun j t ht => by
        rw [Tryd.params5] at ht
        have : ∀ t ∈ [54, 3, 37], Tryd.prog.wantsStandIn t = false := by decide +kernel
        exact this t (by have := List.mem_of_getElem? (by simpa using ht); simpa using this)⟩)
    (by kernel_rfl)
#print axioms proved
end Go.Proofs.YtioildcpkcijkaaDoor.logAgain

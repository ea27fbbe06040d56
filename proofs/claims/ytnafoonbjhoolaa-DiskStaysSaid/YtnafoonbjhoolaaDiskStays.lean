/- The law DiskStays of the row's Go text answers true, whatever it is given, and leaves what was there as it was: no condition. -/
import Derived.Test.YtnafoonbjhoolaaDkJ
import Derived.Test.YtnafoonbjhoolaaDkO
import Derived.Test.YtnafoonbjhoolaaEngP
import Derived.Test.YtnafoonbjhoolaaRows
import Derived.WalkKit
namespace Go.Proofs.Ytnafoonbjhoolaa.diskStays
open Go Go.Vf Go.Vf.S Go.ChangeShapes Go.WideShapes Go.ChangeAt Go.RowKit
set_option linter.unusedVariables false
set_option linter.unusedSimpArgs false
theorem own : ownKnob Try.prog.godebug = none := by kernel_rfl
theorem laidOut : laidOutB Try.prog = true := by kernel_rfl
set_option maxRecDepth 100000 in
theorem lifted (os : Os) (started : os.Started) (H : Type) (enc : TypeId × Value → H) :
    ReturnsInHanded {} Try.checked os n_law01_DiskStays .any (Rows.diskStaysSpec.pre6 enc Try.prog Try.f4 Rows.diskStaysRow.domain false) (Rows.diskStaysSpec.post enc Try.prog Try.f4 false true false false) := by
  refine returnsInHanded_of_change (C := Try.checked) own started (by kernel_rfl) Try.func4
    (ChangeSpec.witness6 (enc := enc) (C := Try.checked) false ⟨#[], #[.slice none 0 0, .slice none 0 0, .slice none 0 0], []⟩ 8 (by kernel_rfl) (by kernel_rfl) (by kernel_rfl) (by kernel_rfl)) ?_
  intro W base args ds gs before hval0 hW hcnd _
  have hval : ∀ (j : Nat) t v, Try.f4.params[j]? = some t → args[j]? = some v → Value.okWide Try.prog W .any base t v := hval0
  have hW' := hW
  obtain ⟨p, q, hA0, hV, rfl, hfz, hnd⟩ := hW
  have hA : DataW.TrodAll enc Try.prog W 0 (fun _ => true) true Try.f4.params.toList args.toList ds p := hA0
  have hA1 := hA0
  rw [Try.params4] at hA hval
  obtain ⟨rfl, rfl⟩ := trodVars_none hV
  obtain ⟨v1, vs1, d1, ds1, p1, q1, ea1, rfl, rfl, t1, hA⟩ := trodAll_cons hA
  obtain ⟨v2, vs2, d2, ds2, p2, q2, rfl, rfl, rfl, t2, hA⟩ := trodAll_cons hA
  obtain ⟨v3, vs3, d3, ds3, p3, q3, rfl, rfl, rfl, t3, hA⟩ := trodAll_cons hA
  obtain ⟨rfl, rfl, rfl⟩ := trodAll_nil hA
  obtain ⟨args⟩ := args
  simp only at ea1
  subst ea1
  have hlt : ∀ x ∈ p1 ++ (p2 ++ (p3 ++ [])) ++ [], x.block < W.heap.size := fun x hx => hW'.lt x hx
  obtain ⟨lb, l, xs1, a1, a2, a3⟩ := arg_acts (hval 0 22 v1 rfl rfl) t1 (fun b off h => hfz b off (by simp [h])) 0
  obtain ⟨mb, m, xs2, b1, b2, b3⟩ := arg_acts (hval 1 22 v2 rfl rfl) t2 (fun b off h => hfz b off (by simp [h])) (0 + xs1.length)
  obtain ⟨kb, zs, xs3, k1, k2, k3⟩ := arg_inI (hval 2 33 v3 rfl rfl) t3 (fun b off h => hfz b off (by simp [h])) (0 + (xs1 ++ xs2).length)
  obtain ⟨HR, HF, HL, HS, Hf⟩ := ((a1.app b1).app k1).start
  have fin := CallW.answer (stays_w (a3 _ HS.left.left) (b3 _ HS.left.right) (k3 _ HS.right) Hf rfl) rfl HR HF (args' := [v1, v2, v3]) (.cons (a2 _ HL.left.left) (.cons (b2 _ HL.left.right) (.cons (k2 _ HL.right) (.nil _))))
  refine fin.mono fun e W' ⟨he, hg⟩ => ?_
  subst he
  exact ⟨_, rfl, Vf.post_fresh (pa := p1 ++ (p2 ++ (p3 ++ []))) (pv := []) hW' hg (fun _ _ _ => trodAll_cons_mk (shut_bool Try.underlying4 _) trodAll_mk0)
    (fun sp hsp => all_stays laidOut hg (by kernel_rfl) hA1 (fun x hx => hsp x (by simpa using hx)) (fun x hx => hlt x (by simpa using hx))) (fun _ _ => rfl) rfl (ok_one (by kernel_rfl) rfl (okWide_bool_mk Try.underlying4 _))⟩
theorem proved : Rows.DiskStaysSaid :=
  OpenClaim.holds_of_wide n_law01_DiskStays Try.f4 rfl rfl rfl rfl rfl rfl rfl ⟨rfl, rfl, rfl, rfl, rfl⟩ rfl rfl rfl rfl rfl (by kernel_rfl) Try.func4 (by kernel_rfl)
    (of_decide_eq_true (by kernel_rfl)) (by unfold Func.isWrapper; first | (rw [if_pos (by decide +kernel)]; kernel_rfl) | (rw [if_neg (by decide +kernel)]; exact ⟨rfl, rfl⟩))
    (fun os started H enc _ => lifted os started H enc)
#print axioms proved
end Go.Proofs.Ytnafoonbjhoolaa.diskStays

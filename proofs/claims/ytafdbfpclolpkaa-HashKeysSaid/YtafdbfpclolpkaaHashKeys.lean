import Derived.Test.YtafdbfpclolpkaaHaX
import Derived.Test.YtafdbfpclolpkaaHaZ
import Derived.Test.YtafdbfpclolpkaaHaN
import Derived.Test.YtafdbfpclolpkaaEngP
import Derived.Test.YtafdbfpclolpkaaRows
import Derived.WalkKit
/- The law HashKeys of the row's Go text answers true, whatever it is given, and leaves what was there as it was: no condition. -/
namespace Go.Proofs.Ytafdbfpclolpkaa.hashKeys
open Go Go.Vf Go.Vf.S Go.ChangeShapes Go.WideShapes Go.ChangeAt Go.RowKit
set_option linter.unusedVariables false
set_option linter.unusedSimpArgs false
set_option maxRecDepth 100000 in
theorem lifted (os : Os) (started : os.Started) (H : Type) (enc : TypeId × Value → H) :
    ReturnsInHanded {} Try.checked os n_law10_HashKeys .any (Rows.hashKeysSpec.pre6 enc Try.prog Try.f4 Rows.hashKeysRow.domain false) (Rows.hashKeysSpec.post enc Try.prog Try.f4 false true false false) := by
  refine returnsInHanded_of_change (C := Try.checked) own10 started (by kernel_rfl) Try.func4
    (ChangeSpec.witness6 (enc := enc) (C := Try.checked) false ⟨#[], #[.slice none 0 0, .slice none 0 0, .int .u8 0], []⟩ 8 (by kernel_rfl) (by kernel_rfl) (by kernel_rfl) (by kernel_rfl)) ?_
  intro W base args ds gs before hval0 hW hcnd _
  have hval : ∀ (j : Nat) t v, Try.f4.params[j]? = some t → args[j]? = some v → Value.okWide Try.prog W .any base t v := hval0
  have hW' := hW
  obtain ⟨p, q, hA0, hV, rfl, hfz, hnd⟩ := hW
  have hA : DataW.TrodAll enc Try.prog W 0 (fun _ => true) true Try.f4.params.toList args.toList ds p := hA0
  have hA1 := hA0
  rw [Try.params4] at hA hval
  obtain ⟨rfl, rfl⟩ := trodVars_none hV
  obtain ⟨v1, vs1, d1, ds1, p1, q1, ea1, rfl, rfl, t1, hA⟩ := trodAll_cons hA
  obtain ⟨v2, vs2, d2, ds2, p2, q2, rfl, rfl, rfl, t2, hA⟩ := trodAll_cons hA
  obtain ⟨v3, vs3, d3, ds3, p3, q3, rfl, rfl, rfl, t3, hA⟩ := trodAll_cons hA
  obtain ⟨rfl, rfl, rfl⟩ := trodAll_nil hA
  obtain ⟨args⟩ := args
  simp only at ea1
  subst ea1
  have hlt : ∀ x ∈ p1 ++ (p2 ++ (p3 ++ ([]))) ++ [], x.block < W.heap.size := fun x hx => hW'.lt x hx
  obtain ⟨x3, rfl, rfl, rfl, w3⟩ := open_int Try.underlying5 (hval 2 5 v3 rfl rfl) t3
  obtain ⟨a3, rfl⟩ := byte_wf10 w3
  obtain ⟨sb1, l1, xs1, a1a, a1b, a1c⟩ := arg_bs (hval 0 22 v1 rfl rfl) t1 (fun b off h => hfz b off (by simp [h])) (0)
  obtain ⟨sb2, l2, xs2, a2a, a2b, a2c⟩ := arg_bs (hval 1 22 v2 rfl rfl) t2 (fun b off h => hfz b off (by simp [h])) (0 + xs1.length)
  obtain ⟨HR, HF, HL, HS, Hf⟩ := (a1a.app a2a).start
  have fin := CallW.answer (hkeys_w Hf (a1c _ HS.left) (a2c _ HS.right)) rfl HR HF (args' := [v1, v2, .int .u8 a3.toNat])
    (.cons (a1b _ HL.left) (.cons (a2b _ HL.right) (.cons (.int _ _) (.nil _))))
  refine fin.mono fun e W' ⟨he, hg⟩ => ?_
  subst he
  exact ⟨_, rfl, Vf.post_fresh (pa := p1 ++ (p2 ++ ([] ++ ([])))) (pv := []) hW' hg (fun _ _ _ => (trodAll_cons_mk (shut_bool Try.underlying4 _) trodAll_mk0))
    (fun sp hsp => all_stays laidOut10 hg (by kernel_rfl) hA1 (fun x hx => hsp x (by simpa using hx)) (fun x hx => hlt x (by simpa using hx))) (fun _ _ => rfl) rfl (ok_one (by kernel_rfl) rfl (okWide_bool_mk Try.underlying4 _))⟩
theorem proved : Rows.HashKeysSaid :=
  OpenClaim.holds_of_wide n_law10_HashKeys Try.f4 rfl rfl rfl rfl rfl rfl rfl ⟨rfl, rfl, rfl, rfl, rfl⟩ rfl rfl rfl rfl rfl (by kernel_rfl) Try.func4 (by kernel_rfl)
    (of_decide_eq_true (by kernel_rfl)) (by unfold Func.isWrapper; first | (rw [if_pos (by decide +kernel)]; kernel_rfl) | (rw [if_neg (by decide +kernel)]; exact ⟨rfl, rfl⟩))
    (fun os started H enc _ => lifted os started H enc)
#print axioms proved
end Go.Proofs.Ytafdbfpclolpkaa.hashKeys

import Derived.Test.YtfminjggoaegdaaGreatDoorEngBb
import Derived.ChangeSame
import Derived.ProofKit
import Derived.OpenShut
namespace Go.Vf
open Go.RowKit Go.WideShapes Go.ChangeShapes
section
variable {H : Type} {enc : TypeId × Value → H} {P : Program}
theorem post_fresh {f : Func} {sp : ChangeSpec} {apart fresh handsOn again : Bool} {W W' : World} {args : Array Value} {v : Value} {ds gs : List (DataW H)} {before pa pv : List MemPlace}
  (whole : DataW.Whole enc P f.params.toList sp.vars apart W args.toList ds gs before) (stays : Below W.heap.size W W')
  (told : ∀ (b : Nat) (spare : Nat → Bool) (hd : Bool), DataW.TrodAll enc P W' b spare hd f.resultTypes.toList (v.resultList f.resultTypes.size) (sp.fn H (ds ++ gs)).results [])
  (given : ∀ spare : Nat → Bool, (∀ p ∈ before, spare p.block = true) → DataW.TrodAll enc P W' 0 spare true f.params.toList args.toList (sp.fn H (ds ++ gs)).args pa)
  (vars : ∀ spare : Nat → Bool, (∀ p ∈ before, spare p.block = true) → DataW.TrodVars enc P W' spare sp.vars (sp.fn H (ds ++ gs)).vars pv)
  (parts : before = pa ++ pv)
  (good : ∀ (j : Nat) (t : TypeId) (r : Value), f.resultTypes[j]? = some t → (v.resultList f.resultTypes.size)[j]? = some r → Value.okWide P W' .any 0 t r) :
  sp.post enc P f apart fresh handsOn again W args v W' := by
 have old : ∀ p ∈ before, p.block < W.heap.size := fun p hp => whole.lt p hp
 have oldB : ∀ p ∈ before, (fun b => decide (b < W.heap.size)) p.block = true := fun p hp => decide_eq_true (old p hp)
 refine ⟨ds, gs, before, [], pa, pv, whole, told _ _ _, given _ oldB, vars _ oldB, ?_, ?_⟩
 ·refine World.keptBut_mono (fun p hp => ⟨hp, ?_⟩) (stays.frame (· ∈ before))
  right
  rw [parts] at hp
  exact List.mem_append.1 hp
 ·intro _
  obtain ⟨_, _, _, _, _, nofreeze, nodup⟩ := whole
  have both := trodAll_append (given (fun _ => true) (fun _ _ => rfl)) (told 0 (fun _ => true) true)
  refine ⟨good, _, _, ([] ++ pa) ++ pv, ⟨[] ++ pa, pv, both, vars _ (fun _ _ => rfl), rfl, fun b off hp => ?_, fun ha => ?_⟩, fun p hp _ => ?_⟩
  ·simp only [List.nil_append] at hp
   rw [← parts] at hp
   rw [stays.frozen (old _ hp)]
   exact nofreeze b off hp
  ·simp only [List.nil_append]
   rw [← parts]; exact nodup ha
  ·simp only [List.nil_append] at hp
   rw [parts]; exact hp
end
end Go.Vf

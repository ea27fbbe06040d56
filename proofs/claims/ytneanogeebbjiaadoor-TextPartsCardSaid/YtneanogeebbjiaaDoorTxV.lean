import Derived.Test.YtneanogeebbjiaaDoorTxY
import Derived.Test.YtneanogeebbjiaaDoorTxU
import Derived.Shelf.Vars
import Derived.Handed
/- The library's own number, and a wrap that keeps the world's shape beside what is laid. -/
namespace Go.Vf.S
open Go Go.Vf Go.Proofs Go.Proofs.YtneanogeebbjiaaDoor Go.RowKit Go.ChangeShapes
set_option linter.unusedVariables false
set_option linter.unusedSimpArgs false

theorem max_good {W : World} (h : W.ShapedOpen pr) : ∃ m, GoodB pr W ⟨1, 0, 1, 1, false⟩ (.cells [.int .i64 m] 3 false true) := by
  have h0 : ((begin pr (fun _ _ => 0) default).world.heap[1]?).bind Obj.row? = some (#[.int .i64 0], 3) := by kernel_rfl
  have hg : 1 < pr.globals.size := by decide +kernel
  obtain ⟨m, hm⟩ := cell_of_shapedOpen_int h hg h0 rfl (by kernel_rfl) (by kernel_rfl) Tryd.underlying3
  obtain ⟨cs, hh, hs, _⟩ := h.1 1 _ 3 hg h0
  have hcs : cs = #[.int .i64 m] := by
    have h1 : cs.size = 1 := hs
    have h2 : cs[0]? = some (.int .i64 m) := by simpa [World.cell?, hh] using hm
    apply Array.ext'
    have h3 : cs.toList.length = 1 := by simpa using h1
    match hl : cs.toList, h3 with
    | [v], _ =>
      have : cs.toList[0]? = some (.int .i64 m) := by simpa using h2
      rw [hl] at this
      simpa using this
  subst hcs
  refine ⟨m, fun ρ => ⟨rfl, [.int .i64 m], 0, 0, 3, hh, (fun z => by cases z), (fun i _ hh => by omega), Nat.le_refl _, Nat.le_refl _, (by kernel_rfl), fun i v hi => ⟨v, by simpa using hi, plain1_rel ?_⟩⟩, rfl, (Array.getElem?_eq_some_iff.1 hh).1⟩
  match i, hi with
  | 0, hi => cases hi; rfl
  | i + 1, hi => simp at hi

theorem hand_shaped {H : Type} {enc : TypeId × Value → H} {a : Assume} {C : Checked} {os : Os} {f : FuncId} {fn : Func} {s : ChangeSpec} {conds : List PathCond} {apart fresh handsOn again : Bool} {X : World → Array Value → Prop}
    (hX : ∀ (w w' : World) (args : Array Value), w.heap = w'.heap → X w args → X w' args) (own : ownKnob C.prog.godebug = none) (started : os.Started) (noInit : C.prog.inits.idxOf? f = none) (hfn : C.prog.funcs[f]? = some fn)
    (witness : ∃ (w : World) (tape : Tape) (i : Input), w.os = os ∧ (w.forCall tape i).Shaped C.prog ∧ i.vars = [] ∧ Input.okWide C.prog (w.forCall tape i) .any w.heap.size f i ∧
      ((s.pre enc C.prog fn conds apart (w.forCall tape i).memory i.args ∧ X (w.forCall tape i).memory i.args) ∧ sizedMet enc C.prog fn (OpenSpec.ofChange s) apart (w.forCall tape i).memory i.args) ∧ a.holds C.prog (lone (Frame.enter C.prog f i.args .normal) [] (w.forCall tape i)))
    (contract : ∀ (W : World) (base : Nat) (args : Array Value) (ds gs : List (DataW H)) (before : List MemPlace), (∀ (j : Nat) t v, fn.params[j]? = some t → args[j]? = some v → Value.okWide C.prog W .any base t v) →
      DataW.Whole enc C.prog fn.params.toList s.vars apart W args.toList ds gs before → X W args → W.ShapedOpen C.prog → Calls C.prog f args W fun e W' => ∃ v, e = .returned v ∧ s.post enc C.prog fn apart fresh handsOn again W args v W') :
    ReturnsInHanded a C os f .any (fun w args => (s.pre enc C.prog fn conds apart w args ∧ X w args) ∧ sizedMet enc C.prog fn (OpenSpec.ofChange s) apart w args) (s.post enc C.prog fn apart fresh handsOn again) := by
  refine returnsInHanded_of_calls own started noInit witness ?_
  intro w tape i _ hsh _ hok hpre _
  obtain ⟨_, _, _, fn', hfn', _, _, _, _, hval⟩ := hok
  obtain rfl : fn' = fn := Option.some.inj (hfn'.symm.trans hfn)
  obtain ⟨⟨⟨ds, gs, before, hw, _⟩, hx⟩, _⟩ := hpre
  refine (contract (w.forCall tape i) w.heap.size i.args ds gs before hval (DataW.Whole.of_heap (w' := w.forCall tape i) (by rfl) hw) (hX _ _ _ (by rfl) hx) hsh).mono fun e W' ⟨v, he, hp⟩ => ?_
  subst he
  exact ChangeSpec.post_blind hp
end Go.Vf.S

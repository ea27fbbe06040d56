import Derived.Test.YtipfcmgecdgfhaaDoorAdY
import Derived.Shelf.Vars
import Derived.Handed
/- A start that knows the table of letters and the library's own number; a wrap that keeps the world's shape beside what is laid. -/
namespace Go.Vf.S
open Go Go.Vf Go.Proofs Go.Proofs.YtipfcmgecdgfhaaDoor Go.RowKit Go.ChangeShapes
set_option linter.unusedVariables false
set_option linter.unusedSimpArgs false

abbrev gMax : Nat := 4
theorem max_good {W : World} (h : W.ShapedOpen pr) : ∃ m, GoodB pr W ⟨gMax, 0, 1, 1, false⟩ (.cells [.int .i64 m] 3 false true) := by
  have h0 : ((begin pr (fun _ _ => 0) default).world.heap[gMax]?).bind Obj.row? = some (#[.int .i64 0], 3) := by kernel_rfl
  have hg : gMax < pr.globals.size := by decide +kernel
  obtain ⟨m, hm⟩ := cell_of_shapedOpen_int h hg h0 rfl (by kernel_rfl) (by kernel_rfl) Tryd.underlying3
  obtain ⟨cs, hh, hs, _⟩ := h.1 gMax _ 3 hg h0
  have hcs : cs = #[.int .i64 m] := by
    have h1 : cs.size = 1 := hs
    have h2 : cs[0]? = some (.int .i64 m) := by simpa [World.cell?, hh] using hm
    apply Array.ext'
    have h3 : cs.toList.length = 1 := by simpa using h1
    match hl : cs.toList, h3 with
    | [v], _ =>
      have : cs.toList[0]? = some (.int .i64 m) := by simpa using h2
      rw [hl] at this
      simpa using this
  subst hcs
  refine ⟨m, fun ρ => ⟨rfl, [.int .i64 m], 0, 0, 3, hh, (fun z => by cases z), (fun i _ hh => by omega), Nat.le_refl _, Nat.le_refl _, (by kernel_rfl), fun i v hi => ⟨v, by simpa using hi, plain1_rel ?_⟩⟩, rfl, (Array.getElem?_eq_some_iff.1 hh).1⟩
  match i, hi with
  | 0, hi => cases hi; rfl
  | i + 1, hi => simp at hi

abbrev gTop : Nat := max gAt gMax + 1
/-- The table and the number. -/
def bsB (m : Int) : List (RE × Option ABlk) := (List.range gTop).map fun i => if i = gAt then (⟨gAt, 0, 128, 1, false⟩, some gA) else if i = gMax then (⟨gMax, 0, 1, 1, false⟩, some (.cells [.int .i64 m] 3 false true)) else (⟨i, 0, 0, 1, false⟩, none)
def startB (m : Int) : SS := startO (bsB m) gTop
theorem bsB_len (m : Int) : (bsB m).length = gTop := by simp [bsB]
theorem bsB_at {m : Int} {i : Nat} (h : i < gTop) : (bsB m)[i]? = some (if i = gAt then (⟨gAt, 0, 128, 1, false⟩, some gA) else if i = gMax then (⟨gMax, 0, 1, 1, false⟩, some (.cells [.int .i64 m] 3 false true)) else (⟨i, 0, 0, 1, false⟩, none)) := by
  unfold bsB
  rw [List.getElem?_map, List.getElem?_range h]
  rfl
theorem startB_rel {W : World} {m : Int} (g0 : GoodB pr W ⟨gAt, 0, 128, 1, false⟩ gA) (g1 : GoodB pr W ⟨gMax, 0, 1, 1, false⟩ (.cells [.int .i64 m] 3 false true)) : HRel pr W.heap.size W (renO (bsB m)) (startB m).st W ∧ FreeFrom (renO (bsB m)) (startB m).next := by
  have all : ∀ i x, (bsB m)[i]? = some x → i < gTop ∧ x = (if i = gAt then (⟨gAt, 0, 128, 1, false⟩, some gA) else if i = gMax then (⟨gMax, 0, 1, 1, false⟩, some (.cells [.int .i64 m] 3 false true)) else (⟨i, 0, 0, 1, false⟩, none)) := fun i x h => by
    have hi : i < gTop := by rw [← bsB_len m]; exact (List.getElem?_eq_some_iff.1 h).1
    rw [bsB_at hi] at h
    exact ⟨hi, (Option.some.inj h).symm⟩
  have k0 : gAt < W.heap.size := g0.2.2
  have k1 : gMax < W.heap.size := g1.2.2
  refine startO_rel (fun i e b h => ?_) (fun i e b h => ?_) (fun g hg => ?_)
  · obtain ⟨_, q⟩ := all i _ h
    split at q
    · cases q; exact ⟨g0.1 _, g0.2.1⟩
    · split at q
      · cases q; exact ⟨g1.1 _, g1.2.1⟩
      · cases q
  · obtain ⟨hi, q⟩ := all i _ h
    have ht : gTop ≤ W.heap.size := by show max gAt gMax + 1 ≤ _; omega
    split at q
    · cases q; exact k0
    · split at q
      · cases q; exact k1
      · cases q; exact Nat.lt_of_lt_of_le hi ht
  · rw [bsB_at hg]
    by_cases h1 : g = gAt
    · rw [if_pos h1]; exact ⟨_, _, rfl, h1.symm, rfl⟩
    · rw [if_neg h1]
      by_cases h2 : g = gMax
      · rw [if_pos h2]; exact ⟨_, _, rfl, h2.symm, rfl⟩
      · rw [if_neg h2]; exact ⟨_, _, rfl, rfl, rfl⟩
theorem startB_look {m : Int} {i : Nat} (h : i < gTop) : lookH (startB m).heap i = ((bsB m)[i]?.map Prod.snd).join := by
  show lookH (heapO 0 (bsB m)) i = _
  rw [heapO_look, if_pos (Nat.zero_le _), Nat.sub_zero]
theorem gAt_lt : gAt < gTop := by show gAt < max gAt gMax + 1; omega
theorem gMax_lt : gMax < gTop := by show gMax < max gAt gMax + 1; omega
theorem startB_Gb (m : Int) : Gb (startB m) := ⟨gAt_lt, by show gAt < (bsB m).length; rw [bsB_len]; exact gAt_lt, by rw [startB_look gAt_lt, bsB_at gAt_lt, if_pos rfl]; rfl⟩
theorem startB_max (m : Int) : gMax < (startB m).gl ∧ gMax < (startB m).next ∧ ∃ k, lookH (startB m).heap gMax = some (.cells [.int .i64 k] 3 false true) := ⟨gMax_lt, by show gMax < (bsB m).length; rw [bsB_len]; exact gMax_lt, m, by rw [startB_look gMax_lt, bsB_at gMax_lt, if_neg (by decide), if_pos rfl]; rfl⟩
theorem startB_fine (m : Int) : Fine (startB m) := startO_fine _ _

theorem hand_shaped {H : Type} {enc : TypeId × Value → H} {a : Assume} {C : Checked} {os : Os} {f : FuncId} {fn : Func} {s : ChangeSpec} {conds : List PathCond} {apart fresh handsOn again : Bool} {X : World → Array Value → Prop}
    (hX : ∀ (w w' : World) (args : Array Value), w.heap = w'.heap → X w args → X w' args) (own : ownKnob C.prog.godebug = none) (started : os.Started) (noInit : C.prog.inits.idxOf? f = none) (hfn : C.prog.funcs[f]? = some fn)
    (witness : ∃ (w : World) (tape : Tape) (i : Input), w.os = os ∧ (w.forCall tape i).Shaped C.prog ∧ i.vars = [] ∧ Input.okWide C.prog (w.forCall tape i) .any w.heap.size f i ∧
      ((s.pre enc C.prog fn conds apart (w.forCall tape i).memory i.args ∧ X (w.forCall tape i).memory i.args) ∧ sizedMet enc C.prog fn (OpenSpec.ofChange s) apart (w.forCall tape i).memory i.args) ∧ a.holds C.prog (lone (Frame.enter C.prog f i.args .normal) [] (w.forCall tape i)))
    (contract : ∀ (W : World) (base : Nat) (args : Array Value) (ds gs : List (DataW H)) (before : List MemPlace), (∀ (j : Nat) t v, fn.params[j]? = some t → args[j]? = some v → Value.okWide C.prog W .any base t v) →
      DataW.Whole enc C.prog fn.params.toList s.vars apart W args.toList ds gs before → X W args → W.ShapedOpen C.prog → Calls C.prog f args W fun e W' => ∃ v, e = .returned v ∧ s.post enc C.prog fn apart fresh handsOn again W args v W') :
    ReturnsInHanded a C os f .any (fun w args => (s.pre enc C.prog fn conds apart w args ∧ X w args) ∧ sizedMet enc C.prog fn (OpenSpec.ofChange s) apart w args) (s.post enc C.prog fn apart fresh handsOn again) := by
  refine returnsInHanded_of_calls own started noInit witness ?_
  intro w tape i _ hsh _ hok hpre _
  obtain ⟨_, _, _, fn', hfn', _, _, _, _, hval⟩ := hok
  obtain rfl : fn' = fn := Option.some.inj (hfn'.symm.trans hfn)
  obtain ⟨⟨⟨ds, gs, before, hw, _⟩, hx⟩, _⟩ := hpre
  refine (contract (w.forCall tape i) w.heap.size i.args ds gs before hval (DataW.Whole.of_heap (w' := w.forCall tape i) (by rfl) hw) (hX _ _ _ (by rfl) hx) hsh).mono fun e W' ⟨v, he, hp⟩ => ?_
  subst he
  exact ChangeSpec.post_blind hp

def laidL4 : List (String × DataW Unit) := [("unicode/utf8.acceptRanges", Rows.laid_unicode_utf8_acceptRanges), ("postrider/text.atoms", Rows.laid_postrider_text_atoms), ("unicode.CaseRanges", Rows.laid_unicode_CaseRanges), ("unicode/utf8.first", Rows.laid_unicode_utf8_first)]
def laidL6 : List (String × DataW Unit) := [("unicode/utf8.acceptRanges", Rows.laid_unicode_utf8_acceptRanges), ("unicode.asciiFold", Rows.laid_unicode_asciiFold), ("unicode.caseOrbit", Rows.laid_unicode_caseOrbit), ("postrider/text.atoms", Rows.laid_postrider_text_atoms), ("unicode.CaseRanges", Rows.laid_unicode_CaseRanges), ("unicode/utf8.first", Rows.laid_unicode_utf8_first)]
theorem in_row {ps : List MemPlace} {g i n : Nat} {p q : List MemPlace} (h : ∀ x, x ∈ MemPlace.row ⟨g, 0, none⟩ n ++ p ++ q → x ∈ ps) (hi : i < n) : MemPlace.cell g i ∈ ps := by
  refine h _ ?_
  simp only [List.mem_append]
  left; left
  exact List.mem_map.2 ⟨i, List.mem_range.2 hi, by simp⟩
theorem atoms_good4 {W : World} (h : laidMetH pr laidL4 W) : GoodB pr W ⟨gAt, 0, 128, 1, false⟩ gA := by
  rw [MakeChecks.laidMetH_plain _ _ _ (by kernel_rfl)] at h
  obtain ⟨ps0, hL, _, hz⟩ := h
  obtain ⟨g0, t0, cs0, fuel0, p0, q0, _, _, _, _, hL1, hps0⟩ := hL
  obtain ⟨g, t, cs, fuel, p, q, hg, ht, hv, hd, _, hps⟩ := hL1
  exact atoms_core hg ht hv hd fun i hi => (hz g i (in_row (fun x hx => by rw [hps0, hps]; exact List.mem_append_right _ hx) hi)).1
theorem atoms_good6 {W : World} (h : laidMetH pr laidL6 W) : GoodB pr W ⟨gAt, 0, 128, 1, false⟩ gA := by
  rw [MakeChecks.laidMetH_plain _ _ _ (by kernel_rfl)] at h
  obtain ⟨ps0, hL, _, hz⟩ := h
  obtain ⟨g0, t0, cs0, fuel0, p0, q0, _, _, _, _, hL1, hps0⟩ := hL
  obtain ⟨g1, t1, cs1, fuel1, p1, q1, _, _, _, _, hL2, hps1⟩ := hL1
  obtain ⟨g2, t2, cs2, fuel2, p2, q2, _, _, _, _, hL3, hps2⟩ := hL2
  obtain ⟨g, t, cs, fuel, p, q, hg, ht, hv, hd, _, hps⟩ := hL3
  exact atoms_core hg ht hv hd fun i hi => (hz g i (in_row (fun x hx => by rw [hps0, hps1, hps2, hps]; exact List.mem_append_right _ (List.mem_append_right _ (List.mem_append_right _ hx))) hi)).1
end Go.Vf.S

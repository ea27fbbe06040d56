import Derived.Test.YtfccipbogdmbnaaDoorLbO
import Derived.Test.YtfccipbogdmbnaaDoorBnA
import Derived.Test.YtfccipbogdmbnaaDoorLbH
import Derived.Shelf.Vars
import Derived.Handed
/- A start that knows the library's own number, and blocks more. -/
namespace Go.Vf.S
open Go Go.Vf Go.Proofs Go.Proofs.YtfccipbogdmbnaaDoor Go.RowKit Go.ChangeShapes
set_option linter.unusedVariables false
set_option linter.unusedSimpArgs false

abbrev gMax : Nat := 2
theorem max_good {W : World} (h : W.ShapedOpen pr) : ∃ m, GoodB pr W ⟨gMax, 0, 1, 1, false⟩ (.cells [.int .i64 m] 3 false true) := by
  have h0 : ((begin pr (fun _ _ => 0) default).world.heap[gMax]?).bind Obj.row? = some (#[.int .i64 0], 3) := by kernel_rfl
  have hg : gMax < pr.globals.size := by decide +kernel
  obtain ⟨m, hm⟩ := cell_of_shapedOpen_int h hg h0 rfl (by kernel_rfl) (by kernel_rfl) Tryd.underlying3
  obtain ⟨cs, hh, hs, _⟩ := h.1 gMax _ 3 hg h0
  have hcs : cs = #[.int .i64 m] := by
    have h1 : cs.size = 1 := hs
    have h2 : cs[0]? = some (.int .i64 m) := by simpa [World.cell?, hh] using hm
    apply Array.ext'
    have h3 : cs.toList.length = 1 := by simpa using h1
    match hl : cs.toList, h3 with
    | [v], _ =>
      have : cs.toList[0]? = some (.int .i64 m) := by simpa using h2
      rw [hl] at this
      simpa using this
  subst hcs
  refine ⟨m, fun ρ => ⟨rfl, [.int .i64 m], 0, 0, 3, hh, (fun z => by cases z), (fun i _ hh => by omega), Nat.le_refl _, Nat.le_refl _, (by kernel_rfl), fun i v hi => ⟨v, by simpa using hi, plain1_rel ?_⟩⟩, rfl, (Array.getElem?_eq_some_iff.1 hh).1⟩
  match i, hi with
  | 0, hi => cases hi; rfl
  | i + 1, hi => simp at hi


/-- The number, and blocks more. -/
def bsM (m : Int) (xs : List (RE × ABlk)) : List (RE × Option ABlk) := ((List.range gMax).map fun i => (⟨i, 0, 0, 1, false⟩, none)) ++ (⟨gMax, 0, 1, 1, false⟩, some (.cells [.int .i64 m] 3 false true)) :: xs.map fun x => (x.1, some x.2)
def startM (m : Int) (xs : List (RE × ABlk)) : SS := startO (bsM m xs) (gMax + 1)
theorem bsM_len (m : Int) (xs : List (RE × ABlk)) : (bsM m xs).length = gMax + 1 + xs.length := by
  simp only [bsM, List.length_append, List.length_map, List.length_range, List.length_cons]
  omega
theorem bsM_low {m : Int} {xs : List (RE × ABlk)} {i : Nat} (h : i < gMax) : (bsM m xs)[i]? = some (⟨i, 0, 0, 1, false⟩, none) := by
  unfold bsM
  rw [List.getElem?_append_left (by rw [List.length_map, List.length_range]; exact h), List.getElem?_map, List.getElem?_range h]
  rfl
theorem bsM_at {m : Int} {xs : List (RE × ABlk)} : (bsM m xs)[gMax]? = some (⟨gMax, 0, 1, 1, false⟩, some (.cells [.int .i64 m] 3 false true)) := by
  unfold bsM
  rw [List.getElem?_append_right (by simp)]
  simp
theorem bsM_more {m : Int} {xs : List (RE × ABlk)} {i : Nat} : (bsM m xs)[gMax + 1 + i]? = xs[i]?.map fun x => (x.1, some x.2) := by
  unfold bsM
  rw [List.getElem?_append_right (by simp <;> omega)]
  simp only [List.length_map, List.length_range]
  rw [show gMax + 1 + i - gMax = i + 1 by omega, List.getElem?_cons_succ, List.getElem?_map]
theorem startM_rel {W : World} {m : Int} {xs : List (RE × ABlk)} (g1 : GoodB pr W ⟨gMax, 0, 1, 1, false⟩ (.cells [.int .i64 m] 3 false true)) (hx : ∀ x ∈ xs, GoodB pr W x.1 x.2) :
    HRel pr W.heap.size W (renO (bsM m xs)) (startM m xs).st W ∧ FreeFrom (renO (bsM m xs)) (startM m xs).next ∧ Gx (startM m xs) ∧ Fine (startM m xs) ∧
      ∀ (i : Nat) x, xs[i]? = some x → renO (bsM m xs) (gMax + 1 + i) = some x.1 ∧ lookH (startM m xs).heap (gMax + 1 + i) = some x.2 ∧ gMax + 1 + i < (startM m xs).next := by
  have k1 : gMax < W.heap.size := g1.2.2
  have all : ∀ i y, (bsM m xs)[i]? = some y → (i < gMax ∧ y = (⟨i, 0, 0, 1, false⟩, none)) ∨ (i = gMax ∧ y = (⟨gMax, 0, 1, 1, false⟩, some (.cells [.int .i64 m] 3 false true))) ∨ (∃ x ∈ xs, y = (x.1, some x.2)) := fun i y h => by
    rcases Nat.lt_trichotomy i gMax with q | q | q
    · rw [bsM_low q] at h
      exact .inl ⟨q, (Option.some.inj h).symm⟩
    · subst q
      rw [bsM_at] at h
      exact .inr (.inl ⟨rfl, (Option.some.inj h).symm⟩)
    · obtain ⟨j, rfl⟩ : ∃ j, i = gMax + 1 + j := ⟨i - (gMax + 1), by omega⟩
      rw [bsM_more] at h
      cases hj : xs[j]? with
      | none => rw [hj] at h; cases h
      | some x =>
        rw [hj] at h
        exact .inr (.inr ⟨x, List.mem_of_getElem? hj, (Option.some.inj h).symm⟩)
  obtain ⟨H1, H2⟩ := startO_rel (P := pr) (W := W) (bs := bsM m xs) (gl := gMax + 1) (fun i e b h => by
    rcases all i _ h with ⟨_, q⟩ | ⟨_, q⟩ | ⟨x, hm, q⟩
    · cases q
    · cases q; exact ⟨g1.1 _, g1.2.1⟩
    · cases q; exact ⟨(hx x hm).1 _, (hx x hm).2.1⟩) (fun i e b h => by
    rcases all i _ h with ⟨q1, q⟩ | ⟨_, q⟩ | ⟨x, hm, q⟩
    · cases q; exact Nat.lt_trans q1 k1
    · cases q; exact k1
    · cases q; exact (hx x hm).2.2) (fun g hg => by
    rcases Nat.lt_or_ge g gMax with q | q
    · exact ⟨_, _, bsM_low q, rfl, rfl⟩
    · obtain rfl : g = gMax := by omega
      exact ⟨_, _, bsM_at, rfl, rfl⟩)
  have lk : ∀ i, lookH (startM m xs).heap i = ((bsM m xs)[i]?.map Prod.snd).join := fun i => by
    show lookH (heapO 0 (bsM m xs)) i = _
    rw [heapO_look, if_pos (Nat.zero_le _), Nat.sub_zero]
  have nx : (startM m xs).next = gMax + 1 + xs.length := bsM_len m xs
  refine ⟨H1, H2, ⟨Nat.lt_succ_self _, by rw [nx]; show gMax < _; omega, m, by rw [lk, show gMx = gMax from rfl, bsM_at]; rfl⟩, startO_fine _ _, fun i x h => ⟨?_, ?_, ?_⟩⟩
  · show ((bsM m xs)[gMax + 1 + i]?).map Prod.fst = _
    rw [bsM_more, h]
    rfl
  · rw [lk, bsM_more, h]
    rfl
  · have := (List.getElem?_eq_some_iff.1 h).1
    rw [nx]; omega
end Go.Vf.S

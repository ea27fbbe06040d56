import Derived.Test.YtjkbllbjelpdpaaGreatDoorEngBd
import Derived.SliceStrings
/- EngAr -/
section
/- From a row's arguments to a state: what is handed in, piece by piece. -/
namespace Go.Vf
open Go.RowKit Go.ChangeShapes
set_option linter.unusedVariables false
set_option linter.unusedSimpArgs false

/-- Some blocks lie at numbers from id on. -/
def Laid (xs : List (RE × ABlk)) (id : Nat) (ρ : Ren) : Prop := ∀ (i : Nat) x, xs[i]? = some x → ρ (id + i) = some x.1
def LaidS (xs : List (RE × ABlk)) (id : Nat) (s : SS) : Prop := (∀ (i : Nat) x, xs[i]? = some x → lookH s.heap (id + i) = some x.2) ∧ id + xs.length ≤ s.next

theorem Laid.left {a b : List (RE × ABlk)} {id : Nat} {ρ : Ren} (h : Laid (a ++ b) id ρ) : Laid a id ρ := fun i x hi => h i x (by rw [List.getElem?_append_left (List.getElem?_eq_some_iff.1 hi).1]; exact hi)
theorem Laid.right {a b : List (RE × ABlk)} {id : Nat} {ρ : Ren} (h : Laid (a ++ b) id ρ) : Laid b (id + a.length) ρ := fun i x hi => by
  rw [Nat.add_assoc]
  exact h (a.length + i) x (by rw [List.getElem?_append_right (by omega), Nat.add_sub_cancel_left]; exact hi)
theorem LaidS.left {a b : List (RE × ABlk)} {id : Nat} {s : SS} (h : LaidS (a ++ b) id s) : LaidS a id s :=
  ⟨fun i x hi => h.1 i x (by rw [List.getElem?_append_left (List.getElem?_eq_some_iff.1 hi).1]; exact hi), by have := h.2; rw [List.length_append] at this; omega⟩
theorem LaidS.right {a b : List (RE × ABlk)} {id : Nat} {s : SS} (h : LaidS (a ++ b) id s) : LaidS b (id + a.length) s :=
  ⟨fun i x hi => by
    rw [Nat.add_assoc]
    exact h.1 (a.length + i) x (by rw [List.getElem?_append_right (by omega), Nat.add_sub_cancel_left]; exact hi), by have := h.2; rw [List.length_append] at this; omega⟩

section
variable {H : Type} {enc : TypeId × Value → H} {P : Program} {W : World}

/-- Blocks that a start may have. -/
def GoodL (P : Program) (W : World) (xs : List (RE × ABlk)) (id : Nat) : Prop :=
  ∀ ρ : Ren, Laid xs id ρ → ∀ (i : Nat) x, xs[i]? = some x → BRel P ρ W x.1 x.2 ∧ x.2.ro = true ∧ x.1.blk < W.heap.size

theorem GoodL.nil (id : Nat) : GoodL P W [] id := fun _ _ i x h => by simp at h
theorem GoodL.app {a b : List (RE × ABlk)} {id : Nat} (ha : GoodL P W a id) (hb : GoodL P W b (id + a.length)) : GoodL P W (a ++ b) id := by
  intro ρ hρ i x hi
  rcases Nat.lt_or_ge i a.length with q | q
  · rw [List.getElem?_append_left q] at hi
    exact ha ρ hρ.left i x hi
  · rw [List.getElem?_append_right q] at hi
    exact hb ρ hρ.right _ x hi

theorem GoodL.start {xs : List (RE × ABlk)} (h : GoodL P W xs 0) : HRel P W.heap.size W (renOf xs) (startS xs 0).st W ∧ FreeFrom (renOf xs) (startS xs 0).next ∧ Laid xs 0 (renOf xs) ∧ LaidS xs 0 (startS xs 0) ∧ Fine (startS xs 0) := by
  have hl : Laid xs 0 (renOf xs) := fun i x hi => by simp [renOf, hi]
  obtain ⟨h1, h2⟩ := startS_rel (P := P) (W := W) (bs := xs) (gl := 0) (fun i e b hi => h _ hl i (e, b) hi) (fun g hg => by omega)
  refine ⟨h1, h2, hl, ⟨fun i x hi => ?_, Nat.le_of_eq (Nat.zero_add _)⟩, fun id hid => ?_⟩
  · simp [startS, heapOf_look, hi]
  · have hid' : xs.length ≤ id := hid
    simp [startS, heapOf_look]
    omega

/-- Numbers that are handed in. -/
theorem arg_ints {t e : TypeId} {k : IntKind} {v : Value} {d : DataW H} {ps : List MemPlace} {base : Nat} (ht : P.underlying t = some (.slice e)) (he : P.underlying e = some (.int k)) (hc : (P.info? e).map (·.size) = some 1)
    (hok : Value.okWide P W .any base t v) (h : DataW.Trod enc P W 0 (fun _ => true) true t v d ps) (hnf : ∀ b off, MemPlace.cell b off ∈ ps → W.frozen? ⟨b, off, none⟩ = false) (id : Nat) :
    ∃ (ba : Option Addr) (zs : List Int) (xs : List (RE × ABlk)), GoodL P W xs id ∧ (∀ ρ : Ren, Laid xs id ρ → VRel ρ (.slice ba zs.length 0) v) ∧ (∀ z ∈ zs, (Lit.int k z).wf = true) ∧ zs.length ≤ maxLen ∧
      (ba = none ∧ zs = [] ∨ ba = some ⟨id, 0, none⟩ ∧ ∃ e1, xs = [(e1, .cells (zs.map fun z => .int k z) e true true)]) := by
  have hlen : ∀ {a : Addr} {n cap : Nat}, v = .slice (some a) n cap → n ≤ maxLen := by
    intro a n cap hv
    obtain ⟨fuel, h⟩ := h
    rcases DataW.trod_slice ht h with ⟨e1, -⟩ | ⟨a', len', cap', elems, rest, m, rfl, e1, e2, e3, e4, e5, e6, e7, e8, -⟩
    · subst hv; simp [Value.cells] at e1
    · subst hv
      simp [Value.cells] at e1
      obtain ⟨rfl, rfl, rfl⟩ := e1
      omega
  rcases open_slice ht he hc hok h hnf with rfl | ⟨b, off, n, cap, zs, rfl, h1, h2, h3, h4, h5⟩
  · exact ⟨none, [], [], .nil _, fun ρ _ => .nilSlice 0 0, by simp, Nat.zero_le _, .inl ⟨rfl, rfl⟩⟩
  · refine ⟨some ⟨id, 0, none⟩, zs, [(⟨b, off, cap, 1, true⟩, .cells (zs.map fun z => .int k z) e true true)], fun ρ hρ i x hi => ?_, fun ρ hρ => ?_, h4, by rw [h2]; exact hlen rfl, .inr ⟨rfl, _, rfl⟩⟩
    · match i, hi with
      | 0, hi => cases hi; exact ⟨h5 ρ, rfl, h3⟩
    · have := hρ 0 _ rfl
      rw [h2]
      exact .slice (.inl ⟨rfl, rfl, _, this, rfl, .inr ⟨rfl, ⟨h1, .inl rfl⟩, Nat.le_refl _, by simp, .inr rfl⟩⟩)
end
end Go.Vf
end
/- EngAs -/
section
/- From a row's arguments: a row of texts. -/
namespace Go.Vf
open Go.RowKit Go.ChangeShapes
set_option linter.unusedVariables false
set_option linter.unusedSimpArgs false
section
variable {H : Type} {enc : TypeId × Value → H} {P : Program} {W : World}

theorem inner_strs {e u : TypeId} (he : P.underlying e = some (.slice u)) (hu : P.underlying u = some .string) (hc : (P.info? u).map (·.size) = some 1) {fuel : Nat} {v : Value} {x : DataW H × List MemPlace}
    (h : DataW.trod enc P W 0 (fun _ => true) true fuel e [v] = some x) (hnf : ∀ b off, MemPlace.cell b off ∈ x.2 → W.frozen? ⟨b, off, none⟩ = false) {ed : RE} (hd : GoodB P W ed (.cells [] u true true)) (id : Nat) :
    ∃ (ba : Option Addr) (ss : List ByteArray) (e1 : RE), GoodB P W e1 (.cells (ss.map fun z => .string z) u true true) ∧ (∀ ρ : Ren, ρ id = some e1 → VRel ρ (.slice ba ss.length 0) v) ∧ ss.length ≤ maxLen ∧ (ba = none ∧ ss = [] ∨ ba = some ⟨id, 0, none⟩) := by
  rcases open_strings he hu (cellsOf_one hc) h with ⟨e1, e2⟩ | ⟨a, len, cap, zs, e1, e2, e3, e4, e5, e6, e7, e8⟩
  · cases e1
    exact ⟨none, [], ed, hd, fun ρ _ => .nilSlice 0 0, Nat.zero_le _, .inl ⟨rfl, rfl⟩⟩
  · cases e1
    simp only [if_true] at e5
    rcases Nat.eq_zero_or_pos cap with h0 | h0
    · obtain rfl : cap = 0 := h0
      obtain rfl : len = 0 := by omega
      refine ⟨some ⟨id, 0, none⟩, [], ed, hd, fun ρ hρ => .slice (.inr ⟨rfl, rfl, rfl, ed, hρ, (hd.1 ρ).1⟩), Nat.zero_le _, .inr rfl⟩
    · obtain ⟨b, off, sp⟩ := a
      have c0 := e7 0 (by omega)
      rw [show (⟨b, off, sp⟩ : Addr).add 0 = ⟨b, off, sp⟩ from rfl] at c0
      have hsp : sp = none := by
        unfold World.cell? at c0
        split at c0
        · split at c0
          · cases c0
          · rename_i hs
            cases sp <;> simp at hs ⊢
        · cases c0
      subst hsp
      cases hb : W.heap[b]? with
      | none => simp [World.cell?, hb] at c0
      | some o =>
        cases o with
        | cells rc T0 fr =>
          obtain ⟨rc⟩ := rc
          obtain ⟨lo, hi⟩ := fr
          have hbs : b < W.heap.size := (Array.getElem?_eq_some_iff.1 hb).1
          have cell : ∀ i, i < zs.length → rc[off + i]? = some (.string (zs.getD i ByteArray.empty)) := by
            intro i hi
            have := e7 i hi
            rw [add_eq, cell_at hb] at this
            exact this
          have hroom : off + cap ≤ rc.length := by
            have := cell (cap - 1) (by omega)
            have := (List.getElem?_eq_some_iff.1 this).1
            omega
          have hB : ∀ ρ, BRel P ρ W ⟨b, off, cap, 1, true⟩ (.cells ((zs.take len).map fun z => .string z) u true true) := by
            intro ρ
            refine ⟨rfl, rc, lo, hi, T0, hb, (fun z => by cases z), fun i hi' hc2 => ?_, hroom, by simp; omega, hc, fun i v hv => ?_⟩
            · have hi2 : i < cap := hi'
              have hc3 : lo ≤ off + i ∧ off + i < hi := hc2
              have hin : MemPlace.cell b (off + i) ∈ x.2 := by
                rw [e6]
                exact List.mem_map.2 ⟨i, List.mem_range.2 (by omega), rfl⟩
              have := hnf b (off + i) hin
              simp only [World.frozen?, hb] at this
              simp at this
              omega
            · have hil : i < len := by
                have := (List.getElem?_eq_some_iff.1 hv).1
                simp at this; omega
              simp only [List.getElem?_map, List.getElem?_take, if_pos hil] at hv
              refine ⟨_, cell i (by omega), ?_⟩
              cases hz : zs[i]? with
              | none => rw [hz] at hv; cases hv
              | some z =>
                rw [hz] at hv; cases hv
                rw [List.getD, hz]
                exact .string _
          have hlen : (zs.take len).length = len := by simp; omega
          refine ⟨some ⟨id, 0, none⟩, zs.take len, _, ⟨hB, rfl, hbs⟩, fun ρ hρ => ?_, by omega, .inr rfl⟩
          rw [hlen]
          exact .slice (.inl ⟨rfl, rfl, _, hρ, rfl, .inr ⟨rfl, ⟨e3, .inl rfl⟩, Nat.le_refl _, by simp, .inr rfl⟩⟩)
        | _ => simp [World.cell?, hb] at c0
end
end Go.Vf
end

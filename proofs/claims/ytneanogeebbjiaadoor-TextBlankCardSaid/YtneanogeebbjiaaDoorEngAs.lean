import Derived.Test.YtneanogeebbjiaaDoorEngAr
import Derived.SliceStrings
/- From a row's arguments: a row of texts. -/
namespace Go.Vf
open Go.RowKit Go.ChangeShapes
set_option linter.unusedVariables false
set_option linter.unusedSimpArgs false
section
variable {H : Type} {enc : TypeId × Value → H} {P : Program} {W : World}

theorem inner_strs {e u : TypeId} (he : P.underlying e = some (.slice u)) (hu : P.underlying u = some .string) (hc : (P.info? u).map (·.size) = some 1) {fuel : Nat} {v : Value} {x : DataW H × List MemPlace}
    (h : DataW.trod enc P W 0 (fun _ => true) true fuel e [v] = some x) (hnf : ∀ b off, MemPlace.cell b off ∈ x.2 → W.frozen? ⟨b, off, none⟩ = false) {ed : RE} (hd : GoodB P W ed (.cells [] u true true)) (id : Nat) :
    ∃ (ba : Option Addr) (ss : List ByteArray) (e1 : RE), GoodB P W e1 (.cells (ss.map fun z => .string z) u true true) ∧ (∀ ρ : Ren, ρ id = some e1 → VRel ρ (.slice ba ss.length 0) v) ∧ ss.length ≤ maxLen ∧ (ba = none ∧ ss = [] ∨ ba = some ⟨id, 0, none⟩) := by
  rcases open_strings he hu (cellsOf_one hc) h with ⟨e1, e2⟩ | ⟨a, len, cap, zs, e1, e2, e3, e4, e5, e6, e7, e8⟩
  · cases e1
    exact ⟨none, [], ed, hd, fun ρ _ => .nilSlice 0 0, Nat.zero_le _, .inl ⟨rfl, rfl⟩⟩
  · cases e1
    simp only [if_true] at e5
    rcases Nat.eq_zero_or_pos cap with h0 | h0
    · obtain rfl : cap = 0 := h0
      obtain rfl : len = 0 := by omega
      refine ⟨some ⟨id, 0, none⟩, [], ed, hd, fun ρ hρ => .slice (.inr ⟨rfl, rfl, rfl, ed, hρ, (hd.1 ρ).1⟩), Nat.zero_le _, .inr rfl⟩
    · obtain ⟨b, off, sp⟩ := a
      have c0 := e7 0 (by omega)
      rw [show (⟨b, off, sp⟩ : Addr).add 0 = ⟨b, off, sp⟩ from rfl] at c0
      have hsp : sp = none := by
        unfold World.cell? at c0
        split at c0
        · split at c0
          · cases c0
          · rename_i hs
            cases sp <;> simp at hs ⊢
        · cases c0
      subst hsp
      cases hb : W.heap[b]? with
      | none => simp [World.cell?, hb] at c0
      | some o =>
        cases o with
        | cells rc T0 fr =>
          obtain ⟨rc⟩ := rc
          obtain ⟨lo, hi⟩ := fr
          have hbs : b < W.heap.size := (Array.getElem?_eq_some_iff.1 hb).1
          have cell : ∀ i, i < zs.length → rc[off + i]? = some (.string (zs.getD i ByteArray.empty)) := by
            intro i hi
            have := e7 i hi
            rw [add_eq, cell_at hb] at this
            exact this
          have hroom : off + cap ≤ rc.length := by
            have := cell (cap - 1) (by omega)
            have := (List.getElem?_eq_some_iff.1 this).1
            omega
          have hB : ∀ ρ, BRel P ρ W ⟨b, off, cap, 1, true⟩ (.cells ((zs.take len).map fun z => .string z) u true true) := by
            intro ρ
            refine ⟨rfl, rc, lo, hi, T0, hb, (fun z => by cases z), fun i hi' hc2 => ?_, hroom, by simp; omega, hc, fun i v hv => ?_⟩
            · have hi2 : i < cap := hi'
              have hc3 : lo ≤ off + i ∧ off + i < hi := hc2
              have hin : MemPlace.cell b (off + i) ∈ x.2 := by
                rw [e6]
                exact List.mem_map.2 ⟨i, List.mem_range.2 (by omega), rfl⟩
              have := hnf b (off + i) hin
              simp only [World.frozen?, hb] at this
              simp at this
              omega
            · have hil : i < len := by
                have := (List.getElem?_eq_some_iff.1 hv).1
                simp at this; omega
              simp only [List.getElem?_map, List.getElem?_take, if_pos hil] at hv
              refine ⟨_, cell i (by omega), ?_⟩
              cases hz : zs[i]? with
              | none => rw [hz] at hv; cases hv
              | some z =>
                rw [hz] at hv; cases hv
                rw [List.getD, hz]
                exact .string _
          have hlen : (zs.take len).length = len := by simp; omega
          refine ⟨some ⟨id, 0, none⟩, zs.take len, _, ⟨hB, rfl, hbs⟩, fun ρ hρ => ?_, by omega, .inr rfl⟩
          rw [hlen]
          exact .slice (.inl ⟨rfl, rfl, _, hρ, rfl, .inr ⟨rfl, e3, Nat.le_refl _, by simp, .inr rfl⟩⟩)
        | _ => simp [World.cell?, hb] at c0
end
end Go.Vf

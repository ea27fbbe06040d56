import Derived.Test.YtgnhkclddahdnaaGreatDoorLbU
/- A start that knows the tables, and one block more. -/
namespace Go.Vf.S
open Go Go.Vf Go.Proofs Go.Proofs.YtgnhkclddahdnaaGreatDoor Go.RowKit Go.ChangeShapes
set_option linter.unusedVariables false
set_option linter.unusedSimpArgs false

def bsW (e : RE) (b : ABlk) : List (RE × Option ABlk) := bsU ++ [(e, some b)]
def startW (e : RE) (b : ABlk) : SS := startO (bsW e b) gTopU
theorem bsW_len (e : RE) (b : ABlk) : (bsW e b).length = gTopU + 1 := by unfold bsW; rw [List.length_append, bsU_len]; rfl
theorem bsW_at {e : RE} {b : ABlk} {i : Nat} (h : i < gTopU) : (bsW e b)[i]? = some (uAt i) := by
  unfold bsW
  rw [List.getElem?_append_left (by rw [bsU_len]; exact h), bsU_at h]
theorem bsW_last {e : RE} {b : ABlk} : (bsW e b)[gTopU]? = some (e, some b) := by
  unfold bsW
  rw [List.getElem?_append_right (by rw [bsU_len]; exact Nat.le_refl _), bsU_len, Nat.sub_self]
  rfl
theorem startW_rel {W : World} {e : RE} {b : ABlk} (g0 : GoodB pr W ⟨gAt, 0, 128, 1, false⟩ gA) (g1 : GoodB pr W ⟨gFi, 0, 256, 1, false⟩ (.cells fiV tU8 false true)) (g2 : GoodB pr W ⟨gAc, 0, 32, 1, false⟩ (.cells acV tU8 false true)) (g3 : GoodB pr W e b) :
    HRel pr W.heap.size W (renO (bsW e b)) (startW e b).st W ∧ FreeFrom (renO (bsW e b)) (startW e b).next ∧ renO (bsW e b) gTopU = some e := by
  have all : ∀ i x, (bsW e b)[i]? = some x → (i < gTopU ∧ x = uAt i) ∨ (i = gTopU ∧ x = (e, some b)) := fun i x h => by
    have hi : i < gTopU + 1 := by rw [← bsW_len e b]; exact (List.getElem?_eq_some_iff.1 h).1
    rcases Nat.lt_or_ge i gTopU with q | q
    · rw [bsW_at q] at h
      exact .inl ⟨q, (Option.some.inj h).symm⟩
    · obtain rfl : i = gTopU := by omega
      rw [bsW_last] at h
      exact .inr ⟨rfl, (Option.some.inj h).symm⟩
  have k0 : gAt < W.heap.size := g0.2.2
  have k1 : gFi < W.heap.size := g1.2.2
  have k2 : gAc < W.heap.size := g2.2.2
  obtain ⟨H1, H2⟩ := startO_rel (P := pr) (W := W) (bs := bsW e b) (gl := gTopU) (fun i e' b' h => by
    rcases all i _ h with ⟨_, q⟩ | ⟨_, q⟩
    · unfold uAt at q
      split at q
      · cases q; exact ⟨g0.1 _, g0.2.1⟩
      · split at q
        · cases q; exact ⟨g1.1 _, g1.2.1⟩
        · split at q
          · cases q; exact ⟨g2.1 _, g2.2.1⟩
          · cases q
    · cases q
      exact ⟨g3.1 _, g3.2.1⟩) (fun i e' b' h => by
    have ht : gTopU ≤ W.heap.size := by show max gAt (max gFi gAc) + 1 ≤ _; omega
    rcases all i _ h with ⟨hi, q⟩ | ⟨_, q⟩
    · unfold uAt at q
      split at q
      · cases q; exact k0
      · split at q
        · cases q; exact k1
        · split at q
          · cases q; exact k2
          · cases q; exact Nat.lt_of_lt_of_le hi ht
    · cases q
      exact g3.2.2) (fun g hg => by
    rw [bsW_at hg]
    unfold uAt
    by_cases h1 : g = gAt
    · rw [if_pos h1]; exact ⟨_, _, rfl, h1.symm, rfl⟩
    · rw [if_neg h1]
      by_cases h2 : g = gFi
      · rw [if_pos h2]; exact ⟨_, _, rfl, h2.symm, rfl⟩
      · rw [if_neg h2]
        by_cases h3 : g = gAc
        · rw [if_pos h3]; exact ⟨_, _, rfl, h3.symm, rfl⟩
        · rw [if_neg h3]; exact ⟨_, _, rfl, rfl, rfl⟩)
  exact ⟨H1, H2, by simp [renO, bsW_last]⟩
theorem startW_look {e : RE} {b : ABlk} {i : Nat} (h : i < gTopU) : lookH (startW e b).heap i = (uAt i).2 := by
  show lookH (heapO 0 (bsW e b)) i = _
  rw [heapO_look, if_pos (Nat.zero_le _), Nat.sub_zero, bsW_at h]
  rfl
theorem startW_last {e : RE} {b : ABlk} : lookH (startW e b).heap gTopU = some b := by
  show lookH (heapO 0 (bsW e b)) gTopU = _
  rw [heapO_look, if_pos (Nat.zero_le _), Nat.sub_zero, bsW_last]
  rfl
theorem startW_next {e : RE} {b : ABlk} : (startW e b).next = gTopU + 1 := bsW_len e b
theorem startW_Gb (e : RE) (b : ABlk) : Gb (startW e b) := ⟨(by show gAt < gTopU; decide), (by rw [startW_next]; decide), by rw [startW_look (by decide)]; rfl⟩
theorem startW_Gv (e : RE) (b : ABlk) : Gv (startW e b) := ⟨(by show gFi < gTopU; decide), (by show gAc < gTopU; decide), (by rw [startW_next]; decide), (by rw [startW_next]; decide), (by rw [startW_look (by decide)]; rfl), (by rw [startW_look (by decide)]; rfl)⟩
theorem startW_fine (e : RE) (b : ABlk) : Fine (startW e b) := startO_fine _ _
/-- An empty row that no one reads. -/
theorem no_rowW {W : World} {t : TypeId} {k : Nat} (g0 : GoodB pr W ⟨gAt, 0, 128, 1, false⟩ gA) (hz : (pr.info? t).map (·.size) = some k) : GoodB pr W ⟨gAt, 0, 0, k, true⟩ (.cells [] t true true) := by
  refine ⟨fun ρ => ?_, rfl, g0.2.2⟩
  obtain ⟨h1, rc, lo, hi, t0, h2, -⟩ := g0.1 ρ
  exact ⟨rfl, rc, lo, hi, t0, h2, (fun z => by cases z), fun i hi => absurd hi (Nat.not_lt_zero i), Nat.zero_le _, Nat.le_refl _, hz, fun i v hv => by simp at hv⟩
end Go.Vf.S

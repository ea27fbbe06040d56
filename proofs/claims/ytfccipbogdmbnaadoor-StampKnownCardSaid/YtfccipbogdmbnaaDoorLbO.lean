import Derived.Test.YtfccipbogdmbnaaDoorAdZ
/- Starts that know some of their blocks. -/
namespace Go.Vf.S
open Go Go.Vf Go.Proofs Go.Proofs.YtfccipbogdmbnaaDoor Go.RowKit Go.ChangeShapes
set_option linter.unusedVariables false
set_option linter.unusedSimpArgs false

def renO (bs : List (RE × Option ABlk)) : Ren := fun id => bs[id]?.map Prod.fst
def heapO : Nat → List (RE × Option ABlk) → List (Nat × Option ABlk)
  | _, [] => []
  | n, (_, b) :: r => (n, b) :: heapO (n + 1) r
theorem heapO_look : ∀ (l : List (RE × Option ABlk)) (n id : Nat), lookH (heapO n l) id = if n ≤ id then (l[id - n]?.map Prod.snd).join else none
  | [], n, id => by simp [heapO, lookH]
  | (e, b) :: r, n, id => by
    simp only [heapO, lookH]
    rcases beq_cases n id with ⟨h, hb⟩ | ⟨h, hb⟩
    · subst h; simp
    · rw [hb, cond_false, heapO_look r (n + 1) id]
      by_cases h1 : n + 1 ≤ id
      · rw [if_pos h1, if_pos (by omega), show id - n = (id - (n + 1)) + 1 from by omega, List.getElem?_cons_succ]
      · rw [if_neg h1, if_neg (by omega)]
def startO (bs : List (RE × Option ABlk)) (gl : Nat) : SS := ⟨heapO 0 bs, bs.length, gl⟩
theorem startO_rel {P : Program} {W : World} {bs : List (RE × Option ABlk)} {gl : Nat} (h : ∀ (i : Nat) e b, bs[i]? = some (e, some b) → BRel P (renO bs) W e b ∧ b.ro = true) (hl : ∀ (i : Nat) e b, bs[i]? = some (e, b) → e.blk < W.heap.size)
    (hg : ∀ g, g < gl → ∃ e b, bs[g]? = some (e, b) ∧ e.blk = g ∧ e.off = 0) : HRel P W.heap.size W (renO bs) (startO bs gl).st W ∧ FreeFrom (renO bs) (startO bs gl).next := by
  have get : ∀ id b e, (startO bs gl).st.heap.get id = some b → renO bs id = some e → bs[id]? = some (e, some b) := by
    intro id b e hb he
    rw [SS.get] at hb
    simp only [startO, heapO_look, Nat.zero_le, if_true, Nat.sub_zero] at hb
    simp only [renO] at he
    cases hx : bs[id]? with
    | none => rw [hx] at hb; cases hb
    | some x =>
      rw [hx] at hb he
      obtain ⟨e', b'⟩ := x
      cases he
      simp only [Option.map_some, Option.join_some] at hb
      subst hb
      rfl
  refine ⟨⟨.refl _ _, Nat.le_refl _, .refl _, ?_, ?_, ?_, ?_, ?_, ?_⟩, ?_⟩
  · intro id b e hb he; exact (h _ _ _ (get _ _ _ hb he)).1
  · intro id b e hb he hr; rw [(h _ _ _ (get _ _ _ hb he)).2] at hr; cases hr
  · intro id b e hb he hr; exact hl _ _ _ (get _ _ _ hb he)
  · intro i j b b' e e' hb _ he _ hr; rw [(h _ _ _ (get _ _ _ hb he)).2] at hr; cases hr
  · intro id e he
    simp only [renO] at he
    cases hx : bs[id]? with
    | none => rw [hx] at he; cases he
    | some x =>
      rw [hx] at he
      obtain ⟨e', b'⟩ := x
      cases he
      exact hl _ _ _ hx
  · intro g hlt
    obtain ⟨e, b, h1, h2, h3⟩ := hg g hlt
    exact ⟨e, by simp [renO, h1], h2, h3⟩
  · intro id hid
    simp only [renO]
    rw [List.getElem?_eq_none (by exact hid)]; rfl
theorem startO_fine (bs : List (RE × Option ABlk)) (gl : Nat) : Fine (startO bs gl) := fun id hid => by
  show lookH (heapO 0 bs) id = none
  rw [heapO_look, List.getElem?_eq_none (by simpa [startO] using hid)]
  rfl

end Go.Vf.S

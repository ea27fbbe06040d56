import Derived.Test.YtneanogeebbjiaaDoorEngXt
/- The machine of plain blocks: calls whose contract is known of the world itself. -/
namespace Go.Vf
open Go.RowKit
set_option linter.unusedVariables false
set_option linter.unusedSimpArgs false

/-- A world that has only grown. -/
theorem HRel.grown {P : Program} {B : Nat} {w0 : World} {ρ : Ren} {s : ASt} {w w' : World} (H : HRel P B w0 ρ s w) (h : Below w.heap.size w w') : HRel P B w0 ρ s w' :=
  { below := H.below.trans (h.mono H.size), base := H.base
    books := H.books.trans fun k hk => (h.block k (Array.getElem?_eq_some_iff.1 hk).1).trans hk
    blk := fun id b e hb he => (H.blk id b e hb he).mono (.refl _) (h.block _ (H.lt _ _ he))
    own := H.own, low := H.low, inj := H.inj
    lt := fun id e he => Nat.lt_of_lt_of_le (H.lt id e he) h.size
    glob := H.glob }

theorem CallW.kit {P : Program} {f : FuncId} {args : List Value} {s : SS} {v : Value} (hv : plain1 v = true)
    (h : ∀ (B : Nat) (w0 : World) (ρ : Ren) (args' : List Value) (w : World), HRel P B w0 ρ s.st w → LRel ρ args args' → Calls P f ⟨args'⟩ w fun e w' => e = .returned v ∧ Below w.heap.size w w') : CallW P f args s fun u s' => u = v ∧ s' = s :=
  ⟨v, s, ⟨rfl, rfl⟩, Nat.le_refl _, rfl, fun B w0 ρ args' w H ha hf => (h B w0 ρ args' w H ha).mono fun e w' he => ⟨v, ρ, he.1, plain1_rel hv, H.grown he.2, .refl _ _ _⟩⟩

/-- A cell that the state knows, in the world. -/
theorem HRel.cellAt {P : Program} {B : Nat} {w0 : World} {ρ : Ren} {s : SS} {w : World} (H : HRel P B w0 ρ s.st w) {id off : Nat} {cs : List Value} {t : TypeId} {g r : Bool} {v : Value} {e : RE} (hb : lookH s.heap id = some (.cells cs t g r)) (he : ρ id = some e) (hc : cs[off]? = some v) :
    ∃ v', w.cell? ⟨e.blk, e.off + off, none⟩ = some v' ∧ VRel ρ v v' := by
  have hb' : s.st.heap.get id = some (.cells cs t g r) := by rw [SS.get]; exact hb
  obtain ⟨_, rc, lo, hi, t0, h2, _, _, _, _, _, h7⟩ := H.blk _ _ _ hb' he
  obtain ⟨v', q1, q2⟩ := h7 off v hc
  refine ⟨v', ?_, q2⟩
  simp [World.cell?, h2, q1]
end Go.Vf

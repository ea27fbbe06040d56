import Derived.Test.YtfminjggoaegdaaGreatDoorEngBg
namespace Go.Vf
open Go.RowKit Go.ChangeShapes
set_option linter.unusedVariables false
set_option linter.unusedSimpArgs false
section
variable {H : Type} {enc : TypeId × Value → H} {P : Program} {W : World}
theorem flat_get {α : Type} {C : α → List Value} {k : Nat} (hC : ∀ a, (C a).length = k) : ∀ {l : List α} {i : Nat} {a : α} {j : Nat}, l[i]? = some a → j < k → (l.flatMap C)[i * k + j]? = (C a)[j]?
 | [], i, a, j, h, _ => by simp at h
 | b :: l, 0, a, j, h, hj => by
  simp only [List.getElem?_cons_zero, Option.some.injEq] at h
  subst h
  rw [List.flatMap_cons, Nat.zero_mul, Nat.zero_add, List.getElem?_append_left (by rw [hC]; exact hj)]
 | b :: l, i + 1, a, j, h, hj => by
  have ih := flat_get (C := C) hC (l := l) (i := i) (a := a) (j := j) (by simpa using h) hj
  rw [List.flatMap_cons, List.getElem?_append_right (by rw [hC, Nat.succ_mul]; omega), hC, ← ih]
  congr 1
  rw [Nat.succ_mul]; omega
theorem flat_len {α : Type} {C : α → List Value} {k : Nat} (hC : ∀ a, (C a).length = k) : ∀ (l : List α), (l.flatMap C).length = l.length * k
 | [] => by simp
 | a :: l => by rw [List.flatMap_cons, List.length_append, hC, flat_len hC l, List.length_cons, Nat.succ_mul]; omega
theorem inner_recs {e u : TypeId} {k : Nat} (he : P.underlying e = some (.slice u)) (hc : P.cellsOf u = k) (hk : 0 < k) (hz : (P.info? u).map (·.size) = some k) {α : Type} {C : α → List Value} (hC : ∀ a, (C a).length = k) (hp : ∀ a, (C a).all plain1 = true)
  (hel : ∀ fuel cs x, DataW.trod enc P W 0 (fun _ => true) true fuel u cs = some x → ∃ a, cs = C a) {fuel : Nat} {v : Value} {x : DataW H × List MemPlace}
  (h : DataW.trod enc P W 0 (fun _ => true) true fuel e [v] = some x) (hnf : ∀ b off, MemPlace.cell b off ∈ x.2 → W.frozen? ⟨b, off, none⟩ = false) {ed : RE} (hd : GoodB P W ed (.cells [] u true true)) (hde : ed.grow = true) (id : Nat) :
  ∃ (ba : Option Addr) (l : List α) (e1 : RE), GoodB P W e1 (.cells (l.flatMap C) u true true) ∧ (∀ ρ : Ren, ρ id = some e1 → VRel ρ (.slice ba l.length 0) v) ∧ l.length ≤ maxLen ∧ (ba = none ∧ l = [] ∨ ba = some ⟨id, 0, none⟩) := by
 rcases DataW.trod_slice he h with ⟨e1, -⟩ | ⟨a, len, cap, elems, rest, m, rfl, e1, e2, e3, e4, e5, e6, e7, e8, -⟩
 ·cases e1
  exact ⟨none, [], ed, hd, fun ρ _ => .nilSlice 0 0, Nat.zero_le _, .inl ⟨rfl, rfl⟩⟩
 ·cases e1
  have hrest := e8 rfl
  rcases Nat.eq_zero_or_pos cap with h0 | h0
  ·obtain rfl : cap = 0 := h0
   obtain rfl : len = 0 := by omega
   exact ⟨some ⟨id, 0, none⟩, [], ed, hd, fun ρ hρ => .slice (.inr ⟨rfl, rfl, rfl, ed, hρ, hde⟩), Nat.zero_le _, .inr rfl⟩
  ·have each : ∀ i, i < cap → ∃ al : α, ∀ j, j < k → W.cell? ((a.add (i * k)).add j) = (C al)[j]? := by
    intro i hi
    have hx : ∃ y, (W.cells? 0 (a.add (i * P.cellsOf u)) (P.cellsOf u)).bind (DataW.trod enc P W 0 (fun _ => true) true m u) = some y := by
     by_cases hl : i < len
     ·have := e7 i hl
      rw [List.getElem?_eq_getElem (by omega)] at this
      exact ⟨_, this⟩
     ·have := hrest.2 (i - len) (by omega)
      rw [show len + (i - len) = i from by omega, List.getElem?_eq_getElem (by rw [hrest.1]; omega)] at this
      exact ⟨_, this⟩
    obtain ⟨y, hy⟩ := hx
    rw [hc, Option.bind_eq_some_iff] at hy
    obtain ⟨cs, hcs, hy⟩ := hy
    obtain ⟨al, rfl⟩ := hel _ _ _ hy
    have hsz := World.cells?_some hcs
    refine ⟨al, fun j hj => ?_⟩
    have := hsz.2.2 j hj
    rw [← this]
   obtain ⟨b, off, sp⟩ := a
   have hsp : sp = none := by
    obtain ⟨al, h1⟩ := each 0 h0
    have c0 := h1 0 hk
    rw [Nat.zero_mul, show ((⟨b, off, sp⟩ : Addr).add 0).add 0 = ⟨b, off, sp⟩ from rfl, List.getElem?_eq_getElem (by rw [hC]; exact hk)] at c0
    unfold World.cell? at c0
    split at c0
    ·split at c0
     ·cases c0
     ·rename_i hs
      cases sp <;> simp at hs ⊢
    ·cases c0
   subst hsp
   cases hb : W.heap[b]? with
   | none =>
    obtain ⟨al, h1⟩ := each 0 h0
    have c0 := h1 0 hk
    rw [Nat.zero_mul, show ((⟨b, off, none⟩ : Addr).add 0).add 0 = ⟨b, off, none⟩ from rfl, List.getElem?_eq_getElem (by rw [hC]; exact hk)] at c0
    simp [World.cell?, hb] at c0
   | some o =>
    cases o with
    | cells rc T0 fr =>
     obtain ⟨rc⟩ := rc
     obtain ⟨lo, hi⟩ := fr
     have hbs : b < W.heap.size := (Array.getElem?_eq_some_iff.1 hb).1
     have cell : ∀ i, i < cap → ∃ al : α, ∀ j, j < k → rc[off + (i * k + j)]? = (C al)[j]? := fun i hi => by
      obtain ⟨al, h1⟩ := each i hi
      refine ⟨al, fun j hj => ?_⟩
      have := h1 j hj
      rw [add_eq, add_eq, cell_at hb, Nat.add_assoc] at this
      exact this
     have hroom : off + cap * k ≤ rc.length := by
      obtain ⟨al, h1⟩ := cell (cap - 1) (by omega)
      have h2 := h1 (k - 1) (by omega)
      rw [List.getElem?_eq_getElem (l := C al) (by rw [hC]; omega)] at h2
      have h3 := (List.getElem?_eq_some_iff.1 h2).1
      obtain ⟨c, rfl⟩ : ∃ c, cap = c + 1 := ⟨cap - 1, by omega⟩
      rw [Nat.add_sub_cancel] at h3
      rw [Nat.succ_mul]
      omega
     have key : ∀ i : Nat, ∃ al : Option α, i < cap → ∃ z, al = some z ∧ ∀ j, j < k → rc[off + (i * k + j)]? = (C z)[j]? := fun i => by
      by_cases hi : i < cap
      ·obtain ⟨al, h1⟩ := cell i hi
       exact ⟨some al, fun _ => ⟨al, rfl, h1⟩⟩
      ·exact ⟨none, fun q => absurd q hi⟩
     obtain ⟨F, hF⟩ := Classical.axiomOfChoice key
     obtain ⟨l, hl⟩ : ∃ l, l = (List.range len).filterMap F := ⟨_, rfl⟩
     have hall : ∀ (ns : List Nat), (∀ i ∈ ns, i < cap) → ∀ (j : Nat) (i : Nat), ns[j]? = some i → (ns.filterMap F)[j]? = F i ∧ (ns.filterMap F).length = ns.length := by
      intro ns
      induction ns with
      | nil => intro _ j i h; simp at h
      | cons n ns ih =>
       intro hn j i h
       obtain ⟨z, hz, -⟩ := hF n (hn n (by simp))
       have hlen : (ns.filterMap F).length = ns.length := by
        cases ns with
        | nil => rfl
        | cons n' ns' => exact (ih (fun i hi => hn i (by simp [hi])) 0 n' rfl).2
       rw [List.filterMap_cons_some hz]
       refine ⟨?_, by simp [hlen]⟩
       cases j with
       | zero =>
        simp only [List.getElem?_cons_zero, Option.some.injEq] at h
        subst h
        rw [hz]; rfl
       | succ j =>
        rw [List.getElem?_cons_succ]
        exact (ih (fun i hi => hn i (by simp [hi])) j i (by simpa using h)).1
     have lg : ∀ i, i < len → ∃ z, l[i]? = some z ∧ ∀ j, j < k → rc[off + (i * k + j)]? = (C z)[j]? := fun i hi => by
      obtain ⟨z, hz, h1⟩ := hF i (by omega)
      refine ⟨z, ?_, h1⟩
      rw [hl, (hall (List.range len) (fun i hi => by have := List.mem_range.1 hi; omega) i i (by rw [List.getElem?_range hi])).1, hz]
     have hlen : l.length = len := by
      rcases Nat.eq_zero_or_pos len with q | q
      ·rw [hl, q]; rfl
      ·rw [hl, (hall (List.range len) (fun i hi => by have := List.mem_range.1 hi; omega) 0 0 (by rw [List.getElem?_range q])).2, List.length_range]
     have hB : ∀ ρ, BRel P ρ W ⟨b, off, cap * k, k, true⟩ (.cells (l.flatMap C) u true true) := by
      intro ρ
      refine ⟨rfl, rc, lo, hi, T0, hb, (fun z => by cases z), fun i hi' hc2 => ?_, hroom, by rw [flat_len hC, hlen]; exact Nat.mul_le_mul_right k e4, hz, fun i v hv => ?_⟩
      ·have hi2 : i < cap * k := hi'
       have hc3 : lo ≤ off + i ∧ off + i < hi := hc2
       have hin : MemPlace.cell b (off + i) ∈ x.2 := by
        rw [e2]
        refine List.mem_append_left _ (List.mem_map.2 ⟨i, List.mem_range.2 ?_, rfl⟩)
        rw [hc, e6, hrest.1, show len + (cap - len) = cap by omega]
        exact hi2
       have := hnf b (off + i) hin
       simp only [World.frozen?, hb] at this
       simp at this
       omega
      ·have hil := (List.getElem?_eq_some_iff.1 hv).1
       rw [flat_len hC, hlen] at hil
       have hq : i / k < len := (Nat.div_lt_iff_lt_mul hk).2 hil
       have ei : i = i / k * k + i % k := by have := Nat.div_add_mod i k; rw [Nat.mul_comm] at this; omega
       have hm := Nat.mod_lt i hk
       obtain ⟨z, g1, g2⟩ := lg (i / k) hq
       rw [ei, flat_get hC g1 hm] at hv
       refine ⟨v, ?_, plain1_rel (List.all_eq_true.1 (hp z) v (List.mem_of_getElem? hv))⟩
       show rc[off + i]? = _
       conv => lhs; rw [ei]
       rw [g2 _ hm, hv]
     refine ⟨some ⟨id, 0, none⟩, l, _, ⟨hB, rfl, hbs⟩, fun ρ hρ => ?_, by omega, .inr rfl⟩
     rw [hlen]
     exact .slice (.inl ⟨rfl, rfl, _, hρ, rfl, .inr ⟨rfl, ⟨e4, .inl rfl⟩, Nat.le_refl _, Nat.le_refl _, .inr rfl⟩⟩)
    | _ =>
     obtain ⟨al, h1⟩ := each 0 h0
     have c0 := h1 0 hk
     rw [Nat.zero_mul, show ((⟨b, off, none⟩ : Addr).add 0).add 0 = ⟨b, off, none⟩ from rfl, List.getElem?_eq_getElem (by rw [hC]; exact hk)] at c0
     simp [World.cell?, hb] at c0
end
end Go.Vf

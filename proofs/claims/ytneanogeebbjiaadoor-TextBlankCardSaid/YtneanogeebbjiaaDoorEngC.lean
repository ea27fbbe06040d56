import Derived.Test.YtneanogeebbjiaaDoorEngB
/- The machine of plain blocks: loads, stores, new blocks, against the world. -/
namespace Go.Vf
open Go.RowKit

theorem cell_at {w : World} {b : Nat} {rc : List Value} {t : TypeId} {fz : Nat × Nat} (h : w.heap[b]? = some (.cells ⟨rc⟩ t fz)) (i : Nat) : w.cell? ⟨b, i, none⟩ = rc[i]? := by
  unfold World.cell?
  rw [h]
  simp

theorem takeN_eq : ∀ (n : Nat) (x l : List Value), takeN n x = some l → l = x.take n ∧ n ≤ x.length
  | 0, x, l, h => by simp [takeN] at h; subst h; simp
  | n + 1, [], l, h => by simp [takeN] at h
  | n + 1, v :: r, l, h => by
    simp only [takeN] at h
    split at h
    · cases h
    · rename_i l' hl
      cases h
      obtain ⟨e, hn⟩ := takeN_eq n r l' hl
      simp [← e]; exact hn

theorem add_eq (b o i : Nat) : (Addr.mk b o none).add i = ⟨b, o + i, none⟩ := by
  unfold Addr.add
  by_cases h : i = 0
  · simp [h]
  · simp [h]

theorem addr_eq {a : Addr} (h : a.spot = none) : a = ⟨a.block, a.off, none⟩ := by cases a; simp_all

theorem ARel.add {ρ : Ren} {a a' : Addr} (h : ARel ρ a a') (n : Nat) : ARel ρ (a.add n) (a'.add n) := by
  obtain ⟨h1, h2, e, h3, h4, h5⟩ := h
  rw [addr_eq h1, addr_eq h2, add_eq, add_eq]
  exact ⟨rfl, rfl, e, h3, h4, by simp only; omega⟩

section
variable {P : Program} {B : Nat} {w0 : World} {ρ : Ren} {s : ASt} {w : World}

theorem load_ok (H : HRel P B w0 ρ s w) {a a' : Addr} (ha : ARel ρ a a') {n : Nat} {l : List Value} (h : loadRow s a n = some l) :
    ∃ l', (loadCells a' n).run P w = .ok ⟨l'⟩ w ∧ LRel ρ l l' ∧ l.length = n := by
  obtain ⟨h1, h2, e, h3, h4, h5⟩ := ha
  unfold loadRow at h
  rw [h1] at h
  simp only [Option.isSome_none, cond_false] at h
  split at h
  · rename_i c t g ro hb
    obtain ⟨rfl, hn⟩ := takeN_eq _ _ _ h
    obtain ⟨-, rc, lo, hi, t0, g2, ht0, g3, g4, g5, g6, g7⟩ := H.blk _ _ _ hb h3
    rw [List.length_drop] at hn
    have hlen : ((rc.drop a'.off).take n).length = n := by simp; omega
    refine ⟨(rc.drop a'.off).take n, ?_, ?_, by simp; omega⟩
    · have := run_loadCells_list (P := P) (w := w) a' ((rc.drop a'.off).take n) (fun j v hv => by
        rw [List.getElem?_take] at hv
        split at hv
        · rw [addr_eq h2, add_eq, h4, cell_at g2, ← List.getElem?_drop]; exact hv
        · cases hv)
      rw [hlen] at this
      exact this
    · refine ⟨by simp; omega, fun i v v' hv hv' => ?_⟩
      rw [List.getElem?_take] at hv hv'
      by_cases hi : i < n
      · rw [if_pos hi, List.getElem?_drop] at hv hv'
        obtain ⟨v'', q1, q2⟩ := g7 _ _ hv
        rw [h5] at hv'
        rw [show e.off + (a.off + i) = e.off + a.off + i from by omega] at q1
        rw [q1] at hv'; cases hv'; exact q2
      · rw [if_neg hi] at hv; cases hv
  · cases h

/-- Values laid over a row, one by one. -/
def lset : List Value → Nat → List Value → List Value
  | rc, _, [] => rc
  | rc, k, v :: vs => lset (rc.set k v) (k + 1) vs

theorem lset_length : ∀ (vs : List Value) (rc : List Value) (k : Nat), (lset rc k vs).length = rc.length
  | [], _, _ => rfl
  | v :: vs, rc, k => by simp [lset, lset_length vs]

theorem lset_get : ∀ (vs : List Value) (rc : List Value) (k j : Nat), k + vs.length ≤ rc.length →
    (lset rc k vs)[j]? = if k ≤ j ∧ j < k + vs.length then vs[j - k]? else rc[j]?
  | [], rc, k, j, _ => by simp [lset]; omega
  | v :: vs, rc, k, j, h => by
    simp only [List.length_cons] at h
    simp only [lset]
    rw [lset_get vs (rc.set k v) (k + 1) j (by simp; omega)]
    simp only [List.length_cons]
    by_cases e : j = k
    · subst e
      rw [if_neg (by omega), if_pos (by omega), List.getElem?_set_self (by omega)]
      simp
    · by_cases e2 : k + 1 ≤ j ∧ j < k + 1 + vs.length
      · rw [if_pos e2, if_pos (by omega), show j - k = (j - (k + 1)) + 1 from by omega, List.getElem?_cons_succ]
      · rw [if_neg e2, if_neg (by omega), List.getElem?_set_ne (by omega)]

theorem setRow_eq : ∀ (c : List Value) (o : Nat) (vs c' : List Value), setRow c o vs = some c' → c' = lset c o vs ∧ o + vs.length ≤ c.length
  | [], 0, [], c', h => by simp [setRow] at h; subst h; exact ⟨rfl, by simp⟩
  | y :: c, 0, [], c', h => by simp [setRow] at h; subst h; exact ⟨rfl, by simp⟩
  | [], 0, x :: xs, c', h => by simp [setRow] at h
  | [], o + 1, vs, c', h => by simp [setRow] at h
  | y :: c, 0, x :: xs, c', h => by
    simp only [setRow] at h
    split at h
    · cases h
    · rename_i r hr
      cases h
      obtain ⟨e, hn⟩ := setRow_eq c 0 xs r hr
      have key : ∀ (vs : List Value) (c : List Value) (y : Value) (k : Nat), lset (y :: c) (k + 1) vs = y :: lset c k vs := by
        intro vs
        induction vs with
        | nil => intros; rfl
        | cons a vs ih => intro c y k; simp [lset, ih]
      refine ⟨?_, by simp; omega⟩
      simp only [lset, List.set_cons_zero]
      rw [key, e]
  | y :: c, o + 1, vs, c', h => by
    have key : ∀ (vs : List Value) (c : List Value) (y : Value) (k : Nat), lset (y :: c) (k + 1) vs = y :: lset c k vs := by
      intro vs
      induction vs with
      | nil => intros; rfl
      | cons a vs ih => intro c y k; simp [lset, ih]
    simp only [setRow] at h
    split at h
    · cases h
    · rename_i r hr
      cases h
      obtain ⟨e, hn⟩ := setRow_eq c o vs r hr
      exact ⟨by rw [key, e], by simp; omega⟩

theorem run_storeCells_row (b o : Nat) (t : TypeId) (lo hi : Nat) : ∀ (vs : List Value) (i : Nat) (w : World) (rc : List Value), w.heap[b]? = some (.cells ⟨rc⟩ t (lo, hi)) →
    o + i + vs.length ≤ rc.length → (∀ j, j < vs.length → ¬ (lo ≤ o + i + j ∧ o + i + j < hi)) → (∀ v ∈ vs, v.oneCell' = true) →
    ∃ w', (storeCells ⟨b, o, none⟩ vs i).run P w = .ok () w' ∧ w'.heap[b]? = some (.cells ⟨lset rc (o + i) vs⟩ t (lo, hi)) ∧ (∀ k, k ≠ b → w'.heap[k]? = w.heap[k]?) ∧
      w'.heap.size = w.heap.size ∧ w'.os = w.os ∧ w'.tape = w.tape ∧ w'.output = w.output
  | [], i, w, rc, hb, _, _, _ => ⟨w, by simp [storeCells], hb, fun _ _ => rfl, rfl, rfl, rfl, rfl⟩
  | v :: vs, i, w, rc, hb, hl, hfz, h1 => by
    simp only [List.length_cons] at hl hfz
    have hc : w.cell? ⟨b, o + i, none⟩ = some (rc[o + i]'(by omega)) := by rw [cell_at hb]; exact List.getElem?_eq_getElem _
    have hf : w.frozen? ⟨b, o + i, none⟩ = false := by
      unfold World.frozen?
      rw [hb]
      have := hfz 0 (by omega)
      simp only [Nat.add_zero] at this
      simp only [Bool.and_eq_false_iff, decide_eq_false_iff_not]
      omega
    have hset : (w.setCell ⟨b, o + i, none⟩ v).heap[b]? = some (.cells ⟨rc.set (o + i) v⟩ t (lo, hi)) := by
      simp only [World.setCell, Array.getElem?_modify, if_true, hb, Option.map_some]
      simp
    obtain ⟨w', r1, r2, r3, r4, r5, r6, r7⟩ := run_storeCells_row b o t lo hi vs (i + 1) (w.setCell ⟨b, o + i, none⟩ v) (rc.set (o + i) v) hset (by simp; omega)
      (fun j hj => by have := hfz (j + 1) (by omega); omega) (fun x hx => h1 x (List.mem_cons_of_mem _ hx))
    refine ⟨w', ?_, ?_, ?_, ?_, r5, r6, r7⟩
    · simp only [storeCells, Sem.run_bind, add_eq]
      rw [run_store P w _ v _ (h1 v (List.mem_cons_self ..)), hc]
      simp only [hf, Bool.false_eq_true, if_false, Result.andThen_ok]
      exact r1
    · rw [r2]; simp only [lset]; rw [show o + (i + 1) = o + i + 1 from by omega]
    · intro k hk
      rw [r3 k hk]
      simp only [World.setCell, Array.getElem?_modify]
      rw [if_neg (Ne.symm hk)]
    · rw [r4]; simp

theorem all1_one {ρ : Ren} : ∀ {vs vs' : List Value}, all1 vs = true → LRel ρ vs vs' → ∀ v ∈ vs', v.oneCell' = true
  | [], vs', _, r => by rw [r.inv_nil]; simp
  | v :: vs, vs', h, r => by
    obtain ⟨v', y', rfl, hv, hr⟩ := r.inv_cons
    have h2 : v.oneCell' = true ∧ all1 vs = true := by
      cases v <;> simp [all1] at h <;> exact ⟨rfl, h⟩
    intro x hx
    cases hx with
    | head => cases hv <;> first | rfl | simp [Value.oneCell'] at h2
    | tail _ hx => exact all1_one h2.2 hr x hx

theorem store_ok (H : HRel P B w0 ρ s w) {a a' : Addr} (ha : ARel ρ a a') {vs vs' : List Value} {s' : ASt} (h : storeRow s a vs = some s') (h1 : all1 vs = true) (hv : LRel ρ vs vs') :
    ∃ w', (storeCells a' vs').run P w = .ok () w' ∧ HRel P B w0 ρ s' w' ∧ s'.next = s.next ∧ s'.gl = s.gl := by
  obtain ⟨p1, p2, e, p3, p4, p5⟩ := ha
  unfold storeRow at h
  rw [p1] at h
  simp only [Option.isSome_none, cond_false] at h
  split at h
  · rename_i c t g hb
    split at h
    · cases h
    · rename_i c' hc
      cases h
      obtain ⟨rfl, hl⟩ := setRow_eq _ _ _ _ hc
      obtain ⟨g1, rc, lo, hi, t0, g2, ht0, g3, g4, g5, g6, g7⟩ := H.blk _ _ _ hb p3
      obtain ⟨rfl, hz⟩ := ht0 rfl
      rw [addr_eq p2, p4, p5]
      obtain ⟨w', r1, r2, r3, r4, r5, r6, r7⟩ := run_storeCells_row (P := P) e.blk (e.off + a.off) t0 lo hi vs' 0 w rc g2 (by have := hv.1; omega)
        (fun j hj => by have := g3 (a.off + j) (by have := hv.1; omega); have := hv.1; omega) (all1_one h1 hv)
      refine ⟨w', r1, ?_, rfl, rfl⟩
      refine H.turn (b' := .cells (lset c a.off vs) t0 g false) p3 hb rfl rfl (fun i => by simp) rfl r4 r3 r5 r6 r7 ?_
      refine ⟨g1, _, lo, hi, _, r2, fun _ => ⟨rfl, fun hg => by rw [lset_length]; exact hz hg⟩, g3, by rw [lset_length]; exact g4, by rw [lset_length]; exact g5, g6, ?_⟩
      intro i v hi
      rw [lset_get _ _ _ _ hl] at hi
      rw [Nat.add_zero, lset_get _ _ _ _ (by have := hv.1; omega)]
      by_cases hh : a.off ≤ i ∧ i < a.off + vs.length
      · rw [if_pos hh] at hi
        rw [if_pos (by have := hv.1; omega), show e.off + i - (e.off + a.off) = i - a.off from by omega]
        exact hv.get hi
      · rw [if_neg hh] at hi
        rw [if_neg (by have := hv.1; omega)]
        exact g7 _ _ hi
  · cases h

/-- A row that is laid at the heap's end. -/
theorem new_ok (H : HRel P B w0 ρ s w) {id : Nat} {c : List Value} {t : TypeId} {g : Bool} {es : Nat} (hf : ρ id = none) (hb : s.heap.get id = some (.cells c t g false))
    (hes : (P.info? t).map (·.size) = some es) {rc rest : List Value} (hr : LRel ρ c rc) {lo hi : Nat} (hfz : lo = hi ∨ (rc ++ rest).length ≤ lo)
    {w' : World} (hh : w'.heap = w.heap.push (.cells ⟨rc ++ rest⟩ t (lo, hi))) (hos : w'.os = w.os) (htape : w'.tape = w.tape) (hout : w'.output = w.output) :
    HRel P B w0 (ρ.ext id ⟨w.heap.size, 0, (rc ++ rest).length, es, g⟩) s w' := by
  refine H.new hf hb rfl rfl hh hos htape hout ⟨rfl, rc ++ rest, lo, hi, t, ?_, fun _ => ⟨rfl, fun _ => ⟨rfl, rfl, hfz⟩⟩, ?_, ?_, ?_, hes, ?_⟩
  · rw [hh]; simp
  · intro i hi; simp only at hi ⊢; omega
  · simp
  · rw [hr.1]; simp
  · intro i v hv
    obtain ⟨v', h1, h2⟩ := hr.get hv
    refine ⟨v', ?_, h2.mono (Ren.le_ext hf)⟩
    have hi : i < rc.length := by
      rcases Nat.lt_or_ge i rc.length with h' | h'
      · exact h'
      · simp [List.getElem?_eq_none h'] at h1
    simp only [Nat.zero_add]
    rw [List.getElem?_append_left hi]; exact h1

end
end Go.Vf

import Derived.Test.YtneanogeebbjiaaDoorEngE
import Derived.Laws.MakeOwn
/- The machine of plain blocks: new blocks. -/
namespace Go.Vf
open Go.RowKit
section
variable {P : Program} {B : Nat} {w0 : World} {ρ : Ren} {s : ASt} {w : World} {T : ATmp} {ev : Operand → Value} {o : Oper}

theorem zeroB_inv {t : TypeId} {z : Value} (h : zeroB P t = some z) : ∃ i, P.info? t = some i ∧ i.zero = some z ∧ plainV z = true := by
  unfold zeroB at h
  split at h
  · rename_i i hi
    split at h
    · rename_i v hv
      cases hp : plainV v with
      | false => simp [hp] at h
      | true => simp [hp] at h; subst h; exact ⟨i, hi, hv, hp⟩
    · cases h
  · cases h

theorem partsOf_rel (hE : ∀ x v, operand T s x = some v → VRel ρ v (ev x)) : ∀ {l : List (Nat × Operand)} {ps : List (Nat × Value)}, partsOf T s l = some ps →
    ps.length = l.length ∧ ∀ (i : Nat) p q, ps[i]? = some p → l[i]? = some q → p.1 = q.1 ∧ VRel ρ p.2 (ev q.2)
  | [], ps, h => by simp [partsOf] at h; subst h; simp
  | (i, x) :: r, ps, h => by
    simp only [partsOf] at h
    split at h
    · cases h
    · rename_i v hv
      split at h
      · cases h
      · rename_i l hl
        cases h
        obtain ⟨h1, h2⟩ := partsOf_rel hE hl
        refine ⟨by simp [h1], fun j p q hp hq => ?_⟩
        cases j with
        | zero => simp at hp hq; subst hp; subst hq; exact ⟨rfl, hE _ _ hv⟩
        | succ j => simp at hp hq; exact h2 j p q hp hq

theorem foldl_lset : ∀ (vs : List Value) (cs : Array Value) (off k : Nat), (vs.zipIdx k).foldl (fun (cs : Array Value) (x : Value × Nat) => cs.setIfInBounds (off + x.2) x.1) cs = ⟨lset cs.toList (off + k) vs⟩
  | [], cs, off, k => by simp [lset]
  | v :: vs, cs, off, k => by
    simp only [List.zipIdx_cons, List.foldl_cons, lset]
    rw [foldl_lset vs _ off (k + 1)]
    simp
    rfl

theorem LRel.lset {ρ : Ren} {x y vs vs' : List Value} (h : LRel ρ x y) (hv : LRel ρ vs vs') (k : Nat) (hk : k + vs.length ≤ x.length) : LRel ρ (lset x k vs) (Vf.lset y k vs') := by
  refine ⟨by rw [lset_length, lset_length]; exact h.1, fun i v v' h1 h2 => ?_⟩
  rw [lset_get _ _ _ _ hk] at h1
  rw [lset_get _ _ _ _ (by rw [← hv.1, ← h.1]; exact hk), ← hv.1] at h2
  split at h1
  · rename_i hh; rw [if_pos hh] at h2; exact hv.2 _ _ _ h1 h2
  · rename_i hh; rw [if_neg hh] at h2; exact h.2 _ _ _ h1 h2

theorem layAt_fill {place : Nat → Option (Nat × Nat)} : ∀ {ps : List (Nat × Value)} {qs : List (Nat × Operand)} {x y c : List Value}, layAt place x ps = some c → LRel ρ x y →
    ps.length = qs.length → (∀ (i : Nat) p q, ps[i]? = some p → qs[i]? = some q → p.1 = q.1 ∧ VRel ρ p.2 (ev q.2)) →
    ∃ c', Instr.fill place ⟨y⟩ (qs.map fun q => (q.1, ev q.2)) = some ⟨c'⟩ ∧ LRel ρ c c' ∧ c.length = x.length
  | [], [], x, y, c, h, r, _, _ => by simp [layAt] at h; subst h; exact ⟨y, rfl, r, rfl⟩
  | (i, v) :: ps, [], x, y, c, h, r, hl, _ => by simp at hl
  | [], q :: qs, x, y, c, h, r, hl, _ => by simp at hl
  | (i, v) :: ps, (j, z) :: qs, x, y, c, h, r, hl, hq => by
    obtain ⟨e1, e2⟩ := hq 0 _ _ rfl rfl
    simp only at e1 e2
    subst e1
    simp only [layAt] at h
    split at h
    · cases h
    · rename_i off size hp
      cases hb : Nat.beq (flat v).length size with
      | false => simp [hb] at h
      | true =>
        simp only [hb, cond_true] at h
        rw [Nat.beq_eq] at hb
        split at h
        · cases h
        · rename_i c1 hc1
          obtain ⟨rfl, hlen⟩ := setRow_eq _ _ _ _ hc1
          have hf := e2.flat
          have hsz : (ev z).cells.size = size := by rw [← hb]; exact hf.1.symm
          obtain ⟨c', q1, q2, q3⟩ := layAt_fill (qs := qs) h (r.lset hf off hlen) (by simpa using hl) (fun k p q hp hq' => hq (k + 1) p q hp hq')
          refine ⟨c', ?_, q2, by rw [q3, lset_length]⟩
          simp only [List.map_cons, Instr.fill, hp]
          have hle : ¬ (off + (ev z).cells.size > (⟨y⟩ : Array Value).size) := by
            have : (⟨y⟩ : Array Value).size = y.length := rfl
            rw [hsz, this, ← r.1]; omega
          rw [if_neg (by simp only [Bool.or_eq_true, decide_eq_true_eq, not_or]; exact ⟨by simpa using hsz, hle⟩)]
          have := foldl_lset (ev z).cells.toList ⟨y⟩ off 0
          rw [← Array.foldl_toList]
          rw [Array.toList_zipIdx]
          simp only [Nat.add_zero] at this
          rw [this]
          exact q1

theorem repeat_range (l : List Value) (hl : 0 < l.length) : ∀ n, (List.range (n * l.length)).map (fun k => l.toArray[k % l.toArray.size]!) = repeatL n l
  | 0 => by simp; rfl
  | n + 1 => by
    rw [show (n + 1) * l.length = l.length + n * l.length from by rw [Nat.add_mul]; omega, List.range_add, List.map_append]
    show _ = l ++ repeatL n l
    congr 1
    · apply List.ext_getElem
      · simp
      · intro i h1 h2
        simp at h1 ⊢
        rw [Nat.mod_eq_of_lt h1]
        simp [h1]
    · rw [← repeat_range l hl n, List.map_map]
      apply List.map_congr_left
      intro k hk
      simp

theorem repeatL_rel {x : List Value} (h : LRel ρ x x) : ∀ n, LRel ρ (repeatL n x) (repeatL n x)
  | 0 => .nil _
  | n + 1 => h.append (repeatL_rel h n)

theorem repeatL_length (x : List Value) : ∀ n, (repeatL n x).length = n * x.length
  | 0 => by simp; rfl
  | n + 1 => by show (x ++ repeatL n x).length = _; rw [List.length_append, repeatL_length x n, Nat.add_mul]; omega

theorem info_es {t : TypeId} {i : TypeInfo} (h : P.info? t = some i) : (P.info? t).map (·.size) = some i.size := by rw [h]; rfl

/-- A block that an operation lays, its result a place in it. -/
theorem post_new {cs : List Value} {elem : TypeId} {g : Bool} {es : Nat} {vf : Nat → Value} (hes : (P.info? elem).map (·.size) = some es) {rc rest : List Value} (hr : LRel ρ cs rc) {mkv : Nat → Value}
    (lo hi : Nat) (hfz : lo = hi ∨ (rc ++ rest).length ≤ lo)
    (hrun : ∃ w', (execOp ev o).run P w = .ok (.value (mkv w.heap.size)) w' ∧ w'.heap = w.heap.push (.cells ⟨rc ++ rest⟩ elem (lo, hi)) ∧ w'.os = w.os ∧ w'.tape = w.tape ∧ w'.output = w.output)
    (hv : ∀ (id : Nat) (ρ' : Ren), ρ' id = some ⟨w.heap.size, 0, (rc ++ rest).length, es, g⟩ → VRel ρ' (vf id) (mkv w.heap.size)) :
    Post P B w0 ρ s w ev o (.new (.cells cs elem g false) vf) := by
  refine ⟨rfl, fun id σ hid H hb => ?_⟩
  obtain ⟨w', h1, h2, h3, h4, h5⟩ := hrun
  exact ⟨_, w', _, h1, new_ok H hid hb hes hr hfz h2 h3 h4 h5, hv _ _ Ren.ext_self⟩

theorem post_alloc {elem : TypeId} (ho : o.op = .alloc elem) {nx : ANext} (h : aOp P T s (.alloc elem) = some nx) : Post P B w0 ρ s w ev o nx := by
  simp only [aOp] at h
  split at h
  · cases h
  · rename_i z hz
    cases h
    obtain ⟨r1, r2⟩ := run_zeroB (ρ := ρ) hz w
    have hi : ∃ i, P.info? elem = some i := by
      unfold zeroB at hz
      split at hz
      · rename_i i hi; exact ⟨i, hi⟩
      · cases hz
    obtain ⟨i, hi⟩ := hi
    refine post_new (rest := []) (mkv := fun n => .pointer (some ⟨n, 0, none⟩)) (info_es hi) r2.flat 0 0 (.inl rfl) ⟨w.alloc (.cells z.cells elem), ?_, ?_, rfl, rfl, rfl⟩ ?_
    · simp only [execOp, ho, Instr.alloc, Sem.run_bind, r1, Result.andThen_ok, newVar, newRow, run_newObj, Sem.run_pure]
      rfl
    · show w.heap.push _ = _
      rw [List.append_nil]; rfl
    · intro id ρ' he
      exact .pointer ⟨rfl, rfl, _, he, rfl, rfl⟩

theorem post_box (hE : ∀ x v, operand T s x = some v → VRel ρ v (ev x)) {elem : TypeId} {x : Operand} (ho : o.op = .box elem x) {nx : ANext} (h : aOp P T s (.box elem x) = some nx) : Post P B w0 ρ s w ev o nx := by
  simp only [aOp] at h
  split at h
  · rename_i v i hx hi
    cases h
    refine post_new (rest := []) (mkv := fun n => .pointer (some ⟨n, 0, none⟩)) (info_es hi) (hE _ _ hx).flat 0 0 (.inl rfl) ⟨w.alloc (.cells (ev x).cells elem), ?_, ?_, rfl, rfl, rfl⟩ ?_
    · simp only [execOp, ho, Instr.box, Sem.run_bind, Result.andThen_ok, newVar, newRow, run_newObj, Sem.run_pure]
      rfl
    · show w.heap.push _ = _
      rw [List.append_nil]; rfl
    · intro id ρ' he
      exact .pointer ⟨rfl, rfl, _, he, rfl, rfl⟩
  · cases h

theorem post_buildSlice (hE : ∀ x v, operand T s x = some v → VRel ρ v (ev x)) {t : TypeId} {len : Nat} {parts : Array (Nat × Operand)} (ho : o.op = .buildSlice t len parts) {nx : ANext}
    (h : aOp P T s (.buildSlice t len parts) = some nx) : Post P B w0 ρ s w ev o nx := by
  simp only [aOp] at h
  split at h
  · rename_i elem ps hu hps
    split at h
    · rename_i i z hi hz
      obtain ⟨r1, r2⟩ := run_zeroB (ρ := ρ) hz w
      cases hb : (Nat.ble (len * i.size) 16777216 && Nat.beq (flat z).length i.size && Nat.blt 0 i.size) with
      | false => simp [hb] at h
      | true =>
        simp only [hb, cond_true] at h
        simp only [Bool.and_eq_true, Nat.ble_eq, Nat.beq_eq, Nat.blt_eq] at hb
        obtain ⟨⟨hb1, hb2⟩, hb3⟩ := hb
        split at h
        · cases h
        · rename_i c hc
          cases h
          obtain ⟨p1, p2⟩ := partsOf_rel hE hps
          obtain ⟨c', q1, q2, q3⟩ := layAt_fill hc (repeatL_rel r2.flat len) p1 p2
          refine post_new (rest := []) (mkv := fun n => .slice (some ⟨n, 0, none⟩) len len) (info_es hi) q2 0 0 (.inl rfl) ⟨w.alloc (.cells ⟨c'⟩ elem), ?_, ?_, rfl, rfl, rfl⟩ ?_
          · have hsz : (sizeOf elem).run P w = .ok i.size w := by rw [run_sizeOf w hi]; simp [Program.cellsOf, hi]
            have hrep : (Array.range (len * i.size)).map (fun k => z.cells[k % z.cells.size]!) = ⟨repeatL len (flat z)⟩ := by
              apply Array.ext'
              have := repeat_range (flat z) (by omega) len
              rw [hb2] at this
              simpa [flat] using this
            have hmap : (parts.map fun x => (x.1, ev x.2)).toList = parts.toList.map fun q => (q.1, ev q.2) := by simp
            have hn : ¬ (len * i.size > 2 ^ 24) := by omega
            simp only [execOp, ho, Instr.buildSlice, Sem.run_bind, run_underlying hu, Result.andThen_ok, hsz, if_neg hn]
            by_cases h0 : len * i.size = 0
            · have hl0 : len = 0 := by
                rcases Nat.mul_eq_zero.1 h0 with h | h
                · exact h
                · omega
              subst hl0
              have q1' : Instr.fill (fun j => some (j * i.size, i.size)) (Array.map (fun k => (#[] : Array Value)[k % (#[] : Array Value).size]!) (Array.range 0)) (List.map (fun q => (q.fst, ev q.snd)) parts.toList) = some ⟨c'⟩ := by
                have : (Array.range 0).map (fun k => (#[] : Array Value)[k % (#[] : Array Value).size]!) = ⟨repeatL 0 (flat z)⟩ := by apply Array.ext'; simp; rfl
                rw [this]; exact q1
              simp only [h0, if_true, Sem.run_bind, Sem.run_pure, Result.andThen_ok, hmap, q1', newRow, run_newObj]
              rfl
            · simp only [if_neg h0, Sem.run_bind, r1, Result.andThen_ok, Sem.run_pure, hrep, hmap, q1, newRow, run_newObj]
              rfl
          · show w.heap.push _ = _
            rw [List.append_nil]
          · intro id ρ' he
            exact .slice (.inl ⟨rfl, rfl, _, he, rfl, .inl ⟨rfl, rfl, rfl⟩⟩)
    · cases h
  · cases h

theorem post_makeSlice (hE : ∀ x v, operand T s x = some v → VRel ρ v (ev x)) {t : TypeId} {l c : Operand} (ho : o.op = .makeSlice t l c) {nx : ANext}
    (h : aOp P T s (.makeSlice t l c) = some nx) : Post P B w0 ρ s w ev o nx := by
  simp only [aOp] at h
  split at h
  · rename_i elem k1 l' k2 c' hu hl hc
    split at h
    · rename_i i z hi hz
      obtain ⟨r1, r2⟩ := run_zeroB (ρ := ρ) hz w
      cases hb : (Nat.ble l' c' && Nat.ble (i.bytes * c') 140737488355328 && Nat.ble c' 1073741824 && Nat.beq (flat z).length i.size) with
      | false => simp [hb] at h
      | true =>
        simp only [hb, cond_true] at h
        simp only [Bool.and_eq_true, Nat.ble_eq, Nat.beq_eq] at hb
        obtain ⟨⟨⟨hb1, hb2⟩, hb3⟩, hb4⟩ := hb
        cases h
        have hcell : (Array.range (c' * i.size)).map (fun k => (if c' * i.size = 0 then (#[] : Array Value) else z.cells)[k % (if c' * i.size = 0 then (#[] : Array Value) else z.cells).size]!) = ⟨repeatL c' (flat z)⟩ := by
          by_cases h0 : c' * i.size = 0
          · rw [h0]
            apply Array.ext'
            have : repeatL c' (flat z) = [] := by
              apply List.eq_nil_of_length_eq_zero
              rw [repeatL_length, hb4, h0]
            simp [this]
          · rw [if_neg h0]
            apply Array.ext'
            have := repeat_range (flat z) (by rcases Nat.eq_zero_or_pos (flat z).length with e | e; rw [e] at hb4; rw [← hb4] at h0; simp at h0; exact e) c'
            rw [hb4] at this
            simpa [flat] using this
        refine post_new (rest := []) (mkv := fun n => .slice (some ⟨n, 0, none⟩) l' c') (info_es hi) (repeatL_rel r2.flat c') 0 0 (.inl rfl) ⟨w.alloc (.cells ⟨repeatL c' (flat z)⟩ elem), ?_, ?_, rfl, rfl, rfl⟩ ?_
        · have hsz : (sizeOf elem).run P w = .ok i.size w := by rw [run_sizeOf w hi]; simp [Program.cellsOf, hi]
          have e1 := int_inv (hE _ _ hl)
          have e2 := int_inv (hE _ _ hc)
          obtain ⟨i', hi', hz', -⟩ := zeroB_inv hz
          rw [hi] at hi'; cases hi'
          have hm := run_make (P := P) w t elem i z hu hi hz' k1 k2 l' c' (by omega) (by omega) (by
            have : ((i.bytes * c' : Nat) : Int) ≤ 140737488355328 := by omega
            rw [Int.natCast_mul] at this; omega) (by omega)
          have hmc : madeCells z.cells (c' * i.size) = ⟨repeatL c' (flat z)⟩ := by
            rw [← hcell]
            unfold madeCells
            by_cases h0 : c' * i.size = 0
            · rw [h0]; simp
            · rw [if_neg h0]
          simp only [Int.toNat_natCast, hmc] at hm
          simp only [execOp, ho, e1, e2, Sem.run_bind, Sem.run_pure]
          exact congrArg (fun r : Result Value => r.andThen fun v w => Result.ok (Next.value v) w) hm
        · show w.heap.push _ = _
          rw [List.append_nil]
        · intro id ρ' he
          exact .slice (.inl ⟨rfl, rfl, _, he, rfl, .inl ⟨rfl, rfl, rfl⟩⟩)
    · cases h
  · cases h

end
end Go.Vf

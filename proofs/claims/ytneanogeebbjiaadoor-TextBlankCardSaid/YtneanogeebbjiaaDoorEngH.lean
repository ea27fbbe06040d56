import Derived.Test.YtneanogeebbjiaaDoorEngG
import Derived.IntWalk
/- The machine of plain blocks: append, copy, conversions. -/
namespace Go.Vf
open Go.RowKit
section
variable {P : Program} {B : Nat} {w0 : World} {ρ : Ren} {s : ASt} {w : World} {T : ATmp} {ev : Operand → Value} {o : Oper}

theorem bytes_rel (l : List UInt8) : LRel ρ (l.map fun c => Value.int .u8 c.toNat) (l.map fun c => Value.int .u8 c.toNat) :=
  ⟨rfl, fun i v v' h1 h2 => by
    rw [h1] at h2; cases h2
    rw [List.getElem?_map] at h1
    cases hl : l[i]? with
    | none => simp [hl] at h1
    | some c => simp [hl] at h1; subst h1; exact .int _ _⟩

theorem srcLen_rel {x x' : Value} {n : Nat} (h : srcLen x = some n) (hx : VRel ρ x x') (w : World) : (Builtin.lenOf x').run P w = .ok n w := by
  unfold srcLen at h
  split at h
  · rename_i a l c
    cases h
    cases a with
    | none => rw [slice0_inv hx]; rfl
    | some a => obtain ⟨a', c', e, -⟩ := slice_inv hx; rw [e]; rfl
  · cases h; rw [str_inv hx]; rfl
  · cases h

/-- What is taken: the cells of a source. -/
theorem srcCells_ok (H : HRel P B w0 ρ s w) {size n m : Nat} {x x' : Value} {l : List Value} (hm : srcLen x = some m) (hn : n ≤ m) (h : srcCells s size n x = some l) (hx : VRel ρ x x') :
    ∃ l', (Builtin.firstCells size n x').run P w = .ok ⟨l'⟩ w ∧ LRel ρ l l' := by
  unfold srcCells at h
  split at h
  · rename_i a ln c
    obtain ⟨a', c', e, hs⟩ := slice_inv hx
    rw [e]
    cases hm
    by_cases h0 : n = 0
    · subst h0
      have : l = [] := by
        unfold loadRow at h
        rw [hs.spot] at h
        simp only [Option.isSome_none, cond_false, Nat.zero_mul] at h
        split at h
        · simp [takeN] at h; exact h
        · cases h
      subst this
      exact ⟨[], by simp [Builtin.firstCells, loadCells, loadCellsFrom], .nil _⟩
    · obtain ⟨l', r1, r2, -⟩ := load_ok H (hs.addr (by omega)) h
      exact ⟨l', by simpa [Builtin.firstCells] using r1, r2⟩
  · cases h
    rw [slice0_inv hx]
    exact ⟨[], rfl, .nil _⟩
  · rename_i b
    cases h
    rw [str_inv hx]
    refine ⟨(b.data.toList.take n).map fun c => .int .u8 c.toNat, ?_, bytes_rel _⟩
    simp only [Builtin.firstCells, Sem.run_pure]
    congr 1
    apply Array.ext'
    rw [ByteArray.data_extract]
    simp
  · cases h

theorem zeroCells_eq {z : Value} {n : Nat} (h : 0 < (flat z).length) : Builtin.zeroCells z.cells n = ⟨repeatL n (flat z)⟩ := by
  apply Array.ext'
  have := repeat_range (flat z) h n
  simpa [Builtin.zeroCells, flat] using this

theorem zeroCells_nil {z : Value} {n : Nat} (h : (flat z).length = 0) : Builtin.zeroCells z.cells n = ⟨repeatL n (flat z)⟩ := by
  apply Array.ext'
  have h1 : repeatL n (flat z) = [] := by apply List.eq_nil_of_length_eq_zero; rw [repeatL_length, h]; simp
  have h2 : z.cells.size = 0 := h
  simp [Builtin.zeroCells, h1, h2]

theorem zeroCells_any {z : Value} (n : Nat) : Builtin.zeroCells z.cells n = ⟨repeatL n (flat z)⟩ := by
  rcases Nat.eq_zero_or_pos (flat z).length with h | h
  · exact zeroCells_nil h
  · exact zeroCells_eq h

/-- What append takes of its second argument. -/
def app (size : Nat) (elem : TypeId) (zeros : Bool) (n : Nat) (x : Value) : Sem (Array Value) :=
  if !zeros then Builtin.firstCells size n x
  else if n * size = 0 then pure #[]
  else do pure (Builtin.zeroCells (← zeroValue elem).cells n)

def isIntD : TypeDesc → Bool
  | .int _ => true
  | _ => false

theorem append_in {tys : Array TypeId} {ty sType xt elem : TypeId} {args : Array Value} {base : Option Addr} {len cap n : Nat} {x : Value} {u : TypeDesc} {i : TypeInfo} {new : Array Value}
    (h0 : tys[0]? = some sType) (a0 : args[0]? = some (.slice base len cap)) (a1 : args[1]? = some x) (h1 : tys[1]? = some xt)
    (hu : P.underlying sType = some (.slice elem)) (hx : P.underlying xt = some u) (hi : P.info? elem = some i)
    (hn : (isIntD u = true ∧ ∃ k, x = .int k (n : Int) ∧ n ≤ 1073741824 ∧ n * i.bytes ≤ 281474976710656) ∨ (isIntD u = false ∧ (Builtin.lenOf x).run P w = .ok n w))
    (hnew : (app i.size elem (isIntD u) n x).run P w = .ok new w) (hle : len + n ≤ cap) :
    (Builtin.append_ tys ty args).run P w = ((match base with | some a => storeCells (a.add (len * i.size)) new.toList | none => pure ()).run P w).andThen fun _ w => .ok (.slice base (len + n) cap) w := by
  have hsz : (sizeOf elem).run P w = .ok i.size w := by rw [run_sizeOf w hi]; simp [Program.cellsOf, hi]
  rcases hn with ⟨hint, k, rfl, hn1, hn2⟩ | ⟨hint, hlen⟩
  · obtain ⟨ik, rfl⟩ : ∃ ik, u = .int ik := by cases u <;> simp [isIntD] at hint ⊢
    have hw : IntKind.i64.wrap (n : Int) = n := IntWalk.i64_in _ (by omega)
    have hn3 : ¬ ((n : Int) * (i.bytes : Int) > 2 ^ 48) := by
      rw [← Int.natCast_mul]; omega
    have hn0 : ¬ ((n : Int) < 0) := by omega
    rw [hint] at hnew
    simp only [app, Bool.not_true, Bool.false_eq_true, if_false] at hnew
    simp only [Builtin.append_, h0, a0, a1, h1, Sem.run_bind, run_underlying hu, Result.andThen_ok, hsz, run_underlying hx, Sem.run_pure, if_true, asInt, asIntOf, hw, if_neg hn0, run_typeInfo w hi, if_neg hn3,
      Int.toNat_natCast, if_pos hle, Bool.not_true, Bool.false_eq_true, if_false, hnew]
    cases base <;> simp
  · rw [hint] at hnew
    simp only [app, Bool.not_false, if_true] at hnew
    cases u <;> first
      | (simp [isIntD] at hint; done)
      | (simp only [Builtin.append_, h0, a0, a1, h1, Sem.run_bind, run_underlying hu, Result.andThen_ok, hsz, run_underlying hx, Sem.run_pure, Bool.false_eq_true, if_false, hlen, if_pos hle, Bool.not_false, if_true, hnew]
         cases base <;> simp)

theorem append_grow {tys : Array TypeId} {ty sType xt elem : TypeId} {args : Array Value} {base : Option Addr} {len cap n : Nat} {x z : Value} {u : TypeDesc} {i : TypeInfo} {old new : Array Value}
    (h0 : tys[0]? = some sType) (a0 : args[0]? = some (.slice base len cap)) (a1 : args[1]? = some x) (h1 : tys[1]? = some xt)
    (hu : P.underlying sType = some (.slice elem)) (hx : P.underlying xt = some u) (hi : P.info? elem = some i) (hzv : i.zero = some z)
    (hn : (isIntD u = true ∧ ∃ k, x = .int k (n : Int) ∧ n ≤ 1073741824 ∧ n * i.bytes ≤ 281474976710656) ∨ (isIntD u = false ∧ (Builtin.lenOf x).run P w = .ok n w))
    (hold : (Builtin.firstCells i.size len (.slice base len cap)).run P w.drew = .ok old w.drew)
    (hnew : (app i.size elem (isIntD u) n x).run P w.drew = .ok new w.drew) (hgt : cap < len + n)
    (hb : (len + n) * i.bytes ≤ 140737488355328) (hb2 : len + n ≤ 4294967296) :
    ∃ c, len + n ≤ c ∧ (Builtin.append_ tys ty args).run P w =
      .ok (.slice (some ⟨w.heap.size, 0, none⟩) (len + n) c) (w.drew.alloc (.cells (old ++ new ++ Builtin.zeroCells z.cells (c - (len + n))) elem)) := by
  have hsz : (sizeOf elem).run P w = .ok i.size w := by rw [run_sizeOf w hi]; simp [Program.cellsOf, hi]
  have hfit : ¬ (Builtin.nextslicecap (len + n) cap * i.bytes > 2 ^ 48) := by
    have := growslice_fits (need := len + n) (old := cap) (bytes := i.bytes) hgt hb
    omega
  have hmax : ¬ (((len + n : Nat) : Int) > IntKind.i64.max) := by
    have : IntKind.i64.max = 9223372036854775807 := by decide
    omega
  have hmax' : ¬ ((((len + n : Nat) : Int) > IntKind.i64.max) ∧ (isIntD u = true ∨ i.bytes = 0)) := fun h => hmax h.1
  refine ⟨(Question.appendCap (len + n) cap elem).cut (w.tape w.drawn (.appendCap (len + n) cap elem)), by simp only [Question.cut]; omega, ?_⟩
  have hforced : Question.forced (.appendCap (len + n) cap elem) = false := rfl
  have hzrun : (zeroValue elem).run P w.drew = .ok z w.drew := by
    unfold zeroValue
    simp only [Sem.run_bind, run_typeInfo w.drew hi, Result.andThen_ok, hzv, Sem.run_pure]
  rcases hn with ⟨hint, k, rfl, hn1, hn2⟩ | ⟨hint, hlen⟩
  · obtain ⟨ik, rfl⟩ : ∃ ik, u = .int ik := by cases u <;> simp [isIntD] at hint ⊢
    have hw : IntKind.i64.wrap (n : Int) = n := IntWalk.i64_in _ (by omega)
    have hn3 : ¬ ((n : Int) * (i.bytes : Int) > 2 ^ 48) := by
      rw [← Int.natCast_mul]; omega
    have hn0 : ¬ ((n : Int) < 0) := by omega
    rw [hint] at hnew
    simp only [app, Bool.not_true, Bool.false_eq_true, if_false] at hnew
    simp only [Builtin.append_, h0, a0, a1, h1, Sem.run_bind, run_underlying hu, Result.andThen_ok, hsz, run_underlying hx, Sem.run_pure, if_true, asInt, asIntOf, hw, if_neg hn0, run_typeInfo w hi, if_neg hn3,
      Int.toNat_natCast, if_neg (Nat.not_le.2 hgt), hmax, false_and, if_false, if_neg hfit, run_choose, hforced, Bool.false_eq_true, World.drew_eq, run_askRoom, hold, Bool.not_true, hnew, hzrun, run_typeInfo w.drew hi, newRow, run_newObj, World.alloc_eq, World.size_drew]
  · rw [hint] at hnew
    simp only [app, Bool.not_false, if_true] at hnew
    cases u <;> first
      | (simp [isIntD] at hint; done)
      | (simp only [Builtin.append_, h0, a0, a1, h1, Sem.run_bind, run_underlying hu, Result.andThen_ok, hsz, run_underlying hx, Sem.run_pure, Bool.false_eq_true, if_false, hlen, run_typeInfo w hi,
          if_neg (Nat.not_le.2 hgt), hmax, false_and, if_neg hfit, run_choose, hforced, World.drew_eq, run_askRoom, hold, Bool.not_false, if_true, hnew, hzrun, run_typeInfo w.drew hi, newRow, run_newObj, World.alloc_eq, World.size_drew])


theorem app_ok (H : HRel P B w0 ρ s w) {elem xt : TypeId} {i : TypeInfo} {z : Value} (hz : zeroB P elem = some z) {x x' : Value} {new : List Value} {n : Nat}
    (h : appended P s i.size elem (some xt) x = some (new, n)) (hb : n * i.bytes ≤ 140737488355328) (hx : VRel ρ x x') :
    ∃ u, P.underlying xt = some u ∧ (∃ new', (app i.size elem (isIntD u) n x').run P w = .ok ⟨new'⟩ w ∧ LRel ρ new new') ∧
      ((isIntD u = true ∧ ∃ k, x' = .int k (n : Int) ∧ n ≤ 1073741824 ∧ n * i.bytes ≤ 281474976710656) ∨ (isIntD u = false ∧ ∀ w, (Builtin.lenOf x').run P w = .ok n w)) := by
  unfold appended at h
  simp only at h
  split at h
  · rename_i k hu
    split at h
    · rename_i x k' m
      cases hm : Nat.ble m 1073741824 with
      | false => simp [hm] at h
      | true =>
        simp only [hm, cond_true, hz] at h
        rw [Nat.ble_eq] at hm
        cases hl : Nat.beq (flat z).length i.size with
        | false => simp [hl] at h
        | true =>
          simp only [hl, cond_true] at h
          rw [Nat.beq_eq] at hl
          cases h
          obtain ⟨r1, r2⟩ := run_zeroB (ρ := ρ) hz w
          refine ⟨_, hu, ⟨repeatL n (flat z), ?_, repeatL_rel r2.flat n⟩, .inl ⟨rfl, k', int_inv hx, hm, by omega⟩⟩
          rw [int_inv hx]
          simp only [app, isIntD, Bool.not_true, Bool.false_eq_true, if_false]
          by_cases h0 : n * i.size = 0
          · rw [if_pos h0]
            have : repeatL n (flat z) = [] := by apply List.eq_nil_of_length_eq_zero; rw [repeatL_length, hl, h0]
            rw [this]; rfl
          · rw [if_neg h0]
            simp only [Sem.run_bind, r1, Result.andThen_ok, Sem.run_pure, zeroCells_any]
    · cases h
  · rename_i u hni hu
    split at h
    · cases h
    · rename_i m hm
      split at h
      · cases h
      · rename_i l hl
        cases h
        have hint : isIntD u = false := by cases u <;> first | rfl | exact absurd rfl (hni _)
        obtain ⟨l', q1, q2⟩ := srcCells_ok H hm (Nat.le_refl _) hl hx
        refine ⟨u, hu, ⟨l', ?_, q2⟩, .inr ⟨hint, fun w => srcLen_rel hm hx w⟩⟩
        rw [hint]
        simp only [app, Bool.not_false, if_true, q1]
  · cases h

/-- A row under a new name, in a new block. -/
theorem grown_ok (H : HRel P B w0 ρ s w) {id : Nat} {c : List Value} {t : TypeId} {es : Nat} (hf : ρ id = none) (hb : s.heap.get id = some (.cells c t true false))
    (hes : (P.info? t).map (·.size) = some es) {rc rest : List Value} (hr : LRel ρ c rc) {k cap : Nat} (hk : k ≤ cap) (hl : (rc ++ rest).length = cap * es)
    {w' : World} (hh : w'.heap = w.heap.push (.cells ⟨rc ++ rest⟩ t (0, 0))) (hos : w'.os = w.os) (htape : w'.tape = w.tape) (hout : w'.output = w.output) :
    ∃ e, HRel P B w0 (ρ.ext id e) s w' ∧ VRel (ρ.ext id e) (.slice (some ⟨id, 0, none⟩) k 0) (.slice (some ⟨w.heap.size, 0, none⟩) k cap) := by
  refine ⟨⟨w.heap.size, 0, (rc ++ rest).length, es, true⟩, new_ok H hf hb hes hr (.inl rfl) hh hos htape hout, .slice (.inl ⟨rfl, rfl, _, Ren.ext_self, rfl, .inr ⟨rfl, hk, Nat.le_refl _, ?_, .inr rfl⟩⟩)⟩
  show 0 + cap * es ≤ 0 + (rc ++ rest).length
  omega

theorem post_append (H : HRel P B w0 ρ s w) {args : Array Operand} {tys : Array TypeId} (ho : o.op = .call { callee := .builtin .append, args, argTypes := tys }) {vs : List Value} (hr : LRel ρ vs (args.toList.map ev)) {nx : ANext}
    (h : appendV P s tys.toList vs = some nx) : Post P B w0 ρ s w ev o nx := by
  have hrun := fun w => run_builtin (P := P) (ev := ev) .append ho w
  have hv : ∀ {v : Value} {w w' : World}, (Builtin.append_ tys o.type ⟨args.toList.map ev⟩).run P w = .ok v w' → (execOp ev o).run P w = .ok (.value v) w' := by
    intro v w w' hh
    rw [hrun w]
    simp only [builtin, Sem.run_bind, hh, Result.andThen_ok, Sem.run_pure]
  unfold appendV at h
  split at h
  · rename_i sType xt tr sl x xr hty
    obtain ⟨sl', r', hargs, hsl, hr'⟩ := hr.inv_cons
    obtain ⟨x', r'', hargs', hx, -⟩ := hr'.inv_cons
    subst hargs'
    have h0 : tys[0]? = some sType := by rw [← Array.getElem?_toList, hty]; rfl
    have h1 : tys[1]? = some xt := by rw [← Array.getElem?_toList, hty]; rfl
    have a0 : (⟨args.toList.map ev⟩ : Array Value)[0]? = some sl' := by rw [hargs]; rfl
    have a1 : (⟨args.toList.map ev⟩ : Array Value)[1]? = some x' := by rw [hargs]; rfl
    split at h
    · rename_i elem base len cap hu
      split at h
      · rename_i i z hi hz
        split at h
        · cases h
        · rename_i new n hap
          cases hc : (Nat.ble ((len + n) * i.bytes) 140737488355328 && Nat.ble (len + n) 4294967296 && Nat.beq new.length (n * i.size) && Nat.beq (flat z).length i.size && all1 new) with
          | false => simp [hc] at h
          | true =>
            simp only [hc, cond_true] at h
            simp only [Bool.and_eq_true, Nat.ble_eq, Nat.beq_eq] at hc
            obtain ⟨⟨⟨⟨c1, c2⟩, c3⟩, c4⟩, c5⟩ := hc
            have hnb : n * i.bytes ≤ 140737488355328 := by
              rw [Nat.add_mul] at c1; omega
            obtain ⟨u, hxu, ⟨new', n1, n2⟩, hn⟩ := app_ok H hz hap hnb hx
            obtain ⟨u', hxu', ⟨newd, d1, d2⟩, -⟩ := app_ok H.drew hz hap hnb hx
            rw [hxu] at hxu'; cases hxu'
            have hnw : (isIntD u = true ∧ ∃ k, x' = .int k (n : Int) ∧ n ≤ 1073741824 ∧ n * i.bytes ≤ 281474976710656) ∨ (isIntD u = false ∧ (Builtin.lenOf x').run P w = .ok n w) := by
              rcases hn with q | ⟨q1, q2⟩
              · exact .inl q
              · exact .inr ⟨q1, q2 w⟩
            obtain ⟨i', hi', hz', -⟩ := zeroB_inv hz
            rw [hi] at hi'; cases hi'
            have hz0 : (flat z).length = i.size := c4
            have hgrow : ∀ (base' : Option Addr) (cap' : Nat) (old old' : List Value) (s1 : ASt), sl' = .slice base' len cap' → (Builtin.firstCells i.size len (.slice base' len cap')).run P w.drew = .ok ⟨old'⟩ w.drew → LRel ρ old old' → old.length = len * i.size →
                cap' < len + n → HRel P B w0 ρ s1 w.drew → ρ s.next = none → s1.heap.get s.next = some (.cells (old ++ new) elem true false) →
                ∃ nn w' ρ' v', (execOp ev o).run P w = .ok nn w' ∧ (nn = .value v' ∨ (nn = .skip ∧ v' = undef)) ∧ VRel ρ' (.slice (some ⟨s.next, 0, none⟩) (len + n) 0) v' ∧ HRel P B w0 ρ' s1 w' ∧ Ext ρ ρ' s.next (s.next + 1) := by
              intro base' cap' old old' s1 e1 e2 e3 e4 e5 e6 e7 e8
              obtain ⟨c, g1, g2⟩ := append_grow (P := P) (w := w) (ty := o.type) h0 (e1 ▸ a0) a1 h1 hu hxu hi hz' hnw e2 d1 e5 c1 c2
              obtain ⟨e, q1, q2⟩ := grown_ok e6 (rest := repeatL (c - (len + n)) (flat z)) (w' := w.drew.alloc (.cells (⟨old'⟩ ++ ⟨newd⟩ ++ Builtin.zeroCells z.cells (c - (len + n))) elem)) e7 e8 (info_es hi) (e3.append d2) g1
                (by
                  rw [List.length_append, List.length_append, repeatL_length, hz0, ← e3.1, ← d2.1, e4, c3, ← Nat.add_mul, ← Nat.add_mul, show len + n + (c - (len + n)) = c from by omega])
                (by
                  show w.drew.heap.push _ = w.drew.heap.push _
                  congr 1
                  congr 1
                  rw [zeroCells_any]
                  apply Array.ext'
                  simp) rfl rfl rfl
              exact ⟨_, _, _, _, hv g2, .inl rfl, q2, q1, Ext.one e7 (Nat.lt_succ_self _)⟩
            have hput : ∀ (b : ABlk), ρ s.next = none → HRel P B w0 ρ { s with heap := s.heap.put s.next b, next := s.next + 1 } w.drew := by
              intro b hb
              refine H.drew.same rfl fun id e b' he hb' => ?_
              rw [Tr.get_put] at hb'
              by_cases hid : id = s.next
              · subst hid; rw [hb] at he; cases he
              · rwa [if_neg hid] at hb'
            split at h
            · -- a nil slice
              have hs0 := slice0_inv hsl
              subst hs0
              cases hcap : Nat.ble (len + n) cap with
              | true =>
                simp only [hcap, cond_true] at h
                rw [Nat.ble_eq] at hcap
                cases hn0 : Nat.beq n 0 with
                | false => simp [hn0] at h
                | true =>
                  simp only [hn0, cond_true] at h
                  cases h
                  have := append_in (P := P) (ty := o.type) h0 a0 a1 h1 hu hxu hi hnw n1 hcap
                  exact ⟨.slice none (len + n) cap, hv (by rw [this]; rfl), .nilSlice _ _⟩
              | false =>
                simp only [hcap, cond_false] at h
                have hcap' : cap < len + n := by
                  rcases Nat.lt_or_ge cap (len + n) with q | q
                  · exact q
                  · rw [Nat.ble_eq_true_of_le q] at hcap; cases hcap
                cases hl0 : Nat.beq len 0 with
                | false => simp [hl0] at h
                | true =>
                  simp only [hl0, cond_true] at h
                  rw [Nat.beq_eq] at hl0
                  cases h
                  refine ⟨Nat.le_succ _, fun hfree => ?_⟩
                  have hf := hfree s.next (Nat.le_refl _) (Nat.lt_succ_self _)
                  exact hgrow none cap [] [] _ rfl rfl (.nil _) (by rw [hl0]; simp) hcap' (hput _ hf) hf (by simp)
            · rename_i a
              obtain ⟨a', cap', hs', hsr⟩ := slice_inv hsl
              subst hs'
              split at h
              · rename_i cb e g ro hblk
                rcases hsr with hsr | ⟨v1, v2, v3, ve, v4, v5⟩
                case inr =>
                  obtain rfl : ve.grow = g := (H.blk _ _ _ hblk v4).1
                  subst v2; subst v3
                  split at h
                  · rename_i hgg
                    rw [v5] at hgg; cases hgg
                  · cases hn0 : Nat.beq n 0 with
                    | true =>
                      simp only [hn0, cond_true] at h
                      rw [Nat.beq_eq] at hn0
                      subst hn0
                      cases h
                      have := append_in (P := P) (ty := o.type) h0 a0 a1 h1 hu hxu hi hnw n1 (by omega)
                      have hnil : new' = [] := by
                        apply List.eq_nil_of_length_eq_zero
                        rw [← n2.1, c3]; simp
                      subst hnil
                      refine ⟨.slice (some a') 0 0, hv (by rw [this]; rfl), hsl⟩
                    | false =>
                      simp only [hn0, cond_false] at h
                      have hn0' : n ≠ 0 := fun e => by rw [e] at hn0; cases hn0
                      split at h
                      · cases h
                      · rename_i old hold
                        cases hro : (ro || !(Nat.beq e elem)) with
                        | true => simp [hro] at h
                        | false =>
                          simp only [hro, cond_false] at h
                          simp only [Bool.or_eq_false_iff, Bool.not_eq_false', Nat.beq_eq] at hro
                          obtain ⟨rfl, rfl⟩ := hro
                          cases h
                          refine ⟨Nat.le_succ _, fun hfree => ?_⟩
                          have hf := hfree s.next (Nat.le_refl _) (Nat.lt_succ_self _)
                          have hdel : HRel P B w0 ρ { s with heap := (s.heap.del a.block).put s.next (.cells (old ++ new) e true false), next := s.next + 1 } w.drew := by
                            refine H.drew.same rfl fun id x b' he hb' => ?_
                            rw [Tr.get_put, Tr.get_del] at hb'
                            by_cases hid : id = s.next
                            · subst hid; rw [hf] at he; cases he
                            · rw [if_neg hid] at hb'
                              by_cases hid2 : id = a.block
                              · rw [if_pos hid2] at hb'; cases hb'
                              · rwa [if_neg hid2] at hb'
                          have hold0 : old = [] := by
                            unfold loadRow at hold
                            rw [v1, hblk] at hold
                            simp only [Option.isSome_none, cond_false, Nat.zero_mul, takeN] at hold
                            cases hold; rfl
                          refine hgrow (some a') 0 old [] _ rfl ?_ (by rw [hold0]; exact .nil _) (by rw [hold0]; simp) (by omega) hdel hf (by simp)
                          simp [Builtin.firstCells, loadCells, loadCellsFrom]
                obtain ⟨p1, p2, ee, p3, p4, p5⟩ := hsr
                obtain ⟨hge, rc, flo, fhi, t0, b2, bt, b3, b4, b5, b6, b7⟩ := H.blk _ _ _ hblk p3
                split at h
                · -- its room is known
                  rcases p5 with ⟨q0, q1, rfl⟩ | ⟨q0, -⟩
                  case inr => rw [hge] at q0; cases q0
                  have har : ARel ρ a a' := ⟨p1, p2, ee, p3, p4, q1⟩
                  cases hcap : Nat.ble (len + n) cap' with
                  | true =>
                    simp only [hcap, cond_true] at h
                    rw [Nat.ble_eq] at hcap
                    split at h
                    · cases h
                    · rename_i s' hs'
                      cases h
                      obtain ⟨w', r1, r2, r3, r4⟩ := store_ok H (har.add (len * i.size)) hs' c5 n2
                      have := append_in (P := P) (ty := o.type) h0 a0 a1 h1 hu hxu hi hnw n1 hcap
                      simp only [r1, Result.andThen_ok] at this
                      exact ⟨by omega, fun _ => ⟨_, w', ρ, _, hv this, .inl rfl, .slice (.inl ⟨p1, p2, ee, p3, p4, .inl ⟨q0, q1, rfl⟩⟩), r2, .refl _ _ _⟩⟩
                  | false =>
                    simp only [hcap, cond_false] at h
                    have hcap' : cap' < len + n := by
                      rcases Nat.lt_or_ge cap' (len + n) with q | q
                      · exact q
                      · rw [Nat.ble_eq_true_of_le q] at hcap; cases hcap
                    split at h
                    · cases h
                    · rename_i old hold
                      cases h
                      refine ⟨Nat.le_succ _, fun hfree => ?_⟩
                      have hf := hfree s.next (Nat.le_refl _) (Nat.lt_succ_self _)
                      obtain ⟨old', l1, l2, l3⟩ := load_ok H.drew har hold
                      exact hgrow _ _ old old' _ rfl (by simpa [Builtin.firstCells] using l1) l2 l3 hcap' (hput _ hf) hf (by simp)
                · -- its room is open
                  rcases p5 with ⟨q0, -⟩ | ⟨q0, q1, q2, q3, q4⟩
                  · rw [hge] at q0; cases q0
                  cases hn0 : Nat.beq n 0 with
                  | true =>
                    simp only [hn0, cond_true] at h
                    rw [Nat.beq_eq] at hn0
                    subst hn0
                    cases h
                    have := append_in (P := P) (ty := o.type) h0 a0 a1 h1 hu hxu hi hnw n1 (by omega)
                    have hnil : new' = [] := by
                      apply List.eq_nil_of_length_eq_zero
                      rw [← n2.1, c3]; simp
                    subst hnil
                    refine ⟨.slice (some a') len cap', hv (by rw [this]; rfl), hsl⟩
                  | false =>
                    simp only [hn0, cond_false] at h
                    have hn0' : n ≠ 0 := fun e => by rw [e] at hn0; cases hn0
                    split at h
                    · cases h
                    · rename_i old hold
                      cases hro : (ro || !(Nat.beq e elem)) with
                      | true => simp [hro] at h
                      | false =>
                        simp only [hro, cond_false] at h
                        simp only [Bool.or_eq_false_iff, Bool.not_eq_false', Nat.beq_eq] at hro
                        obtain ⟨rfl, rfl⟩ := hro
                        rw [(bt rfl).1] at b2
                        cases h
                        refine ⟨Nat.le_succ _, fun hfree => ?_⟩
                        have hf := hfree s.next (Nat.le_refl _) (Nat.lt_succ_self _)
                        have hes : ee.es = i.size := by rw [hi] at b6; simpa using b6.symm
                        have hne : a.block ≠ s.next := fun e => by rw [e, hf] at p3; cases p3
                        by_cases hcap : len + n ≤ cap'
                        · -- in place
                          have happ := append_in (P := P) (ty := o.type) h0 a0 a1 h1 hu hxu hi hnw n1 hcap
                          simp only at happ
                          rw [addr_eq p2, add_eq, p4] at happ
                          have hmul : len * i.size + n * i.size ≤ cap' * i.size := by rw [← Nat.add_mul]; exact Nat.mul_le_mul_right _ hcap
                          rw [hes] at q3
                          have hnl : new'.length = n * i.size := by rw [← n2.1, c3]
                          obtain ⟨k1, k2⟩ : old = (cb.drop a.off).take (len * i.size) ∧ len * i.size ≤ (cb.drop a.off).length := by
                            unfold loadRow at hold
                            rw [p1, hblk] at hold
                            simp only [Option.isSome_none, cond_false] at hold
                            exact takeN_eq _ _ _ hold
                          have holdn : old.length = len * i.size := by rw [k1, List.length_take]; omega
                          obtain ⟨w', r1, r2, r3, r4, r5, r6, r7⟩ := run_storeCells_row (P := P) ee.blk (a'.off + len * i.size) e flo fhi new' 0 w rc b2 (by omega)
                            (fun j hj => by have := b3 (a'.off + len * i.size + j - ee.off) (by omega); omega) (all1_one c5 n2)
                          rw [r1] at happ
                          simp only [Result.andThen_ok] at happ
                          have hHR := H.move (s' := { s with heap := (s.heap.del a.block).put s.next (.cells (old ++ new) e true false), next := s.next + 1 }) (e' := ⟨ee.blk, a'.off, ee.off + ee.room - a'.off, ee.es, true⟩) p3 hblk rfl hf rfl
                            (fun j => by simp) rfl r4 r3 r5 r6 r7 rfl (b' := .cells (old ++ new) e true false) (by
                              refine ⟨rfl, _, flo, fhi, _, r2, fun _ => ⟨rfl, fun z => by cases z⟩, ?_, ?_, ?_, b6, ?_⟩
                              · intro j hj
                                simp only at hj ⊢
                                have := b3 (a'.off + j - ee.off) (by omega)
                                omega
                              · rw [lset_length]; simp only; omega
                              · simp only [List.length_append, holdn, c3]
                                omega
                              · intro j v hj
                                simp only
                                rw [lset_get _ _ _ _ (by omega)]
                                by_cases hjl : j < len * i.size
                                · rw [if_neg (by omega)]
                                  rw [List.getElem?_append_left (by omega), k1, List.getElem?_take, if_pos hjl, List.getElem?_drop] at hj
                                  obtain ⟨v', t1, t2⟩ := b7 _ _ hj
                                  have hlen0 : len ≠ 0 := fun e => by rw [e, Nat.zero_mul] at hjl; omega
                                  refine ⟨v', ?_, t2.mono (Ren.le_ext hf)⟩
                                  rw [← t1]
                                  congr 1
                                  rcases q4 with q4 | q4
                                  · exact absurd q4 hlen0
                                  · omega
                                · have hjn : j - old.length < new.length := by
                                    rcases Nat.lt_or_ge (j - old.length) new.length with t | t
                                    · exact t
                                    · rw [List.getElem?_append_right (by omega), List.getElem?_eq_none t] at hj; cases hj
                                  rw [if_pos (by omega)]
                                  rw [List.getElem?_append_right (by omega)] at hj
                                  obtain ⟨v', t1, t2⟩ := n2.get hj
                                  refine ⟨v', ?_, t2.mono (Ren.le_ext hf)⟩
                                  rw [← t1]
                                  congr 1
                                  omega)
                          refine ⟨_, w', ρ.ext s.next ⟨ee.blk, a'.off, ee.off + ee.room - a'.off, ee.es, true⟩, _, hv happ, .inl rfl, .slice (.inl ⟨rfl, rfl, _, Ren.ext_self, rfl, .inr ⟨rfl, hcap, Nat.le_refl _, ?_, .inr rfl⟩⟩), hHR, Ext.one hf (Nat.lt_succ_self _)⟩
                          simp only
                          rw [hes]; omega
                        · -- in a new block
                          have hdel : HRel P B w0 ρ { s with heap := (s.heap.del a.block).put s.next (.cells (old ++ new) e true false), next := s.next + 1 } w.drew := by
                            refine H.drew.same rfl fun id x b' he hb' => ?_
                            rw [Tr.get_put, Tr.get_del] at hb'
                            by_cases hid : id = s.next
                            · subst hid; rw [hf] at he; cases he
                            · rw [if_neg hid] at hb'
                              by_cases hid2 : id = a.block
                              · rw [if_pos hid2] at hb'; cases hb'
                              · rwa [if_neg hid2] at hb'
                          by_cases hl0 : len = 0
                          · have hold0 : old = [] := by
                              unfold loadRow at hold
                              rw [p1, hblk, hl0] at hold
                              simp only [Option.isSome_none, cond_false, Nat.zero_mul, takeN] at hold
                              cases hold; rfl
                            refine hgrow (some a') cap' old [] _ rfl ?_ (by rw [hold0]; exact .nil _) (by rw [hold0, hl0]; simp) (by omega) hdel hf (by simp)
                            rw [hl0]
                            simp [Builtin.firstCells, loadCells, loadCellsFrom]
                          · have har : ARel ρ a a' := ⟨p1, p2, ee, p3, p4, q4.resolve_left hl0⟩
                            obtain ⟨old', l1, l2, l3⟩ := load_ok H.drew har hold
                            exact hgrow (some a') cap' old old' _ rfl (by simpa [Builtin.firstCells] using l1) l2 l3 (by omega) hdel hf (by simp)
              · cases h
          
      · cases h
    · cases h
  · cases h


theorem post_copy (H : HRel P B w0 ρ s w) {args : Array Operand} {tys : Array TypeId} (ho : o.op = .call { callee := .builtin .copy, args, argTypes := tys }) {vs : List Value} (hr : LRel ρ vs (args.toList.map ev)) {nx : ANext}
    (h : copyV P s tys.toList vs = some nx) : Post P B w0 ρ s w ev o nx := by
  have hrun := fun w => run_builtin (P := P) (ev := ev) .copy ho w
  have hv : ∀ {v : Value} {w w' : World}, (Builtin.copy_ tys o.type ⟨args.toList.map ev⟩).run P w = .ok v w' → (execOp ev o).run P w = .ok (.value v) w' := by
    intro v w w' hh
    rw [hrun w]
    simp only [builtin, Sem.run_bind, hh, Result.andThen_ok, Sem.run_pure]
  unfold copyV at h
  split at h
  · rename_i dType tr dst src xr hty
    obtain ⟨d', r', hargs, hd, hr'⟩ := hr.inv_cons
    obtain ⟨x', r'', hargs', hx, -⟩ := hr'.inv_cons
    subst hargs'
    have h0 : tys[0]? = some dType := by rw [← Array.getElem?_toList, hty]; rfl
    have a0 : (⟨args.toList.map ev⟩ : Array Value)[0]? = some d' := by rw [hargs]; rfl
    have a1 : (⟨args.toList.map ev⟩ : Array Value)[1]? = some x' := by rw [hargs]; rfl
    split at h
    · rename_i elem base dLen dcap sLen hu hsl
      split at h
      · cases h
      · rename_i size hsz
        simp only at h
        split at h
        · cases h
        · rename_i l hl
          obtain ⟨l', l1, l2⟩ := srcCells_ok H hsl (Nat.min_le_left _ _) hl hx
          have hlen := srcLen_rel (P := P) hsl hx w
          have hcore : ∀ (base' : Option Addr) (cap' : Nat), d' = .slice base' dLen cap' → (Builtin.copy_ tys o.type ⟨args.toList.map ev⟩).run P w =
              ((match base' with | some a => storeCells a l' | none => pure ()).run P w).andThen fun _ w => .ok (.int .i64 (Nat.min sLen dLen)) w := by
            intro base' cap' e
            subst e
            simp only [Builtin.copy_, h0, a0, a1, Sem.run_bind, run_underlying hu, Result.andThen_ok, hlen, run_sizeB hsz, l1]
            cases base' <;> simp [goInt]
          split at h
          · have hd0 := slice0_inv hd
            have hh := hcore none dcap hd0
            cases hn0 : Nat.beq (Nat.min sLen dLen) 0 with
            | false => simp [hn0] at h
            | true =>
              simp only [hn0, cond_true] at h
              cases h
              exact ⟨_, hv (by rw [hh]; rfl), .int _ _⟩
          · rename_i a
            obtain ⟨a', c', e', hs⟩ := slice_inv hd
            have hh := hcore (some a') c' e'
            cases hn0 : Nat.beq (Nat.min sLen dLen) 0 with
            | true =>
              simp only [hn0, cond_true] at h
              rw [Nat.beq_eq] at hn0
              cases h
              have hl0 : l' = [] := by
                have : l.length = 0 := by
                  unfold srcCells at hl
                  split at hl
                  · rename_i a2 _ _
                    unfold loadRow at hl
                    cases hsp : a2.spot.isSome with
                    | true => simp [hsp] at hl
                    | false =>
                      simp only [hsp, cond_false] at hl
                      split at hl
                      · obtain ⟨rfl, -⟩ := takeN_eq _ _ _ hl
                        rw [hn0]; simp
                      · cases hl
                  · cases hl; rfl
                  · cases hl; rw [hn0]; simp
                  · cases hl
                exact List.eq_nil_of_length_eq_zero (by rw [← l2.1]; exact this)
              subst hl0
              exact ⟨_, hv (by rw [hh]; rfl), .int _ _⟩
            | false =>
              simp only [hn0, cond_false] at h
              cases hal : all1 l with
              | false => simp [hal] at h
              | true =>
                simp only [hal, cond_true] at h
                split at h
                · cases h
                · rename_i s' hst
                  cases h
                  have hpos : 0 < dLen := by
                    rcases Nat.eq_zero_or_pos dLen with e | e
                    · rw [e] at hn0; simp at hn0
                    · exact e
                  obtain ⟨w', r1, r2, r3, r4⟩ := store_ok H (hs.addr hpos) hst hal l2
                  simp only [r1, Result.andThen_ok] at hh
                  exact ⟨by omega, fun _ => ⟨_, w', ρ, _, hv hh, .inl rfl, .int _ _, r2, .refl _ _ _⟩⟩
    · cases h
  · cases h

theorem bytesOf_run {f : Value → ByteArray → Sem (ForInStep ByteArray)} (hf : ∀ n s w, (f (.int .u8 n) s).run P w = .ok (.yield (s.push (UInt8.ofNat n.toNat))) w) :
    ∀ {l l' : List Value} {b : List UInt8}, bytesOf l = some b → LRel ρ l l' → ∀ (acc : ByteArray) (w : World), (forIn l' acc f).run P w = .ok ⟨⟨acc.data.toList ++ b⟩⟩ w
  | [], l', b, h, r, acc, w => by
    simp [bytesOf] at h; subst h; rw [r.inv_nil]
    simp only [List.forIn_nil, List.append_nil, Sem.run_pure]
  | v :: l, l', b, h, r, acc, w => by
    obtain ⟨v', r', rfl, hv, hr⟩ := r.inv_cons
    unfold bytesOf at h
    split at h
    · rename_i heq; cases heq
    · rename_i n rr heq
      cases heq
      split at h
      · cases h
      · rename_i bb hbb
        cases h
        rw [int_inv hv, List.forIn_cons]
        simp only [Sem.run_bind, hf, Result.andThen_ok]
        rw [bytesOf_run hf hbb hr (acc.push (UInt8.ofNat n.toNat)) w]
        congr 2
        apply Array.ext'
        simp
    · cases h

theorem mark_ok (H : HRel P B w0 ρ s w) {a a' : Addr} {l c c' : Nat} (ha : SlRel ρ a a' l c c') {cb : List Value} {t : TypeId} (hb : s.heap.get a.block = some (.cells cb t false false)) :
    ∃ w', (markStringish a').run P w = .ok () w' ∧ HRel P B w0 ρ s w' := by
  obtain ⟨p1, p2, ee, p3, p4, p5⟩ := ha.known fun e he => (H.blk _ _ _ hb he).1
  obtain ⟨g1, rc, lo, hi, t0, g2, ht0, g3, g4, g5, g6, g7⟩ := H.blk _ _ _ hb p3
  obtain ⟨rfl, hz⟩ := ht0 rfl
  obtain ⟨z1, z2, z3⟩ := hz rfl
  have hsh : w.shape? a'.block = some (t0, rc.length) := by rw [p4]; simp [World.shape?, g2]
  refine ⟨w.freeze ⟨a'.block, rc.length, none⟩ 1, ?_, ?_⟩
  · simp only [markStringish, Sem.run_bind, run_shape, hsh, Result.andThen_ok, run_freeze]
  · have hblk : ee.blk < w.heap.size := H.lt _ _ p3
    have hget : (w.freeze ⟨a'.block, rc.length, none⟩ 1).heap[ee.blk]? = some (.cells ⟨rc⟩ t0 (if lo == hi then (rc.length, rc.length + 1) else (min lo rc.length, max hi (rc.length + 1)))) := by
      simp only [World.freeze, Nat.succ_ne_zero, if_false, p4]
      rw [Array.getElem?_modify, if_pos rfl, g2]
      rfl
    obtain ⟨lo', hi', hget', hlo⟩ : ∃ lo' hi', (w.freeze ⟨a'.block, rc.length, none⟩ 1).heap[ee.blk]? = some (.cells ⟨rc⟩ t0 (lo', hi')) ∧ rc.length ≤ lo' := by
      by_cases e : lo = hi
      · rw [if_pos (by simp [e])] at hget
        exact ⟨_, _, hget, Nat.le_refl _⟩
      · rw [if_neg (by simp [e])] at hget
        exact ⟨_, _, hget, by rcases z3 with z3 | z3 <;> omega⟩
    refine H.turn (b' := .cells cb t0 false false) p3 hb rfl rfl (fun i => ?_) rfl ?_ (fun k hk => ?_) rfl rfl rfl ?_
    · by_cases hi' : i = a.block
      · subst hi'; rw [if_pos rfl, hb]
      · rw [if_neg hi']
    · simp [World.freeze]
    · simp only [World.freeze, Nat.succ_ne_zero, if_false, p4]
      rw [Array.getElem?_modify, if_neg (fun e => hk e.symm)]
    · exact ⟨g1, rc, lo', hi', t0, hget', fun _ => ⟨rfl, fun _ => ⟨z1, z2, .inr hlo⟩⟩, fun i hi' hc => by omega, g4, g5, g6, g7⟩

theorem post_convert (H : HRel P B w0 ρ s w) (hE : ∀ x v, operand T s x = some v → VRel ρ v (ev x)) {ta b : TypeId} {x : Operand} (ho : o.op = .convert ta b x) {nx : ANext}
    (h : aOp P T s (.convert ta b x) = some nx) : Post P B w0 ρ s w ev o nx := by
  simp only [aOp] at h
  split at h
  · rename_i v hv
    have hrun : ∀ w, (execOp ev o).run P w = ((convert ta b (ev x)).run P w).andThen fun v w => .ok (.value v) w := by
      intro w
      simp only [execOp, ho, Sem.run_bind, Sem.run_pure]
    have hvr := hE _ _ hv
    unfold convertV at h
    split at h
    · rename_i d k k' n hu1 hu2
      cases h
      refine ⟨.int k (k.wrap n), ?_, .int _ _⟩
      rw [hrun, int_inv hvr]
      cases d <;> simp only [convert, Sem.run_bind, run_underlying hu1, run_underlying hu2, Result.andThen_ok, Conv.intToInt, Sem.run_pure]
    · rename_i bb hu1 hu2
      cases h
      refine ⟨.string bb, ?_, .string _⟩
      rw [hrun, str_inv hvr]
      simp only [convert, Sem.run_bind, run_underlying hu1, run_underlying hu2, Result.andThen_ok, Sem.run_pure]
    · rename_i e bb hu1 hu2
      split at h
      · rename_i hu3
        cases hsz : Nat.ble bb.size 1073741824 with
        | false => simp [hsz] at h
        | true =>
          simp only [hsz, cond_true] at h
          cases hie : P.info? e with
          | none => simp [hie] at h
          | some i =>
            simp only [hie] at h
            cases h1 : Nat.beq i.size 1 with
            | false => simp [h1] at h
            | true =>
              simp only [h1, cond_true] at h
              rw [Nat.beq_eq] at h1
              cases h
              refine ⟨rfl, fun id σ hid Hσ hb => ?_⟩
              let c := (Question.appendCap bb.size 0 e).cut (w.tape w.drawn (.appendCap bb.size 0 e))
              have hc : bb.size ≤ c := by simp only [c, Question.cut]; omega
              let cs : List Value := bb.data.toList.map fun c => .int .u8 c.toNat
              let rest : List Value := List.replicate (c - bb.size) (.int .u8 0)
              have hlen : (cs ++ rest).length = c := by
                simp only [cs, rest, List.length_append, List.length_map, List.length_replicate]
                have : bb.data.toList.length = bb.size := rfl
                omega
              let w' : World := { w.drew with heap := w.heap.push (.cells ⟨cs ++ rest⟩ e (c, c + 1)) }
              have hrr : (execOp ev o).run P w = .ok (.value (.slice (some ⟨w.heap.size, 0, none⟩) bb.size c)) w' := by
                rw [hrun, str_inv hvr]
                have hforced : Question.forced (.appendCap bb.size 0 e) = false := rfl
                have helems : (bb.data.map (fun b => Value.int .u8 b.toNat) ++ Array.replicate (c - bb.size) (Value.int .u8 0)) = ⟨cs ++ rest⟩ := by
                  apply Array.ext'
                  simp [cs, rest]
                simp only [convert, Sem.run_bind, run_underlying hu1, run_underlying hu2, run_underlying hu3, Result.andThen_ok, Conv.stringToBytes, run_choose, hforced, Bool.false_eq_true, if_false, World.drew_eq]
                show (((((newRow e (bb.data.map (fun b => Value.int .u8 b.toNat) ++ Array.replicate (c - bb.size) (Value.int .u8 0))).run P w.drew).andThen _).andThen _)) = _
                rw [helems]
                simp only [newRow, Sem.run_bind, run_newObj, Result.andThen_ok, Sem.run_pure, World.alloc_eq, World.size_drew, markStringish, run_shape]
                have hsh : (w.drew.alloc (.cells ⟨cs ++ rest⟩ e)).shape? w.heap.size = some (e, c) := by
                  simp only [World.shape?, World.alloc, World.drew]
                  simp only [Array.getElem?_push_size]
                  rw [← hlen]; rfl
                simp only [hsh, run_freeze, Result.andThen_ok]
                congr 1
                simp only [World.freeze, World.alloc, World.drew, w', Nat.succ_ne_zero, if_false]
                congr 1
                apply Array.ext
                · simp
                · intro j h1 h2
                  simp only [Array.getElem_modify]
                  by_cases hj : w.heap.size = j
                  · subst hj; simp
                  · rw [if_neg hj]
                    simp at h1 h2
                    rw [Array.getElem_push_lt (by omega), Array.getElem_push_lt (by omega)]
              refine ⟨_, w', ⟨w.heap.size, 0, (cs ++ rest).length, i.size, true⟩, hrr, ?_, .slice (.inl ⟨rfl, rfl, _, Ren.ext_self, rfl, .inr ⟨rfl, hc, Nat.le_refl _, ?_, .inr rfl⟩⟩)⟩
              · exact new_ok Hσ.drew (g := true) hid hb (info_es hie) (bytes_rel _) (.inr (Nat.le_of_eq hlen)) rfl rfl rfl rfl
              · simp only; rw [hlen, h1]; omega
      · cases h
    · rename_i e l c hu1 hu2
      split at h
      · rename_i hu3
        cases h
        refine ⟨.string ⟨⟨[]⟩⟩, ?_, .string _⟩
        rw [hrun, slice0_inv hvr]
        simp only [convert, Sem.run_bind, run_underlying hu1, run_underlying hu2, run_underlying hu3, Result.andThen_ok, Conv.bytesToString, Sem.run_pure]
        rfl
      · cases h
    · rename_i e a len c hu1 hu2
      split at h
      · rename_i hu3
        split at h
        · cases h
        · rename_i l hl
          split at h
          · cases h
          · rename_i bb hbb
            cases h
            obtain ⟨a', c', e', hs⟩ := slice_inv hvr
            refine ⟨.string ⟨⟨bb⟩⟩, ?_, .string _⟩
            rw [hrun, e']
            have hload : ∃ l', (loadCells a' len).run P w = .ok ⟨l'⟩ w ∧ LRel ρ l l' := by
              by_cases h0 : len = 0
              · subst h0
                have : l = [] := by
                  unfold loadRow at hl
                  rw [hs.spot] at hl
                  simp only [Option.isSome_none, cond_false] at hl
                  split at hl
                  · simp [takeN] at hl; exact hl
                  · cases hl
                subst this
                exact ⟨[], rfl, .nil _⟩
              · obtain ⟨l', r1, r2, -⟩ := load_ok H (hs.addr (by omega)) hl
                exact ⟨l', r1, r2⟩
            obtain ⟨l', r1, r2⟩ := hload
            simp only [convert, Sem.run_bind, run_underlying hu1, run_underlying hu2, run_underlying hu3, Result.andThen_ok, Conv.bytesToString, r1, Sem.run_pure]
            rw [← Array.forIn_toList]
            rw [bytesOf_run (fun n s w => by simp only [Sem.run_pure]) hbb r2 ByteArray.empty w]
            rfl
      · cases h
    · rename_i e e2 a len c hu1 hu2
      split at h
      · rename_i hu3
        cases hd : Nat.beq ta b with
        | false => simp [hd] at h
        | true =>
          simp only [hd, cond_true] at h
          rw [Nat.beq_eq] at hd
          split at h
          · rename_i cb t hb
            cases h
            refine ⟨Nat.le_refl _, fun _ => ?_⟩
            obtain ⟨a', c', e', hs⟩ := slice_inv hvr
            obtain ⟨w', m1, m2⟩ := mark_ok H hs hb
            refine ⟨_, w', ρ, .slice (some a') len c', ?_, .inl rfl, .slice hs, m2, .refl _ _ _⟩
            rw [hrun, e']
            subst hd
            simp only [convert, Sem.run_bind, run_underlying hu1, run_underlying hu3, Result.andThen_ok, beq_self_eq_true, m1, Sem.run_pure]
          · cases h
      · cases h
    · cases h
  · cases h

end
end Go.Vf

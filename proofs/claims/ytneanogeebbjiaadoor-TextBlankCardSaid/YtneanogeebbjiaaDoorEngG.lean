import Derived.Test.YtneanogeebbjiaaDoorEngF
/- The machine of plain blocks: builtins, conversions, calls. -/
namespace Go.Vf
open Go.RowKit
section
variable {P : Program} {B : Nat} {w0 : World} {ρ : Ren} {s : ASt} {w : World} {T : ATmp} {ev : Operand → Value} {o : Oper}

theorem run_mapM_places (w : World) : ∀ (l : List Field), (l.all fun f => (sizeB P f.type).isSome) = true →
    (l.mapM (m := Sem) fun f => do pure (f.offset, ← sizeOf f.type)).run P w = .ok (l.map fun f => (f.offset, P.cellsOf f.type)) w
  | [], _ => rfl
  | f :: l, h => by
    simp only [List.all_cons, Bool.and_eq_true] at h
    obtain ⟨n, hn⟩ := Option.isSome_iff_exists.1 h.1
    obtain ⟨i, hi, -⟩ := info_of_size hn
    rw [List.mapM_cons]
    simp only [Sem.run_bind, run_sizeOf w hi, Result.andThen_ok, Sem.run_pure, run_mapM_places w l h.2, List.map_cons]

theorem layAt_congr {p q : Nat → Option (Nat × Nat)} : ∀ {ps : List (Nat × Value)} {x c : List Value}, layAt p x ps = some c → (∀ i y, p i = some y → q i = some y) → layAt q x ps = some c
  | [], x, c, h, _ => h
  | (i, v) :: ps, x, c, h, hq => by
    simp only [layAt] at h ⊢
    split at h
    · cases h
    · rename_i off size hp
      rw [hq _ _ hp]
      simp only
      cases hb : Nat.beq (flat v).length size with
      | false => simp [hb] at h
      | true =>
        simp only [hb, cond_true] at h ⊢
        split at h
        · cases h
        · exact layAt_congr h hq

theorem post_build (hE : ∀ x v, operand T s x = some v → VRel ρ v (ev x)) {t : TypeId} {parts : Array (Nat × Operand)} (ho : o.op = .build t parts) {nx : ANext}
    (h : aOp P T s (.build t parts) = some nx) : Post P B w0 ρ s w ev o nx := by
  simp only [aOp] at h
  split at h
  · rename_i z ps fields hz hps hu
    cases hall : (fields.toList.all fun f => (sizeB P f.type).isSome) with
    | false => simp [hall] at h
    | true =>
      simp only [hall, Bool.not_true, cond_false] at h
      split at h
      · cases h
      · rename_i c hc
        cases h
        obtain ⟨r1, r2⟩ := run_zeroB (ρ := ρ) hz w
        obtain ⟨p1, p2⟩ := partsOf_rel hE hps
        have hc' := layAt_congr (q := ((fields.map fun f => (f.offset, P.cellsOf f.type))[·]?)) hc (by
          intro i y hy
          split at hy
          · cases hy
          · rename_i f hf
            split at hy
            · cases hy
            · rename_i n hn
              cases hy
              obtain ⟨ii, hi, hn'⟩ := info_of_size hn
              simp only [Array.getElem?_map, hf, Option.map_some]
              simp [Program.cellsOf, hi, hn'])
        obtain ⟨c', q1, q2, q3⟩ := layAt_fill hc' r2.flat p1 p2
        refine ⟨.agg ⟨c'⟩, ?_, .agg' q2⟩
        have hmap : (parts.map fun x => (x.1, ev x.2)).toList = parts.toList.map fun q => (q.1, ev q.2) := by simp
        have hm : (fields.mapM (m := Sem) fun f => do pure (f.offset, ← sizeOf f.type)).run P w = .ok (fields.map fun f => (f.offset, P.cellsOf f.type)) w := by
          rw [Array.mapM_eq_mapM_toList, Sem.run_map, run_mapM_places w _ hall]
          simp only [Result.andThen_ok]
          congr 1
          apply Array.ext'
          simp
        have hzc : z.cells = ⟨flat z⟩ := rfl
        simp only [execOp, ho, Instr.build, Sem.run_bind, r1, Result.andThen_ok, run_underlying hu, hm, hmap, hzc, q1, Sem.run_pure]
  · rename_i z ps len elem hz hps hu
    split at h
    · cases h
    · rename_i n hn
      split at h
      · cases h
      · rename_i c hc
        cases h
        obtain ⟨r1, r2⟩ := run_zeroB (ρ := ρ) hz w
        obtain ⟨p1, p2⟩ := partsOf_rel hE hps
        obtain ⟨c', q1, q2, q3⟩ := layAt_fill hc r2.flat p1 p2
        refine ⟨.agg ⟨c'⟩, ?_, .agg' q2⟩
        have hmap : (parts.map fun x => (x.1, ev x.2)).toList = parts.toList.map fun q => (q.1, ev q.2) := by simp
        have hzc : z.cells = ⟨flat z⟩ := rfl
        simp only [execOp, ho, Instr.build, Sem.run_bind, r1, Result.andThen_ok, run_underlying hu, run_sizeB hn, hmap, hzc, q1, Sem.run_pure]
  · cases h

theorem resolve_builtin {b : Builtin} {args : Array Operand} {tys : Array TypeId} {ty : TypeId} :
    resolve ev { callee := .builtin b, args, argTypes := tys } ty = pure { target := .builtin b tys ty (args.map fun | .const _ => true | _ => false), args := args.map ev } := rfl

theorem ev_args (args : Array Operand) : args.map ev = ⟨args.toList.map ev⟩ := by apply Array.ext'; simp

theorem hd? {l : List Value} {v : Value} {r : List Value} (h : l = v :: r) : (⟨l⟩ : Array Value)[0]? = some v := by subst h; rfl

/-- A builtin's run. -/
theorem run_builtin (b : Builtin) {args : Array Operand} {tys : Array TypeId} (ho : o.op = .call { callee := .builtin b, args, argTypes := tys }) (w : World) :
    (execOp ev o).run P w = (builtin b tys o.type (args.map fun | .const _ => true | _ => false) ⟨args.toList.map ev⟩).run P w := by
  simp only [execOp, ho, resolve_builtin, ev_args, Sem.run_bind, Sem.run_pure, Result.andThen_ok, invoke]

theorem post_len (H : HRel P B w0 ρ s w) {args : Array Operand} {tys : Array TypeId} (ho : o.op = .call { callee := .builtin .len, args, argTypes := tys }) {vs : List Value} (hr : LRel ρ vs (args.toList.map ev)) {v : Value}
    (h : lenV P s tys.toList vs = some v) : Post P B w0 ρ s w ev o (.val v) := by
  have hb := fun w => run_builtin (P := P) (ev := ev) .len ho w
  unfold lenV at h
  split at h
  · rename_i t tr x xr hty
    obtain ⟨x', xr', hx, hxr, -⟩ := hr.inv_cons
    have h0 : tys[0]? = some t := by rw [← Array.getElem?_toList, hty]; rfl
    have h1 : (⟨args.toList.map ev⟩ : Array Value)[0]? = some x' := hd? hx
    have key : ∀ {u : Value}, (∀ w, (Builtin.len_ tys o.type ⟨args.toList.map ev⟩).run P w = .ok u w) → VRel ρ v u → Post P B w0 ρ s w ev o (.val v) := by
      intro u hu hv
      refine ⟨u, ?_, hv⟩
      rw [hb w]
      simp only [builtin, Sem.run_bind, hu, Result.andThen_ok, Sem.run_pure]
    split at h
    · rename_i b hu
      cases h
      rw [str_inv hxr] at h1
      exact key (u := .int .i64 b.size) (fun w => by simp only [Builtin.len_, h0, h1, Sem.run_bind, run_underlying hu, Result.andThen_ok, Sem.run_pure, goInt]) (.int _ _)
    · rename_i n e hu
      cases h
      exact key (u := .int .i64 n) (fun w => by simp only [Builtin.len_, h0, h1, Sem.run_bind, run_underlying hu, Result.andThen_ok, Sem.run_pure, goInt]) (.int _ _)
    · rename_i e a n c hu
      cases h
      cases a with
      | none =>
        rw [slice0_inv hxr] at h1
        exact key (u := .int .i64 n) (fun w => by simp only [Builtin.len_, h0, h1, Sem.run_bind, run_underlying hu, Result.andThen_ok, Sem.run_pure, goInt]) (.int _ _)
      | some a =>
        obtain ⟨a', c', e', -⟩ := slice_inv hxr
        rw [e'] at h1
        exact key (u := .int .i64 n) (fun w => by simp only [Builtin.len_, h0, h1, Sem.run_bind, run_underlying hu, Result.andThen_ok, Sem.run_pure, goInt]) (.int _ _)
    · rename_i k e hu
      cases h
      have : x' = .map none := by cases hxr; rfl
      rw [this] at h1
      exact key (u := .int .i64 0) (fun w => by simp only [Builtin.len_, h0, h1, Sem.run_bind, run_underlying hu, Result.andThen_ok, Sem.run_pure, goInt]) (.int _ _)
    · rename_i k e r hu
      split at h
      · rename_i es clock hes
        cases h
        cases hxr with
        | map he hr' =>
          rename_i r' e'
          obtain ⟨-, es', g1, g2, -⟩ := H.blk _ _ _ hes he
          refine ⟨.int .i64 es.length, ?_, .int _ _⟩
          rw [hb w]
          rw [hr'] at h1
          simp only [builtin, Builtin.len_, h0, h1, Sem.run_bind, run_underlying hu, Result.andThen_ok, Sem.run_pure, goInt, getObj, Sem.run, g1]
          simp [g2]
      · cases h
    · rename_i arr y hu
      split at h
      · rename_i n e hu2
        cases h
        refine key (u := .int .i64 n) (fun w => ?_) (.int _ _)
        simp only [Builtin.len_, h0, h1, Sem.run_bind, run_underlying hu, Result.andThen_ok]
        simp only [run_underlying hu2, Result.andThen_ok, Sem.run_pure, goInt]
      · cases h
    · cases h
  · cases h

theorem post_cap (H : HRel P B w0 ρ s w) {args : Array Operand} {tys : Array TypeId} (ho : o.op = .call { callee := .builtin .cap, args, argTypes := tys }) {vs : List Value} (hr : LRel ρ vs (args.toList.map ev)) {v : Value}
    (h : capV P s tys.toList vs = some v) : Post P B w0 ρ s w ev o (.val v) := by
  have hb := fun w => run_builtin (P := P) (ev := ev) .cap ho w
  unfold capV at h
  split at h
  · rename_i t tr x xr hty
    obtain ⟨x', xr', hx, hxr, -⟩ := hr.inv_cons
    have h0 : tys[0]? = some t := by rw [← Array.getElem?_toList, hty]; rfl
    have h1 : (⟨args.toList.map ev⟩ : Array Value)[0]? = some x' := hd? hx
    have key : ∀ {u : Value}, (∀ w, (Builtin.cap_ tys o.type ⟨args.toList.map ev⟩).run P w = .ok u w) → VRel ρ v u → Post P B w0 ρ s w ev o (.val v) := by
      intro u hu hv
      refine ⟨u, ?_, hv⟩
      rw [hb w]
      simp only [builtin, Sem.run_bind, hu, Result.andThen_ok, Sem.run_pure]
    split at h
    · rename_i n e hu
      cases h
      exact key (u := .int .i64 n) (fun w => by simp only [Builtin.cap_, h0, h1, Sem.run_bind, run_underlying hu, Result.andThen_ok, Sem.run_pure, goInt]) (.int _ _)
    · rename_i e l n hu
      cases h
      rw [slice0_inv hxr] at h1
      exact key (u := .int .i64 n) (fun w => by simp only [Builtin.cap_, h0, h1, Sem.run_bind, run_underlying hu, Result.andThen_ok, Sem.run_pure, goInt]) (.int _ _)
    · rename_i e a l n hu
      split at h
      · rename_i t' hg
        cases h
        obtain ⟨a', c', e', hs⟩ := slice_inv hxr
        obtain ⟨c, ro, hbk⟩ := growOf_get hg
        obtain ⟨-, -, ee, p3, -, p5⟩ := hs.known fun e he => (H.blk _ _ _ hbk he).1
        have hge := (H.blk _ _ _ hbk p3).1
        have hc : c' = n := by
          rcases p5 with ⟨-, -, q⟩ | ⟨q, -⟩
          · exact q
          · rw [hge] at q; cases q
        subst hc
        rw [e'] at h1
        exact key (u := .int .i64 c') (fun w => by simp only [Builtin.cap_, h0, h1, Sem.run_bind, run_underlying hu, Result.andThen_ok, Sem.run_pure, goInt]) (.int _ _)
      · cases h
    · cases h
  · cases h

theorem foldMax : ∀ {l l' : List Value} {x x' v : Value}, foldV true x l = some v → VRel ρ x x' → LRel ρ l l' → ∃ v', (∀ w, (l'.foldlM (m := Sem) Builtin.max2 x').run P w = .ok v' w) ∧ VRel ρ v v'
  | [], l', x, x', v, h, hx, hl => by simp [foldV] at h; subst h; rw [hl.inv_nil]; exact ⟨x', fun w => rfl, hx⟩
  | y :: l, l', x, x', v, h, hx, hl => by
    obtain ⟨y', r', rfl, hy, hr⟩ := hl.inv_cons
    simp only [foldV] at h
    split at h
    · cases h
    · rename_i z hz
      unfold max2V at hz
      split at hz
      · rename_i k a k' b
        cases hz
        simp only [cond_true] at h
        rw [int_inv hx, int_inv hy]
        obtain ⟨v', q1, q2⟩ := foldMax (x' := .int k (if b > a then b else a)) h (.int _ _) hr
        refine ⟨v', fun w => ?_, q2⟩
        rw [List.foldlM_cons]
        simp only [Sem.run_bind, Builtin.max2, Sem.run_pure, Result.andThen_ok]
        exact q1 w
      · cases hz

theorem foldMin : ∀ {l l' : List Value} {x x' v : Value}, foldV false x l = some v → VRel ρ x x' → LRel ρ l l' → ∃ v', (∀ w, (l'.foldlM (m := Sem) Builtin.min2 x').run P w = .ok v' w) ∧ VRel ρ v v'
  | [], l', x, x', v, h, hx, hl => by simp [foldV] at h; subst h; rw [hl.inv_nil]; exact ⟨x', fun w => rfl, hx⟩
  | y :: l, l', x, x', v, h, hx, hl => by
    obtain ⟨y', r', rfl, hy, hr⟩ := hl.inv_cons
    simp only [foldV] at h
    split at h
    · cases h
    · rename_i z hz
      unfold max2V at hz
      split at hz
      · rename_i k a k' b
        cases hz
        simp only [cond_false] at h
        rw [int_inv hx, int_inv hy]
        obtain ⟨v', q1, q2⟩ := foldMin (x' := .int k (if b < a then b else a)) h (.int _ _) hr
        refine ⟨v', fun w => ?_, q2⟩
        rw [List.foldlM_cons]
        simp only [Sem.run_bind, Builtin.min2, Sem.run_pure, Result.andThen_ok]
        exact q1 w
      · cases hz

theorem post_max {args : Array Operand} {tys : Array TypeId} (ho : o.op = .call { callee := .builtin .max, args, argTypes := tys }) {x : Value} {r : List Value} (hr : LRel ρ (x :: r) (args.toList.map ev)) {v : Value}
    (h : foldV true x r = some v) : Post P B w0 ρ s w ev o (.val v) := by
  obtain ⟨x', r', hx, hxr, hrr⟩ := hr.inv_cons
  obtain ⟨v', q1, q2⟩ := foldMax (P := P) h hxr hrr
  refine ⟨v', ?_, q2⟩
  rw [run_builtin .max ho w, hx]
  simp only [builtin, Builtin.max_, Sem.run_bind, q1, Result.andThen_ok, Sem.run_pure]

theorem post_min {args : Array Operand} {tys : Array TypeId} (ho : o.op = .call { callee := .builtin .min, args, argTypes := tys }) {x : Value} {r : List Value} (hr : LRel ρ (x :: r) (args.toList.map ev)) {v : Value}
    (h : foldV false x r = some v) : Post P B w0 ρ s w ev o (.val v) := by
  obtain ⟨x', r', hx, hxr, hrr⟩ := hr.inv_cons
  obtain ⟨v', q1, q2⟩ := foldMin (P := P) h hxr hrr
  refine ⟨v', ?_, q2⟩
  rw [run_builtin .min ho w, hx]
  simp only [builtin, Builtin.min_, Sem.run_bind, q1, Result.andThen_ok, Sem.run_pure]

/-- A call of a function. -/
theorem post_call (G : Good P) (hE : ∀ x v, operand T s x = some v → VRel ρ v (ev x)) {f : Operand} {args : Array Operand} {tys : Array TypeId} (ho : o.op = .call { callee := .value f, args, argTypes := tys })
    {fv : Value} {vs : List Value} (hf : operand T s f = some fv) (hr : LRel ρ vs (args.toList.map ev)) {nx : ANext} (h : callV P fv vs = some nx) : Post P B w0 ρ s w ev o nx := by
  unfold callV at h
  split at h
  · rename_i g first captured
    obtain ⟨a', b', he, h1, h2⟩ := func_inv (hE _ _ hf)
    split at h
    · rename_i fn hfn
      cases hb : fn.body with
      | none => simp [hb] at h
      | some c =>
        simp [hb] at h
        subst h
        refine ⟨a'.toList ++ (args.toList.map ev) ++ b'.toList, ?_, ?_⟩
        · have hres : resolve ev { callee := .value f, args, argTypes := tys } o.type = pure { target := .fn (.func g) b', args := a' ++ args.map ev } := by
            unfold resolve
            simp only [he, Deferred.ofValue]
          simp only [execOp, ho, hres, Sem.run_bind, Sem.run_pure, Result.andThen_ok, invoke, callFunc, run_program, hfn, G.num _ _ hfn, Bool.false_eq_true, if_false, hb, Option.isNone_some]
          congr 2
          apply Array.ext'
          simp
        · have := (h1.append hr).append h2
          simpa using this
    · cases h
  · cases h

end
end Go.Vf

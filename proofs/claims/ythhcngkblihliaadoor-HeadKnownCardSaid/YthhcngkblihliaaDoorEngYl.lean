import Derived.Test.YthhcngkblihliaaDoorEngRf
import Derived.Test.YthhcngkblihliaaDoorEngMp
import Derived.RangeFuncIn
/- The machine of plain blocks, by rows: a call of yield; a range over a function, in a plain frame. -/
namespace Go.Vf
open Go.RowKit
set_option linter.unusedVariables false
set_option linter.unusedSimpArgs false

theorem yield_inv {ρ : Ren} {l : Nat} {v' : Value} (h : VRel ρ (.func (.yield l) #[] #[]) v') : ∃ e, ρ l = some e ∧ v' = .func (.yield e.blk) #[] #[] := by
  cases h with
  | func _ hy => cases hy
  | yield h hr => subst hr; exact ⟨_, h, rfl⟩

section
variable {P : Program} {nt k : Nat} {ops : Array Oper} {l : List Oper} {o : Oper} {T T' T2 : TL} {s s' s2 : SS} {R : TL → SS → Prop}

theorem WS.yield (hw : want ops (toTr T) o = some true) (hd : dstOk nt o.dst = true) {y : Operand} {az : Array Operand} {ats : Array TypeId} {lo : Nat} {vs : List Value}
    (hop : o.op = .call { callee := .value y, args := az, argTypes := ats }) (hy : operand (toTr T) s.st y = some (.func (.yield lo) #[] #[])) (hv : operands (toTr T) s.st az.toList = some vs)
    (h : YieldW P lo vs s fun v s' => WS P nt k ops l (putL T o.dst v) s' R) : WS P nt k ops (o :: l) T s R := by
  obtain ⟨v, s', ⟨T1, s1, q, r1, r2, r⟩, m1, m2, hc⟩ := h
  have m1' : s.next ≤ s'.next := m1
  have m2' : s'.gl = s.gl := m2
  refine ⟨T1, s1, q, Nat.le_trans m1' r1, r2.trans m2', fun j hl B w0 ρ w tmps ds Q' rr H F hf hQ => ?_⟩
  obtain ⟨hj, hl'⟩ := tail_ops hl
  simp only [List.length_cons, List.range'_succ, wpOpsIn, hj, want_ok F hw, if_true]
  obtain ⟨e, he, hye⟩ := yield_inv (F.ev H ds _ _ hy)
  have ha := operands_rel (fun x v h => F.ev H ds x v h) hv
  obtain ⟨fn, tm, as_, bd, hrun, hround⟩ := hc B w0 ρ _ w e H ha (hf.sub (Nat.le_refl _) r1) he
  have run : (execOp (⟨tmps, ds⟩ : Act).eval o).run P w = .ok (.round e.blk fn tm as_ bd) w := by
    have hres : resolve (⟨tmps, ds⟩ : Act).eval { callee := .value y, args := az, argTypes := ats } o.type = pure { target := .fn (.yield e.blk) #[], args := #[] ++ az.map (⟨tmps, ds⟩ : Act).eval } := by
      unfold resolve
      simp only [hye, Deferred.ofValue]
    simp only [execOp, hop, hres, Sem.run_bind, Sem.run_pure, Result.andThen_ok, invoke]
    have e2 : (#[] ++ az.map (⟨tmps, ds⟩ : Act).eval : Array Value) = ⟨az.toList.map (⟨tmps, ds⟩ : Act).eval⟩ := by
      apply Array.ext'
      simp
    rw [e2]
    exact hrun
  refine ⟨fun _ _ => trivial, ?_⟩
  rw [Oper.semAt_eq _ _ _ (fun c hc => by rw [hop] at hc; cases hc), run, Oper.uponIn_round]
  refine ⟨fun e => by simp [Fr] at e, hround.1, fun c cs hr => ?_⟩
  obtain ⟨en, w', hR, hcm⟩ := hround.2 c cs hr
  obtain ⟨v', ρ', rfl, q1, q2, q3⟩ := hR
  have q3' : Ext ρ ρ' s.next s'.next := q3
  obtain ⟨tmps', e1, e2⟩ := (F.mono q3'.1).put (putT_L hd _) q1 ds
  have hcm' : ComesIn (Machine.fenced P (Fr rr)) P (lone (Frame.round e.blk fn tm as_ bd CallKind.normal) (c :: cs) w) (lone (c.finish v') cs w') (Ending.returned v') := by
    cases rr <;> exact hcm
  refine ⟨Ending.returned v', w', ?_, hcm'⟩
  show wpOpsIn (Fr rr) 0 P ops Q' _ ((⟨tmps, ds⟩ : Act).put o.dst v') w'
  rw [e1]
  exact r (j + 1) hl' B w0 ρ' w' tmps' ds Q' rr q2 e2 (hf.ext q3' m1') fun ρ2 tmps2 w2 H2 F2 x2 => hQ ρ2 tmps2 w2 H2 F2 (q3'.trans' x2 m1' r1)
end

/-! ### In a plain frame -/

section
variable (P : Program) (nt : Nat)

/-- Code's one end, in a plain frame. -/
def WX0 (c : Code) (T : TL) (s : SS) (ex : AExit) (T' : TL) (s' : SS) : Prop :=
  s.next ≤ s'.next ∧ s'.gl = s.gl ∧ ∀ (B : Nat) (w0 : World) (ρ : Ren) (w : World) (tmps : Array Value) (ds : List Deferred) (Q' : Exit → Act → World → Prop), HRel P B w0 ρ s.st w → FRel ρ nt (toTr T) tmps → Free ρ s.next s'.next →
    (∀ ρ' tmps' w' M, HRel P B w0 ρ' s'.st w' → FRel ρ' nt (toTr T') tmps' → Ext ρ ρ' s.next s'.next → Marks w w' M → Q' (exOf ex) ⟨tmps', M.map mkD ++ ds⟩ w') → c.wpIn (Fr none) 0 P Q' ⟨tmps, ds⟩ w

def W0 (c : Code) (T : TL) (s : SS) (Q : AExit → TL → SS → Prop) : Prop :=
  ∃ ex T' s', Q ex T' s' ∧ WX0 P nt c T s ex T' s'
end

section
variable {P : Program} {nt k : Nat} {T T' T2 : TL} {s s' s2 : SS} {Q Q1 : AExit → TL → SS → Prop} {c d : Code} {ex ex2 : AExit}

theorem W0.of (h : W P nt k c T s Q) : W0 P nt c T s Q :=
  let ⟨ex, T', s', q, r1, r2, r⟩ := h
  ⟨ex, T', s', q, r1, r2, fun B w0 ρ w tmps ds Q' H F hf hQ => r B w0 ρ w tmps ds Q' none H F hf hQ⟩

theorem W0.mono (h : W0 P nt c T s Q) (hq : ∀ ex T s, Q ex T s → Q1 ex T s) : W0 P nt c T s Q1 :=
  let ⟨a, b, e, q, r⟩ := h
  ⟨a, b, e, hq _ _ _ q, r⟩

theorem W0.weak (hw : Wk P nt k T s T' s') (h : W0 P nt c T' s' Q) : W0 P nt c T s Q :=
  let ⟨a, b, e, q, r1, r2, r⟩ := h
  ⟨a, b, e, q, Nat.le_trans hw.1 r1, r2.trans hw.2.1, fun B w0 ρ w tmps ds Q' H F hf hQ =>
    let ⟨H1, F1⟩ := hw.2.2 B w0 ρ w tmps H F
    r B w0 ρ w tmps ds Q' H1 F1 (hf.sub hw.1 (Nat.le_refl _)) fun ρ' tmps' w' M H2 F2 x K => hQ ρ' tmps' w' M H2 F2 (x.mono hw.1 (Nat.le_refl _)) K⟩

theorem W0.seq (h : W0 P nt c T s fun ex T' s' => match ex with | .normal => W0 P nt d T' s' Q | e => Q e T' s') : W0 P nt (.seq c d) T s Q := by
  obtain ⟨ex, T1, s1, q, a1, a2, r⟩ := h
  cases ex with
  | normal =>
    obtain ⟨ex2, T2, s2, q2, b1, b2, r2⟩ := q
    exact ⟨ex2, T2, s2, q2, Nat.le_trans a1 b1, b2.trans a2, fun B w0 ρ w tmps ds Q' H F hf hQ =>
      wpIn_seq (r B w ρ w tmps ds _ H.rebase F (hf.sub (Nat.le_refl _) b1) fun ρ1 tmps1 w1 M1 H1 F1 x1 K1 =>
        r2 B w1 ρ1 w1 tmps1 (M1.map mkD ++ ds) Q' H1.rebase F1 (hf.ext x1 a1) fun ρ2 tmps2 w2 M2 H2 F2 x2 K2 =>
          marks_app (hQ ρ2 tmps2 w2 (M2 ++ M1) ((H.join H1).join H2) F2 (x1.trans' x2 a1 b1) (K1.join K2 H1.below.size H2.books)))⟩
  | exit id => exact ⟨_, _, _, q, a1, a2, fun B w0 ρ w tmps ds Q' H F hf hQ => wpIn_seq (r B w0 ρ w tmps ds _ H F hf fun ρ1 tmps1 w1 M1 H1 F1 x1 K1 => hQ ρ1 tmps1 w1 M1 H1 F1 x1 K1)⟩
  | ret => exact ⟨_, _, _, q, a1, a2, fun B w0 ρ w tmps ds Q' H F hf hQ => wpIn_seq (r B w0 ρ w tmps ds _ H F hf fun ρ1 tmps1 w1 M1 H1 F1 x1 K1 => hQ ρ1 tmps1 w1 M1 H1 F1 x1 K1)⟩

theorem W0.condT {x : Operand} (hx : operand (toTr T) s.st x = some (.bool true)) (h : W0 P nt c T s Q) : W0 P nt (.cond x c d) T s Q :=
  let ⟨a, b, e, q, r⟩ := h
  ⟨a, b, e, q, r.1, r.2.1, fun B w0 ρ w tmps ds Q' H F hf hQ => wpIn_cond (t := true) (bool_inv (F.ev H ds _ _ hx)) (r.2.2 B w0 ρ w tmps ds Q' H F hf hQ)⟩
theorem W0.condF {x : Operand} (hx : operand (toTr T) s.st x = some (.bool false)) (h : W0 P nt d T s Q) : W0 P nt (.cond x c d) T s Q :=
  let ⟨a, b, e, q, r⟩ := h
  ⟨a, b, e, q, r.1, r.2.1, fun B w0 ρ w tmps ds Q' H F hf hQ => wpIn_cond (t := false) (bool_inv (F.ev H ds _ _ hx)) (r.2.2 B w0 ρ w tmps ds Q' H F hf hQ)⟩

theorem W0.block {id : Nat} (h : W0 P nt c T s fun ex T' s' => match ex with | .exit i => (bif Nat.beq i id then Q .normal T' s' else Q (.exit i) T' s') | e => Q e T' s') : W0 P nt (.block id c) T s Q := by
  obtain ⟨ex, T1, s1, q, a1, a2, r⟩ := h
  cases ex with
  | normal => exact ⟨_, _, _, q, a1, a2, fun B w0 ρ w tmps ds Q' H F hf hQ => wpIn_block (r B w0 ρ w tmps ds _ H F hf fun ρ1 tmps1 w1 M1 H1 F1 x1 K1 => hQ ρ1 tmps1 w1 M1 H1 F1 x1 K1)⟩
  | ret => exact ⟨_, _, _, q, a1, a2, fun B w0 ρ w tmps ds Q' H F hf hQ => wpIn_block (r B w0 ρ w tmps ds _ H F hf fun ρ1 tmps1 w1 M1 H1 F1 x1 K1 => hQ ρ1 tmps1 w1 M1 H1 F1 x1 K1)⟩
  | exit i =>
    rcases beq_cases i id with ⟨h1, hb⟩ | ⟨h1, hb⟩
    · simp only [hb, cond_true] at q
      refine ⟨_, _, _, q, a1, a2, fun B w0 ρ w tmps ds Q' H F hf hQ => wpIn_block (r B w0 ρ w tmps ds _ H F hf fun ρ1 tmps1 w1 M1 H1 F1 x1 K1 => ?_)⟩
      show (if i = id then Q' .normal ⟨tmps1, M1.map mkD ++ ds⟩ w1 else Q' (.exit i) ⟨tmps1, M1.map mkD ++ ds⟩ w1)
      rw [if_pos h1]; exact hQ ρ1 tmps1 w1 M1 H1 F1 x1 K1
    · simp only [hb, cond_false] at q
      refine ⟨_, _, _, q, a1, a2, fun B w0 ρ w tmps ds Q' H F hf hQ => wpIn_block (r B w0 ρ w tmps ds _ H F hf fun ρ1 tmps1 w1 M1 H1 F1 x1 K1 => ?_)⟩
      show (if i = id then Q' .normal ⟨tmps1, M1.map mkD ++ ds⟩ w1 else Q' (.exit i) ⟨tmps1, M1.map mkD ++ ds⟩ w1)
      rw [if_neg h1]; exact hQ ρ1 tmps1 w1 M1 H1 F1 x1 K1

/-- How a pending jump leaves the statement. -/
def leave : Option Code → Option AExit
  | none => some .normal
  | some (.exit id) => some (.exit id)
  | some .ret => some .ret
  | _ => none

def loop0 (nt : Nat) (T : TL) (ps : Array Tmp) (assign body : Code) : ALoop := { state := .ready, pending := none, nt := nt, tmps := toTr T, params := ps, assign := assign, body := body }

/-- A range over a function: the iterator is called with a yield of the record; behind it the pending jump. -/
theorem W0.range (G : Good P) {g : Operand} {ps : Array Tmp} {assign body : Code} {f : Nat} {first captured : Array Value} (hg : operand (toTr T) s.st g = some (.func (.func f) first captured)) (hf : (match P.funcs[f]? with | some fn => fn.body.isSome | none => false) = true)
    (h : CallW P f (first.toList ++ [.func (.yield s.next) #[] #[]] ++ captured.toList) { s with heap := (s.next, some (.loop (loop0 nt T ps assign body))) :: s.heap, next := s.next + 1 } fun v s2 =>
      ∃ r ex, lookH s2.heap s.next = some (.loop r) ∧ r.state ≠ .busy ∧ leave r.pending = some ex ∧ Q ex T (s2.loop s.next { r with state := .exhausted })) : W0 P nt (.rangeFunc g ps assign body) T s Q := by
  obtain ⟨v, s2, ⟨r, ex, hl, hb, hlv, hq⟩, m1, m2, hc⟩ := h
  have m1' : s.next + 1 ≤ s2.next := m1
  have m2' : s2.gl = s.gl := m2
  refine ⟨ex, T, _, hq, Nat.le_trans (Nat.le_succ _) m1', m2', fun B w0 ρ w tmps ds Q' H F hfr hQ => ?_⟩
  have hfr' : Free ρ s.next s2.next := hfr
  refine wpIn_rangeFunc fun fn _ => ?_
  obtain ⟨first', captured', hev, hr1, hr2⟩ := func_inv (F.ev H ds _ _ hg)
  have hnone := hfr' s.next (Nat.le_refl _) m1'
  have hA := H.alloc (.deferred (some []))
  have F1 := F.mono (Ren.le_ext (e := ⟨w.heap.size + 1, 0, 0, 0, false⟩) hnone)
  have hH : HRel P B w0 (ρ.ext s.next ⟨w.heap.size + 1, 0, 0, 0, false⟩) (SS.st { s with heap := (s.next, some (.loop (loop0 nt T ps assign body))) :: s.heap, next := s.next + 1 }) ((w.alloc (.deferred (some []))).alloc (.loop { state := .ready, pending := none, fn, tmps, params := ps, assign, body, defers := w.heap.size })) := by
    have H' : HRel P B w0 ρ (SS.st { s with heap := (s.next, some (.loop (loop0 nt T ps assign body))) :: s.heap, next := s.next + 1 }) (w.alloc (.deferred (some []))) := by
      refine hA.same rfl fun i a b hi hb2 => ?_
      simp only [SS.st, toH, Tr.get_put] at hb2 ⊢
      by_cases q : i = s.next
      · subst q; rw [hnone] at hi; cases hi
      · rwa [if_neg q] at hb2
    refine H'.new (b := .loop (loop0 nt T ps assign body)) hnone (by simp [SS.st, toH]) rfl (by simp) rfl rfl rfl rfl ⟨rfl, tmps, fn, w.heap.size, ?_, F1.1, F1.2⟩
    have := World.alloc_heap_new (w.alloc (.deferred (some []))) (.loop { state := .ready, pending := none, fn, tmps, params := ps, assign, body, defers := w.heap.size })
    rw [World.size_alloc] at this
    exact this
  refine ⟨w.heap.size + 1, [mkD w.heap.size], ((w.alloc (.deferred (some []))).alloc (.loop { state := .ready, pending := none, fn, tmps, params := ps, assign, body, defers := w.heap.size })), { target := .fn (.func f) captured', args := first' ++ #[.func (.yield (w.heap.size + 1)) #[] #[]] }, ((w.alloc (.deferred (some []))).alloc (.loop { state := .ready, pending := none, fn, tmps, params := ps, assign, body, defers := w.heap.size })), f, (first' ++ #[.func (.yield (w.heap.size + 1)) #[] #[]]) ++ captured', ((w.alloc (.deferred (some []))).alloc (.loop { state := .ready, pending := none, fn, tmps, params := ps, assign, body, defers := w.heap.size })), run_enterLoop_outer fn tmps ps assign body, ?_, fun _ _ => trivial, ?_, fun e => by simp [Fr] at e, ?_⟩
  · have hy : (⟨tmps, ds⟩ : Act).eval (.const (.func (.yield (w.heap.size + 1)) #[] #[])) = .func (.yield (w.heap.size + 1)) #[] #[] := rfl
    simp only [resolve, rangeCall, hev, Deferred.ofValue, List.map_toArray, List.map_cons, List.map_nil, hy, Sem.run_pure]
  · cases hx : P.funcs[f]? with
    | none => rw [hx] at hf; cases hf
    | some fn2 =>
      rw [hx] at hf
      simp only at hf
      cases hbd : fn2.body with
      | none => rw [hbd] at hf; cases hf
      | some c2 => simp only [invoke, callFunc, Sem.run_bind, run_program, Result.andThen_ok, hx, G.num _ _ hx, Bool.false_eq_true, if_false, hbd, Option.isNone_some, Sem.run_pure]
  · refine (callsIn_wide (n := 0)).2 ?_
    have hargs : LRel (ρ.ext s.next ⟨w.heap.size + 1, 0, 0, 0, false⟩) (first.toList ++ [Value.func (.yield s.next) #[] #[]] ++ captured.toList) (((first' ++ #[Value.func (.yield (w.heap.size + 1)) #[] #[]]) ++ captured').toList) := by
      have := ((hr1.mono (Ren.le_ext (e := ⟨w.heap.size + 1, 0, 0, 0, false⟩) hnone)).append (LRel.cons (.yield (l' := w.heap.size + 1) Ren.ext_self rfl) (.nil _))).append (hr2.mono (Ren.le_ext (e := ⟨w.heap.size + 1, 0, 0, 0, false⟩) hnone))
      simpa using this
    have xe : Ext ρ (ρ.ext s.next ⟨w.heap.size + 1, 0, 0, 0, false⟩) s.next (s.next + 1) := Ext.one hnone (Nat.lt_succ_self _)
    refine (hc B _ _ _ _ hH.rebase hargs (hfr'.ext xe (Nat.le_succ _))).mono fun e w3 he => ?_
    obtain ⟨v', ρ3, rfl, q1, q2, q3⟩ := he
    have q3' : Ext (ρ.ext s.next ⟨w.heap.size + 1, 0, 0, 0, false⟩) ρ3 (s.next + 1) s2.next := q3
    have hl3 : ρ3 s.next = some ⟨w.heap.size + 1, 0, 0, 0, false⟩ := q3'.1 _ _ Ren.ext_self
    obtain ⟨rec, p1, p2, p3, -, -, -, -, pH⟩ := q2.loop hl hl3
    refine ⟨rec.pending, _, run_endLoop p1 (by rw [p2]; exact hb), ?_⟩
    have hH3 := pH .exhausted rec.pending
    have hr3 : ({ r with state := .exhausted, pending := rec.pending } : ALoop) = { r with state := .exhausted } := by rw [p3]
    rw [hr3] at hH3
    have hD1 : ((w.alloc (.deferred (some []))).alloc (.loop { state := .ready, pending := none, fn, tmps, params := ps, assign, body, defers := w.heap.size })).heap[w.heap.size]? = some (.deferred (some [])) := by
      rw [Below.heap_alloc _ _ _ (by simp)]
      exact World.alloc_heap_new w _
    have hfin := hQ ρ3 tmps _ [w.heap.size] (hH.join hH3) (F1.mono q3'.1) (xe.trans' q3' (Nat.le_succ _) m1') ⟨by simp, fun D hD => by
      obtain rfl : D = w.heap.size := by simpa using hD
      exact ⟨Nat.le_refl _, hH3.books _ hD1⟩⟩
    rw [p3]
    cases hp : r.pending with
    | none =>
      rw [hp] at hlv
      cases hlv
      rw [p3, hp] at hfin
      exact hfin
    | some c =>
      rw [hp] at hlv
      rw [p3, hp] at hfin
      cases c <;> first
        | (cases hlv; done)
        | skip
      case exit id => cases hlv; exact wpIn_exit hfin
      case ret => cases hlv; exact wpIn_ret hfin

theorem CallW.of0 {f : FuncId} {fn : Func} {c : Code} {args : List Value} {K : Value → SS → Prop} (hf : P.funcs[f]? = some fn) (hb : fn.body = some c) (hn : args.length ≤ fn.ntmps)
    (h : W0 P fn.ntmps c (argsL args 0) s fun ex T' s' => (match ex with | .exit _ => False | _ => True) ∧ ∃ l, resultL P (toTr T') s'.st fn.results.toList = some l ∧ K (one l) s') : CallW P f args s K := by
  obtain ⟨ex, T1, s1, ⟨q1, l, q2, q3⟩, r1, r2, r⟩ := h
  refine ⟨one l, s1, q3, r1, r2, fun B w0 ρ args' w H ha hfr => ?_⟩
  have hfr' : Free ρ s.next s1.next := hfr
  refine (callsIn_wide (n := 0)).1 (callsIn_of_wp_marks hf hb trivial (r B w ρ w _ [] _ H.rebase (args_relL ha hn) hfr' fun ρ' tmps' w' M H' F' x' K => ?_) rfl)
  have hl := leaves_marks (P := P) (n := 0) (fn := fn) (tmps := tmps') (R := fun e w' => ∃ v' ρ', e = .returned v' ∧ VRel ρ' (one l) v' ∧ HRel P B w0 ρ' s1.st w' ∧ Ext ρ ρ' s.st.next s1.st.next) M K.1 (H.join H') (fun D hD => ⟨Nat.le_trans H.below.size (K.2 D hD).1, (K.2 D hD).2⟩) fun w'' H'' => by
    obtain ⟨v', p1, p2⟩ := results_ok H'' F' q2
    exact ⟨v', p1, v', ρ', rfl, p2, H'', x'⟩
  rw [← List.append_nil (M.map mkD)] at hl
  cases ex with
  | exit id => exact q1.elim
  | normal => exact hl
  | ret => exact hl

theorem CallW.pieces0 {f : FuncId} {args : List Value} {K : Value → SS → Prop} {res : List ResultVar} {c : Code} (hb : hasAt P f = true) (hc : bodyAt P f = c) (hnt : ntAt P f = nt) (hres : resAt P f = res) (hn : args.length ≤ nt)
    (h : W0 P nt c (argsL args 0) s (runQ P res K)) : CallW P f args s K := by
  unfold hasAt at hb
  unfold bodyAt at hc
  unfold ntAt at hnt
  unfold resAt at hres
  split at hb
  · rename_i fn hfn
    rw [hfn] at hc hnt hres
    simp only at hc hnt hres
    cases hbd : fn.body with
    | none => rw [hbd] at hb; cases hb
    | some c' =>
      rw [hbd] at hc
      simp only at hc
      subst hc; subst hnt; subst hres
      refine CallW.of0 hfn hbd hn (h.mono fun ex T s hh => ?_)
      cases ex with
      | exit id => exact hh.elim
      | normal =>
        simp only [runQ] at hh
        split at hh
        · rename_i l hl
          exact ⟨trivial, l, resS_ok hl, hh⟩
        · exact hh.elim
      | ret =>
        simp only [runQ] at hh
        split at hh
        · rename_i l hl
          exact ⟨trivial, l, resS_ok hl, hh⟩
        · exact hh.elim
  · cases hb
end

/-! ### A region in the text's order that calls yield -/

section
variable {P : Program} {nt k : Nat} {ops : Array Oper}

/-- What stands ahead, by rows; then what is left. -/
theorem wSeq_ahead (G : Good P) {l2 : List Oper} {R R1 : TL → SS → Prop} (hR : ∀ T s, R1 T s → WS P nt k ops l2 T s R) : ∀ {l : List Oper} {ms : List MOper} {T : TL} {s : SS}, cSeq P nt ops l = some ms → wSeq P ms T s R1 → WS P nt k ops (l ++ l2) T s R
  | [], ms, T, s, hm, h => by
    simp only [cSeq] at hm; cases hm
    exact hR _ _ h
  | o :: l, ms, T, s, hm, h => by
    simp only [cSeq] at hm
    split at hm
    · rename_i mo ml h1 h2
      cases hm
      obtain ⟨e1, e2, e3, q | q⟩ := wG_ok h1 h
      · obtain ⟨qw, qr⟩ := q
        replace qr : stepP P mo.op mo.dst ml T s R1 := qr
        rcases cOp_cases e3 with e4 | ⟨e4, e5⟩
        · rw [e4, e1] at qr
          exact WS.raw qw e2 (OpW.mono qr fun v s1 hh => wSeq_ahead G hR h2 hh.out)
        rw [stepP_not e5] at qr
        obtain ⟨r, hr, hk⟩ := wN_ok e4 qr
        rw [e1] at hk
        cases r with
        | val v => exact WS.op G qw e2 (v := v) (s' := s) ⟨_, none_ok P, by rw [hr]; rfl⟩ (wSeq_ahead G hR h2 hk.out)
        | new b v => exact WS.op G qw e2 (v := v s.next) (s' := { s with heap := (s.next, some b) :: s.heap, next := s.next + 1 }) ⟨_, none_ok P, by rw [hr]; rfl⟩ (wSeq_ahead G hR h2 hk.out)
        | eff v s1 => exact WS.op G qw e2 (v := v) (s' := s1) ⟨_, none_ok P, by rw [hr]; rfl⟩ (wSeq_ahead G hR h2 hk.out)
        | call f args => exact WS.call G qw e2 hr (hk.mono fun v s1 hh => wSeq_ahead G hR h2 hh.out)
      · obtain ⟨qw, qr⟩ := q
        rw [e1] at qr
        exact WS.off qw e2 (wSeq_ahead G hR h2 qr.out)
    · cases hm

/-- A region with one call of yield in it (which may be guarded). -/
theorem W.regY (G : Good P) {id : Nat} {T : TL} {s : SS} {Q : AExit → TL → SS → Prop} {l1 l2 : List Oper} {o : Oper} {m1 m2 : List MOper} {y : Operand} {az : Array Operand} {ats : Array TypeId} (hl : ops.toList = l1 ++ o :: l2) (h1 : cSeq P nt ops l1 = some m1) (h2 : cSeq P nt ops l2 = some m2)
    (hd : dstOk nt o.dst = true) (hop : o.op = .call { callee := .value y, args := az, argTypes := ats })
    (h : wSeq P m1 T s fun T1 s1 => (want ops (toTr T1) o = some false ∧ Box (wSeq P m2 (putL T1 o.dst (.tuple #[])) s1 fun T2 s2 => Q .normal T2 s2)) ∨
      (want ops (toTr T1) o = some true ∧ ∃ lo vs, operand (toTr T1) s1.st y = some (.func (.yield lo) #[] #[]) ∧ operands (toTr T1) s1.st az.toList = some vs ∧ YieldW P lo vs s1 fun v s2 => Box (wSeq P m2 (putL T1 o.dst v) s2 fun T2 s2 => Q .normal T2 s2))) : W P nt k (.region id ops false) T s Q := by
  refine W.region ?_
  rw [hl]
  refine wSeq_ahead G (fun T1 s1 hh => ?_) h1 h
  rcases hh with ⟨hw, hb⟩ | ⟨hw, lo, vs, hy, hv, hk⟩
  · exact WS.off hw hd (wSeq_ok G h2 hb.out)
  · exact WS.yield hw hd hop hy hv (hk.mono fun v s2 hb => wSeq_ok G h2 hb.out)
end

/-! ### Pieces -/

def inB : Code → Code
  | .block _ c => c
  | .loop c => c
  | .rangeFunc _ _ _ c => c
  | c => c
def asB : Code → Code
  | .rangeFunc _ _ c _ => c
  | c => c

/-- What an operation waits on, by its slot. -/
def gOf (ops : Array Oper) (o : Oper) : Option (Option (Tmp × Bool)) :=
  match o.guard with
  | none => some none
  | some (j, b) => match ops[j]? with
    | some g => match g.dst with
      | some d => some (some (d, b))
      | none => none
    | none => none

section
variable {P : Program} {nt k : Nat} {ops : Array Oper}

theorem gOf_ok {o : Oper} {g : Option (Tmp × Bool)} {T : TL} {run skip : Prop} (hm : gOf ops o = some g) (h : wG T g run skip) : (want ops (toTr T) o = some true ∧ run) ∨ (want ops (toTr T) o = some false ∧ skip) := by
  unfold gOf at hm
  split at hm
  · rename_i hg
    cases hm
    exact .inl ⟨by simp only [want, hg], h⟩
  · rename_i j b hg
    split at hm
    · rename_i g hj
      split at hm
      · rename_i d hgd
        cases hm
        simp only [wG] at h
        simp only [want, hg, hj, hgd, toTr_get]
        split at h
        · rename_i c hc
          rw [hc]
          cases c <;> cases b <;> first
            | exact .inl ⟨rfl, h⟩
            | exact .inr ⟨rfl, h⟩
        · rename_i hc
          rw [hc]
          exact .inr ⟨rfl, h⟩
        · exact h.elim
      · cases hm
    · cases hm

/-- What is said of the operation that calls yield: its place in the region, what it waits on, where its answer goes, whom it calls, with what. -/
structure YOp where
  i : Nat
  g : Option (Tmp × Bool)
  d : Option Tmp
  y : Tmp
  az : List Tmp

def isTmp (t : Tmp) : Operand → Bool
  | .tmp u => Nat.beq u t
  | _ => false
def areTmps : List Tmp → List Operand → Bool
  | [], [] => true
  | t :: r, x :: l => isTmp t x && areTmps r l
  | _, _ => false
theorem isTmp_eq {t : Tmp} {x : Operand} (h : isTmp t x = true) : x = .tmp t := by
  cases x <;> simp [isTmp] at h
  rw [h]
theorem areTmps_eq : ∀ {l : List Tmp} {xs : List Operand}, areTmps l xs = true → xs = l.map .tmp
  | [], [], _ => rfl
  | [], _ :: _, h => by simp [areTmps] at h
  | _ :: _, [], h => by simp [areTmps] at h
  | t :: r, x :: l, h => by
    simp only [areTmps, Bool.and_eq_true] at h
    rw [isTmp_eq h.1, areTmps_eq h.2]; rfl

def isYOp (nt : Nat) (ops : Array Oper) (z : YOp) : Bool :=
  match ops.toList[z.i]? with
  | none => false
  | some o => (match o.op with
    | .call { callee := .value y, args := az, argTypes := _ } => isTmp z.y y && (areTmps z.az az.toList && (decide (gOf ops o = some z.g) && (decide (o.dst = z.d) && dstOk nt o.dst)))
    | _ => false)

/-- A region with one call of yield in it. -/
theorem W.regY2 (G : Good P) {id : Nat} {T : TL} {s : SS} {Q : AExit → TL → SS → Prop} {z : YOp} {m1 m2 : List MOper} (hz : isYOp nt ops z = true) (h1 : cSeq P nt ops (ops.toList.take z.i) = some m1) (h2 : cSeq P nt ops (ops.toList.drop (z.i + 1)) = some m2)
    (h : Box (wSeq P m1 T s fun T1 s1 => wG T1 z.g (∃ lo vs, look T1 z.y = some (.func (.yield lo) #[] #[]) ∧ opds T1 s1.gl (z.az.map .tmp) = some vs ∧ YieldW P lo vs s1 fun v s2 => Box (wSeq P m2 (putL T1 z.d v) s2 fun T2 s2 => Q .normal T2 s2)) (Box (wSeq P m2 (putL T1 z.d (.tuple #[])) s1 fun T2 s2 => Q .normal T2 s2)))) : W P nt k (.region id ops false) T s Q := by
  unfold isYOp at hz
  split at hz
  · cases hz
  · rename_i o ho
    split at hz
    · rename_i y az ats hop
      simp only [Bool.and_eq_true, decide_eq_true_eq] at hz
      obtain ⟨e1, e2, e3, e4, e5⟩ := hz
      have e1 := isTmp_eq e1
      have e2 := areTmps_eq e2
      refine W.region ?_
      obtain ⟨hlt, hget⟩ := List.getElem?_eq_some_iff.1 ho
      have hsplit : ops.toList = ops.toList.take z.i ++ o :: ops.toList.drop (z.i + 1) := by
        rw [← hget, ← List.drop_eq_getElem_cons hlt, List.take_append_drop]
      rw [hsplit]
      have hcs : ∀ l : List Tmp, okCs (l.map Operand.tmp) = true := fun l => by
        induction l with
        | nil => rfl
        | cons t l ih => simp only [List.map_cons, okCs, okC, ih, Bool.and_self]
      refine wSeq_ahead G (fun T1 s1 hh => ?_) h1 h.out
      rcases gOf_ok e3 hh with ⟨hw, lo, vs, hy, hv, hk⟩ | ⟨hw, hb⟩
      · refine WS.yield hw e5 hop (opd_ok (by rw [e1]; rfl) (by rw [e1]; exact hy)) (opds_ok (by rw [e2]; exact hcs _) (by rw [e2]; exact hv)) (hk.mono fun v s2 hb => ?_)
        rw [e4]
        exact wSeq_ok G h2 hb.out
      · refine WS.off hw e5 ?_
        rw [e4]
        exact wSeq_ok G h2 hb.out
    · cases hz
end
end Go.Vf

import Derived.Test.YtneanogeebbjiaaDoorEngM
import Derived.LoopN
/- The machine of plain blocks: code, calls, and what a run that answers says. -/
namespace Go.Vf
open Go.RowKit

def exOf : AExit → Exit
  | .normal => .normal
  | .exit id => .exit id
  | .ret => .ret

def ResOk (P : Program) (nt : Nat) (c : Code) (T : ATmp) (s : ASt) (r : ARes) : Prop :=
  (s.next ≤ r.s.next ∧ r.s.gl = s.gl) ∧ ∀ (B : Nat) (w0 : World) (ρ : Ren) (w : World) (tmps : Array Value) (ds : List Deferred) (Q : Exit → Act → World → Prop), HRel P B w0 ρ s w → FRel ρ nt T tmps → Free ρ s.next r.s.next →
    (∀ ρ' tmps' w', HRel P B w0 ρ' r.s w' → FRel ρ' nt r.T tmps' → Ext ρ ρ' s.next r.s.next → Q (exOf r.ex) ⟨tmps', ds⟩ w') → c.wp P Q ⟨tmps, ds⟩ w

theorem Free.left {ρ : Ren} {a b c : Nat} (h : Free ρ a c) (hb : b ≤ c) : Free ρ a b := fun id h1 h2 => h id h1 (by omega)
theorem Free.right {ρ ρ' : Ren} {a b c : Nat} (h : Free ρ a c) (hab : a ≤ b) (hx : Ext ρ ρ' a b) : Free ρ' b c := by
  intro id h1 h2
  cases hi : ρ' id with
  | none => rfl
  | some e =>
    rcases hx.2 id (by rw [hi]; simp) with q | q
    · exact absurd (h id (by omega) h2) q
    · omega
theorem Ext.trans {ρ ρ' ρ'' : Ren} {a b c : Nat} (h : Ext ρ ρ' a b) (k : Ext ρ' ρ'' b c) (hab : a ≤ b) (hbc : b ≤ c) : Ext ρ ρ'' a c := by
  refine ⟨h.1.trans k.1, fun id hid => ?_⟩
  rcases k.2 id hid with q | q
  · rcases h.2 id q with q | q
    · exact .inl q
    · right; omega
  · right; omega

section
variable {P : Program} {call : Caller} {nt lf : Nat}

theorem toRes_some {x : Option (ATmp × ASt)} {r : ARes} (h : toRes x = some r) : ∃ T s, x = some (T, s) ∧ r = ⟨.normal, T, s⟩ := by
  unfold toRes at h
  split at h
  · cases h
  · cases h; exact ⟨_, _, rfl, rfl⟩

theorem aLoop_ok {c : Code} {body : ATmp → ASt → Option ARes} (hb : ∀ T s r, body T s = some r → ResOk P nt c T s r) : ∀ (n : Nat) (T : ATmp) (s : ASt) (r : ARes), aLoop body n T s = some r →
    (s.next ≤ r.s.next ∧ r.s.gl = s.gl) ∧ ∀ (B : Nat) (w0 : World) (ρ : Ren) (w : World) (tmps : Array Value) (ds : List Deferred) (Q : Exit → Act → World → Prop), HRel P B w0 ρ s w → FRel ρ nt T tmps → Free ρ s.next r.s.next →
    (∀ ρ' tmps' w', HRel P B w0 ρ' r.s w' → FRel ρ' nt r.T tmps' → Ext ρ ρ' s.next r.s.next → Q (exOf r.ex) ⟨tmps', ds⟩ w') → Code.rounds P c Q n ⟨tmps, ds⟩ w
  | 0, T, s, r, h => by simp [aLoop] at h
  | n + 1, T, s, r, h => by
    simp only [aLoop] at h
    split at h
    · cases h
    · rename_i T1 s1 hb1
      obtain ⟨m1, k1⟩ := hb _ _ _ hb1
      obtain ⟨m2, k2⟩ := aLoop_ok hb n T1 s1 r h
      simp only at m1
      refine ⟨⟨by omega, by rw [m2.2, m1.2]⟩, fun B w0 ρ w tmps ds Q H F hf hQ => ?_⟩
      rw [rounds_succ]
      refine k1 B w0 ρ w tmps ds _ H F (hf.left m2.1) fun ρ' tmps' w' H' F' X' => ?_
      exact k2 B w0 ρ' w' tmps' ds Q H' F' (hf.right m1.1 X') fun ρ'' tmps'' w'' H'' F'' X'' => hQ _ _ _ H'' F'' (X'.trans X'' m1.1 m2.1)
    · rename_i r1 hne hb1
      cases h
      obtain ⟨m1, k1⟩ := hb _ _ _ hb1
      refine ⟨m1, fun B w0 ρ w tmps ds Q H F hf hQ => ?_⟩
      rw [rounds_succ]
      refine k1 B w0 ρ w tmps ds _ H F hf fun ρ' tmps' w' H' F' X' => ?_
      have := hQ ρ' tmps' w' H' F' X'
      obtain ⟨ex, T1, s1⟩ := r
      cases ex with
      | normal => exact absurd rfl (hne _ _)
      | exit id => exact this
      | ret => exact this

theorem aCode_ok (G : Good P) (hc : CallerOk P call) : ∀ (c : Code) (T : ATmp) (s : ASt) (r : ARes), aCode P call nt lf c T s = some r → ResOk P nt c T s r := by
  intro c
  induction c with
  | skip =>
    intro T s r h
    simp only [aCode] at h
    cases h
    exact ⟨⟨Nat.le_refl _, rfl⟩, fun B w0 ρ w tmps ds Q H F hf hQ => wp_skip (hQ _ _ _ H F (.refl _ _ _))⟩
  | region id ops draw =>
    intro T s r h
    simp only [aCode] at h
    cases draw with
    | true =>
      obtain ⟨T', s', h1, rfl⟩ := toRes_some h
      obtain ⟨m, k⟩ := aDraw_ok G hc h1
      exact ⟨m, fun B w0 ρ w tmps ds Q H F hf hQ => wp_region_any G.mixed (k H.drew F hf hQ)⟩
    | false =>
      obtain ⟨T', s', h1, rfl⟩ := toRes_some h
      refine ⟨(aSeq_ok (B := 0) (w0 := default) G hc ops.toList 0 (fun j => by simp) h1).1, fun B w0 ρ w tmps ds Q H F hf hQ => wp_region ?_⟩
      have := (aSeq_ok (B := B) (w0 := w0) G hc ops.toList 0 (fun j => by simp) h1).2 H F hf hQ
      rw [List.range_eq_range']
      simpa using this
  | seq a b iha ihb =>
    intro T s r h
    simp only [aCode] at h
    split at h
    · cases h
    · rename_i T1 s1 h1
      obtain ⟨m1, k1⟩ := iha _ _ _ h1
      obtain ⟨m2, k2⟩ := ihb _ _ _ h
      simp only at m1
      refine ⟨⟨by omega, by rw [m2.2, m1.2]⟩, fun B w0 ρ w tmps ds Q H F hf hQ => wp_seq ?_⟩
      refine k1 B w0 ρ w tmps ds _ H F (hf.left m2.1) fun ρ' tmps' w' H' F' X' => ?_
      exact k2 B w0 ρ' w' tmps' ds Q H' F' (hf.right m1.1 X') fun ρ'' tmps'' w'' H'' F'' X'' => hQ _ _ _ H'' F'' (X'.trans X'' m1.1 m2.1)
    · rename_i r1 hne h1
      cases h
      obtain ⟨m1, k1⟩ := iha _ _ _ h1
      refine ⟨m1, fun B w0 ρ w tmps ds Q H F hf hQ => wp_seq ?_⟩
      refine k1 B w0 ρ w tmps ds _ H F hf fun ρ' tmps' w' H' F' X' => ?_
      have := hQ ρ' tmps' w' H' F' X'
      obtain ⟨ex, T1, s1⟩ := r
      cases ex with
      | normal => exact absurd rfl (hne _ _)
      | exit id => exact this
      | ret => exact this
  | cond x a b iha ihb =>
    intro T s r h
    simp only [aCode] at h
    split at h
    · rename_i hx
      obtain ⟨m1, k1⟩ := iha _ _ _ h
      exact ⟨m1, fun B w0 ρ w tmps ds Q H F hf hQ => wp_cond (t := true) (bool_inv (F.ev H ds _ _ hx)) (k1 B w0 ρ w tmps ds Q H F hf hQ)⟩
    · rename_i hx
      obtain ⟨m1, k1⟩ := ihb _ _ _ h
      exact ⟨m1, fun B w0 ρ w tmps ds Q H F hf hQ => wp_cond (t := false) (bool_inv (F.ev H ds _ _ hx)) (k1 B w0 ρ w tmps ds Q H F hf hQ)⟩
    · cases h
  | block id c ih =>
    intro T s r h
    simp only [aCode] at h
    split at h
    · cases h
    · rename_i i T1 s1 h1
      obtain ⟨m1, k1⟩ := ih _ _ _ h1
      simp only at m1
      cases hi : Nat.beq i id with
      | true =>
        simp only [hi, cond_true] at h
        rw [Nat.beq_eq] at hi
        subst hi
        cases h
        refine ⟨m1, fun B w0 ρ w tmps ds Q H F hf hQ => wp_block (k1 B w0 ρ w tmps ds _ H F hf fun ρ' tmps' w' H' F' X' => ?_)⟩
        show (if i = i then Q .normal ⟨tmps', ds⟩ w' else _)
        rw [if_pos rfl]
        exact hQ _ _ _ H' F' X'
      | false =>
        simp only [hi, cond_false] at h
        have hne : i ≠ id := fun e => by rw [e, Nat.beq_refl] at hi; cases hi
        cases h
        refine ⟨m1, fun B w0 ρ w tmps ds Q H F hf hQ => wp_block (k1 B w0 ρ w tmps ds _ H F hf fun ρ' tmps' w' H' F' X' => ?_)⟩
        show (if i = id then _ else Q (.exit i) ⟨tmps', ds⟩ w')
        rw [if_neg hne]
        exact hQ _ _ _ H' F' X'
    · rename_i r1 hne h1
      cases h
      obtain ⟨m1, k1⟩ := ih _ _ _ h1
      refine ⟨m1, fun B w0 ρ w tmps ds Q H F hf hQ => wp_block (k1 B w0 ρ w tmps ds _ H F hf fun ρ' tmps' w' H' F' X' => ?_)⟩
      have := hQ ρ' tmps' w' H' F' X'
      obtain ⟨ex, T1, s1⟩ := r
      cases ex with
      | normal => exact this
      | exit i => exact absurd rfl (hne _ _ _)
      | ret => exact this
  | loop c ih =>
    intro T s r h
    simp only [aCode] at h
    obtain ⟨m1, k1⟩ := aLoop_ok (P := P) (nt := nt) (c := c) ih lf T s r h
    exact ⟨m1, fun B w0 ρ w tmps ds Q H F hf hQ => wp_loop_rounds lf (k1 B w0 ρ w tmps ds Q H F hf hQ)⟩
  | exit id =>
    intro T s r h
    simp only [aCode] at h
    cases h
    exact ⟨⟨Nat.le_refl _, rfl⟩, fun B w0 ρ w tmps ds Q H F hf hQ => wp_exit (hQ _ _ _ H F (.refl _ _ _))⟩
  | ret =>
    intro T s r h
    simp only [aCode] at h
    cases h
    exact ⟨⟨Nat.le_refl _, rfl⟩, fun B w0 ρ w tmps ds Q H F hf hQ => wp_ret (hQ _ _ _ H F (.refl _ _ _))⟩
  | _ =>
    intro T s r h
    simp only [aCode] at h
    cases h

theorem ofArgs_get : ∀ (l : List Value) (i : Nat) (T : ATmp) (t : Nat), (ofArgs l i T).get t = if i ≤ t ∧ t < i + l.length then l[t - i]? else T.get t
  | [], i, T, t => by simp [ofArgs]; omega
  | v :: r, i, T, t => by
    simp only [ofArgs]
    rw [ofArgs_get r (i + 1) _ t, Tr.get_put]
    simp only [List.length_cons]
    by_cases e : t = i
    · subst e
      rw [if_neg (by omega), if_pos rfl, if_pos (by omega)]
      simp
    · by_cases e2 : i + 1 ≤ t ∧ t < i + 1 + r.length
      · rw [if_pos e2, if_pos (by omega), show t - i = (t - (i + 1)) + 1 from by omega, List.getElem?_cons_succ]
      · rw [if_neg e2, if_neg e, if_neg (by omega)]

theorem args_rel {ρ : Ren} {args args' : List Value} {nt : Nat} (h : LRel ρ args args') (hl : args.length ≤ nt) :
    FRel ρ nt (ofArgs args 0 .nil) ((⟨args'⟩ : Array Value) ++ Array.replicate (nt - (⟨args'⟩ : Array Value).size) undef) := by
  have hsz : (⟨args'⟩ : Array Value).size = args.length := h.1.symm
  refine ⟨by rw [Array.size_append, Array.size_replicate, hsz]; omega, fun t v ht => ?_⟩
  rw [ofArgs_get] at ht
  by_cases hh : 0 ≤ t ∧ t < 0 + args.length
  · rw [if_pos hh] at ht
    obtain ⟨v', h1, h2⟩ := h.get ht
    refine ⟨v', ?_, h2⟩
    rw [Array.getElem?_append_left (by rw [hsz]; omega)]
    simpa using h1
  · rw [if_neg hh, Tr.get_nil] at ht; cases ht

theorem loadVar_ok {B : Nat} {w0 : World} {ρ : Ren} {s : ASt} {w : World} {T : ATmp} {tmps : Array Value} (H : HRel P B w0 ρ s w) (F : FRel ρ nt T tmps) {a ty : Nat} {v : Value}
    (h : aOp P T s (.load ty (.tmp a)) = some (.val v)) : ∃ v' a', tmps.getD a undef = .pointer (some a') ∧ (loadVar ty a').run P w = .ok v' w ∧ VRel ρ v v' := by
  have hE := fun x v => F.ev H ([] : List Deferred) x v
  have hp := post_load (o := { (default : Oper) with op := .load ty (.tmp a) }) H hE rfl h
  obtain ⟨v', h1, h2⟩ := hp
  simp only [aOp] at h
  split at h
  · rename_i ad had
    obtain ⟨a', ha', -⟩ := ptr_inv (hE _ _ had)
    refine ⟨v', a', ha', ?_, h2⟩
    simp only [execOp, Instr.loadAt, ha', Instr.sureAddr, Sem.run_bind, Sem.run_pure, Result.andThen_ok] at h1
    cases hr : (loadVar ty a').run P w with
    | ok u w' => rw [hr] at h1; simp only [Result.andThen_ok, Result.ok.injEq, Next.value.injEq] at h1; rw [h1.1, h1.2]
    | halt x w' => rw [hr] at h1; simp at h1
  · cases h

/-- A result's run. -/
def rvRun (tmps : Array Value) : ResultVar → Sem Value
  | .tmp t => pure (tmps.getD t undef)
  | .cell a t => do loadVar t (← asAddr (tmps.getD a undef))

theorem results_eq (fn : Func) (tmps : Array Value) : results fn tmps = (do let vs ← fn.results.mapM (rvRun tmps); pure (if h : vs.size = 1 then vs[0] else .tuple vs)) := by
  unfold results
  congr 1

theorem asAddr_some (a : Addr) : asAddr (.pointer (some a)) = pure a := rfl

theorem resultL_ok {B : Nat} {w0 : World} {ρ : Ren} {s : ASt} {w : World} {T : ATmp} {tmps : Array Value} (H : HRel P B w0 ρ s w) (F : FRel ρ nt T tmps) : ∀ (l : List ResultVar) (vs : List Value), resultL P T s l = some vs →
    ∃ vs', (l.mapM (rvRun tmps)).run P w = .ok vs' w ∧ LRel ρ vs vs'
  | [], vs, h => by simp [resultL] at h; subst h; exact ⟨[], rfl, .nil _⟩
  | .tmp t :: r, vs, h => by
    simp only [resultL] at h
    split at h
    · rename_i v l hv hl
      cases h
      obtain ⟨vs', h1, h2⟩ := resultL_ok H F r l hl
      obtain ⟨v', h3, h4⟩ := F.2 t v hv
      refine ⟨v' :: vs', ?_, .cons h4 h2⟩
      have hg : tmps.getD t undef = v' := by simp [Array.getD_eq_getD_getElem?, h3]
      rw [List.mapM_cons]
      simp only [rvRun, Sem.run_bind, Sem.run_pure, Result.andThen_ok, h1, hg]
    · cases h
  | .cell a ty :: r, vs, h => by
    simp only [resultL] at h
    split at h
    · rename_i v l hv hl
      cases h
      obtain ⟨vs', h1, h2⟩ := resultL_ok H F r l hl
      obtain ⟨v', a', h3, h4, h5⟩ := loadVar_ok H F hv
      refine ⟨v' :: vs', ?_, .cons h5 h2⟩
      rw [List.mapM_cons]
      simp only [rvRun, Sem.run_bind, Sem.run_pure, Result.andThen_ok, h1, h3, asAddr_some, h4]
    · cases h

theorem one_rel {ρ : Ren} {l l' : List Value} (h : LRel ρ l l') : VRel ρ (one l) (if h : (⟨l'⟩ : Array Value).size = 1 then (⟨l'⟩ : Array Value)[0] else .tuple ⟨l'⟩) := by
  match l, l', h with
  | [], l', h => rw [h.inv_nil]; exact .tuple rfl (fun i v v' hv => by simp at hv)
  | [v], l', h =>
    obtain ⟨v', y, rfl, h1, h2⟩ := h.inv_cons
    rw [h2.inv_nil]
    simpa [one] using h1
  | v :: u :: r, l', h =>
    have hl : (⟨l'⟩ : Array Value).size ≠ 1 := by
      have := h.1
      show l'.length ≠ 1
      simp at this
      omega
    rw [dif_neg hl]
    exact .tuple' h

theorem results_ok {B : Nat} {w0 : World} {ρ : Ren} {s : ASt} {w : World} {T : ATmp} {tmps : Array Value} (H : HRel P B w0 ρ s w) (F : FRel ρ nt T tmps) {fn : Func} {vs : List Value} (h : resultL P T s fn.results.toList = some vs) :
    ∃ v', (results fn tmps).run P w = .ok v' w ∧ VRel ρ (one vs) v' := by
  obtain ⟨vs', h1, h2⟩ := resultL_ok H F _ _ h
  refine ⟨_, ?_, one_rel h2⟩
  rw [results_eq]
  simp only [Sem.run_bind]
  rw [Array.mapM_eq_mapM_toList, Sem.run_map, h1]
  rfl

theorem aCall_ok (G : Good P) : ∀ (d : Nat), CallerOk P (aCall P lf d)
  | 0 => fun f args s v s' h => by simp [aCall] at h
  | d + 1 => fun f args s v s' h => by
    simp only [aCall] at h
    split at h
    · cases h
    · rename_i fn hfn
      split at h
      · cases h
      · rename_i c hbody
        cases hle : Nat.ble args.length fn.ntmps with
        | false => simp [hle] at h
        | true =>
          simp only [hle, cond_true] at h
          rw [Nat.ble_eq] at hle
          split at h
          · cases h
          · rename_i r hne hr
            split at h
            · cases h
            · rename_i l hl
              cases h
              obtain ⟨m1, k1⟩ := aCode_ok G (aCall_ok G d) c _ _ r hr
              refine ⟨m1.1, m1.2, fun B w0 ρ args' w H ha hf => ?_⟩
              refine calls_of_wp hfn hbody (k1 B w0 ρ w _ [] _ H (args_rel ha hle) hf fun ρ' tmps' w' H' F' X' => ?_)
              obtain ⟨v', h1, h2⟩ := results_ok H' F' hl
              obtain ⟨ex, T1, s1⟩ := r
              cases ex with
              | exit id => exact absurd rfl (hne _ _ _)
              | normal => exact ⟨rfl, v', h1, v', ρ', rfl, h2, H', X'⟩
              | ret => exact ⟨rfl, v', h1, v', ρ', rfl, h2, H', X'⟩
          · cases h

theorem start_rel (P : Program) (w : World) : HRel P w.heap.size w (fun _ => none) start w where
  below := .refl _ _
  base := Nat.le_refl _
  books := .refl _
  blk := fun id b e _ he => by cases he
  own := fun id b e _ he => by cases he
  low := fun id b e _ he => by cases he
  inj := fun i j b b' e e' _ _ he => by cases he
  lt := fun id e he => by cases he
  glob := fun g hg => by simp [start] at hg

def goodB (P : Program) : Bool := (P.funcs.toList.all fun fn => !(fn.name == "runtime.NumGoroutine")) && P.follows .mixedOrders

theorem good_of {P : Program} (h : goodB P = true) : Good P := by
  unfold goodB at h
  rw [Bool.and_eq_true] at h
  refine ⟨fun f fn hf => ?_, h.2⟩
  have := List.all_eq_true.1 h.1 fn (List.mem_of_getElem? (by simpa using hf))
  simpa using this

/-- A closed call that the machine has answered with true answers true in the world, whatever is left open. -/
theorem run_yes (G : Good P) {d : Nat} {f : FuncId} (h : yes (aCall P lf d f [] start) = true) (w : World) :
    Calls P f #[] w fun e w' => e = .returned (.bool true) ∧ Below w.heap.size w w' := by
  unfold yes at h
  split at h
  · rename_i s' hs
    obtain ⟨-, -, k⟩ := aCall_ok G d _ _ _ _ _ hs
    refine (k w.heap.size w (fun _ => none) [] w (start_rel P w) (.nil _) (fun id _ _ => rfl)).mono fun e w' he => ?_
    obtain ⟨v', ρ', rfl, h1, h2, -⟩ := he
    exact ⟨by rw [bool_inv h1], h2.below⟩
  · cases h

end
end Go.Vf

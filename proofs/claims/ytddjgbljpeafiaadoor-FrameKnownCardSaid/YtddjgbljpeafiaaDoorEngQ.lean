import Derived.Test.YtddjgbljpeafiaaDoorEngN
/- The machine of plain blocks, by rows: slots and heap are lists of pairs; what holds of code that starts at such a state. -/
namespace Go.Vf
open Go.RowKit
set_option linter.unusedVariables false
set_option linter.unusedSimpArgs false

abbrev TL := List (Nat × Value)

def look {α : Type} : List (Nat × α) → Nat → Option α
  | [], _ => none
  | (k, v) :: r, j => bif Nat.beq k j then some v else look r j

def lookH : List (Nat × Option ABlk) → Nat → Option ABlk
  | [], _ => none
  | (k, v) :: r, j => bif Nat.beq k j then v else lookH r j

def toTr : TL → ATmp
  | [] => .nil
  | (k, v) :: r => (toTr r).put k v

def toH : List (Nat × Option ABlk) → Tr ABlk
  | [] => .nil
  | (k, some b) :: r => (toH r).put k b
  | (k, none) :: r => (toH r).del k

structure SS where
  heap : List (Nat × Option ABlk)
  next : Nat
  gl : Nat

def SS.st (s : SS) : ASt := ⟨toH s.heap, s.next, s.gl⟩

theorem beq_cases (a b : Nat) : (a = b ∧ Nat.beq a b = true) ∨ (a ≠ b ∧ Nat.beq a b = false) := by
  by_cases h : a = b
  · left; subst h; exact ⟨rfl, Nat.beq_refl a⟩
  · right; exact ⟨h, beqF h⟩

theorem toTr_get : ∀ (T : TL) (t : Nat), (toTr T).get t = look T t
  | [], t => rfl
  | (k, v) :: r, t => by
    simp only [toTr, Tr.get_put, look]
    rcases beq_cases k t with ⟨h, hb⟩ | ⟨h, hb⟩
    · rw [hb, if_pos h.symm]; rfl
    · rw [hb, if_neg (fun e => h e.symm)]; exact toTr_get r t

theorem toH_get : ∀ (H : List (Nat × Option ABlk)) (t : Nat), (toH H).get t = lookH H t
  | [], t => rfl
  | (k, some v) :: r, t => by
    simp only [toH, Tr.get_put, lookH]
    rcases beq_cases k t with ⟨h, hb⟩ | ⟨h, hb⟩
    · rw [hb, if_pos h.symm]; rfl
    · rw [hb, if_neg (fun e => h e.symm)]; exact toH_get r t
  | (k, none) :: r, t => by
    simp only [toH, Tr.get_del, lookH]
    rcases beq_cases k t with ⟨h, hb⟩ | ⟨h, hb⟩
    · rw [hb, if_pos h.symm]; rfl
    · rw [hb, if_neg (fun e => h e.symm)]; exact toH_get r t

theorem SS.get (s : SS) (id : Nat) : s.st.heap.get id = lookH s.heap id := toH_get _ _

def FreeFrom (ρ : Ren) (n : Nat) : Prop := ∀ id, n ≤ id → ρ id = none
def Agree (k : Nat) (ρ ρ' : Ren) : Prop := ∀ id, id < k → ρ' id = ρ id

theorem Agree.refl (k : Nat) (ρ : Ren) : Agree k ρ ρ := fun _ _ => rfl
theorem Agree.trans {k : Nat} {a b c : Ren} (h : Agree k a b) (h' : Agree k b c) : Agree k a c := fun id hid => (h' id hid).trans (h id hid)
theorem Agree.mono {k j : Nat} {a b : Ren} (h : Agree k a b) (hj : j ≤ k) : Agree j a b := fun id hid => h id (by omega)
theorem FreeFrom.free {ρ : Ren} {n : Nat} (h : FreeFrom ρ n) (m : Nat) : Free ρ n m := fun id a _ => h id a
theorem FreeFrom.ext {ρ ρ' : Ren} {n m : Nat} (h : FreeFrom ρ n) (hnm : n ≤ m) (x : Ext ρ ρ' n m) : FreeFrom ρ' m := by
  intro id hid
  cases hi : ρ' id with
  | none => rfl
  | some e =>
    rcases x.2 id (by rw [hi]; simp) with q | q
    · exact absurd (h id (by omega)) q
    · omega
theorem Ext.agree {ρ ρ' : Ren} {n m k : Nat} (x : Ext ρ ρ' n m) (hk : k ≤ n) : Agree k ρ ρ' := by
  intro id hid
  cases hr : ρ id with
  | some e => exact x.1 _ _ hr
  | none =>
    cases hi : ρ' id with
    | none => rfl
    | some e =>
      rcases x.2 id (by rw [hi]; simp) with q | q
      · exact absurd hr q
      · omega
theorem Agree.le {ρ ρ' : Ren} {n : Nat} (h : Agree n ρ ρ') (hf : FreeFrom ρ n) : ρ.Le ρ' := by
  intro id e he
  rcases Nat.lt_or_ge id n with q | q
  · rw [h id q]; exact he
  · rw [hf id q] at he; cases he

section
variable (P : Program) (nt k : Nat)

/-- What holds of code from a state on. -/
def W (c : Code) (T : TL) (s : SS) (Q : AExit → TL → SS → Prop) : Prop :=
  ∀ (B : Nat) (w0 : World) (ρ : Ren) (w : World) (tmps : Array Value) (ds : List Deferred) (Q' : Exit → Act → World → Prop), HRel P B w0 ρ s.st w → FRel ρ nt (toTr T) tmps → FreeFrom ρ s.next → k ≤ s.next →
    (∀ ex T' s' ρ' tmps' w', Q ex T' s' → HRel P B w0 ρ' (SS.st s') w' → FRel ρ' nt (toTr T') tmps' → FreeFrom ρ' s'.next → k ≤ s'.next → Agree k ρ ρ' → Q' (exOf ex) ⟨tmps', ds⟩ w') → c.wp P Q' ⟨tmps, ds⟩ w

/-- What holds of a call. -/
def CallW (f : FuncId) (args : List Value) (s : SS) (K : Value → SS → Prop) : Prop :=
  ∀ (B : Nat) (w0 : World) (ρ : Ren) (args' : List Value) (w : World), HRel P B w0 ρ s.st w → LRel ρ args args' → FreeFrom ρ s.next →
    Calls P f ⟨args'⟩ w fun e w' => ∃ v' v s' ρ', e = .returned v' ∧ K v s' ∧ VRel ρ' v v' ∧ HRel P B w0 ρ' (SS.st s') w' ∧ FreeFrom ρ' s'.next ∧ s.next ≤ s'.next ∧ Agree s.next ρ ρ'

/-- A state may be taken for another. -/
def Wk (T : TL) (s : SS) (T' : TL) (s' : SS) : Prop :=
  ∀ (B : Nat) (w0 : World) (ρ : Ren) (w : World) (tmps : Array Value), HRel P B w0 ρ s.st w → FRel ρ nt (toTr T) tmps → FreeFrom ρ s.next → k ≤ s.next →
    ∃ ρ', HRel P B w0 ρ' s'.st w ∧ FRel ρ' nt (toTr T') tmps ∧ FreeFrom ρ' s'.next ∧ k ≤ s'.next ∧ Agree k ρ ρ'

variable {P nt k}
variable {T T' : TL} {s s' : SS} {Q Q1 : AExit → TL → SS → Prop} {c d : Code}

theorem Wk.refl : Wk P nt k T s T s := fun _ _ ρ _ _ H F hf hk => ⟨ρ, H, F, hf, hk, .refl _ _⟩

theorem W.mono (h : W P nt k c T s Q) (hq : ∀ ex T s, Q ex T s → Q1 ex T s) : W P nt k c T s Q1 :=
  fun B w0 ρ w tmps ds Q' H F hf hk hQ => h B w0 ρ w tmps ds Q' H F hf hk fun ex T' s' ρ' tmps' w' q => hQ ex T' s' ρ' tmps' w' (hq _ _ _ q)

theorem CallW.mono {f : FuncId} {args : List Value} {K K1 : Value → SS → Prop} (h : CallW P f args s K) (hq : ∀ v s, K v s → K1 v s) : CallW P f args s K1 :=
  fun B w0 ρ args' w H ha hf => (h B w0 ρ args' w H ha hf).mono fun e w' ⟨v', v, s', ρ', a, b, r⟩ => ⟨v', v, s', ρ', a, hq _ _ b, r⟩

theorem W.weak (hw : Wk P nt k T s T' s') (h : W P nt k c T' s' Q) : W P nt k c T s Q := by
  intro B w0 ρ w tmps ds Q' H F hf hk hQ
  obtain ⟨ρ1, H1, F1, f1, k1, a1⟩ := hw B w0 ρ w tmps H F hf hk
  exact h B w0 ρ1 w tmps ds Q' H1 F1 f1 k1 fun ex T2 s2 ρ2 tmps2 w2 q H2 F2 f2 k2 a2 => hQ ex T2 s2 ρ2 tmps2 w2 q H2 F2 f2 k2 (a1.trans a2)

theorem W.skip (h : Q .normal T s) : W P nt k .skip T s Q :=
  fun _ _ _ _ _ _ _ H F hf hk hQ => wp_skip (hQ _ _ _ _ _ _ h H F hf hk (.refl _ _))
theorem W.exit {id : Nat} (h : Q (.exit id) T s) : W P nt k (.exit id) T s Q :=
  fun _ _ _ _ _ _ _ H F hf hk hQ => wp_exit (hQ _ _ _ _ _ _ h H F hf hk (.refl _ _))
theorem W.ret (h : Q .ret T s) : W P nt k .ret T s Q :=
  fun _ _ _ _ _ _ _ H F hf hk hQ => wp_ret (hQ _ _ _ _ _ _ h H F hf hk (.refl _ _))

theorem W.seq (h : W P nt k c T s fun ex T' s' => match ex with | .normal => W P nt k d T' s' Q | e => Q e T' s') : W P nt k (.seq c d) T s Q := by
  intro B w0 ρ w tmps ds Q' H F hf hk hQ
  refine wp_seq (h B w0 ρ w tmps ds _ H F hf hk fun ex T1 s1 ρ1 tmps1 w1 q H1 F1 f1 k1 a1 => ?_)
  cases ex with
  | normal => exact q B w0 ρ1 w1 tmps1 ds Q' H1 F1 f1 k1 fun ex T2 s2 ρ2 tmps2 w2 q2 H2 F2 f2 k2 a2 => hQ ex T2 s2 ρ2 tmps2 w2 q2 H2 F2 f2 k2 (a1.trans a2)
  | exit id => exact hQ (.exit id) T1 s1 ρ1 tmps1 w1 q H1 F1 f1 k1 a1
  | ret => exact hQ .ret T1 s1 ρ1 tmps1 w1 q H1 F1 f1 k1 a1

theorem W.condT {x : Operand} (hx : operand (toTr T) s.st x = some (.bool true)) (h : W P nt k c T s Q) : W P nt k (.cond x c d) T s Q :=
  fun B w0 ρ w tmps ds Q' H F hf hk hQ => wp_cond (t := true) (bool_inv (F.ev H ds _ _ hx)) (h B w0 ρ w tmps ds Q' H F hf hk hQ)
theorem W.condF {x : Operand} (hx : operand (toTr T) s.st x = some (.bool false)) (h : W P nt k d T s Q) : W P nt k (.cond x c d) T s Q :=
  fun B w0 ρ w tmps ds Q' H F hf hk hQ => wp_cond (t := false) (bool_inv (F.ev H ds _ _ hx)) (h B w0 ρ w tmps ds Q' H F hf hk hQ)

theorem W.block {id : Nat} (h : W P nt k c T s fun ex T' s' => match ex with | .exit i => (bif Nat.beq i id then Q .normal T' s' else Q (.exit i) T' s') | e => Q e T' s') : W P nt k (.block id c) T s Q := by
  intro B w0 ρ w tmps ds Q' H F hf hk hQ
  refine wp_block (h B w0 ρ w tmps ds _ H F hf hk fun ex T1 s1 ρ1 tmps1 w1 q H1 F1 f1 k1 a1 => ?_)
  cases ex with
  | normal => exact hQ .normal T1 s1 ρ1 tmps1 w1 q H1 F1 f1 k1 a1
  | ret => exact hQ .ret T1 s1 ρ1 tmps1 w1 q H1 F1 f1 k1 a1
  | exit i =>
    show (if i = id then Q' .normal ⟨tmps1, ds⟩ w1 else Q' (.exit i) ⟨tmps1, ds⟩ w1)
    rcases beq_cases i id with ⟨h1, hb⟩ | ⟨h1, hb⟩
    · rw [if_pos h1]; simp only [hb, cond_true] at q; exact hQ .normal T1 s1 ρ1 tmps1 w1 q H1 F1 f1 k1 a1
    · rw [if_neg h1]; simp only [hb, cond_false] at q; exact hQ (.exit i) T1 s1 ρ1 tmps1 w1 q H1 F1 f1 k1 a1

/-- A loop, by what holds at its head. -/
theorem W.loop {ι : Type} (μ : ι → Nat) (I : ι → Prop) (TV : ι → TL) (SV : ι → SS) (i0 : ι) (h0 : I i0) (hw : Wk P nt k T s (TV i0) (SV i0))
    (body : ∀ i, I i → W P nt k c (TV i) (SV i) fun ex T' s' => match ex with | .normal => ∃ j, I j ∧ μ j < μ i ∧ Wk P nt k T' s' (TV j) (SV j) | e => Q e T' s') : W P nt k (.loop c) T s Q := by
  refine W.weak hw ?_
  intro B w0 ρ w tmps ds Q' H F hf hk hQ
  refine wp_loop_rounds (μ i0 + 1) ?_
  have key : ∀ (n : Nat) (i : ι), μ i < n → I i → ∀ (ρ : Ren) (w : World) (tmps : Array Value), HRel P B w0 ρ (SV i).st w → FRel ρ nt (toTr (TV i)) tmps → FreeFrom ρ (SV i).next → k ≤ (SV i).next →
      (∀ ex T' s' ρ' tmps' w', Q ex T' s' → HRel P B w0 ρ' (SS.st s') w' → FRel ρ' nt (toTr T') tmps' → FreeFrom ρ' s'.next → k ≤ s'.next → Agree k ρ ρ' → Q' (exOf ex) ⟨tmps', ds⟩ w') → Code.rounds P c Q' n ⟨tmps, ds⟩ w := by
    intro n
    induction n with
    | zero => intro i hi; omega
    | succ n ih =>
      intro i hi hI ρ w tmps H F hf hk hQ
      rw [rounds_succ]
      refine body i hI B w0 ρ w tmps ds _ H F hf hk fun ex T1 s1 ρ1 tmps1 w1 q H1 F1 f1 k1 a1 => ?_
      cases ex with
      | normal =>
        obtain ⟨j, hj, hlt, hwk⟩ := q
        obtain ⟨ρ2, H2, F2, f2, k2, a2⟩ := hwk B w0 ρ1 w1 tmps1 H1 F1 f1 k1
        exact ih j (by omega) hj ρ2 w1 tmps1 H2 F2 f2 k2 fun ex T3 s3 ρ3 tmps3 w3 q3 H3 F3 f3 k3 a3 => hQ ex T3 s3 ρ3 tmps3 w3 q3 H3 F3 f3 k3 ((a1.trans a2).trans a3)
      | exit id => exact hQ (.exit id) T1 s1 ρ1 tmps1 w1 q H1 F1 f1 k1 a1
      | ret => exact hQ .ret T1 s1 ρ1 tmps1 w1 q H1 F1 f1 k1 a1
  exact key (μ i0 + 1) i0 (Nat.lt_succ_self _) h0 ρ w tmps H F hf hk hQ

/-! ### Regions -/

def putL (T : TL) (dst : Option Tmp) (v : Value) : TL :=
  match dst with
  | none => T
  | some d => (d, v) :: T

def dstOk (nt : Nat) : Option Tmp → Bool
  | none => true
  | some d => Nat.blt d nt

theorem putT_L {dst : Option Tmp} (h : dstOk nt dst = true) (v : Value) : putT nt (toTr T) dst v = some (toTr (putL T dst v)) := by
  cases dst with
  | none => rfl
  | some d =>
    simp only [dstOk] at h
    simp only [putT, h, cond_true, putL, toTr]

variable (P nt k) in
/-- What holds of operations in the text's order. -/
def WS (ops : Array Oper) (l : List Oper) (T : TL) (s : SS) (Q : TL → SS → Prop) : Prop :=
  ∀ (j : Nat), (∀ i, l[i]? = ops[j + i]?) → ∀ (B : Nat) (w0 : World) (ρ : Ren) (w : World) (tmps : Array Value) (ds : List Deferred) (Q' : Exit → Act → World → Prop), HRel P B w0 ρ s.st w → FRel ρ nt (toTr T) tmps → FreeFrom ρ s.next → k ≤ s.next →
    (∀ T' s' ρ' tmps' w', Q T' s' → HRel P B w0 ρ' (SS.st s') w' → FRel ρ' nt (toTr T') tmps' → FreeFrom ρ' s'.next → k ≤ s'.next → Agree k ρ ρ' → Q' .normal ⟨tmps', ds⟩ w') → wpOps P ops Q' (List.range' j l.length) ⟨tmps, ds⟩ w

variable {ops : Array Oper} {l : List Oper} {o : Oper} {R : TL → SS → Prop}

theorem WS.nil (h : R T s) : WS P nt k ops [] T s R :=
  fun j _ B w0 ρ w tmps ds Q' H F hf hk hQ => by simp only [List.length_nil, List.range'_zero, wpOps]; exact hQ _ _ _ _ _ h H F hf hk (.refl _ _)

theorem WS.off (hw : want ops (toTr T) o = some false) (hd : dstOk nt o.dst = true) (h : WS P nt k ops l (putL T o.dst (.tuple #[])) s R) : WS P nt k ops (o :: l) T s R := by
  intro j hl B w0 ρ w tmps ds Q' H F hf hk hQ
  have hj : ops[j]? = some o := by have := hl 0; simp at this; exact this.symm
  have hl' : ∀ i, l[i]? = ops[j + 1 + i]? := fun i => by
    have := hl (i + 1)
    simp only [List.getElem?_cons_succ] at this
    rw [this, show j + (i + 1) = j + 1 + i from by omega]
  obtain ⟨tmps', e1, e2⟩ := F.put (putT_L hd _) (undef_rel (ρ := ρ)) ds
  simp only [List.length_cons, List.range'_succ, wpOps, hj, want_ok F hw, Bool.false_eq_true, if_false]
  rw [e1]
  exact h (j + 1) hl' B w0 ρ w tmps' ds Q' H e2 hf hk hQ

theorem WS.op (G : Good P) (hw : want ops (toTr T) o = some true) (hd : dstOk nt o.dst = true) {v : Value} (hv : FinOk P s.st (aOp P (toTr T) s.st o.op) v s'.st)
    (h : WS P nt k ops l (putL T o.dst v) s' R) : WS P nt k ops (o :: l) T s R := by
  intro j hl B w0 ρ w tmps ds Q' H F hf hk hQ
  have hj : ops[j]? = some o := by have := hl 0; simp at this; exact this.symm
  have hl' : ∀ i, l[i]? = ops[j + 1 + i]? := fun i => by
    have := hl (i + 1)
    simp only [List.getElem?_cons_succ] at this
    rw [this, show j + (i + 1) = j + 1 + i from by omega]
  obtain ⟨m1, m2⟩ := finOk_mono hv
  obtain ⟨call, hc, hv⟩ := hv
  simp only [List.length_cons, List.range'_succ, wpOps, hj, want_ok F hw, if_true]
  have m1' : s.next ≤ s'.next := m1
  refine .inl (op_wp G hc H F ds hv (hf.free _) fun v' ρ' w' q1 q2 q3 => ?_)
  obtain ⟨tmps', e1, e2⟩ := (F.mono q3.1).put (putT_L hd _) q1 ds
  rw [e1]
  have q3' : Ext ρ ρ' s.next s'.next := q3
  refine h (j + 1) hl' B w0 ρ' w' tmps' ds Q' q2 e2 (hf.ext m1' q3') (by omega) fun T' s2 ρ2 tmps2 w2 q H2 F2 f2 k2 a2 => hQ T' s2 ρ2 tmps2 w2 q H2 F2 f2 k2 ((q3'.agree hk).trans a2)

theorem WS.call (G : Good P) (hw : want ops (toTr T) o = some true) (hd : dstOk nt o.dst = true) {f : FuncId} {args : List Value} (hv : aOp P (toTr T) s.st o.op = some (.enter f args))
    (h : CallW P f args s fun v s' => WS P nt k ops l (putL T o.dst v) s' R) : WS P nt k ops (o :: l) T s R := by
  intro j hl B w0 ρ w tmps ds Q' H F hf hk hQ
  have hj : ops[j]? = some o := by have := hl 0; simp at this; exact this.symm
  have hl' : ∀ i, l[i]? = ops[j + 1 + i]? := fun i => by
    have := hl (i + 1)
    simp only [List.getElem?_cons_succ] at this
    rw [this, show j + (i + 1) = j + 1 + i from by omega]
  simp only [List.length_cons, List.range'_succ, wpOps, hj, want_ok F hw, if_true]
  refine .inl ?_
  obtain ⟨args', h1, h2⟩ := aOp_post G H F ds hv
  unfold Oper.wp
  rw [h1]
  refine (h B w0 ρ args' w H h2 hf).mono fun e w' he => ?_
  obtain ⟨v', v, s1, ρ', rfl, q, q1, q2, q3, q4, q5⟩ := he
  have hle := q5.le hf
  obtain ⟨tmps', e1, e2⟩ := (F.mono hle).put (putT_L hd _) q1 ds
  show wpOps P ops Q' _ ((⟨tmps, ds⟩ : Act).put o.dst v') w'
  rw [e1]
  exact q (j + 1) hl' B w0 ρ' w' tmps' ds Q' q2 e2 q3 (by omega) fun T' s2 ρ2 tmps2 w2 q H2 F2 f2 k2 a2 => hQ T' s2 ρ2 tmps2 w2 q H2 F2 f2 k2 ((q5.mono hk).trans a2)

/-- An operation by what it does to every state of the world that is so. -/
def OpW (P : Program) (op : Op) (T : TL) (s : SS) (K : Value → SS → Prop) : Prop :=
  ∀ (o : Oper), o.op = op → ∀ (nt B : Nat) (w0 : World) (ρ : Ren) (w : World) (tmps : Array Value) (ds : List Deferred), HRel P B w0 ρ s.st w → FRel ρ nt (toTr T) tmps → FreeFrom ρ s.next →
    ∃ n v' w' v s' ρ', (execOp (⟨tmps, ds⟩ : Act).eval o).run P w = .ok n w' ∧ (n = .value v' ∨ (n = .skip ∧ v' = undef)) ∧ K v s' ∧ VRel ρ' v v' ∧ HRel P B w0 ρ' (SS.st s') w' ∧ FreeFrom ρ' s'.next ∧ s.next ≤ s'.next ∧ Agree s.next ρ ρ'

theorem WS.raw (hw : want ops (toTr T) o = some true) (hd : dstOk nt o.dst = true) (h : OpW P o.op T s fun v s' => WS P nt k ops l (putL T o.dst v) s' R) : WS P nt k ops (o :: l) T s R := by
  intro j hl B w0 ρ w tmps ds Q' H F hf hk hQ
  have hj : ops[j]? = some o := by have := hl 0; simp at this; exact this.symm
  have hl' : ∀ i, l[i]? = ops[j + 1 + i]? := fun i => by
    have := hl (i + 1)
    simp only [List.getElem?_cons_succ] at this
    rw [this, show j + (i + 1) = j + 1 + i from by omega]
  simp only [List.length_cons, List.range'_succ, wpOps, hj, want_ok F hw, if_true]
  refine .inl ?_
  obtain ⟨n, v', w', v, s1, ρ', h1, h2, q, q1, q2, q3, q4, q5⟩ := h o rfl nt B w0 ρ w tmps ds H F hf
  unfold Oper.wp
  rw [h1]
  have hle := q5.le hf
  obtain ⟨tmps', e1, e2⟩ := (F.mono hle).put (putT_L hd _) q1 ds
  have fin : wpOps P ops Q' (List.range' (j + 1) l.length) ((⟨tmps, ds⟩ : Act).put o.dst v') w' := by
    rw [e1]
    exact q (j + 1) hl' B w0 ρ' w' tmps' ds Q' q2 e2 q3 (by omega) fun T' s2 ρ2 tmps2 w2 q H2 F2 f2 k2 a2 => hQ T' s2 ρ2 tmps2 w2 q H2 F2 f2 k2 ((q5.mono hk).trans a2)
  rcases h2 with rfl | ⟨rfl, rfl⟩
  · exact fin
  · exact fin

theorem W.region {id : Nat} (h : WS P nt k ops ops.toList T s fun T' s' => Q .normal T' s') : W P nt k (.region id ops false) T s Q := by
  intro B w0 ρ w tmps ds Q' H F hf hk hQ
  refine wp_region ?_
  have := h 0 (fun i => by simp) B w0 ρ w tmps ds Q' H F hf hk fun T' s' ρ' tmps' w' q => hQ .normal T' s' ρ' tmps' w' q
  rw [List.range_eq_range']
  simpa using this

theorem W.draw (G : Good P) {id : Nat} {pl : Plan} (hpl : plan ops = some pl) (h : rRow P nt ops pl pl.row 0 [] (toTr T) s.st fun T' s' => ∃ T1 s1, T' = toTr T1 ∧ s' = SS.st s1 ∧ Q .normal T1 s1) : W P nt k (.region id ops true) T s Q := by
  intro B w0 ρ w tmps ds Q' H F hf hk hQ
  obtain ⟨T', s', ⟨T1, s1, rfl, rfl, hq⟩, ⟨m1, m2⟩, hr⟩ := rDraw_ok G hpl h
  have m1' : s.next ≤ s1.next := m1
  refine wp_region_any G.mixed (hr H.drew F (hf.free _) fun ρ' tmps' w' H' F' x => ?_)
  have x' : Ext ρ ρ' s.next s1.next := x
  exact hQ .normal T1 s1 ρ' tmps' w' hq H' F' (hf.ext m1' x') (by omega) (x'.agree hk)

/-! ### Calls -/

def argsL : List Value → Nat → TL
  | [], _ => []
  | v :: r, i => (i, v) :: argsL r (i + 1)

theorem argsL_look : ∀ (l : List Value) (i t : Nat), look (argsL l i) t = if i ≤ t then l[t - i]? else none
  | [], i, t => by simp [argsL, look]
  | v :: r, i, t => by
    simp only [argsL, look]
    rcases beq_cases i t with ⟨h, hb⟩ | ⟨h, hb⟩
    · subst h; simp [hb]
    · rw [hb, cond_false, argsL_look r (i + 1) t]
      by_cases h1 : i + 1 ≤ t
      · rw [if_pos h1, if_pos (by omega), show t - i = (t - (i + 1)) + 1 from by omega, List.getElem?_cons_succ]
      · rw [if_neg h1, if_neg (by omega)]

theorem args_relL {ρ : Ren} {args args' : List Value} (h : LRel ρ args args') (hl : args.length ≤ nt) :
    FRel ρ nt (toTr (argsL args 0)) ((⟨args'⟩ : Array Value) ++ Array.replicate (nt - (⟨args'⟩ : Array Value).size) undef) := by
  have := args_rel h hl
  refine ⟨this.1, fun t v ht => this.2 t v ?_⟩
  rw [toTr_get, argsL_look] at ht
  simp only [Nat.zero_le, if_true, Nat.sub_zero] at ht
  have hlt : t < args.length := by
    rcases Nat.lt_or_ge t args.length with q | q
    · exact q
    · rw [List.getElem?_eq_none q] at ht; cases ht
  rw [ofArgs_get, if_pos ⟨Nat.zero_le _, by omega⟩]
  simpa using ht

theorem CallW.of {f : FuncId} {fn : Func} {c : Code} {args : List Value} {K : Value → SS → Prop} (hf : P.funcs[f]? = some fn) (hb : fn.body = some c) (hn : args.length ≤ fn.ntmps)
    (h : W P fn.ntmps s.next c (argsL args 0) s fun ex T' s' => (match ex with | .exit _ => False | _ => True) ∧ ∃ l, resultL P (toTr T') s'.st fn.results.toList = some l ∧ K (one l) s') : CallW P f args s K := by
  intro B w0 ρ args' w H ha hfr
  refine calls_of_wp hf hb (h B w0 ρ w _ [] _ H (args_relL ha hn) hfr (Nat.le_refl _) fun ex T' s' ρ' tmps' w' q H' F' f' k' a' => ?_)
  obtain ⟨q1, l, q2, q3⟩ := q
  obtain ⟨v', r1, r2⟩ := results_ok H' F' q2
  cases ex with
  | exit id => exact q1.elim
  | normal => exact ⟨rfl, v', r1, v', one l, s', ρ', rfl, q3, r2, H', f', k', a'⟩
  | ret => exact ⟨rfl, v', r1, v', one l, s', ρ', rfl, q3, r2, H', f', k', a'⟩

end
end Go.Vf

import Derived.Test.YtfminjggoaegdaaGreatDoorEngBb
import Derived.OrdersIn
import Derived.LoopNIn
import Derived.RangeFuncCalls
section
namespace Go.Vf
open Go.RowKit
set_option linter.unusedVariables false
def Fr (r : Option Nat) : Fence := { fn := fun _ => True, depth := none, alive := false, round := r }
section
variable {P : Program} {r : Option Nat} {n : Nat}
theorem calls_fr {f : FuncId} {args : Array Value} {w : World} {R : Ending → World → Prop} (h : Calls P f args w R) : CallsIn (Fr r) n P f args w R :=
 match r with
 | none => callsIn_wide.2 h
 | some l => CallsIn.inRound l (callsIn_wide.2 h)
theorem steps_fr {m m' : Machine} (h : Steps P m m') : StepsIn (Machine.fenced P (Fr r)) P m m' :=
 match r with
 | none => stepsIn_wide.2 h
 | some l => stepsIn_wide.2 h
def noDefer (o : Oper) : Bool := match o.op with | .defer _ => false | _ => true
theorem noDefer_of {o : Oper} (h : noDefer o = true) : ∀ c, o.op ≠ .defer c := by
 intro c hc
 simp [noDefer, hc] at h
variable {o : Oper} {a : Act} {w : World} {next : Act → World → Prop} {Q : Exit → Act → World → Prop}
theorem op_fr (hd : ∀ c, o.op ≠ .defer c) (h : o.wp P a w next Q) : o.wpIn (Fr r) n P a w next Q := by
 refine ⟨fun _ _ => trivial, ?_⟩
 rw [Oper.semAt_eq _ _ _ hd]
 unfold Oper.wp at h
 generalize (execOp a.eval o).run P w = x at h ⊢
 cases x with
 | ok y w' =>
  cases y with
  | enter f args => exact ⟨fun e => by simp [Fr] at e, (calls_fr h).mono fun e w'' he => by cases e <;> exact he⟩
  | row row args => exact ⟨fun e => by simp [Fr] at e, fun c cs _ => let ⟨v, w'', q, s⟩ := h c cs; ⟨v, w'', q, steps_fr s⟩⟩
  | round => exact h.elim
  | _ => exact h
 | halt y w' => cases y <;> exact h
variable {md : Region.Mode} {ops : Array Oper}
theorem any_fr (hd : ∀ (i : Nat) (o : Oper), ops[i]? = some o → ∀ c, o.op ≠ .defer c) (hq : ¬ LetsOut Q) : ∀ (fuel : Nat) (listed : Array Bool) (a : Act) (w : World), wpAny P md ops Q fuel listed a w → wpAnyIn (Fr r) n P md ops Q fuel listed a w := by
 intro fuel
 induction fuel with
 | zero => intro listed a w h; exact h
 | succ fuel ih =>
  intro listed a w h
  refine ⟨h.1, fun i hi => ?_⟩
  have h2 := h.2 i hi
  unfold wpOp at h2
  unfold wpOpIn
  cases ho : ops[i]? with
  | none => rw [ho] at h2; exact ih _ _ _ h2
  | some o =>
   rw [ho] at h2
   simp only at h2 ⊢
   split at h2
   ·rename_i hw
    rw [if_pos hw]
    rcases h2 with h2 | ⟨_, h2⟩
    ·exact Oper.wpIn_mono (fun a w h => ih _ a w h) (op_fr (hd i o ho) h2)
    ·exact absurd h2 hq
   ·rename_i hw
    rw [if_neg hw]
    exact ⟨fun _ _ => trivial, ih _ _ _ h2⟩
theorem region_fr {id : Nat} (hm : P.follows .mixedOrders = true) (hd : ∀ (i : Nat) (o : Oper), ops[i]? = some o → ∀ c, o.op ≠ .defer c)
  (h : ∀ Q1 : Exit → Act → World → Prop, (∀ a w, Q .normal a w → Q1 .normal a w) → wpAny P .any ops Q1 ops.size (Array.replicate ops.size false) a { w with drawn := w.drawn + 1 }) : (Code.region id ops true).wpIn (Fr r) n P Q a w := by
 have h1 := h (fun e a w => match e with | .normal => Q .normal a w | _ => False) (fun _ _ q => q)
 refine wpIn_mono (wpIn_region_any hm (any_fr hd (fun ⟨_, _, q⟩ => q) _ _ _ _ h1)) fun e a w q => ?_
 cases e <;> first | exact q | exact q.elim
theorem noDefer_run {y : Next} {w' : World} (h : (execOp a.eval o).run P w = .ok y w') (hy : (∃ v, y = .value v) ∨ y = .skip) : ∀ c, o.op ≠ .defer c := by
 intro c hc
 unfold execOp at h
 rw [hc] at h
 simp only [Sem.run_bind] at h
 cases hx : (resolve a.eval c o.type).run P w with
 | ok d w1 =>
  rw [hx] at h
  simp only [Result.andThen, Sem.run_pure] at h
  cases h
  rcases hy with ⟨v, hy⟩ | hy <;> cases hy
 | halt x w1 => rw [hx] at h; simp [Result.andThen] at h
end
end Go.Vf
end
section
namespace Go.Vf
open Go.RowKit
set_option linter.unusedVariables false
set_option linter.unusedSimpArgs false
abbrev TL := List (Nat × Value)
def look {α : Type} : List (Nat × α) → Nat → Option α
 | [], _ => none
 | (k, v) :: r, j => bif Nat.beq k j then some v else look r j
def lookH : List (Nat × Option ABlk) → Nat → Option ABlk
 | [], _ => none
 | (k, v) :: r, j => bif Nat.beq k j then v else lookH r j
def toTr : TL → ATmp
 | [] => .nil
 | (k, v) :: r => (toTr r).put k v
def toH : List (Nat × Option ABlk) → Tr ABlk
 | [] => .nil
 | (k, some b) :: r => (toH r).put k b
 | (k, none) :: r => (toH r).del k
structure SS where
 heap : List (Nat × Option ABlk)
 next : Nat
 gl : Nat
def SS.st (s : SS) : ASt := ⟨toH s.heap, s.next, s.gl⟩
theorem beq_cases (a b : Nat) : (a = b ∧ Nat.beq a b = true) ∨ (a ≠ b ∧ Nat.beq a b = false) := by
 by_cases h : a = b
 ·left; subst h; exact ⟨rfl, Nat.beq_refl a⟩
 ·right; exact ⟨h, beqF h⟩
theorem toTr_get : ∀ (T : TL) (t : Nat), (toTr T).get t = look T t
 | [], t => rfl
 | (k, v) :: r, t => by
  simp only [toTr, Tr.get_put, look]
  rcases beq_cases k t with ⟨h, hb⟩ | ⟨h, hb⟩
  ·rw [hb, if_pos h.symm]; rfl
  ·rw [hb, if_neg (fun e => h e.symm)]; exact toTr_get r t
theorem toH_get : ∀ (H : List (Nat × Option ABlk)) (t : Nat), (toH H).get t = lookH H t
 | [], t => rfl
 | (k, some v) :: r, t => by
  simp only [toH, Tr.get_put, lookH]
  rcases beq_cases k t with ⟨h, hb⟩ | ⟨h, hb⟩
  ·rw [hb, if_pos h.symm]; rfl
  ·rw [hb, if_neg (fun e => h e.symm)]; exact toH_get r t
 | (k, none) :: r, t => by
  simp only [toH, Tr.get_del, lookH]
  rcases beq_cases k t with ⟨h, hb⟩ | ⟨h, hb⟩
  ·rw [hb, if_pos h.symm]; rfl
  ·rw [hb, if_neg (fun e => h e.symm)]; exact toH_get r t
theorem SS.get (s : SS) (id : Nat) : s.st.heap.get id = lookH s.heap id := toH_get _ _
def FreeFrom (ρ : Ren) (n : Nat) : Prop := ∀ id, n ≤ id → ρ id = none
def Agree (k : Nat) (ρ ρ' : Ren) : Prop := ∀ id, id < k → ρ' id = ρ id
theorem Agree.refl (k : Nat) (ρ : Ren) : Agree k ρ ρ := fun _ _ => rfl
theorem Agree.trans {k : Nat} {a b c : Ren} (h : Agree k a b) (h' : Agree k b c) : Agree k a c := fun id hid => (h' id hid).trans (h id hid)
theorem Agree.mono {k j : Nat} {a b : Ren} (h : Agree k a b) (hj : j ≤ k) : Agree j a b := fun id hid => h id (by omega)
theorem FreeFrom.free {ρ : Ren} {n : Nat} (h : FreeFrom ρ n) (m : Nat) : Free ρ n m := fun id a _ => h id a
theorem FreeFrom.ext {ρ ρ' : Ren} {n m : Nat} (h : FreeFrom ρ n) (hnm : n ≤ m) (x : Ext ρ ρ' n m) : FreeFrom ρ' m := by
 intro id hid
 cases hi : ρ' id with
 | none => rfl
 | some e =>
  rcases x.2 id (by rw [hi]; simp) with q | q
  ·exact absurd (h id (by omega)) q
  ·omega
theorem Ext.agree {ρ ρ' : Ren} {n m k : Nat} (x : Ext ρ ρ' n m) (hk : k ≤ n) : Agree k ρ ρ' := by
 intro id hid
 cases hr : ρ id with
 | some e => exact x.1 _ _ hr
 | none =>
  cases hi : ρ' id with
  | none => rfl
  | some e =>
   rcases x.2 id (by rw [hi]; simp) with q | q
   ·exact absurd hr q
   ·omega
theorem Agree.le {ρ ρ' : Ren} {n : Nat} (h : Agree n ρ ρ') (hf : FreeFrom ρ n) : ρ.Le ρ' := by
 intro id e he
 rcases Nat.lt_or_ge id n with q | q
 ·rw [h id q]; exact he
 ·rw [hf id q] at he; cases he
def mkD (D : Nat) : Deferred := { target := .collected D, args := #[] }
def Marks (w w' : World) (M : List Nat) : Prop := M.Nodup ∧ ∀ D ∈ M, w.heap.size ≤ D ∧ w'.heap[D]? = some (.deferred (some []))
theorem Marks.nil (w w' : World) : Marks w w' [] := ⟨List.nodup_nil, fun D h => by cases h⟩
theorem Marks.join {w w1 w2 : World} {M1 M2 : List Nat} (h : Marks w w1 M1) (h' : Marks w1 w2 M2) (hs : w.heap.size ≤ w1.heap.size) (hb : Books w1 w2) : Marks w w2 (M2 ++ M1) := by
 refine ⟨List.nodup_append.2 ⟨h'.1, h.1, fun a ha b hb' e => ?_⟩, fun D hD => ?_⟩
 ·subst e
  have h1 := (h'.2 a ha).1
  have h2 := (Array.getElem?_eq_some_iff.1 (h.2 a hb').2).1
  omega
 ·rcases List.mem_append.1 hD with q | q
  ·have := h'.2 D q; exact ⟨by omega, this.2⟩
  ·have := h.2 D q; exact ⟨this.1, hb D this.2⟩
theorem marks_app {Q' : Exit → Act → World → Prop} {e : Exit} {tmps : Array Value} {w : World} {M1 M2 : List Nat} {ds : List Deferred} (h : Q' e ⟨tmps, (M2 ++ M1).map mkD ++ ds⟩ w) : Q' e ⟨tmps, M2.map mkD ++ (M1.map mkD ++ ds)⟩ w := by
 simpa [List.map_append, List.append_assoc] using h
section
variable (P : Program) (nt : Nat)
def WX (c : Code) (T : TL) (s : SS) (ex : AExit) (T' : TL) (s' : SS) : Prop :=
 s.next ≤ s'.next ∧ s'.gl = s.gl ∧ ∀ (B : Nat) (w0 : World) (ρ : Ren) (w : World) (tmps : Array Value) (ds : List Deferred) (Q' : Exit → Act → World → Prop) (rr : Option Nat), HRel P B w0 ρ s.st w → FRel ρ nt (toTr T) tmps → Free ρ s.next s'.next →
  (∀ ρ' tmps' w' M, HRel P B w0 ρ' s'.st w' → FRel ρ' nt (toTr T') tmps' → Ext ρ ρ' s.next s'.next → Marks w w' M → Q' (exOf ex) ⟨tmps', M.map mkD ++ ds⟩ w') → c.wpIn (Fr rr) 0 P Q' ⟨tmps, ds⟩ w
def W (_k : Nat) (c : Code) (T : TL) (s : SS) (Q : AExit → TL → SS → Prop) : Prop :=
 ∃ ex T' s', Q ex T' s' ∧ WX P nt c T s ex T' s'
def CallW (f : FuncId) (args : List Value) (s : SS) (K : Value → SS → Prop) : Prop :=
 ∃ v s', K v s' ∧ CallOk P f args s.st v (SS.st s')
def CallW0 (f : FuncId) (args : List Value) (s : SS) (K : Value → SS → Prop) : Prop :=
 ∀ (B : Nat) (w0 : World) (ρ : Ren) (args' : List Value) (w : World), HRel P B w0 ρ s.st w → LRel ρ args args' → FreeFrom ρ s.next →
  Calls P f ⟨args'⟩ w fun e w' => ∃ v' v s' ρ', e = .returned v' ∧ K v s' ∧ VRel ρ' v v' ∧ HRel P B w0 ρ' (SS.st s') w' ∧ FreeFrom ρ' s'.next ∧ s.next ≤ s'.next ∧ Agree s.next ρ ρ'
def Wk (_k : Nat) (T : TL) (s : SS) (T' : TL) (s' : SS) : Prop :=
 s.next ≤ s'.next ∧ s'.gl = s.gl ∧ ∀ (B : Nat) (w0 : World) (ρ : Ren) (w : World) (tmps : Array Value), HRel P B w0 ρ s.st w → FRel ρ nt (toTr T) tmps → HRel P B w0 ρ s'.st w ∧ FRel ρ nt (toTr T') tmps
variable {P nt}
variable {k : Nat}
variable {T T' T2 : TL} {s s' s2 : SS} {Q Q1 : AExit → TL → SS → Prop} {c d : Code} {ex ex2 : AExit}
theorem Free.sub {ρ : Ren} {n m n' m' : Nat} (h : Free ρ n m) (h1 : n ≤ n') (h2 : m' ≤ m) : Free ρ n' m' := fun id a b => h id (by omega) (by omega)
theorem Free.ext {ρ ρ' : Ren} {n m k : Nat} (h : Free ρ n k) (x : Ext ρ ρ' n m) (hm : n ≤ m) : Free ρ' m k := by
 intro id a b
 cases hi : ρ' id with
 | none => rfl
 | some e =>
  rcases x.2 id (by rw [hi]; simp) with q | q
  ·exact absurd (h id (by omega) b) q
  ·omega
theorem Ext.mono {ρ ρ' : Ren} {n m n' m' : Nat} (x : Ext ρ ρ' n m) (h1 : n' ≤ n) (h2 : m ≤ m') : Ext ρ ρ' n' m' := ⟨x.1, fun id h => (x.2 id h).imp (fun q => q) fun ⟨a, b⟩ => ⟨by omega, by omega⟩⟩
theorem Ext.trans' {ρ ρ1 ρ2 : Ren} {n m k : Nat} (x : Ext ρ ρ1 n m) (y : Ext ρ1 ρ2 m k) (h1 : n ≤ m) (h2 : m ≤ k) : Ext ρ ρ2 n k :=
 ⟨fun id e h => y.1 _ _ (x.1 _ _ h), fun id h => by
  rcases y.2 id h with q | q
  ·rcases x.2 id q with r | r
   ·exact .inl r
   ·exact .inr ⟨r.1, by omega⟩
  ·exact .inr ⟨by omega, q.2⟩⟩
theorem Wk.refl : Wk P nt k T s T s := ⟨Nat.le_refl _, rfl, fun _ _ _ _ _ H F => ⟨H, F⟩⟩
theorem WX.weak (hw : Wk P nt k T s T' s') (h : WX P nt c T' s' ex T2 s2) : WX P nt c T s ex T2 s2 :=
 ⟨Nat.le_trans hw.1 h.1, h.2.1.trans hw.2.1, fun B w0 ρ w tmps ds Q' rr H F hf hQ =>
  let ⟨H1, F1⟩ := hw.2.2 B w0 ρ w tmps H F
  h.2.2 B w0 ρ w tmps ds Q' rr H1 F1 (hf.sub hw.1 (Nat.le_refl _)) fun ρ' tmps' w' M H2 F2 x K => hQ ρ' tmps' w' M H2 F2 (x.mono hw.1 (Nat.le_refl _)) K⟩
theorem WX.seq (h : WX P nt c T s .normal T' s') (h2 : WX P nt d T' s' ex T2 s2) : WX P nt (.seq c d) T s ex T2 s2 :=
 ⟨Nat.le_trans h.1 h2.1, h2.2.1.trans h.2.1, fun B w0 ρ w tmps ds Q' rr H F hf hQ =>
  wpIn_seq (h.2.2 B w ρ w tmps ds _ rr H.rebase F (hf.sub (Nat.le_refl _) h2.1) fun ρ1 tmps1 w1 M1 H1 F1 x1 K1 =>
   h2.2.2 B w1 ρ1 w1 tmps1 (M1.map mkD ++ ds) Q' rr H1.rebase F1 (hf.ext x1 h.1) fun ρ2 tmps2 w2 M2 H2 F2 x2 K2 =>
    marks_app (hQ ρ2 tmps2 w2 (M2 ++ M1) ((H.join H1).join H2) F2 (x1.trans' x2 h.1 h2.1) (K1.join K2 H1.below.size H2.books)))⟩
theorem WX.seqX (h : WX P nt c T s ex T' s') (hx : ex ≠ .normal) : WX P nt (.seq c d) T s ex T' s' :=
 ⟨h.1, h.2.1, fun B w0 ρ w tmps ds Q' rr H F hf hQ =>
  wpIn_seq (h.2.2 B w0 ρ w tmps ds _ rr H F hf fun ρ1 tmps1 w1 M1 H1 F1 x1 K1 => by
   cases ex with
   | normal => exact absurd rfl hx
   | exit id => exact hQ ρ1 tmps1 w1 M1 H1 F1 x1 K1
   | ret => exact hQ ρ1 tmps1 w1 M1 H1 F1 x1 K1)⟩
theorem W.mono (h : W P nt k c T s Q) (hq : ∀ ex T s, Q ex T s → Q1 ex T s) : W P nt k c T s Q1 :=
 let ⟨a, b, e, q, r⟩ := h
 ⟨a, b, e, hq _ _ _ q, r⟩
theorem CallW.mono {f : FuncId} {args : List Value} {K K1 : Value → SS → Prop} (h : CallW P f args s K) (hq : ∀ v s, K v s → K1 v s) : CallW P f args s K1 :=
 let ⟨a, b, q, r⟩ := h
 ⟨a, b, hq _ _ q, r⟩
theorem W.weak (hw : Wk P nt k T s T' s') (h : W P nt k c T' s' Q) : W P nt k c T s Q :=
 let ⟨a, b, e, q, r⟩ := h
 ⟨a, b, e, q, r.weak hw⟩
theorem W.skip (h : Q .normal T s) : W P nt k .skip T s Q :=
 ⟨_, _, _, h, Nat.le_refl _, rfl, fun _ _ _ _ _ _ _ _ H F hf hQ => wpIn_skip (hQ _ _ _ [] H F (.refl _ _ _) (.nil _ _))⟩
theorem W.exit {id : Nat} (h : Q (.exit id) T s) : W P nt k (.exit id) T s Q :=
 ⟨_, _, _, h, Nat.le_refl _, rfl, fun _ _ _ _ _ _ _ _ H F hf hQ => wpIn_exit (hQ _ _ _ [] H F (.refl _ _ _) (.nil _ _))⟩
theorem W.ret (h : Q .ret T s) : W P nt k .ret T s Q :=
 ⟨_, _, _, h, Nat.le_refl _, rfl, fun _ _ _ _ _ _ _ _ H F hf hQ => wpIn_ret (hQ _ _ _ [] H F (.refl _ _ _) (.nil _ _))⟩
theorem W.seq (h : W P nt k c T s fun ex T' s' => match ex with | .normal => W P nt k d T' s' Q | e => Q e T' s') : W P nt k (.seq c d) T s Q := by
 obtain ⟨ex, T1, s1, q, r⟩ := h
 cases ex with
 | normal =>
  obtain ⟨ex2, T2, s2, q2, r2⟩ := q
  exact ⟨ex2, T2, s2, q2, r.seq r2⟩
 | exit id => exact ⟨_, _, _, q, r.seqX (fun h => by cases h)⟩
 | ret => exact ⟨_, _, _, q, r.seqX (fun h => by cases h)⟩
theorem W.condT {x : Operand} (hx : operand (toTr T) s.st x = some (.bool true)) (h : W P nt k c T s Q) : W P nt k (.cond x c d) T s Q :=
 let ⟨a, b, e, q, r⟩ := h
 ⟨a, b, e, q, r.1, r.2.1, fun B w0 ρ w tmps ds Q' rr H F hf hQ => wpIn_cond (t := true) (bool_inv (F.ev H ds _ _ hx)) (r.2.2 B w0 ρ w tmps ds Q' rr H F hf hQ)⟩
theorem W.condF {x : Operand} (hx : operand (toTr T) s.st x = some (.bool false)) (h : W P nt k d T s Q) : W P nt k (.cond x c d) T s Q :=
 let ⟨a, b, e, q, r⟩ := h
 ⟨a, b, e, q, r.1, r.2.1, fun B w0 ρ w tmps ds Q' rr H F hf hQ => wpIn_cond (t := false) (bool_inv (F.ev H ds _ _ hx)) (r.2.2 B w0 ρ w tmps ds Q' rr H F hf hQ)⟩
theorem WX.block {id : Nat} (h : WX P nt c T s ex T' s') (he : (match ex with | .exit i => (bif Nat.beq i id then AExit.normal else ex) | _ => ex) = ex2) : WX P nt (.block id c) T s ex2 T' s' :=
 ⟨h.1, h.2.1, fun B w0 ρ w tmps ds Q' rr H F hf hQ =>
  wpIn_block (h.2.2 B w0 ρ w tmps ds _ rr H F hf fun ρ1 tmps1 w1 M1 H1 F1 x1 K1 => by
   cases ex with
   | normal => subst he; exact hQ ρ1 tmps1 w1 M1 H1 F1 x1 K1
   | ret => subst he; exact hQ ρ1 tmps1 w1 M1 H1 F1 x1 K1
   | exit i =>
    show (if i = id then Q' .normal ⟨tmps1, M1.map mkD ++ ds⟩ w1 else Q' (.exit i) ⟨tmps1, M1.map mkD ++ ds⟩ w1)
    rcases beq_cases i id with ⟨h1, hb⟩ | ⟨h1, hb⟩
    ·rw [if_pos h1]; simp only [hb, cond_true] at he; subst he; exact hQ ρ1 tmps1 w1 M1 H1 F1 x1 K1
    ·rw [if_neg h1]; simp only [hb, cond_false] at he; subst he; exact hQ ρ1 tmps1 w1 M1 H1 F1 x1 K1)⟩
theorem W.block {id : Nat} (h : W P nt k c T s fun ex T' s' => match ex with | .exit i => (bif Nat.beq i id then Q .normal T' s' else Q (.exit i) T' s') | e => Q e T' s') : W P nt k (.block id c) T s Q := by
 obtain ⟨ex, T1, s1, q, r⟩ := h
 cases ex with
 | normal => exact ⟨_, _, _, q, r.block rfl⟩
 | ret => exact ⟨_, _, _, q, r.block rfl⟩
 | exit i =>
  rcases beq_cases i id with ⟨h1, hb⟩ | ⟨h1, hb⟩
  ·simp only [hb, cond_true] at q
   exact ⟨_, _, _, q, r.block (by simp only [hb, cond_true])⟩
  ·simp only [hb, cond_false] at q
   exact ⟨_, _, _, q, r.block (by simp only [hb, cond_false])⟩
variable (P nt k) in
inductive Rounds {ι : Type} (c : Code) (μ : ι → Nat) (TV : ι → TL) (SV : ι → SS) (ex : AExit) (T : TL) (s : SS) : ι → Prop where
 | stop {i : ι} (h : WX P nt c (TV i) (SV i) ex T s) (hx : ex ≠ .normal) : Rounds c μ TV SV ex T s i
 | more {i j : ι} {T2 : TL} {s2 : SS} (h : WX P nt c (TV i) (SV i) .normal T2 s2) (hw : Wk P nt k T2 s2 (TV j) (SV j)) (hlt : μ j < μ i) (r : Rounds c μ TV SV ex T s j) : Rounds c μ TV SV ex T s i
theorem Rounds.le {ι : Type} {μ : ι → Nat} {TV : ι → TL} {SV : ι → SS} {i : ι} (r : Rounds P nt k c μ TV SV ex T s i) : (SV i).next ≤ s.next ∧ s.gl = (SV i).gl := by
 induction r with
 | stop h hx => exact ⟨h.1, h.2.1⟩
 | more h hw hlt r ih => exact ⟨Nat.le_trans h.1 (Nat.le_trans hw.1 ih.1), ih.2.trans (hw.2.1.trans h.2.1)⟩
theorem Rounds.run {ι : Type} {μ : ι → Nat} {TV : ι → TL} {SV : ι → SS} {B : Nat} {Q' : Exit → Act → World → Prop} {rr : Option Nat} {i : ι} (r : Rounds P nt k c μ TV SV ex T s i) : ∀ (n : Nat), μ i < n → ∀ (w0 : World) (ds : List Deferred) (ρ : Ren) (w : World) (tmps : Array Value), HRel P B w0 ρ (SV i).st w → FRel ρ nt (toTr (TV i)) tmps → Free ρ (SV i).next s.next →
  (∀ ρ' tmps' w' M, HRel P B w0 ρ' s.st w' → FRel ρ' nt (toTr T) tmps' → Ext ρ ρ' (SV i).next s.next → Marks w w' M → Q' (exOf ex) ⟨tmps', M.map mkD ++ ds⟩ w') → Code.roundsIn (Fr rr) 0 P c Q' n ⟨tmps, ds⟩ w := by
 induction r with
 | stop h hx =>
  intro n hn w0 ds ρ w tmps H F hf hQ
  obtain ⟨n, rfl⟩ : ∃ m, n = m + 1 := ⟨n - 1, by omega⟩
  rw [roundsIn_succ]
  refine h.2.2 B w0 ρ w tmps ds _ rr H F hf fun ρ1 tmps1 w1 M1 H1 F1 x1 K1 => ?_
  cases ex with
  | normal => exact absurd rfl hx
  | exit id => exact hQ ρ1 tmps1 w1 M1 H1 F1 x1 K1
  | ret => exact hQ ρ1 tmps1 w1 M1 H1 F1 x1 K1
 | more h hw hlt r ih =>
  intro n hn w0 ds ρ w tmps H F hf hQ
  obtain ⟨n, rfl⟩ : ∃ m, n = m + 1 := ⟨n - 1, by omega⟩
  rw [roundsIn_succ]
  have hl := r.le.1
  refine h.2.2 B w ρ w tmps ds _ rr H.rebase F (hf.sub (Nat.le_refl _) (Nat.le_trans hw.1 hl)) fun ρ1 tmps1 w1 M1 H1 F1 x1 K1 => ?_
  obtain ⟨H2, F2⟩ := hw.2.2 B w ρ1 w1 tmps1 H1 F1
  refine ih n (by omega) w1 (M1.map mkD ++ ds) ρ1 w1 tmps1 H2.rebase F2 ((hf.ext x1 h.1).sub hw.1 (Nat.le_refl _)) fun ρ3 tmps3 w3 M3 H3 F3 x3 K3 => ?_
  exact marks_app (hQ ρ3 tmps3 w3 (M3 ++ M1) ((H.join H1).join H3) F3 (x1.trans' (x3.mono hw.1 (Nat.le_refl _)) h.1 (Nat.le_trans hw.1 hl)) (K1.join K3 H1.below.size H3.books))
theorem W.loop {ι : Type} (μ : ι → Nat) (I : ι → Prop) (TV : ι → TL) (SV : ι → SS) (i0 : ι) (h0 : I i0) (hw : Wk P nt k T s (TV i0) (SV i0))
  (body : ∀ i, I i → W P nt k c (TV i) (SV i) fun ex T' s' => match ex with | .normal => ∃ j, I j ∧ μ j < μ i ∧ Wk P nt k T' s' (TV j) (SV j) | e => Q e T' s') : W P nt k (.loop c) T s Q := by
 have key : ∀ (n : Nat) (i : ι), μ i < n → I i → ∃ ex T' s', Q ex T' s' ∧ Rounds P nt k c μ TV SV ex T' s' i := by
  intro n
  induction n with
  | zero => intro i hi; omega
  | succ n ih =>
   intro i hi hI
   obtain ⟨ex, T1, s1, q, r⟩ := body i hI
   cases ex with
   | normal =>
    obtain ⟨j, hj, hlt, hwk⟩ := q
    obtain ⟨ex, T', s', q', r'⟩ := ih j (by omega) hj
    exact ⟨ex, T', s', q', .more r hwk hlt r'⟩
   | exit id => exact ⟨_, _, _, q, .stop r (fun h => by cases h)⟩
   | ret => exact ⟨_, _, _, q, .stop r (fun h => by cases h)⟩
 obtain ⟨ex, T', s', q, r⟩ := key _ i0 (Nat.lt_succ_self _) h0
 refine W.weak hw ⟨ex, T', s', q, r.le.1, r.le.2, fun B w0 ρ w tmps ds Q' rr H F hf hQ => ?_⟩
 exact wpIn_loop_rounds (μ i0 + 1) (r.run _ (Nat.lt_succ_self _) w0 ds ρ w tmps H F hf hQ)
def putL (T : TL) (dst : Option Tmp) (v : Value) : TL :=
 match dst with
 | none => T
 | some d => (d, v) :: T
def dstOk (nt : Nat) : Option Tmp → Bool
 | none => true
 | some d => Nat.blt d nt
theorem putT_L {dst : Option Tmp} (h : dstOk nt dst = true) (v : Value) : putT nt (toTr T) dst v = some (toTr (putL T dst v)) := by
 cases dst with
 | none => rfl
 | some d =>
  simp only [dstOk] at h
  simp only [putT, h, cond_true, putL, toTr]
variable (P nt) in
def WSX (ops : Array Oper) (l : List Oper) (T : TL) (s : SS) (T' : TL) (s' : SS) : Prop :=
 s.next ≤ s'.next ∧ s'.gl = s.gl ∧ ∀ (j : Nat), (∀ i, l[i]? = ops[j + i]?) → ∀ (B : Nat) (w0 : World) (ρ : Ren) (w : World) (tmps : Array Value) (ds : List Deferred) (Q' : Exit → Act → World → Prop) (rr : Option Nat), HRel P B w0 ρ s.st w → FRel ρ nt (toTr T) tmps → Free ρ s.next s'.next →
  (∀ ρ' tmps' w', HRel P B w0 ρ' s'.st w' → FRel ρ' nt (toTr T') tmps' → Ext ρ ρ' s.next s'.next → Q' .normal ⟨tmps', ds⟩ w') → wpOpsIn (Fr rr) 0 P ops Q' (List.range' j l.length) ⟨tmps, ds⟩ w
variable (P nt) in
def WS (_k : Nat) (ops : Array Oper) (l : List Oper) (T : TL) (s : SS) (Q : TL → SS → Prop) : Prop :=
 ∃ T' s', Q T' s' ∧ WSX P nt ops l T s T' s'
variable {ops : Array Oper} {l : List Oper} {o : Oper} {R : TL → SS → Prop}
theorem WS.nil (h : R T s) : WS P nt k ops [] T s R :=
 ⟨_, _, h, Nat.le_refl _, rfl, fun j _ B w0 ρ w tmps ds Q' rr H F hf hQ => by simp only [List.length_nil, List.range'_zero, wpOpsIn]; exact hQ _ _ _ H F (.refl _ _ _)⟩
theorem tail_ops {j : Nat} (hl : ∀ i, (o :: l)[i]? = ops[j + i]?) : ops[j]? = some o ∧ ∀ i, l[i]? = ops[j + 1 + i]? := by
 refine ⟨?_, fun i => ?_⟩
 ·have := hl 0; simp at this; exact this.symm
 ·have := hl (i + 1)
  simp only [List.getElem?_cons_succ] at this
  rw [this, show j + (i + 1) = j + 1 + i from by omega]
theorem aOp_noDefer {T : ATmp} {s : ASt} {op : Op} {x : ANext} (h : aOp P T s op = some x) : ∀ c, op ≠ .defer c := by
 intro c hc
 subst hc
 simp [aOp] at h
theorem aOp_fin {T : ATmp} {s : ASt} {op : Op} {call : FuncId → List Value → ASt → Option (Value × ASt)} {y : Value × ASt} (h : fin call s (aOp P T s op) = some y) : ∀ c, op ≠ .defer c := by
 cases hx : aOp P T s op with
 | none => rw [hx] at h; cases h
 | some x => exact aOp_noDefer hx
theorem WS.off (hw : want ops (toTr T) o = some false) (hd : dstOk nt o.dst = true) (h : WS P nt k ops l (putL T o.dst (.tuple #[])) s R) : WS P nt k ops (o :: l) T s R := by
 obtain ⟨T1, s1, q, r1, r2, r⟩ := h
 refine ⟨T1, s1, q, r1, r2, fun j hl B w0 ρ w tmps ds Q' rr H F hf hQ => ?_⟩
 obtain ⟨hj, hl'⟩ := tail_ops hl
 obtain ⟨tmps', e1, e2⟩ := F.put (putT_L hd _) (undef_rel (ρ := ρ)) ds
 simp only [List.length_cons, List.range'_succ, wpOpsIn, hj, want_ok F hw, Bool.false_eq_true, if_false]
 refine ⟨fun _ _ => trivial, ?_⟩
 rw [e1]
 exact r (j + 1) hl' B w0 ρ w tmps' ds Q' rr H e2 hf hQ
theorem WS.op (G : Good P) (hw : want ops (toTr T) o = some true) (hd : dstOk nt o.dst = true) {v : Value} (hv : FinOk P s.st (aOp P (toTr T) s.st o.op) v s'.st)
  (h : WS P nt k ops l (putL T o.dst v) s' R) : WS P nt k ops (o :: l) T s R := by
 obtain ⟨T1, s1, q, r1, r2, r⟩ := h
 obtain ⟨m1, m2⟩ := finOk_mono hv
 have m1' : s.next ≤ s'.next := m1
 have m2' : s'.gl = s.gl := m2
 refine ⟨T1, s1, q, Nat.le_trans m1' r1, r2.trans m2', fun j hl B w0 ρ w tmps ds Q' rr H F hf hQ => ?_⟩
 obtain ⟨hj, hl'⟩ := tail_ops hl
 obtain ⟨call, hc, hv⟩ := hv
 simp only [List.length_cons, List.range'_succ, wpOpsIn, hj, want_ok F hw, if_true]
 refine op_fr (aOp_fin hv) (op_wp G hc H F ds hv (hf.sub (Nat.le_refl _) r1) fun v' ρ' w' q1 q2 q3 => ?_)
 obtain ⟨tmps', e1, e2⟩ := (F.mono q3.1).put (putT_L hd _) q1 ds
 rw [e1]
 have q3' : Ext ρ ρ' s.next s'.next := q3
 exact r (j + 1) hl' B w0 ρ' w' tmps' ds Q' rr q2 e2 (hf.ext q3' m1') fun ρ2 tmps2 w2 H2 F2 x2 => hQ ρ2 tmps2 w2 H2 F2 (q3'.trans' x2 m1' r1)
theorem WS.call (G : Good P) (hw : want ops (toTr T) o = some true) (hd : dstOk nt o.dst = true) {f : FuncId} {args : List Value} (hv : aOp P (toTr T) s.st o.op = some (.enter f args))
  (h : CallW P f args s fun v s' => WS P nt k ops l (putL T o.dst v) s' R) : WS P nt k ops (o :: l) T s R := by
 obtain ⟨v, s', ⟨T1, s1, q, r1, r2, r⟩, m1, m2, hc⟩ := h
 have m1' : s.next ≤ s'.next := m1
 have m2' : s'.gl = s.gl := m2
 refine ⟨T1, s1, q, Nat.le_trans m1' r1, r2.trans m2', fun j hl B w0 ρ w tmps ds Q' rr H F hf hQ => ?_⟩
 obtain ⟨hj, hl'⟩ := tail_ops hl
 simp only [List.length_cons, List.range'_succ, wpOpsIn, hj, want_ok F hw, if_true]
 refine op_fr (aOp_noDefer hv) ?_
 obtain ⟨args', h1, h2⟩ := aOp_post G H F ds hv
 unfold Oper.wp
 rw [h1]
 refine (hc B w0 ρ args' w H h2 (hf.sub (Nat.le_refl _) r1)).mono fun e w' he => ?_
 obtain ⟨v', ρ', rfl, q1, q2, q3⟩ := he
 have q3' : Ext ρ ρ' s.next s'.next := q3
 obtain ⟨tmps', e1, e2⟩ := (F.mono q3'.1).put (putT_L hd _) q1 ds
 show wpOpsIn (Fr rr) 0 P ops Q' _ ((⟨tmps, ds⟩ : Act).put o.dst v') w'
 rw [e1]
 exact r (j + 1) hl' B w0 ρ' w' tmps' ds Q' rr q2 e2 (hf.ext q3' m1') fun ρ2 tmps2 w2 H2 F2 x2 => hQ ρ2 tmps2 w2 H2 F2 (q3'.trans' x2 m1' r1)
def OpX (P : Program) (op : Op) (T : TL) (s : SS) (v : Value) (s' : SS) : Prop :=
 s.next ≤ s'.next ∧ s'.gl = s.gl ∧ ∀ (o : Oper), o.op = op → ∀ (nt B : Nat) (w0 : World) (ρ : Ren) (w : World) (tmps : Array Value) (ds : List Deferred), HRel P B w0 ρ s.st w → FRel ρ nt (toTr T) tmps → Free ρ s.next s'.next →
  ∃ n v' w' ρ', (execOp (⟨tmps, ds⟩ : Act).eval o).run P w = .ok n w' ∧ (n = .value v' ∨ (n = .skip ∧ v' = undef)) ∧ VRel ρ' v v' ∧ HRel P B w0 ρ' (SS.st s') w' ∧ Ext ρ ρ' s.next s'.next
def OpW (P : Program) (op : Op) (T : TL) (s : SS) (K : Value → SS → Prop) : Prop :=
 ∃ v s', K v s' ∧ OpX P op T s v s'
theorem WS.raw (hw : want ops (toTr T) o = some true) (hd : dstOk nt o.dst = true) (h : OpW P o.op T s fun v s' => WS P nt k ops l (putL T o.dst v) s' R) : WS P nt k ops (o :: l) T s R := by
 obtain ⟨v, s', ⟨T1, s1, q, r1, r2, r⟩, m1, m2, hc⟩ := h
 refine ⟨T1, s1, q, Nat.le_trans m1 r1, r2.trans m2, fun j hl B w0 ρ w tmps ds Q' rr H F hf hQ => ?_⟩
 obtain ⟨hj, hl'⟩ := tail_ops hl
 simp only [List.length_cons, List.range'_succ, wpOpsIn, hj, want_ok F hw, if_true]
 obtain ⟨n, v', w', ρ', h1, h2, q1, q2, q3⟩ := hc o rfl nt B w0 ρ w tmps ds H F (hf.sub (Nat.le_refl _) r1)
 refine op_fr (noDefer_run h1 (h2.elim (fun q => .inl ⟨_, q⟩) fun q => .inr q.1)) ?_
 unfold Oper.wp
 rw [h1]
 obtain ⟨tmps', e1, e2⟩ := (F.mono q3.1).put (putT_L hd _) q1 ds
 have fin : wpOpsIn (Fr rr) 0 P ops Q' (List.range' (j + 1) l.length) ((⟨tmps, ds⟩ : Act).put o.dst v') w' := by
  rw [e1]
  exact r (j + 1) hl' B w0 ρ' w' tmps' ds Q' rr q2 e2 (hf.ext q3 m1) fun ρ2 tmps2 w2 H2 F2 x2 => hQ ρ2 tmps2 w2 H2 F2 (q3.trans' x2 m1 r1)
 rcases h2 with rfl | ⟨rfl, rfl⟩
 ·exact fin
 ·exact fin
theorem W.region {id : Nat} (h : WS P nt k ops ops.toList T s fun T' s' => Q .normal T' s') : W P nt k (.region id ops false) T s Q := by
 obtain ⟨T1, s1, q, r1, r2, r⟩ := h
 refine ⟨.normal, T1, s1, q, r1, r2, fun B w0 ρ w tmps ds Q' rr H F hf hQ => ?_⟩
 refine wpIn_region ?_
 have := r 0 (fun i => by simp) B w0 ρ w tmps ds Q' rr H F hf fun ρ' tmps' w' H' F' x => hQ ρ' tmps' w' [] H' F' x (.nil _ _)
 rw [List.range_eq_range']
 simpa using this
theorem W.draw (G : Good P) {id : Nat} {pl : Plan} (hnd : ∀ (i : Nat) (o : Oper), ops[i]? = some o → ∀ c, o.op ≠ .defer c) (hpl : plan ops = some pl) (h : rRow P nt ops pl pl.row 0 [] (toTr T) s.st fun T' s' => ∃ T1 s1, T' = toTr T1 ∧ s' = SS.st s1 ∧ Q .normal T1 s1) : W P nt k (.region id ops true) T s Q := by
 obtain ⟨T', s', ⟨T1, s1, rfl, rfl, hq⟩, ⟨m1, m2⟩, hr⟩ := rDraw_ok G hpl h
 refine ⟨.normal, T1, s1, hq, m1, m2, fun B w0 ρ w tmps ds Q' rr H F hf hQ => ?_⟩
 exact region_fr G.mixed hnd fun Q1 hq => hr H.drew F hf fun ρ' tmps' w' H' F' x => hq _ _ (hQ ρ' tmps' w' [] H' F' x (.nil _ _))
def argsL : List Value → Nat → TL
 | [], _ => []
 | v :: r, i => (i, v) :: argsL r (i + 1)
theorem argsL_look : ∀ (l : List Value) (i t : Nat), look (argsL l i) t = if i ≤ t then l[t - i]? else none
 | [], i, t => by simp [argsL, look]
 | v :: r, i, t => by
  simp only [argsL, look]
  rcases beq_cases i t with ⟨h, hb⟩ | ⟨h, hb⟩
  ·subst h; simp [hb]
  ·rw [hb, cond_false, argsL_look r (i + 1) t]
   by_cases h1 : i + 1 ≤ t
   ·rw [if_pos h1, if_pos (by omega), show t - i = (t - (i + 1)) + 1 from by omega, List.getElem?_cons_succ]
   ·rw [if_neg h1, if_neg (by omega)]
theorem args_relL {ρ : Ren} {args args' : List Value} (h : LRel ρ args args') (hl : args.length ≤ nt) :
  FRel ρ nt (toTr (argsL args 0)) ((⟨args'⟩ : Array Value) ++ Array.replicate (nt - (⟨args'⟩ : Array Value).size) undef) := by
 have := args_rel h hl
 refine ⟨this.1, fun t v ht => this.2 t v ?_⟩
 rw [toTr_get, argsL_look] at ht
 simp only [Nat.zero_le, if_true, Nat.sub_zero] at ht
 have hlt : t < args.length := by
  rcases Nat.lt_or_ge t args.length with q | q
  ·exact q
  ·rw [List.getElem?_eq_none q] at ht; cases ht
 rw [ofArgs_get, if_pos ⟨Nat.zero_le _, by omega⟩]
 simpa using ht
theorem leaves_marks {n : Nat} {fn : Func} {tmps : Array Value} {R : Ending → World → Prop} {B : Nat} {w0 : World} {ρ : Ren} {s : ASt} : ∀ (M : List Nat), M.Nodup → ∀ {w : World}, HRel P B w0 ρ s w → (∀ D ∈ M, w0.heap.size ≤ D ∧ w.heap[D]? = some (.deferred (some []))) →
  (∀ w', HRel P B w0 ρ s w' → ∃ v, (results fn tmps).run P w' = .ok v w' ∧ R (.returned v) w') → LeavesInM Fence.wide n P fn tmps R (M.map mkD) .returning w
 | [], _, w, H, _, hR => hR w H
 | D :: M, hn, w, H, hM, hR => by
  obtain ⟨h1, h2⟩ := hM D (List.mem_cons_self ..)
  refine ⟨(fun e => by cases e), .inl ⟨D, _, rfl, run_takeDeferred h2, ?_⟩⟩
  refine leaves_marks M (List.nodup_cons.1 hn).2 (H.shut h1 h2 _) (fun E hE => ?_) hR
  obtain ⟨q1, q2⟩ := hM E (List.mem_cons_of_mem _ hE)
  exact ⟨q1, (World.putObj_heap_other fun e => (List.nodup_cons.1 hn).1 (by rw [← e]; exact hE)).trans q2⟩
theorem CallW.of {f : FuncId} {fn : Func} {c : Code} {args : List Value} {K : Value → SS → Prop} (hf : P.funcs[f]? = some fn) (hb : fn.body = some c) (hn : args.length ≤ fn.ntmps)
  (h : W P fn.ntmps s.next c (argsL args 0) s fun ex T' s' => (match ex with | .exit _ => False | _ => True) ∧ ∃ l, resultL P (toTr T') s'.st fn.results.toList = some l ∧ K (one l) s') : CallW P f args s K := by
 obtain ⟨ex, T1, s1, ⟨q1, l, q2, q3⟩, r1, r2, r⟩ := h
 refine ⟨one l, s1, q3, r1, r2, fun B w0 ρ args' w H ha hfr => ?_⟩
 have hfr' : Free ρ s.next s1.next := hfr
 refine (callsIn_wide (n := 0)).1 (callsIn_of_wp_marks hf hb trivial (r B w ρ w _ [] _ none H.rebase (args_relL ha hn) hfr' fun ρ' tmps' w' M H' F' x' K => ?_) rfl)
 have hl := leaves_marks (P := P) (n := 0) (fn := fn) (tmps := tmps') (R := fun e w' => ∃ v' ρ', e = .returned v' ∧ VRel ρ' (one l) v' ∧ HRel P B w0 ρ' s1.st w' ∧ Ext ρ ρ' s.st.next s1.st.next) M K.1 (H.join H') (fun D hD => ⟨Nat.le_trans H.below.size (K.2 D hD).1, (K.2 D hD).2⟩) fun w'' H'' => by
  obtain ⟨v', p1, p2⟩ := results_ok H'' F' q2
  exact ⟨v', p1, v', ρ', rfl, p2, H'', x'⟩
 rw [← List.append_nil (M.map mkD)] at hl
 cases ex with
 | exit id => exact q1.elim
 | normal => exact hl
 | ret => exact hl
theorem CallW.zero {f : FuncId} {args : List Value} {K : Value → SS → Prop} (h : CallW P f args s K) : CallW0 P f args s K := by
 obtain ⟨v, s1, hk, h1, h2, h3⟩ := h
 have h1' : s.next ≤ s1.next := h1
 intro B w0 ρ args' w H ha hf
 refine (h3 B w0 ρ args' w H ha (hf.free _)).mono fun e w' he => ?_
 obtain ⟨v', ρ', rfl, q1, q2, q3⟩ := he
 have q3' : Ext ρ ρ' s.next s1.next := q3
 exact ⟨v', v, s1, ρ', rfl, hk, q1, q2, hf.ext h1' q3', h1', q3'.agree (Nat.le_refl _)⟩
end
end Go.Vf
end
section
namespace Go.Vf
open Go.RowKit
set_option linter.unusedVariables false
set_option linter.unusedSimpArgs false
def bytesV (l : List UInt8) : List Value := l.map fun b => .int .u8 b.toNat
inductive EqK where
 | bool | ptr | slice | map | func | none
 | agg (l : List (Nat × Nat))
inductive MOp where
 | mov (x : Operand)
 | pick (c a b : Operand)
 | bin (op : BinOp) (e : EqK) (x y : Operand)
 | shlC (n : Nat) (x : Operand)
 | shrC (n : Nat) (x : Operand)
 | un (op : UnOp) (x : Operand)
 | toInt (k : IntKind) (x : Operand)
 | ldI (k : IntKind) (x : Operand)
 | ldB (x : Operand)
 | ldS (x : Operand)
 | ld1 (x : Operand)
 | ldN (n : Nat) (x : Operand)
 | st (n : Nat) (x y : Operand)
 | faddr (off : Nat) (x : Operand)
 | fld1 (off : Nat) (x : Operand)
 | fldN (off n : Nat) (x : Operand)
 | ixa (z : Nat) (x i : Operand)
 | ixaA (len z : Nat) (x i : Operand)
 | ixS (x i : Operand)
 | ext (x : Operand) (i : Nat)
 | lenS (x : Operand)
 | lenL (x : Operand)
 | alloc (elem : TypeId) (z : List Value)
 | box (elem : TypeId) (x : Operand)
 | agg (z : List Value) (ps : List (Nat × Nat × Operand))
 | mkS (elem : TypeId) (len : Nat) (z : List Value) (ps : List (Nat × Nat × Operand))
 | slS (x : Operand) (lo hi : Option Operand)
 | slL (z : Nat) (x : Operand) (lo hi : Option Operand)
 | slA (len z : Nat) (x : Operand) (lo hi : Option Operand)
 | toStr (x : Operand)
 | toBytes (elem : TypeId) (x : Operand)
 | app (elem : TypeId) (size bytes : Nat) (x y : Operand)
 | appZ (elem : TypeId) (size bytes : Nat) (z : List Value) (x y : Operand)
 | cpy (size : Nat) (x y : Operand)
 | nilC (x : Operand)
 | mm (mx : Bool) (x y : Operand)
 | mkN (elem : TypeId) (bytes : Nat) (z : List Value) (l c : Operand)
 | mark (x : Operand)
 | call (f : FuncId) (args : List Operand)
 | gen (op : Op)
 | raw (op : Op)
structure MOper where
 dst : Option Tmp
 grd : Option (Tmp × Bool)
 op : MOp
inductive MC where
 | skip
 | reg (ops : List MOper)
 | row (ops : List (MOper × Bool × Bool × Nat))
 | seq (a b : MC)
 | cond (x : Operand) (a b : MC)
 | block (id : Nat) (c : MC)
 | loop (c : MC)
 | exit (id : Nat)
 | ret
structure MF where
 nt : Nat
 res : List ResultVar
 body : MC
def okC : Operand → Bool
 | .const v => plainV v
 | _ => true
def okCs : List Operand → Bool
 | [] => true
 | x :: r => okC x && okCs r
def okO : Option Operand → Bool
 | none => true
 | some x => okC x
def eqKind (P : Program) (t : TypeId) : EqK :=
 match P.underlying t with
 | some .bool => .bool
 | some (.pointer _) => .ptr
 | some (.slice _) => .slice
 | some (.map _ _) => .map
 | some (.func _ _ _) => .func
 | some (.struct _) => (match eqKinds P t with
  | some l => .agg l
  | none => .none)
 | some (.array _ _) => (match eqKinds P t with
  | some l => .agg l
  | none => .none)
 | _ => .none
def placesS (P : Program) (fields : Array Field) : List (Nat × Operand) → Option (List (Nat × Nat × Operand))
 | [] => some []
 | (i, x) :: r => match fields[i]? with
  | none => none
  | some f => match sizeB P f.type, placesS P fields r with
   | some n, some l => bif okC x then some ((f.offset, n, x) :: l) else none
   | _, _ => none
def placesA (n : Nat) : List (Nat × Operand) → Option (List (Nat × Nat × Operand))
 | [] => some []
 | (i, x) :: r => match placesA n r with
  | some l => bif okC x then some ((i * n, n, x) :: l) else none
  | none => none
def cOp (P : Program) (op : Op) : Option MOp :=
 match op with
 | .move x | .assign x => bif okC x then some (.mov x) else none
 | .pick c a b => bif okC c && okC a && okC b then some (.pick c a b) else none
 | .binOp .shl _ x (.const (.int _ (.ofNat n))) _ => bif okC x then some (.shlC n x) else none
 | .binOp .shr _ x (.const (.int _ (.ofNat n))) _ => bif okC x then some (.shrC n x) else none
 | .binOp op t x y _ => bif okC x && okC y then some (.bin op (eqKind P t) x y) else none
 | .unOp op _ x => bif okC x then some (.un op x) else none
 | .convert a b x =>
  bif okC x then
   match P.underlying a, P.underlying b with
   | some (.int _), some (.int k) => some (.toInt k x)
   | some (.slice e), some .string => (match P.underlying e with
    | some (.int .u8) => some (.toStr x)
    | _ => some (.gen op))
   | some (.slice e), some (.slice _) => (match P.underlying e, Nat.beq a b with
    | some (.int .u8), true => some (.mark x)
    | _, _ => some (.gen op))
   | some .string, some (.slice e) => (match P.underlying e, P.info? e with
    | some (.int .u8), some i => bif Nat.beq i.size 1 then some (.toBytes e x) else some (.gen op)
    | _, _ => some (.gen op))
   | _, _ => some (.gen op)
  else none
 | .load t x =>
  bif okC x then
   match aggB P t with
   | none => none
   | some true => (match sizeB P t with
    | none => none
    | some n => some (.ldN n x))
   | some false => match P.underlying t with
    | some (.int k) => some (.ldI k x)
    | some .bool => some (.ldB x)
    | some .string => some (.ldS x)
    | _ => some (.ld1 x)
  else none
 | .store t a x => bif okC a && okC x then (match sizeB P t with
  | none => none
  | some n => some (.st n a x)) else none
 | .fieldAddr t x f =>
  bif okC x then
   match P.underlying t with
   | some (.struct fields) => (match fields[f]? with
    | some fd => (match sizeB P fd.type with
     | some (_ + 1) => some (.faddr fd.offset x)
     | _ => none)
    | none => none)
   | _ => none
  else none
 | .field t x f =>
  bif okC x then
   match P.underlying t with
   | some (.struct fields) => (match fields[f]? with
    | some fd => (match aggB P fd.type with
     | none => none
     | some true => (match sizeB P fd.type with
      | none => none
      | some n => some (.fldN fd.offset n x))
     | some false => some (.fld1 fd.offset x))
    | none => none)
   | _ => none
  else none
 | .indexAddr t x i =>
  bif okC x && okC i then
   match P.underlying t with
   | some (.slice e) => (sizeB P e).map fun z => .ixa z x i
   | some (.array n e) => (sizeB P e).map fun z => .ixaA n z x i
   | _ => none
  else none
 | .index t x i =>
  bif okC x && okC i then
   match P.underlying t with
   | some .string => some (.ixS x i)
   | _ => some (.gen op)
  else none
 | .extract x i => bif okC x then some (.ext x i) else none
 | .alloc e => (zeroB P e).map fun z => .alloc e (flat z)
 | .box e x => bif okC x && (P.info? e).isSome then some (.box e x) else none
 | .build t parts => (match zeroB P t, P.underlying t with
  | some z, some (.struct fields) => bif fields.toList.all fun f => (sizeB P f.type).isSome then (placesS P fields parts.toList).map (.agg (flat z)) else none
  | some z, some (.array _ e) => (match sizeB P e with
   | none => none
   | some n => (placesA n parts.toList).map (.agg (flat z)))
  | _, _ => none)
 | .buildSlice t len parts => (match P.underlying t with
  | some (.slice e) => (match P.info? e, zeroB P e with
   | some i, some z => bif Nat.ble (len * i.size) 16777216 && Nat.beq (flat z).length i.size && Nat.blt 0 i.size then (placesA i.size parts.toList).map (.mkS e len (repeatL len (flat z))) else none
   | _, _ => none)
  | _ => none)
 | .makeSlice t l c =>
  bif okC l && okC c then
   match P.underlying t with
   | some (.slice e) => (match P.info? e, zeroB P e with
    | some i, some z => bif Nat.beq (flat z).length i.size then some (.mkN e i.bytes (flat z) l c) else none
    | _, _ => none)
   | _ => none
  else none
 | .slice t x lo hi mx =>
  bif okC x && okO lo && okO hi then
   match mx with
   | some _ => some (.gen op)
   | none => match P.underlying t with
    | some .string => some (.slS x lo hi)
    | some (.slice e) => (sizeB P e).map fun z => .slL z x lo hi
    | some (.array n e) => (sizeB P e).map fun z => .slA n z x lo hi
    | _ => none
  else none
 | .call { callee := .builtin b, args, argTypes } =>
  match b, args.toList, argTypes.toList with
  | .len, [x], t :: _ => bif okC x then
   (match P.underlying t with
   | some .string => some (.lenS x)
   | some (.slice _) => some (.lenL x)
   | _ => some (.gen op)) else none
  | .min, [x, y], _ => bif okC x && okC y then some (.mm false x y) else none
  | .max, [x, y], _ => bif okC x && okC y then some (.mm true x y) else none
  | .append, [x, y], t :: t' :: _ => bif okC x && okC y then
   (match P.underlying t, P.underlying t' with
   | some (.slice e), some (.slice e') => (match P.info? e, zeroB P e, P.info? e' with
    | some i, some z, some _ => bif Nat.beq (flat z).length i.size then some (.app e i.size i.bytes x y) else none
    | _, _, _ => none)
   | some (.slice e), some .string => (match P.info? e, zeroB P e with
    | some i, some z => bif Nat.beq (flat z).length i.size then some (.app e i.size i.bytes x y) else none
    | _, _ => none)
   | some (.slice e), some (.int _) => (match P.info? e, zeroB P e with
    | some i, some z => bif Nat.beq (flat z).length i.size then some (.appZ e i.size i.bytes (flat z) x y) else none
    | _, _ => none)
   | _, _ => some (.gen op)) else none
  | .copy, [x, y], t :: _ => bif okC x && okC y then
   (match P.underlying t with
   | some (.slice e) => (sizeB P e).map fun z => .cpy z x y
   | _ => some (.gen op)) else none
  | _, _, _ => some (.gen op)
 | .call { callee := .value (.func f), args, .. } => bif okCs args.toList then
  (match P.funcs[f]? with
  | some fn => bif fn.body.isSome then some (.call f args.toList) else none
  | none => none) else none
 | .nilCheck x => bif okC x then some (.nilC x) else none
 | _ => some (.gen op)
def isRaw : Op → Bool
 | .insert .. => true
 | .mapUpdate .. => true
 | .lookup .. => true
 | .range .. => true
 | .next .. => true
 | .entry .. => true
 | _ => false
def isXtn (P : Program) : Op → Bool
 | .call { callee := .value (.func f), .. } => (match P.funcs[f]? with
  | some fn => fn.body.isNone
  | none => false)
 | _ => false
def MOp.isRaw : MOp → Bool
 | .raw _ => true
 | _ => false
def cOp' (P : Program) (op : Op) : Option MOp :=
 match Go.Vf.isRaw op || isXtn P op with
 | true => some (.raw op)
 | false => match cOp P op with
  | some m => (match m.isRaw with
   | true => none
   | false => some m)
  | none => none
def cOper (P : Program) (nt : Nat) (ops : Array Oper) (o : Oper) : Option MOper :=
 bif dstOk nt o.dst then
  match cOp' P o.op with
  | none => none
  | some m => match o.guard with
   | none => some ⟨o.dst, none, m⟩
   | some (j, b) => match ops[j]? with
    | some g => match g.dst with
     | some d => some ⟨o.dst, some (d, b), m⟩
     | none => none
    | none => none
 else none
def isLk : Op → Bool
 | .lookup .. => true
 | .mapUpdate .. => true
 | _ => false
def cOpR (P : Program) (op : Op) : Option MOp :=
 match isLk op with
 | true => cOp P op
 | false => cOp' P op
def cOperR (P : Program) (nt : Nat) (ops : Array Oper) (o : Oper) : Option MOper :=
 bif dstOk nt o.dst then
  match cOpR P o.op with
  | none => none
  | some m => match o.guard with
   | none => some ⟨o.dst, none, m⟩
   | some (j, b) => match ops[j]? with
    | some g => match g.dst with
     | some d => some ⟨o.dst, some (d, b), m⟩
     | none => none
    | none => none
 else none
def cSeq (P : Program) (nt : Nat) (ops : Array Oper) : List Oper → Option (List MOper)
 | [] => some []
 | o :: r => match cOper P nt ops o, cSeq P nt ops r with
  | some m, some l => some (m :: l)
  | _, _ => none
abbrev ROp := MOper × Bool × Bool × Nat
def cRow (P : Program) (nt : Nat) (ops : Array Oper) (pl : Plan) : List Nat → Nat → List Nat → Option (List ROp)
 | [], _, _ => some []
 | i :: r, k, his => match ops[i]? with
  | none => none
  | some o => match cOperR P nt ops o with
   | none => none
   | some m => bif Nat.beq (cls o.op) 3 then
     match cRow P nt ops pl r (k + 1) his with
     | none => none
     | some l => some ((m, true, his.any fun h => Nat.blt k h, k) :: l)
    else bif Nat.beq (cls o.op) 0 then
     match cRow P nt ops pl r k his with
     | none => none
     | some l => some ((m, false, false, 0) :: l)
    else match cRow P nt ops pl r k (hiOf pl.M i (dropN k pl.es) k :: his) with
     | none => none
     | some l => some ((m, false, Nat.blt k (hiOf pl.M i (dropN k pl.es) k), hiOf pl.M i (dropN k pl.es) k) :: l)
def comp (P : Program) (nt : Nat) : Code → Option MC
 | .skip => some .skip
 | .region _ ops draw => match draw with
  | true => bif ops.toList.all noDefer then (match plan ops with
   | none => none
   | some pl => (cRow P nt ops pl pl.row 0 []).map .row) else none
  | false => (cSeq P nt ops ops.toList).map .reg
 | .seq a b => match comp P nt a, comp P nt b with
  | some x, some y => some (.seq x y)
  | _, _ => none
 | .cond c a b => bif okC c then (match comp P nt a, comp P nt b with
  | some x, some y => some (.cond c x y)
  | _, _ => none) else none
 | .block id c => (comp P nt c).map (.block id)
 | .loop c => (comp P nt c).map .loop
 | .exit id => some (.exit id)
 | .ret => some .ret
 | _ => none
def compF (P : Program) (f : FuncId) : Option MF :=
 match P.funcs[f]? with
 | none => none
 | some fn => match fn.body with
  | none => none
  | some c => (comp P fn.ntmps c).map fun m => ⟨fn.ntmps, fn.results.toList, m⟩
structure Box (p : Prop) : Prop where
 out : p
inductive RR where
 | val (v : Value)
 | new (b : ABlk) (v : Nat → Value)
 | eff (v : Value) (s : SS)
 | call (f : FuncId) (args : List Value)
def RR.toN : RR → ANext
 | .val v => .val v
 | .new b v => .new b v
 | .eff v s => .eff v s.st
 | .call f args => .enter f args
def opd (T : TL) (gl : Nat) : Operand → Option Value
 | .tmp t => look T t
 | .const v => some v
 | .global g => bif Nat.blt g gl then some (.pointer (some ⟨g, 0, none⟩)) else none
 | .func f => some (.func (.func f) #[] #[])
def opds (T : TL) (gl : Nat) : List Operand → Option (List Value)
 | [] => some []
 | x :: r => match opd T gl x with
  | none => none
  | some v => match opds T gl r with
   | none => none
   | some l => some (v :: l)
def opdPs (T : TL) (gl : Nat) : List (Nat × Nat × Operand) → Option (List (Nat × Nat × Value))
 | [] => some []
 | (o, n, x) :: r => match opd T gl x with
  | none => none
  | some v => match opdPs T gl r with
   | none => none
   | some l => some ((o, n, v) :: l)
def layM : List Value → List (Nat × Nat × Value) → Option (List Value)
 | c, [] => some c
 | c, (o, n, v) :: r => bif Nat.beq (flat v).length n then
   match setRow c o (flat v) with
   | none => none
   | some c' => layM c' r
  else none
def wInt (op : BinOp) (k : IntKind) (a b : Int) (K : Value → Prop) : Prop :=
 match op with
 | .add => ∀ z, z = k.wrap (a + b) → K (.int k z)
 | .sub => ∀ z, z = k.wrap (a - b) → K (.int k z)
 | .mul => ∀ z, z = k.wrap (a * b) → K (.int k z)
 | .quo => b ≠ 0 ∧ ∀ z, z = k.wrap (a.tdiv b) → K (.int k z)
 | .rem => b ≠ 0 ∧ ∀ z, z = a.tmod b → K (.int k z)
 | .and => ∀ z, z = k.wrap (BitVec.ofInt k.bits a &&& BitVec.ofInt k.bits b).toNat → K (.int k z)
 | .or => ∀ z, z = k.wrap (BitVec.ofInt k.bits a ||| BitVec.ofInt k.bits b).toNat → K (.int k z)
 | .xor => ∀ z, z = k.wrap (BitVec.ofInt k.bits a ^^^ BitVec.ofInt k.bits b).toNat → K (.int k z)
 | .andNot => ∀ z, z = k.wrap (BitVec.ofInt k.bits a &&& ~~~(BitVec.ofInt k.bits b)).toNat → K (.int k z)
 | .eql => ∀ c : Bool, c = decide (a = b) → K (.bool c)
 | .neq => ∀ c : Bool, c = decide (a ≠ b) → K (.bool c)
 | .lss => ∀ c : Bool, c = decide (a < b) → K (.bool c)
 | .leq => ∀ c : Bool, c = decide (a ≤ b) → K (.bool c)
 | .gtr => ∀ c : Bool, c = decide (b < a) → K (.bool c)
 | .geq => ∀ c : Bool, c = decide (b ≤ a) → K (.bool c)
 | _ => False
def wStr (op : BinOp) (a b : List UInt8) (K : Value → Prop) : Prop :=
 match op with
 | .add => a.length + b.length ≤ 1152921504606846976 ∧ ∀ l, l = a ++ b → K (.string ⟨⟨l⟩⟩)
 | .eql => ∀ c : Bool, c = decide (a = b) → K (.bool c)
 | .neq => ∀ c : Bool, c = decide (a ≠ b) → K (.bool c)
 | .lss => ∀ c : Bool, c = lssL a b → K (.bool c)
 | .leq => ∀ c : Bool, c = (lssL a b || beqL a b) → K (.bool c)
 | .gtr => ∀ c : Bool, c = (!(lssL a b || beqL a b)) → K (.bool c)
 | .geq => ∀ c : Bool, c = (!(lssL a b)) → K (.bool c)
 | _ => False
def wEql (e : EqK) (x y : Value) : Option Bool :=
 match e, x, y with
 | .bool, .bool a, .bool b => some (a == b)
 | .ptr, .pointer none, .pointer b => some b.isNone
 | .ptr, .pointer (some _), .pointer none => some false
 | .slice, .slice none _ _, .slice b _ _ => some b.isNone
 | .slice, .slice (some _) _ _, .slice none _ _ => some false
 | .map, .map none, .map b => some b.isNone
 | .map, .map (some _), .map none => some false
 | .func, .nilFunc, .nilFunc => some true
 | .func, .nilFunc, .func _ _ _ => some false
 | .func, .func _ _ _, .nilFunc => some false
 | .agg l, .agg ⟨xs⟩, .agg ⟨ys⟩ => eqCells l xs ys
 | _, _, _ => none
def wBin (op : BinOp) (e : EqK) (x y : Value) (K : Value → Prop) : Prop :=
 match x, y with
 | .int k a, .int k' b => (match op with
  | .shl => 0 ≤ b ∧ ∀ z, z = k.wrap (a * 2 ^ (min b.toNat k.bits)) → K (.int k z)
  | .shr => 0 ≤ b ∧ ∀ z, z = a.fdiv (2 ^ (min b.toNat k.bits)) → K (.int k z)
  | _ => match decide (k = k') with
   | true => wInt op k a b K
   | false => False)
 | .string ⟨⟨a⟩⟩, .string ⟨⟨b⟩⟩ => wStr op a b K
 | _, _ => match op, wEql e x y with
  | .eql, some c => ∀ d : Bool, d = c → K (.bool d)
  | .neq, some c => ∀ d : Bool, d = !c → K (.bool d)
  | _, _ => False
def wUn (op : UnOp) (x : Value) (K : Value → Prop) : Prop :=
 match op, x with
 | .neg, .int k n => ∀ z, z = k.wrap (0 - n) → K (.int k z)
 | .xor, .int k n => wInt .xor k (if k.signed then -1 else k.max) n K
 | .not, .bool b => ∀ c : Bool, c = !b → K (.bool c)
 | _, _ => False
def wIdx (v : Value) (len : Nat) (K : Nat → Prop) : Prop :=
 match v with
 | .int _ n => (0 ≤ n ∧ n < len) ∧ ∀ m : Nat, (m : Int) = n → K m
 | _ => False
def wBnd (v : Option Value) (dflt most : Nat) (K : Nat → Prop) : Prop :=
 match v with
 | none => K dflt
 | some (.int _ n) => (0 ≤ n ∧ n ≤ most) ∧ ∀ m : Nat, (m : Int) = n → K m
 | _ => False
def opdO (T : TL) (gl : Nat) : Option Operand → Option (Option Value)
 | none => some none
 | some x => match opd T gl x with
  | none => none
  | some v => some (some v)
def wSrc (s : SS) (size : Nat) (v : Value) (K : Nat → List Value → Prop) : Prop :=
 match v with
 | .slice none n _ => K n []
 | .slice (some ⟨b, off, none⟩) n _ => (match lookH s.heap b with
  | some (.cells c _ _ _) => ∃ new, takeN (n * size) (c.drop off) = some new ∧ K n new
  | _ => False)
 | .string ⟨⟨l⟩⟩ => ∀ new : List Value, new = bytesV l → K l.length new
 | _ => False
def wSrcN (s : SS) (size dl : Nat) (v : Value) (K : Nat → List Value → Prop) : Prop :=
 match v with
 | .slice none n _ => K (min n dl) []
 | .slice (some ⟨b, off, none⟩) n _ => (match lookH s.heap b with
  | some (.cells c _ _ _) => ∃ new, takeN (min n dl * size) (c.drop off) = some new ∧ K (min n dl) new
  | _ => False)
 | .string ⟨⟨l⟩⟩ => ∀ new : List Value, new = bytesV (l.take (min l.length dl)) → K (min l.length dl) new
 | _ => False
def wAppB (s : SS) (e : TypeId) (size bytes : Nat) (base : Option Addr) (len cap n : Nat) (new : List Value) (K : RR → Prop) : Prop :=
   ((len + n) * bytes ≤ 140737488355328 ∧ len + n ≤ 4294967296 ∧ new.length = n * size ∧ all1 new = true) ∧
   (match base with
   | none => (len + n ≤ cap → n = 0 ∧ K (.val (.slice none len cap))) ∧ (cap < len + n → len = 0 ∧ ∀ m, m = n → K (.eff (.slice (some ⟨s.next, 0, none⟩) m 0) { s with heap := (s.next, some (.cells new e true false)) :: s.heap, next := s.next + 1 }))
   | some ⟨b, off, none⟩ => (match lookH s.heap b with
    | some (.cells c t false ro) =>
     (len + n ≤ cap → ro = false ∧ ∃ c', setRow c (off + len * size) new = some c' ∧ ∀ m, m = len + n → K (.eff (.slice (some ⟨b, off, none⟩) m cap) { s with heap := (b, some (.cells c' t false false)) :: s.heap })) ∧
     (cap < len + n → ∃ old, takeN (len * size) (c.drop off) = some old ∧ ∀ m l, m = len + n → l = old ++ new → K (.eff (.slice (some ⟨s.next, 0, none⟩) m 0) { s with heap := (s.next, some (.cells l e true false)) :: s.heap, next := s.next + 1 }))
    | some (.cells c t true true) => (n = 0 → K (.val (.slice (some ⟨b, off, none⟩) len cap))) ∧
     (0 < n → cap = len + 1 ∧ ∃ old, takeN (len * size) (c.drop off) = some old ∧ ∀ m l, m = len + n → l = old ++ new → K (.eff (.slice (some ⟨s.next, 0, none⟩) m 0) { s with heap := (s.next, some (.cells l e true false)) :: s.heap, next := s.next + 1 }))
    | some (.cells c t true ro) => (n = 0 → K (.val (.slice (some ⟨b, off, none⟩) len cap))) ∧
     (0 < n → ro = false ∧ t = e ∧ ∃ old, takeN (len * size) (c.drop off) = some old ∧ ∀ m l, m = len + n → l = old ++ new → K (.eff (.slice (some ⟨s.next, 0, none⟩) m 0) { s with heap := (s.next, some (.cells l e true false)) :: (b, none) :: s.heap, next := s.next + 1 }))
    | some (.held c t) => (off = 0 ∧ 0 < len ∧ c.length = len * size ∧ t = e) ∧ (n = 0 → K (.eff (.slice (some ⟨b, off, none⟩) len cap) { s with heap := (b, some (.cells c t true true)) :: s.heap })) ∧
     (0 < n → ∀ m, m = len + n → K (.eff (.slice (some ⟨s.next, 0, none⟩) m 0) { s with heap := (s.next, some (.cells (c ++ new) e true true)) :: (b, some (.cells c t true true)) :: s.heap, next := s.next + 1 }))
    | _ => False)
   | _ => False)
def wN (P : Program) (m : MOp) (T : TL) (s : SS) (K : RR → Prop) : Prop :=
 match m with
 | .mov x => (match opd T s.gl x with
  | some v => K (.val v)
  | none => False)
 | .pick c a b => (match opd T s.gl c with
  | some (.bool true) => (match opd T s.gl a with
   | some v => K (.val v)
   | none => False)
  | some (.bool false) => (match opd T s.gl b with
   | some v => K (.val v)
   | none => False)
  | _ => False)
 | .bin op e x y => (match opd T s.gl x, opd T s.gl y with
  | some a, some b => wBin op e a b fun v => K (.val v)
  | _, _ => False)
 | .shlC n x => (match opd T s.gl x with
  | some (.int k a) => ∀ z, z = k.wrap (a * 2 ^ n) → K (.val (.int k z))
  | _ => False)
 | .shrC n x => (match opd T s.gl x with
  | some (.int k a) => (match Nat.ble n k.bits with
   | true => ∀ z, z = a.fdiv (2 ^ n) → K (.val (.int k z))
   | false => False)
  | _ => False)
 | .un op x => (match opd T s.gl x with
  | some a => wUn op a fun v => K (.val v)
  | none => False)
 | .toInt k x => (match opd T s.gl x with
  | some (.int _ n) => ∀ z, z = k.wrap n → K (.val (.int k z))
  | _ => False)
 | .ldI k x => (match opd T s.gl x with
  | some (.pointer (some ⟨b, off, none⟩)) => (match lookH s.heap b with
   | some (.cells c _ _ _) => ∃ n, c[off]? = some (.int k n) ∧ K (.val (.int k n))
   | _ => False)
  | _ => False)
 | .ldB x => (match opd T s.gl x with
  | some (.pointer (some ⟨b, off, none⟩)) => (match lookH s.heap b with
   | some (.cells c _ _ _) => ∃ d, c[off]? = some (.bool d) ∧ K (.val (.bool d))
   | _ => False)
  | _ => False)
 | .ldS x => (match opd T s.gl x with
  | some (.pointer (some ⟨b, off, none⟩)) => (match lookH s.heap b with
   | some (.cells c _ _ _) => ∃ l, c[off]? = some (.string ⟨⟨l⟩⟩) ∧ K (.val (.string ⟨⟨l⟩⟩))
   | _ => False)
  | _ => False)
 | .ld1 x => (match opd T s.gl x with
  | some (.pointer (some ⟨b, off, none⟩)) => (match lookH s.heap b with
   | some (.cells c _ _ _) => ∃ v, c[off]? = some v ∧ K (.val v)
   | _ => False)
  | _ => False)
 | .ldN n x => (match opd T s.gl x with
  | some (.pointer (some ⟨b, off, none⟩)) => (match lookH s.heap b with
   | some (.cells c _ _ _) => ∃ l, takeN n (c.drop off) = some l ∧ K (.val (.agg ⟨l⟩))
   | _ => False)
  | _ => False)
 | .st n x y => (match opd T s.gl x, opd T s.gl y with
  | some (.pointer (some ⟨b, off, none⟩)), some v => (match lookH s.heap b with
   | some (.cells c e g false) => (match Nat.beq (flat v).length n && all1 (flat v) with
    | true => ∃ c', setRow c off (flat v) = some c' ∧ K (.eff (.tuple #[]) { s with heap := (b, some (.cells c' e g false)) :: s.heap })
    | false => False)
   | _ => False)
  | _, _ => False)
 | .faddr f x => (match opd T s.gl x with
  | some (.pointer (some ⟨b, off, none⟩)) => K (.val (.pointer (some ⟨b, off + f, none⟩)))
  | _ => False)
 | .fld1 f x => (match opd T s.gl x with
  | some (.agg ⟨cs⟩) => (match cs[f]? with
   | some v => K (.val v)
   | none => False)
  | _ => False)
 | .fldN f n x => (match opd T s.gl x with
  | some (.agg ⟨cs⟩) => (match takeN n (cs.drop f) with
   | some l => K (.val (.agg ⟨l⟩))
   | none => False)
  | _ => False)
 | .ixa z x i => (match opd T s.gl x, opd T s.gl i with
  | some (.slice (some ⟨b, off, none⟩) len _), some iv => wIdx iv len fun m => ∀ o, o = off + m * z → K (.val (.pointer (some ⟨b, o, none⟩)))
  | _, _ => False)
 | .ixaA len z x i => (match opd T s.gl x, opd T s.gl i with
  | some (.pointer (some ⟨b, off, none⟩)), some iv => wIdx iv len fun m => ∀ o, o = off + m * z → K (.val (.pointer (some ⟨b, o, none⟩)))
  | _, _ => False)
 | .ixS x i => (match opd T s.gl x, opd T s.gl i with
  | some (.string ⟨⟨l⟩⟩), some iv => wIdx iv l.length fun m => ∃ c, l[m]? = some c ∧ K (.val (.int .u8 c.toNat))
  | _, _ => False)
 | .ext x i => (match opd T s.gl x with
  | some (.tuple ⟨vs⟩) => (match vs[i]? with
   | some v => K (.val v)
   | none => False)
  | _ => False)
 | .lenS x => (match opd T s.gl x with
  | some (.string ⟨⟨l⟩⟩) => ∀ n : Int, n = l.length → K (.val (.int .i64 n))
  | _ => False)
 | .lenL x => (match opd T s.gl x with
  | some (.slice _ n _) => K (.val (.int .i64 n))
  | _ => False)
 | .alloc e z => K (.new (.cells z e false false) fun id => .pointer (some ⟨id, 0, none⟩))
 | .box e x => (match opd T s.gl x with
  | some v => K (.new (.cells (flat v) e false false) fun id => .pointer (some ⟨id, 0, none⟩))
  | none => False)
 | .agg z ps => (match opdPs T s.gl ps with
  | some l => (match layM z l with
   | some c => K (.val (.agg ⟨c⟩))
   | none => False)
  | none => False)
 | .mkS e len z ps => (match opdPs T s.gl ps with
  | some l => (match layM z l with
   | some c => K (.new (.cells c e false false) fun id => .slice (some ⟨id, 0, none⟩) len len)
   | none => False)
  | none => False)
 | .slS x lo hi => (match opd T s.gl x, opdO T s.gl lo, opdO T s.gl hi with
  | some (.string ⟨⟨l⟩⟩), some lo, some hi => wBnd hi l.length l.length fun h => wBnd lo 0 h fun a => ∀ r, r = (l.drop a).take (h - a) → K (.val (.string ⟨⟨r⟩⟩))
  | _, _, _ => False)
 | .slL z x lo hi => (match opd T s.gl x, opdO T s.gl lo, opdO T s.gl hi with
  | some (.slice none len cap), some lo, some hi => wBnd hi len cap fun h => wBnd lo 0 h fun a => K (.val (.slice none (h - a) (cap - a)))
  | some (.slice (some ⟨b, off, none⟩) len cap), some lo, some hi => (match lookH s.heap b with
   | some (.cells _ t g _) => (match g with
    | true => sizeB P t = some z ∧ wBnd hi len len fun h => wBnd lo 0 h fun a => ∀ o n, o = off + a * z → n = h - a → K (.val (.slice (some ⟨b, o, none⟩) n 0))
    | false => wBnd hi len cap fun h => wBnd lo 0 h fun a => ∀ o n d, o = (if cap = a then off else off + a * z) → n = h - a → d = cap - a → K (.val (.slice (some ⟨b, o, none⟩) n d)))
   | _ => False)
  | _, _, _ => False)
 | .slA n z x lo hi => (match opd T s.gl x, opdO T s.gl lo, opdO T s.gl hi with
  | some (.pointer (some ⟨b, off, none⟩)), some lo, some hi => (match lookH s.heap b with
   | some (.cells _ _ false _) => wBnd hi n n fun h => wBnd lo 0 h fun a => ∀ o m d, o = (if n = a then off else off + a * z) → m = h - a → d = n - a → K (.val (.slice (some ⟨b, o, none⟩) m d))
   | _ => False)
  | _, _, _ => False)
 | .toStr x => (match opd T s.gl x with
  | some (.slice none _ _) => K (.val (.string ⟨⟨[]⟩⟩))
  | some (.slice (some ⟨b, off, none⟩) len _) => (match lookH s.heap b with
   | some (.cells c _ _ _) => ∃ l, takeN len (c.drop off) = some (bytesV l) ∧ K (.val (.string ⟨⟨l⟩⟩))
   | _ => False)
  | _ => False)
 | .toBytes e x => (match opd T s.gl x with
  | some (.string ⟨⟨l⟩⟩) => l.length ≤ 9223372036854775807 ∧ K (.new (.cells (bytesV l) e true false) fun id => .slice (some ⟨id, 0, none⟩) l.length 0)
  | _ => False)
 | .app e size bytes x y => (match opd T s.gl x, opd T s.gl y with
  | some (.slice base len cap), some v => wSrc s size v fun n new => wAppB s e size bytes base len cap n new K
  | _, _ => False)
 | .appZ e size bytes z x y => (match opd T s.gl x, opd T s.gl y with
  | some (.slice base len cap), some (.int _ k) => (0 ≤ k ∧ k ≤ 1073741824) ∧ ∀ n : Nat, (n : Int) = k → ∀ new, new = repeatL n z → wAppB s e size bytes base len cap n new K
  | _, _ => False)
 | .cpy size x y => (match opd T s.gl x, opd T s.gl y with
  | some (.slice base dl _), some v => wSrcN s size dl v fun n new => (n = 0 → K (.val (.int .i64 n))) ∧ (0 < n → all1 new = true ∧ match base with
   | some ⟨b, off, none⟩ => (match lookH s.heap b with
    | some (.cells c e g false) => ∃ c', setRow c off new = some c' ∧ K (.eff (.int .i64 n) { s with heap := (b, some (.cells c' e g false)) :: s.heap })
    | _ => False)
   | _ => False)
  | _, _ => False)
 | .nilC x => (match opd T s.gl x with
  | some (.pointer (some a)) => K (.val (.pointer (some a)))
  | _ => False)
 | .mm mx x y => (match opd T s.gl x, opd T s.gl y with
  | some (.int k a), some (.int _ b) => (match mx with
   | true => ∀ z, z = max a b → K (.val (.int k z))
   | false => ∀ z, z = min a b → K (.val (.int k z)))
  | _, _ => False)
 | .mkN e bytes z l c => (match opd T s.gl l, opd T s.gl c with
  | some (.int _ l), some (.int _ c) => (0 ≤ l ∧ l ≤ c ∧ bytes * c ≤ 140737488355328 ∧ c ≤ 1073741824) ∧
   ∀ m n : Nat, (m : Int) = l → (n : Int) = c → ∀ cs, cs = repeatL n z → K (.new (.cells cs e false false) fun id => .slice (some ⟨id, 0, none⟩) m n)
  | _, _ => False)
 | .mark x => (match opd T s.gl x with
  | some (.slice (some ⟨b, off, none⟩) l c) => (match lookH s.heap b with
   | some (.cells _ _ false false) => K (.eff (.slice (some ⟨b, off, none⟩) l c) s)
   | _ => False)
  | _ => False)
 | .call f args => (match opds T s.gl args with
  | some l => K (.call f l)
  | none => False)
 | .gen op => ∃ r : RR, aOp P (toTr T) s.st op = some r.toN ∧ K r
 | .raw _ => False
def wG (T : TL) (g : Option (Tmp × Bool)) (run skip : Prop) : Prop :=
 match g with
 | none => run
 | some (d, b) => match look T d with
  | some (.bool c) => (match c, b with
   | true, true => run
   | false, false => run
   | true, false => skip
   | false, true => skip)
  | some (.tuple _) => skip
  | _ => False
def wSeq (P : Program) : List MOper → TL → SS → (TL → SS → Prop) → Prop
 | [], T, s, Q => Q T s
 | o :: l, T, s, Q => wG T o.grd
  (match o.op with
  | .raw op => OpW P op T s fun v s' => Box (wSeq P l (putL T o.dst v) s' Q)
  | m => wN P m T s fun r => match r with
   | .val v => Box (wSeq P l (putL T o.dst v) s Q)
   | .new b v => Box (wSeq P l (putL T o.dst (v s.next)) { s with heap := (s.next, some b) :: s.heap, next := s.next + 1 } Q)
   | .eff v s' => Box (wSeq P l (putL T o.dst v) s' Q)
   | .call f args => CallW P f args s fun v s' => Box (wSeq P l (putL T o.dst v) s' Q))
  (Box (wSeq P l (putL T o.dst (.tuple #[])) s Q))
def Keep (s s' : SS) : Prop := s'.gl = s.gl ∧ ∀ id b, lookH s.heap id = some b → lookH s'.heap id = some b
inductive PRec where
 | rd (hi : Nat) (m : MOp) (T : TL) (v : Value)
 | nw (hi id : Nat) (b : ABlk)
def Agn (P : Program) (k : Nat) (s : SS) : List PRec → Prop
 | [] => True
 | .rd hi m T v :: r => (k < hi → wN P m T s fun x => x = .val v) ∧ Agn P k s r
 | .nw hi id b :: r => (k < hi → lookH s.heap id = some b) ∧ Agn P k s r
def wKeep (P : Program) (chk : Bool) (k : Nat) (pd : List PRec) (s s' : SS) : Prop :=
 match chk with
 | true => Keep s s' ∨ Agn P k s' pd
 | false => True
def pdV (chk : Bool) (hi : Nat) (m : MOp) (T : TL) (v : Value) (pd : List PRec) : List PRec :=
 match chk with
 | true => .rd hi m T v :: pd
 | false => pd
def pdN (chk : Bool) (hi id : Nat) (b : ABlk) (pd : List PRec) : List PRec :=
 match chk with
 | true => .nw hi id b :: pd
 | false => pd
def wRow (P : Program) : List ROp → List PRec → TL → SS → (TL → SS → Prop) → Prop
 | [], _, T, s, Q => Q T s
 | (o, loud, chk, k) :: l, pd, T, s, Q => wG T o.grd
  (wN P o.op T s fun r => match r with
   | .val v => Box (wRow P l (pdV chk k o.op T v pd) (putL T o.dst v) s Q)
   | .new b v => (match lookH s.heap s.next with
    | none => Box (wRow P l (pdN chk k s.next b pd) (putL T o.dst (v s.next)) { s with heap := (s.next, some b) :: s.heap, next := s.next + 1 } Q)
    | some _ => False)
   | .eff v s' => wKeep P chk k pd s s' ∧ Box (wRow P l pd (putL T o.dst v) s' Q)
   | .call f args => CallW P f args s fun v s' => wKeep P chk k pd s s' ∧ Box (wRow P l pd (putL T o.dst v) s' Q))
  (Box (wRow P l pd (putL T o.dst (.tuple #[])) s Q))
def MW (P : Program) (nt k : Nat) (m : MC) (T : TL) (s : SS) (Q : AExit → TL → SS → Prop) : Prop :=
 ∀ c, comp P nt c = some m → W P nt k c T s Q
def wp (P : Program) (nt k : Nat) : MC → TL → SS → (AExit → TL → SS → Prop) → Prop
 | .skip, T, s, Q => Q .normal T s
 | .reg ops, T, s, Q => wSeq P ops T s fun T s => Q .normal T s
 | .row ops, T, s, Q => ∃ T' s', Wk P nt k T s T' s' ∧ wRow P ops [] T' s' fun T s => Q .normal T s
 | .seq a b, T, s, Q => wp P nt k a T s fun ex T s => match ex with
  | .normal => Box (wp P nt k b T s Q)
  | .exit id => Q (.exit id) T s
  | .ret => Q .ret T s
 | .cond c a b, T, s, Q => (match opd T s.gl c with
  | some (.bool true) => Box (wp P nt k a T s Q)
  | some (.bool false) => Box (wp P nt k b T s Q)
  | _ => False)
 | .block id c, T, s, Q => wp P nt k c T s fun ex T s => match ex with
  | .exit i => (match Nat.beq i id with
   | true => Q .normal T s
   | false => Q (.exit i) T s)
  | .normal => Q .normal T s
  | .ret => Q .ret T s
 | .loop c, T, s, Q => MW P nt k (.loop c) T s Q
 | .exit id, T, s, Q => Q (.exit id) T s
 | .ret, T, s, Q => Q .ret T s
def resS (P : Program) (T : TL) (s : SS) : List ResultVar → Option (List Value)
 | [] => some []
 | .tmp t :: r => (match look T t, resS P T s r with
  | some v, some l => some (v :: l)
  | _, _ => none)
 | .cell a t :: r => (match aOp P (toTr T) s.st (.load t (.tmp a)), resS P T s r with
  | some (.val v), some l => some (v :: l)
  | _, _ => none)
def wF (P : Program) (m : MF) (args : List Value) (s : SS) (K : Value → SS → Prop) : Prop :=
 Box (wp P m.nt s.next m.body (argsL args 0) s fun ex T s => match ex with
  | .exit _ => False
  | .normal | .ret => (match resS P T s m.res with
   | some l => K (one l) s
   | none => False))
end Go.Vf
end
section
namespace Go.Vf
open Go.RowKit
set_option linter.unusedVariables false
set_option linter.unusedSimpArgs false
section
variable {P : Program} {T : TL} {s : SS} {K : RR → Prop}
theorem opd_ok {x : Operand} {v : Value} (hc : okC x = true) (h : opd T s.gl x = some v) : operand (toTr T) s.st x = some v := by
 cases x with
 | tmp t => simp only [operand, toTr_get]; exact h
 | const c => simp only [okC] at hc; simp only [opd] at h; simp only [operand, hc, cond_true]; exact h
 | global g => exact h
 | func f => exact h
theorem opds_ok : ∀ {l : List Operand} {vs : List Value}, okCs l = true → opds T s.gl l = some vs → operands (toTr T) s.st l = some vs
 | [], vs, _, h => h
 | x :: r, vs, hc, h => by
  simp only [okCs, Bool.and_eq_true] at hc
  simp only [opds] at h
  split at h
  ·cases h
  ·rename_i v hv
   split at h
   ·cases h
   ·rename_i l hl
    cases h
    simp only [operands, opd_ok hc.1 hv, opds_ok hc.2 hl]
theorem opdO_ok {x : Option Operand} {v : Option Value} (hc : okO x = true) (h : opdO T s.gl x = some v) : opt (toTr T) s.st x = some v := by
 cases x with
 | none => exact h
 | some x =>
  simp only [opdO] at h
  split at h
  ·cases h
  ·rename_i v hv
   cases h
   simp only [opt, opd_ok hc hv]
theorem beqL_dec : ∀ (a b : List UInt8), beqL a b = decide (a = b)
 | [], [] => rfl
 | [], b :: y => rfl
 | a :: x, [] => rfl
 | a :: x, b :: y => by
  simp only [beqL]
  rcases beq_cases a.toNat b.toNat with ⟨h, hb⟩ | ⟨h, hb⟩
  ·rw [hb, cond_true, beqL_dec x y]
   have : a = b := UInt8.toNat_inj.1 h
   simp [this]
  ·rw [hb, cond_false]
   have : a ≠ b := fun e => h (by rw [e])
   simp [this]
theorem wInt_ok {op : BinOp} {k : IntKind} {a b : Int} {K : Value → Prop} (h : wInt op k a b K) : ∃ v, intBin op k a b = some v ∧ K v := by
 cases op <;> simp only [wInt] at h <;> simp only [intBin] <;> first
  | exact ⟨_, rfl, h _ rfl⟩
  | exact ⟨_, if_neg h.1, h.2 _ rfl⟩
  | exact h.elim
  | exact ⟨_, rfl, h _ (Bool.eq_iff_iff.2 (by simp))⟩
theorem wStr_ok {op : BinOp} {a b : List UInt8} {K : Value → Prop} (h : wStr op a b K) : ∃ v, strBin op ⟨⟨a⟩⟩ ⟨⟨b⟩⟩ = some v ∧ K v := by
 cases op with
 | add =>
  refine ⟨_, ?_, h.2 _ rfl⟩
  have : Nat.ble (a.length + b.length) 1152921504606846976 = true := by rw [Nat.ble_eq]; exact h.1
  simp only [strBin, this, cond_true]
 | eql => exact ⟨_, rfl, h _ (beqL_dec a b)⟩
 | neq => exact ⟨_, rfl, h _ (by simp only [beqL_dec]; by_cases e : a = b <;> simp [e])⟩
 | lss => exact ⟨_, rfl, h _ rfl⟩
 | leq => exact ⟨_, rfl, h _ rfl⟩
 | gtr => exact ⟨_, rfl, h _ rfl⟩
 | geq => exact ⟨_, rfl, h _ rfl⟩
 | _ => exact h.elim
theorem eqKind_inv {t : TypeId} {e : EqK} (h : eqKind P t = e) (he : e ≠ .none) : (e = .bool ∧ P.underlying t = some .bool) ∨ (e = .ptr ∧ ∃ a, P.underlying t = some (.pointer a)) ∨ (e = .slice ∧ ∃ a, P.underlying t = some (.slice a)) ∨
    (e = .map ∧ ∃ a b, P.underlying t = some (.map a b)) ∨ (e = .func ∧ ∃ a b c, P.underlying t = some (.func a b c)) ∨ (∃ l a, e = .agg l ∧ P.underlying t = some (.struct a) ∧ eqKinds P t = some l) ∨ (∃ l a b, e = .agg l ∧ P.underlying t = some (.array a b) ∧ eqKinds P t = some l) := by
  unfold eqKind at h
  split at h <;> first
    | (rename_i hu; subst h; simp_all; done)
    | (rename_i a hu
       split at h
       · rename_i l hl
         subst h
         exact .inr (.inr (.inr (.inr (.inr (.inl ⟨l, a, rfl, hu, hl⟩)))))
       · exact absurd h.symm he)
    | (rename_i a b hu
       split at h
       · rename_i l hl
         subst h
         exact .inr (.inr (.inr (.inr (.inr (.inr ⟨l, a, b, rfl, hu, hl⟩)))))
       · exact absurd h.symm he)
theorem wEql_ok {t : TypeId} {x y : Value} {c : Bool} (h : wEql (eqKind P t) x y = some c) : eqlOther P t x y = some c := by
 generalize he : eqKind P t = e at h
 have hne : e ≠ .none := fun q => by subst q; simp [wEql] at h
 unfold wEql at h
 unfold eqlOther
 rcases eqKind_inv he hne with ⟨rfl, hu⟩ | ⟨rfl, a, hu⟩ | ⟨rfl, a, hu⟩ | ⟨rfl, a, b, hu⟩ | ⟨rfl, a, b, d, hu⟩ | ⟨l, a, rfl, hu, hl⟩ | ⟨l, a, b, rfl, hu, hl⟩ <;> rw [hu] <;> split at h <;> first
  | contradiction
  | exact h
  | (rename_i e1; cases e1; unfold eqlAgg; rw [hl]; exact h)
  | (rename_i e1 _ _; cases e1; done)
theorem wBin_ok {op : BinOp} {t : TypeId} {x y : Value} {K : Value → Prop} (h : wBin op (eqKind P t) x y K) : ∃ v, binV P op t x y = some v ∧ K v := by
 unfold wBin at h
 split at h
 ·rename_i k a k' b
  have main : ∀ (q : (match decide (k = k') with | true => wInt op k a b K | false => False)), ∃ v, (if k = k' then intBin op k a b else none) = some v ∧ K v := by
   intro q
   split at q
   ·rename_i hk
    have hk := of_decide_eq_true hk
    obtain ⟨v, h1, h2⟩ := wInt_ok q
    exact ⟨v, by rw [if_pos hk]; exact h1, h2⟩
   ·exact q.elim
  cases op with
  | shl => exact ⟨_, by simp only [binV, shiftBin]; rw [if_neg (by omega)], h.2 _ rfl⟩
  | shr => exact ⟨_, by simp only [binV, shiftBin]; rw [if_neg (by omega)], h.2 _ rfl⟩
  | _ => exact main h
 ·rename_i a b
  obtain ⟨v, h1, h2⟩ := wStr_ok h
  refine ⟨v, ?_, h2⟩
  cases op <;> first | exact h1 | exact (h : False).elim
 ·rename_i hx hy
  split at h
  ·rename_i c hc
   refine ⟨_, ?_, h _ rfl⟩
   have := wEql_ok hc
   unfold binV
   split
   ·rename_i e; cases e
   ·rename_i e; cases e
   ·exact (hx _ _ _ _ rfl rfl).elim
   ·exact (hy _ _ rfl rfl).elim
   ·rw [this]; rfl
   ·rename_i e _ _; cases e
   ·simp_all
  ·rename_i c hc
   refine ⟨_, ?_, h _ rfl⟩
   have := wEql_ok hc
   unfold binV
   split
   ·rename_i e; cases e
   ·rename_i e; cases e
   ·exact (hx _ _ _ _ rfl rfl).elim
   ·exact (hy _ _ rfl rfl).elim
   ·rename_i e _ _; cases e
   ·rw [this]; rfl
   ·simp_all
  ·exact h.elim
theorem wUn_ok {op : UnOp} {x : Value} {K : Value → Prop} (h : wUn op x K) : ∃ v, unV op x = some v ∧ K v := by
 unfold wUn at h
 split at h
 ·exact ⟨_, rfl, h _ rfl⟩
 ·exact wInt_ok h
 ·exact ⟨_, rfl, h _ rfl⟩
 ·exact h.elim
theorem wIdx_ok {v : Value} {len : Nat} {K : Nat → Prop} (h : wIdx v len K) : ∃ n, idx v len = some n ∧ K n := by
 unfold wIdx at h
 split at h
 ·rename_i k n
  obtain ⟨⟨h1, h2⟩, h3⟩ := h
  obtain ⟨m, rfl⟩ := Int.eq_ofNat_of_zero_le h1
  refine ⟨m, ?_, h3 m rfl⟩
  have : Nat.blt m len = true := by rw [Nat.blt_eq]; omega
  show (bif Nat.blt m len then some m else none) = some m
  rw [this]; rfl
 ·exact h.elim
theorem wBnd_ok {v : Option Value} {d most : Nat} {K : Nat → Prop} (h : wBnd v d most K) : ∃ n, bound v d most = some n ∧ K n := by
 unfold wBnd at h
 split at h
 ·exact ⟨_, rfl, h⟩
 ·rename_i k n
  obtain ⟨⟨h1, h2⟩, h3⟩ := h
  obtain ⟨m, rfl⟩ := Int.eq_ofNat_of_zero_le h1
  refine ⟨m, ?_, h3 m rfl⟩
  have : Nat.ble m most = true := by rw [Nat.ble_eq]; omega
  show (bif Nat.ble m most then some m else none) = some m
  rw [this]; rfl
 ·exact h.elim
theorem addL (b off n : Nat) : (⟨b, off, none⟩ : Addr).add n = ⟨b, off + n, none⟩ := by
 unfold Addr.add
 by_cases h : n = 0
 ·subst h; simp
 ·rw [if_neg h]
theorem loadRow_L {b off n : Nat} {c : List Value} {e : TypeId} {g r : Bool} (h : lookH s.heap b = some (.cells c e g r)) : loadRow s.st ⟨b, off, none⟩ n = takeN n (c.drop off) := by
 simp only [loadRow, Option.isSome_none, cond_false, SS.get, h]
theorem loadCell_L {b off : Nat} {c : List Value} {e : TypeId} {g r : Bool} (h : lookH s.heap b = some (.cells c e g r)) : loadCell s.st ⟨b, off, none⟩ = c[off]? := by
 simp only [loadCell, Option.isSome_none, cond_false, SS.get, h]
theorem growOf_L {b off : Nat} {c : List Value} {e : TypeId} {g r : Bool} (h : lookH s.heap b = some (.cells c e g r)) : growOf s.st ⟨b, off, none⟩ = some (g, e) := by
 simp only [growOf, SS.get, h]
theorem storeRow_L {b off : Nat} {c c' vs : List Value} {e : TypeId} {g : Bool} (h : lookH s.heap b = some (.cells c e g false)) (hs : setRow c off vs = some c') :
  storeRow s.st ⟨b, off, none⟩ vs = some (SS.st { s with heap := (b, some (.cells c' e g false)) :: s.heap }) := by
 simp only [storeRow, Option.isSome_none, cond_false, SS.get, h, hs]
 rfl
theorem layM_ok {P : Program} {fields : Array Field} : ∀ {ps : List (Nat × Operand)} {l : List (Nat × Nat × Operand)} {vs : List (Nat × Nat × Value)} {c c' : List Value}, placesS P fields ps = some l → opdPs T s.gl l = some vs → layM c vs = some c' →
  ∃ ws, partsOf (toTr T) s.st ps = some ws ∧ layAt (fun i => match fields[i]? with | none => none | some f => match sizeB P f.type with | none => none | some n => some (f.offset, n)) c ws = some c'
 | [], l, vs, c, c', h1, h2, h3 => by
  simp only [placesS] at h1; cases h1
  simp only [opdPs] at h2; cases h2
  simp only [layM] at h3
  exact ⟨[], rfl, h3⟩
 | (i, x) :: r, l, vs, c, c', h1, h2, h3 => by
  simp only [placesS] at h1
  split at h1
  ·cases h1
  ·rename_i f hf
   split at h1
   ·rename_i n l1 hn hl1
    cases hx : okC x with
    | false => simp only [hx, cond_false] at h1; cases h1
    | true =>
     simp only [hx, cond_true] at h1; cases h1
     simp only [opdPs] at h2
     split at h2
     ·cases h2
     ·rename_i v hv
      split at h2
      ·cases h2
      ·rename_i vs1 hvs1
       cases h2
       simp only [layM] at h3
       cases hb : Nat.beq (flat v).length n with
       | false => simp only [hb, cond_false] at h3; cases h3
       | true =>
        simp only [hb, cond_true] at h3
        split at h3
        ·cases h3
        ·rename_i c1 hc1
         obtain ⟨ws, q1, q2⟩ := layM_ok hl1 hvs1 h3
         refine ⟨(i, v) :: ws, ?_, ?_⟩
         ·simp only [partsOf, opd_ok hx hv, q1]
         ·simp only [layAt, hf, hn, hb, cond_true, hc1]
          exact q2
   ·cases h1
theorem layA_ok {n : Nat} : ∀ {ps : List (Nat × Operand)} {l : List (Nat × Nat × Operand)} {vs : List (Nat × Nat × Value)} {c c' : List Value}, placesA n ps = some l → opdPs T s.gl l = some vs → layM c vs = some c' →
  ∃ ws, partsOf (toTr T) s.st ps = some ws ∧ layAt (fun i => some (i * n, n)) c ws = some c'
 | [], l, vs, c, c', h1, h2, h3 => by
  simp only [placesA] at h1; cases h1
  simp only [opdPs] at h2; cases h2
  simp only [layM] at h3
  exact ⟨[], rfl, h3⟩
 | (i, x) :: r, l, vs, c, c', h1, h2, h3 => by
  simp only [placesA] at h1
  split at h1
  ·rename_i l1 hl1
   cases hx : okC x with
   | false => simp only [hx, cond_false] at h1; cases h1
   | true =>
    simp only [hx, cond_true] at h1; cases h1
    simp only [opdPs] at h2
    split at h2
    ·cases h2
    ·rename_i v hv
     split at h2
     ·cases h2
     ·rename_i vs1 hvs1
      cases h2
      simp only [layM] at h3
      cases hb : Nat.beq (flat v).length n with
      | false => simp only [hb, cond_false] at h3; cases h3
      | true =>
       simp only [hb, cond_true] at h3
       split at h3
       ·cases h3
       ·rename_i c1 hc1
        obtain ⟨ws, q1, q2⟩ := layA_ok hl1 hvs1 h3
        refine ⟨(i, v) :: ws, ?_, ?_⟩
        ·simp only [partsOf, opd_ok hx hv, q1]
        ·simp only [layAt, hb, cond_true, hc1]
         exact q2
  ·cases h1
theorem bytesOf_map : ∀ (l : List UInt8), bytesOf (bytesV l) = some l
 | [] => rfl
 | b :: l => by
  have := bytesOf_map l
  simp only [bytesV] at this
  simp only [bytesV, List.map_cons, bytesOf, this]
  congr 2
  simp
theorem srcS {size n : Nat} {v : Value} {new : List Value} {KK : Nat → List Value → Prop} (h : wSrc s size v KK) : ∃ n new, srcLen v = some n ∧ srcCells s.st size n v = some new ∧ KK n new := by
 unfold wSrc at h
 split at h
 ·exact ⟨_, _, rfl, rfl, h⟩
 ·rename_i b off m _
  split at h
  ·rename_i c _ _ _ hc
   obtain ⟨nw, h1, h2⟩ := h
   exact ⟨m, nw, rfl, by simp only [srcCells, loadRow_L hc]; exact h1, h2⟩
  ·exact h.elim
 ·rename_i l
  refine ⟨l.length, _, rfl, ?_, h _ rfl⟩
  simp only [srcCells]
  rw [List.take_of_length_le (Nat.le_refl _)]
  rfl
 ·exact h.elim
theorem srcN {size dl : Nat} {v : Value} {KK : Nat → List Value → Prop} (h : wSrcN s size dl v KK) : ∃ sl new, srcLen v = some sl ∧ srcCells s.st size (min sl dl) v = some new ∧ KK (min sl dl) new := by
 unfold wSrcN at h
 split at h
 ·exact ⟨_, _, rfl, rfl, h⟩
 ·rename_i b off m _
  split at h
  ·rename_i c _ _ _ hc
   obtain ⟨nw, h1, h2⟩ := h
   exact ⟨m, nw, rfl, by simp only [srcCells, loadRow_L hc]; exact h1, h2⟩
  ·exact h.elim
 ·rename_i l
  exact ⟨l.length, _, rfl, rfl, h _ rfl⟩
 ·exact h.elim
theorem wAppB_ok {e t t' : TypeId} {ts : List TypeId} {i : TypeInfo} {z v : Value} {base : Option Addr} {len cap n : Nat} {new : List Value} (hu : P.underlying t = some (.slice e)) (hi : P.info? e = some i) (hz : zeroB P e = some z) (hfz : Nat.beq (flat z).length i.size = true)
  (happ : appended P s.st i.size e (some t') v = some (new, n)) (h : wAppB s e i.size i.bytes base len cap n new K) : ∃ r : RR, appendV P s.st (t :: t' :: ts) [.slice base len cap, v] = some r.toN ∧ K r := by
   obtain ⟨⟨b1, b2, b3, b4⟩, h⟩ := h
   have e1 : Nat.ble ((len + n) * i.bytes) 140737488355328 = true := by rw [Nat.ble_eq]; exact b1
   have e2 : Nat.ble (len + n) 4294967296 = true := by rw [Nat.ble_eq]; exact b2
   have e3 : Nat.beq new.length (n * i.size) = true := by rw [Nat.beq_eq]; exact b3
   simp only [appendV, hu, hi, hz, happ, e1, e2, e3, hfz, b4, Bool.and_self, cond_true]
   cases base with
   | none =>
    simp only
    rcases Nat.lt_or_ge cap (len + n) with q | q
    ·have qb : Nat.ble (len + n) cap = false := by rw [← Bool.not_eq_true, Nat.ble_eq]; omega
     obtain ⟨h0, h1⟩ := h.2 q
     subst h0
     simp only [qb, cond_false, Nat.beq_refl, cond_true]
     refine ⟨_, ?_, h1 _ rfl⟩
     simp only [Nat.zero_add]
     rfl
    ·have qb : Nat.ble (len + n) cap = true := by rw [Nat.ble_eq]; omega
     obtain ⟨h0, h1⟩ := h.1 q
     subst h0
     simp only [qb, cond_true, Nat.beq_refl]
     exact ⟨_, rfl, h1⟩
   | some a =>
    obtain ⟨b, off, sp⟩ := a
    cases sp with
    | some _ => exact h.elim
    | none =>
    simp only at h
    split at h
    ·rename_i c t1 ro hc
     simp only [SS.get, hc]
     rcases Nat.lt_or_ge cap (len + n) with q | q
     ·have qb : Nat.ble (len + n) cap = false := by rw [← Bool.not_eq_true, Nat.ble_eq]; omega
      obtain ⟨old, h1, h2⟩ := h.2 q
      simp only [qb, cond_false, loadRow_L hc, h1]
      exact ⟨_, rfl, h2 _ _ rfl rfl⟩
     ·have qb : Nat.ble (len + n) cap = true := by rw [Nat.ble_eq]; omega
      obtain ⟨hro, c', h1, h2⟩ := h.1 q
      subst hro
      simp only [qb, cond_true, addL, storeRow_L hc h1]
      exact ⟨_, rfl, h2 _ rfl⟩
    ·rename_i c t1 hc
     simp only [SS.get, hc]
     rcases Nat.eq_zero_or_pos n with q | q
     ·subst q
      simp only [Nat.beq_refl, cond_true]
      exact ⟨_, rfl, h.1 rfl⟩
     ·have qb : Nat.beq n 0 = false := beqF (by omega)
      obtain ⟨hcp, old, h1, h2⟩ := h.2 q
      have qc : Nat.beq cap (len + 1) = true := by rw [Nat.beq_eq]; exact hcp
      simp only [qb, cond_false, loadRow_L hc, h1, cond_true, qc]
      exact ⟨_, rfl, h2 _ _ rfl rfl⟩
    ·rename_i c t1 ro hc
     simp only [SS.get, hc]
     rcases Nat.eq_zero_or_pos n with q | q
     ·subst q
      simp only [Nat.beq_refl, cond_true]
      exact ⟨_, rfl, h.1 rfl⟩
     ·have qb : Nat.beq n 0 = false := beqF (by omega)
      obtain ⟨hro, ht, old, h1, h2⟩ := h.2 q
      subst hro; subst ht
      simp only [qb, cond_false, loadRow_L hc, h1, Nat.beq_refl, Bool.not_true, Bool.or_self]
      exact ⟨_, rfl, h2 _ _ rfl rfl⟩
    ·rename_i c t1 hc
     simp only [SS.get, hc]
     obtain ⟨⟨h0, hl, hcl, ht⟩, h1, h2⟩ := h
     subst h0; subst ht
     rcases Nat.eq_zero_or_pos n with q | q
     ·subst q
      simp only [Nat.beq_refl, cond_true, Option.isNone_none, Bool.and_true, Bool.true_and, show Nat.blt 0 len = true from by rw [Nat.blt_eq]; exact hl, show Nat.beq c.length (len * i.size) = true from by rw [Nat.beq_eq]; exact hcl]
      exact ⟨_, rfl, h1 rfl⟩
     ·have qb : Nat.beq n 0 = false := beqF (by omega)
      simp only [Nat.beq_refl, cond_true, Option.isNone_none, Bool.and_true, Bool.true_and, show Nat.blt 0 len = true from by rw [Nat.blt_eq]; exact hl, show Nat.beq c.length (len * i.size) = true from by rw [Nat.beq_eq]; exact hcl, qb, cond_false]
      exact ⟨_, rfl, h2 q _ rfl⟩
    ·exact h.elim
theorem wApp_ok {x y : Operand} {t t' : TypeId} {ts : List TypeId} {args : Array Operand} {argTypes : Array TypeId} {m : MOp} (hargs : args.toList = [x, y]) (htys : argTypes.toList = t :: t' :: ts) (hx : okC x = true) (hy : okC y = true)
  (hm : (match P.underlying t, P.underlying t' with
   | some (.slice e), some (.slice e') => (match P.info? e, zeroB P e, P.info? e' with
    | some i, some z, some _ => bif Nat.beq (flat z).length i.size then some (MOp.app e i.size i.bytes x y) else none
    | _, _, _ => none)
   | some (.slice e), some .string => (match P.info? e, zeroB P e with
    | some i, some z => bif Nat.beq (flat z).length i.size then some (.app e i.size i.bytes x y) else none
    | _, _ => none)
   | some (.slice e), some (.int _) => (match P.info? e, zeroB P e with
    | some i, some z => bif Nat.beq (flat z).length i.size then some (.appZ e i.size i.bytes (flat z) x y) else none
    | _, _ => none)
   | _, _ => some (.gen (.call { callee := .builtin .append, args := args, argTypes := argTypes }))) = some m) (h : wN P m T s K) :
  ∃ r : RR, aOp P (toTr T) s.st (.call { callee := .builtin .append, args := args, argTypes := argTypes }) = some r.toN ∧ K r := by
 have go : ∀ {base : Option Addr} {len cap : Nat} {v : Value}, opd T s.gl x = some (.slice base len cap) → opd T s.gl y = some v → aOp P (toTr T) s.st (.call { callee := .builtin .append, args := args, argTypes := argTypes }) = appendV P s.st argTypes.toList [.slice base len cap, v] := by
  intro base len cap v hp hv
  simp only [aOp, hargs, operands, opd_ok hx hp, opd_ok hy hv]
 have main : ∀ {e : TypeId} {u : TypeDesc} {i : TypeInfo} {z : Value}, P.underlying t = some (.slice e) → P.underlying t' = some u → (∀ k, u ≠ .int k) → P.info? e = some i → zeroB P e = some z → Nat.beq (flat z).length i.size = true →
   wN P (.app e i.size i.bytes x y) T s K → ∃ r : RR, aOp P (toTr T) s.st (.call { callee := .builtin .append, args := args, argTypes := argTypes }) = some r.toN ∧ K r := by
  intro e u i z hu hu' hne hi hz hfz h
  simp only [wN] at h
  split at h
  ·rename_i base len cap v hp hv
   obtain ⟨n, new, s1, s2, h⟩ := srcS (n := 0) (new := []) h
   have happ : appended P s.st i.size e (some t') v = some (new, n) := by
    simp only [appended, hu']
    cases u with
    | int k => exact absurd rfl (hne k)
    | _ => simp only [s1, s2]
   rw [go hp hv, htys]
   exact wAppB_ok hu hi hz hfz happ h
  ·exact h.elim
 have zeros : ∀ {e : TypeId} {k : IntKind} {i : TypeInfo} {z : Value}, P.underlying t = some (.slice e) → P.underlying t' = some (.int k) → P.info? e = some i → zeroB P e = some z → Nat.beq (flat z).length i.size = true →
   wN P (.appZ e i.size i.bytes (flat z) x y) T s K → ∃ r : RR, aOp P (toTr T) s.st (.call { callee := .builtin .append, args := args, argTypes := argTypes }) = some r.toN ∧ K r := by
  intro e k i z hu hu' hi hz hfz h
  simp only [wN] at h
  split at h
  ·rename_i base len cap q v hp hv
   obtain ⟨⟨h0, h1⟩, h⟩ := h
   obtain ⟨n, rfl⟩ := Int.eq_ofNat_of_zero_le h0
   rw [go hp hv, htys]
   refine wAppB_ok hu hi hz hfz ?_ (h n rfl _ rfl)
   have : Nat.ble n 1073741824 = true := by rw [Nat.ble_eq]; omega
   simp only [appended, hu', Int.ofNat_eq_natCast, hz, hfz, this, cond_true]
  ·exact h.elim
 split at hm
 ·rename_i e e' hu hu'
  split at hm
  ·rename_i i z _ hi hz _
   cases hb : Nat.beq (flat z).length i.size with
   | false => simp [hb] at hm
   | true =>
    simp only [hb, cond_true, Option.some.injEq] at hm; subst hm
    exact main hu hu' (fun k q => by cases q) hi hz hb h
  ·cases hm
 ·rename_i e hu hu'
  split at hm
  ·rename_i i z hi hz
   cases hb : Nat.beq (flat z).length i.size with
   | false => simp [hb] at hm
   | true =>
    simp only [hb, cond_true, Option.some.injEq] at hm; subst hm
    exact main hu hu' (fun k q => by cases q) hi hz hb h
  ·cases hm
 ·rename_i e k hu hu'
  split at hm
  ·rename_i i z hi hz
   cases hb : Nat.beq (flat z).length i.size with
   | false => simp [hb] at hm
   | true =>
    simp only [hb, cond_true, Option.some.injEq] at hm; subst hm
    exact zeros hu hu' hi hz hb h
  ·cases hm
 ·cases hm; exact h
theorem wrap_shl (k : IntKind) (a : Int) (n : Nat) : k.wrap (a * 2 ^ min n k.bits) = k.wrap (a * 2 ^ n) := by
 rcases Nat.le_total n k.bits with h | h
 ·rw [Nat.min_eq_left h]
 ·rw [Nat.min_eq_right h]
  have e : (a * 2 ^ n : Int) % 2 ^ k.bits = 0 := by
   rw [show n = k.bits + (n - k.bits) from by omega, Int.pow_add, ← Int.mul_assoc, Int.mul_right_comm]
   exact Int.mul_emod_left _ _
  have e' : (a * 2 ^ k.bits : Int) % 2 ^ k.bits = 0 := Int.mul_emod_left _ _
  unfold IntKind.wrap
  rw [e, e']
theorem wN_ok {op : Op} {m : MOp} (hm : cOp P op = some m) (h : wN P m T s K) : ∃ r : RR, aOp P (toTr T) s.st op = some r.toN ∧ K r := by
  unfold cOp at hm
  split at hm
  · -- move
    rename_i x
    cases hx : okC x with
    | false => simp [hx] at hm
    | true =>
      simp only [hx, cond_true, Option.some.injEq] at hm; subst hm
      simp only [wN] at h
      split at h
      · rename_i v hv
        exact ⟨_, by simp only [aOp, opd_ok hx hv]; rfl, h⟩
      · exact h.elim
  · -- assign
    rename_i x
    cases hx : okC x with
    | false => simp [hx] at hm
    | true =>
      simp only [hx, cond_true, Option.some.injEq] at hm; subst hm
      simp only [wN] at h
      split at h
      · rename_i v hv
        exact ⟨_, by simp only [aOp, opd_ok hx hv]; rfl, h⟩
      · exact h.elim
  · -- pick
    rename_i c a b
    cases hx : okC c && okC a && okC b with
    | false => simp [hx] at hm
    | true =>
      simp only [hx, cond_true, Option.some.injEq] at hm; subst hm
      simp only [Bool.and_eq_true] at hx
      simp only [wN] at h
      split at h
      · rename_i hc
        split at h
        · rename_i v hv
          exact ⟨_, by simp only [aOp, opd_ok hx.1.1 hc, opd_ok hx.1.2 hv]; rfl, h⟩
        · exact h.elim
      · rename_i hc
        split at h
        · rename_i v hv
          exact ⟨_, by simp only [aOp, opd_ok hx.1.1 hc, opd_ok hx.2 hv]; rfl, h⟩
        · exact h.elim
      · exact h.elim
  · -- shl by a constant
    rename_i t x k' n _
    cases hx : okC x with
    | false => simp [hx] at hm
    | true =>
      simp only [hx, cond_true, Option.some.injEq] at hm; subst hm
      simp only [wN] at h
      split at h
      · rename_i k a ha
        refine ⟨RR.val (.int k (k.wrap (a * 2 ^ n))), ?_, h _ rfl⟩
        have e : operand (toTr T) s.st (.const (.int k' (Int.ofNat n))) = some (.int k' (Int.ofNat n)) := rfl
        simp only [aOp, opd_ok hx ha, e, binV, shiftBin]
        rw [if_neg (by simp)]
        simp only [Option.map_some, RR.toN, Option.some.injEq, ANext.val.injEq, Value.int.injEq, true_and]
        rw [show (Int.ofNat n).toNat = n from rfl]
        exact wrap_shl k a n
      · exact h.elim
  · -- shr by a constant
    rename_i t x k' n _
    cases hx : okC x with
    | false => simp [hx] at hm
    | true =>
      simp only [hx, cond_true, Option.some.injEq] at hm; subst hm
      simp only [wN] at h
      split at h
      · rename_i k a ha
        split at h
        · rename_i hb
          refine ⟨RR.val (.int k (a.fdiv (2 ^ n))), ?_, h _ rfl⟩
          have e : operand (toTr T) s.st (.const (.int k' (Int.ofNat n))) = some (.int k' (Int.ofNat n)) := rfl
          simp only [aOp, opd_ok hx ha, e, binV, shiftBin]
          rw [if_neg (by simp)]
          simp only [Option.map_some, RR.toN, Option.some.injEq, ANext.val.injEq, Value.int.injEq, true_and]
          rw [Nat.ble_eq] at hb
          rw [show (Int.ofNat n).toNat = n from rfl, Nat.min_eq_left hb]
        · exact h.elim
      · exact h.elim
  · -- binOp
    rename_i o t x y _ _ _
    cases hx : okC x && okC y with
    | false => simp [hx] at hm
    | true =>
      simp only [hx, cond_true, Option.some.injEq] at hm; subst hm
      simp only [Bool.and_eq_true] at hx
      simp only [wN] at h
      split at h
      · rename_i a b ha hb
        obtain ⟨v, h1, h2⟩ := wBin_ok h
        exact ⟨_, by simp only [aOp, opd_ok hx.1 ha, opd_ok hx.2 hb, h1]; rfl, h2⟩
      · exact h.elim
  · -- unOp
    rename_i o t x
    cases hx : okC x with
    | false => simp [hx] at hm
    | true =>
      simp only [hx, cond_true, Option.some.injEq] at hm; subst hm
      simp only [wN] at h
      split at h
      · rename_i a ha
        obtain ⟨v, h1, h2⟩ := wUn_ok h
        exact ⟨_, by simp only [aOp, opd_ok hx ha, h1]; rfl, h2⟩
      · exact h.elim
  · -- convert
    rename_i a b x
    cases hx : okC x with
    | false => simp [hx] at hm
    | true =>
      simp only [hx, cond_true] at hm
      split at hm
      · rename_i k hu hu'
        cases hm
        simp only [wN] at h
        split at h
        · rename_i k' n hn
          refine ⟨_, ?_, h _ rfl⟩
          simp only [aOp, opd_ok hx hn, convertV, hu, hu']
          rfl
        · exact h.elim
      · rename_i e hu hu'
        split at hm
        · rename_i he
          cases hm
          simp only [wN] at h
          split at h
          · rename_i hn
            refine ⟨_, ?_, h⟩
            simp only [aOp, opd_ok hx hn, convertV, hu, hu', he]
            rfl
          · rename_i bl off len _ hn
            split at h
            · rename_i c _ _ _ hc
              obtain ⟨l, h1, h2⟩ := h
              refine ⟨_, ?_, h2⟩
              simp only [aOp, opd_ok hx hn, convertV, hu, hu', he, loadRow_L hc, h1, bytesOf_map]
              rfl
            · exact h.elim
          · exact h.elim
        · cases hm; exact h
      · rename_i e _ hu hu'
        split at hm
        · rename_i he hab
          cases hm
          simp only [wN] at h
          split at h
          · rename_i bl off len cap hn
            split at h
            · rename_i c t hc
              refine ⟨_, ?_, h⟩
              simp only [aOp, opd_ok hx hn, convertV, hu, hu', he, hab, cond_true, SS.get, hc]
              rfl
            · exact h.elim
          · exact h.elim
        · cases hm; exact h
      · rename_i e hu hu'
        split at hm
        · rename_i i he hi
          cases hz : Nat.beq i.size 1 with
          | false => simp only [hz, cond_false] at hm; cases hm; exact h
          | true =>
            simp only [hz, cond_true] at hm; cases hm
            simp only [wN] at h
            split at h
            · rename_i l hn
              refine ⟨_, ?_, h.2⟩
              have hb : Nat.ble (ByteArray.size ⟨⟨l⟩⟩) 9223372036854775807 = true := by rw [Nat.ble_eq]; exact h.1
              simp only [aOp, opd_ok hx hn, convertV, hu, hu', he, hi, hz, hb, cond_true]
              rfl
            · exact h.elim
        · cases hm; exact h
      · cases hm; exact h
  · -- load
    rename_i t x
    cases hx : okC x with
    | false => simp [hx] at hm
    | true =>
      simp only [hx, cond_true] at hm
      split at hm
      · cases hm
      · rename_i hag
        split at hm
        · cases hm
        · rename_i n hn
          cases hm
          simp only [wN] at h
          split at h
          · rename_i b off hp
            split at h
            · rename_i c _ _ _ hc
              obtain ⟨l, h1, h2⟩ := h
              exact ⟨_, by simp only [aOp, opd_ok hx hp, hag, hn, loadRow_L hc, h1]; rfl, h2⟩
            · exact h.elim
          · exact h.elim
      · rename_i hag
        have key : ∀ {b off : Nat} {c : List Value} {e : TypeId} {g r : Bool} {v : Value}, opd T s.gl x = some (.pointer (some ⟨b, off, none⟩)) → lookH s.heap b = some (.cells c e g r) → c[off]? = some v → aOp P (toTr T) s.st (.load t x) = some (RR.val v).toN := by
          intro b off c e g r v hp hc hv
          simp only [aOp, opd_ok hx hp, hag, loadCell_L hc, hv]; rfl
        split at hm <;> cases hm <;> simp only [wN] at h <;> split at h <;> first
          | exact h.elim
          | (rename_i hp
             split at h
             · rename_i hc
               obtain ⟨v, h1, h2⟩ := h
               exact ⟨_, key hp hc h1, h2⟩
             · exact h.elim)
  · -- store
    rename_i t a x
    cases hx : okC a && okC x with
    | false => simp [hx] at hm
    | true =>
      simp only [hx, cond_true] at hm
      simp only [Bool.and_eq_true] at hx
      split at hm
      · cases hm
      · rename_i n hn
        cases hm
        simp only [wN] at h
        split at h
        · rename_i b off v hp hv
          split at h
          · rename_i c e g hc
            split at h
            · rename_i hf
              obtain ⟨c', h1, h2⟩ := h
              refine ⟨_, ?_, h2⟩
              simp only [aOp, opd_ok hx.1 hp, opd_ok hx.2 hv, hn, hf, cond_true, storeRow_L hc h1]
              rfl
            · exact h.elim
          · exact h.elim
        · exact h.elim
  · -- fieldAddr
    rename_i t x f
    cases hx : okC x with
    | false => simp [hx] at hm
    | true =>
      simp only [hx, cond_true] at hm
      split at hm
      · rename_i fields hu
        split at hm
        · rename_i fd hfd
          split at hm
          · rename_i n hn
            cases hm
            simp only [wN] at h
            split at h
            · rename_i b off hp
              refine ⟨_, ?_, h⟩
              simp only [aOp, opd_ok hx hp, hu, hfd, Option.isSome_none, cond_false, hn, addL]
              rfl
            · exact h.elim
          · cases hm
        · cases hm
      · cases hm
  · -- field
    rename_i t x f
    cases hx : okC x with
    | false => simp [hx] at hm
    | true =>
      simp only [hx, cond_true] at hm
      split at hm
      · rename_i fields hu
        split at hm
        · rename_i fd hfd
          split at hm
          · cases hm
          · rename_i hag
            split at hm
            · cases hm
            · rename_i n hn
              cases hm
              simp only [wN] at h
              split at h
              · rename_i cs hp
                split at h
                · rename_i l hl
                  exact ⟨_, by simp only [aOp, opd_ok hx hp, hu, hfd, partB, hag, hn, hl]; rfl, h⟩
                · exact h.elim
              · exact h.elim
          · rename_i hag
            cases hm
            simp only [wN] at h
            split at h
            · rename_i cs hp
              split at h
              · rename_i l hl
                exact ⟨_, by simp only [aOp, opd_ok hx hp, hu, hfd, partB, hag, hl]; rfl, h⟩
              · exact h.elim
            · exact h.elim
        · cases hm
      · cases hm
  · -- indexAddr
    rename_i t x i
    cases hx : okC x && okC i with
    | false => simp [hx] at hm
    | true =>
      simp only [hx, cond_true] at hm
      simp only [Bool.and_eq_true] at hx
      split at hm
      · rename_i e hu
        cases hz : sizeB P e with
        | none => simp [hz] at hm
        | some z =>
          simp only [hz, Option.map_some, Option.some.injEq] at hm; subst hm
          simp only [wN] at h
          split at h
          · rename_i b off len _ iv hp hi
            obtain ⟨n, h1, h2⟩ := wIdx_ok h
            exact ⟨_, by simp only [aOp, opd_ok hx.1 hp, opd_ok hx.2 hi, hu, h1, hz, addL]; rfl, h2 _ rfl⟩
          · exact h.elim
      · rename_i n e hu
        cases hz : sizeB P e with
        | none => simp [hz] at hm
        | some z =>
          simp only [hz, Option.map_some, Option.some.injEq] at hm; subst hm
          simp only [wN] at h
          split at h
          · rename_i b off iv hp hi
            obtain ⟨n, h1, h2⟩ := wIdx_ok h
            exact ⟨_, by simp only [aOp, opd_ok hx.1 hp, opd_ok hx.2 hi, hu, h1, hz, addL]; rfl, h2 _ rfl⟩
          · exact h.elim
      · cases hm
  · -- index
    rename_i t x i
    cases hx : okC x && okC i with
    | false => simp [hx] at hm
    | true =>
      simp only [hx, cond_true] at hm
      simp only [Bool.and_eq_true] at hx
      split at hm
      · rename_i hu
        cases hm
        simp only [wN] at h
        split at h
        · rename_i l iv hp hi
          obtain ⟨n, h1, c, h2, h3⟩ := wIdx_ok h
          refine ⟨_, ?_, h3⟩
          have h1' : idx iv (ByteArray.size ⟨⟨l⟩⟩) = some n := h1
          simp only [aOp, opd_ok hx.1 hp, opd_ok hx.2 hi, hu, h1', h2]
          rfl
        · exact h.elim
      · cases hm; exact h
  · -- extract
    rename_i x i
    cases hx : okC x with
    | false => simp [hx] at hm
    | true =>
      simp only [hx, cond_true, Option.some.injEq] at hm; subst hm
      simp only [wN] at h
      split at h
      · rename_i vs hp
        split at h
        · rename_i v hv
          exact ⟨_, by simp only [aOp, opd_ok hx hp, hv]; rfl, h⟩
        · exact h.elim
      · exact h.elim
  · -- alloc
    rename_i e
    cases hz : zeroB P e with
    | none => simp [hz] at hm
    | some z =>
      simp only [hz, Option.map_some, Option.some.injEq] at hm; subst hm
      simp only [wN] at h
      exact ⟨_, by simp only [aOp, hz]; rfl, h⟩
  · -- box
    rename_i e x
    cases hx : okC x && (P.info? e).isSome with
    | false => simp [hx] at hm
    | true =>
      simp only [hx, cond_true, Option.some.injEq] at hm; subst hm
      simp only [Bool.and_eq_true] at hx
      simp only [wN] at h
      obtain ⟨i, hi⟩ := Option.isSome_iff_exists.1 hx.2
      split at h
      · rename_i v hv
        exact ⟨_, by simp only [aOp, opd_ok hx.1 hv, hi]; rfl, h⟩
      · exact h.elim
  · -- build
    rename_i t parts
    split at hm
    · rename_i z fields hz hu
      cases ha : (fields.toList.all fun f => (sizeB P f.type).isSome) with
      | false => simp [ha] at hm
      | true =>
        simp only [ha, cond_true] at hm
        cases hp : placesS P fields parts.toList with
        | none => simp [hp] at hm
        | some l =>
          simp only [hp, Option.map_some, Option.some.injEq] at hm; subst hm
          simp only [wN] at h
          split at h
          · rename_i vs hvs
            split at h
            · rename_i c hc
              obtain ⟨ws, q1, q2⟩ := layM_ok hp hvs hc
              refine ⟨_, ?_, h⟩
              simp only [aOp, hz, q1, hu, ha, Bool.not_true, cond_false]
              split
              · rename_i e; exact absurd (e.symm.trans q2) (by simp)
              · rename_i c1 e
                have := e.symm.trans q2
                cases this
                rfl
            · exact h.elim
          · exact h.elim
    · rename_i z n e hz hu
      split at hm
      · cases hm
      · rename_i n hn
        cases hp : placesA n parts.toList with
        | none => simp [hp] at hm
        | some l =>
          simp only [hp, Option.map_some, Option.some.injEq] at hm; subst hm
          simp only [wN] at h
          split at h
          · rename_i vs hvs
            split at h
            · rename_i c hc
              obtain ⟨ws, q1, q2⟩ := layA_ok hp hvs hc
              refine ⟨_, ?_, h⟩
              simp only [aOp, hz, q1, hu, hn, q2]
              rfl
            · exact h.elim
          · exact h.elim
    · cases hm
  · -- buildSlice
    rename_i t len parts
    split at hm
    · rename_i e hu
      split at hm
      · rename_i i z hi hz
        cases hb : (Nat.ble (len * i.size) 16777216 && Nat.beq (flat z).length i.size && Nat.blt 0 i.size) with
        | false => simp only [hb, cond_false] at hm; cases hm
        | true =>
          simp only [hb, cond_true] at hm
          cases hp : placesA i.size parts.toList with
          | none => simp [hp] at hm
          | some l =>
            simp only [hp, Option.map_some, Option.some.injEq] at hm; subst hm
            simp only [wN] at h
            split at h
            · rename_i vs hvs
              split at h
              · rename_i c hc
                obtain ⟨ws, q1, q2⟩ := layA_ok hp hvs hc
                refine ⟨_, ?_, h⟩
                simp only [aOp, hu, q1, hi, hz, hb, cond_true, q2]
                rfl
              · exact h.elim
            · exact h.elim
      · cases hm
    · cases hm
  · -- makeSlice
    rename_i t l c
    cases hx : okC l && okC c with
    | false => simp [hx] at hm
    | true =>
      simp only [hx, cond_true] at hm
      simp only [Bool.and_eq_true] at hx
      split at hm
      · rename_i e hu
        split at hm
        · rename_i i z hi hz
          cases hb : Nat.beq (flat z).length i.size with
          | false => simp [hb] at hm
          | true =>
            simp only [hb, cond_true, Option.some.injEq] at hm; subst hm
            simp only [wN] at h
            split at h
            · rename_i k1 lv k2 cv hl hc
              obtain ⟨⟨h1, h2, h3, h4⟩, h⟩ := h
              obtain ⟨m, rfl⟩ := Int.eq_ofNat_of_zero_le h1
              obtain ⟨n, rfl⟩ := Int.eq_ofNat_of_zero_le (show 0 ≤ cv by omega)
              refine ⟨_, ?_, h m n rfl rfl _ rfl⟩
              have e1 : Nat.ble m n = true := by rw [Nat.ble_eq]; omega
              have e2 : Nat.ble (i.bytes * n) 140737488355328 = true := by rw [Nat.ble_eq]; exact Int.ofNat_le.1 (by rw [Int.natCast_mul]; exact h3)
              have e3 : Nat.ble n 1073741824 = true := by rw [Nat.ble_eq]; omega
              have hl' : operand (toTr T) s.st l = some (.int k1 (Int.ofNat m)) := opd_ok hx.1 hl
              have hc' : operand (toTr T) s.st c = some (.int k2 (Int.ofNat n)) := opd_ok hx.2 hc
              simp only [aOp, hl', hc', hu, hi, hz, e1, e2, e3, hb, Bool.and_self, cond_true]
              rfl
            · exact h.elim
        · cases hm
      · cases hm
  · -- slice
    rename_i t x lo hi mx
    cases hx : okC x && okO lo && okO hi with
    | false => simp [hx] at hm
    | true =>
      simp only [hx, cond_true] at hm
      simp only [Bool.and_eq_true] at hx
      have o0 : opt (toTr T) s.st none = some none := rfl
      split at hm
      · cases hm; exact h
      · split at hm
        · rename_i hu
          cases hm
          simp only [wN] at h
          split at h
          · rename_i l vl vh hp h1 h2
            obtain ⟨b, q1, q2⟩ := wBnd_ok h
            obtain ⟨a, q3, q4⟩ := wBnd_ok q2
            refine ⟨_, ?_, q4 _ rfl⟩
            have q1' : bound vh (ByteArray.size ⟨⟨l⟩⟩) (ByteArray.size ⟨⟨l⟩⟩) = some b := q1
            simp only [aOp, opd_ok hx.1.1 hp, opdO_ok hx.1.2 h1, opdO_ok hx.2 h2, o0, sliceV, hu, q1', q3]
            rfl
          · exact h.elim
        · rename_i e hu
          cases hz : sizeB P e with
          | none => simp [hz] at hm
          | some z =>
            simp only [hz, Option.map_some, Option.some.injEq] at hm; subst hm
            simp only [wN] at h
            split at h
            · rename_i len cap vl vh hp h1 h2
              obtain ⟨b, q1, q2⟩ := wBnd_ok h
              obtain ⟨a, q3, q4⟩ := wBnd_ok q2
              refine ⟨_, ?_, q4⟩
              have : bound none cap cap = some cap := rfl
              have mk : mxOk none vh = true := rfl
              simp only [aOp, opd_ok hx.1.1 hp, opdO_ok hx.1.2 h1, opdO_ok hx.2 h2, o0, sliceV, hu, hz, mk, cond_true, this, q1, q3]
              rfl
            · rename_i bl off len cap vl vh hp h1 h2
              split at h
              · rename_i c t' g _ hc
                split at h
                · obtain ⟨hz', h⟩ := h
                  obtain ⟨b, q1, q2⟩ := wBnd_ok h
                  obtain ⟨a, q3, q4⟩ := wBnd_ok q2
                  refine ⟨_, ?_, q4 _ _ rfl rfl⟩
                  simp only [aOp, opd_ok hx.1.1 hp, opdO_ok hx.1.2 h1, opdO_ok hx.2 h2, o0, sliceV, hu, hz, growOf_L hc, hz', Nat.beq_refl, cond_true, q1, q3, addL]
                  rfl
                · obtain ⟨b, q1, q2⟩ := wBnd_ok h
                  obtain ⟨a, q3, q4⟩ := wBnd_ok q2
                  refine ⟨_, ?_, q4 _ _ _ rfl rfl rfl⟩
                  have : bound none cap cap = some cap := rfl
                  have mk : mxOk none vh = true := rfl
                  simp only [aOp, opd_ok hx.1.1 hp, opdO_ok hx.1.2 h1, opdO_ok hx.2 h2, o0, sliceV, hu, hz, growOf_L hc, mk, cond_true, this, q1, q3, addL]
                  rcases beq_cases cap a with ⟨e, he⟩ | ⟨e, he⟩
                  · rw [he, if_pos e]; rfl
                  · rw [he, if_neg e]; rfl
              · exact h.elim
            · exact h.elim
        · rename_i n e hu
          cases hz : sizeB P e with
          | none => simp [hz] at hm
          | some z =>
            simp only [hz, Option.map_some, Option.some.injEq] at hm; subst hm
            simp only [wN] at h
            split at h
            · rename_i bl off vl vh hp h1 h2
              split at h
              · rename_i c t' _ hc
                obtain ⟨b, q1, q2⟩ := wBnd_ok h
                obtain ⟨a, q3, q4⟩ := wBnd_ok q2
                refine ⟨_, ?_, q4 _ _ _ rfl rfl rfl⟩
                have : bound none n n = some n := rfl
                have mk : mxOk none vh = true := rfl
                simp only [aOp, opd_ok hx.1.1 hp, opdO_ok hx.1.2 h1, opdO_ok hx.2 h2, o0, sliceV, hu, hz, growOf_L hc, mk, cond_true, this, q1, q3, addL]
                rcases beq_cases n a with ⟨e, he⟩ | ⟨e, he⟩
                · rw [he, if_pos e]; rfl
                · rw [he, if_neg e]; rfl
              · exact h.elim
            · exact h.elim
        · cases hm
  · -- builtins
    rename_i b args argTypes
    split at hm
    · -- len
      rename_i x t ts hargs htys
      cases hx : okC x with
      | false => simp [hx] at hm
      | true =>
        simp only [hx, cond_true] at hm
        split at hm
        · rename_i hu
          cases hm
          simp only [wN] at h
          split at h
          · rename_i l hp
            refine ⟨_, ?_, h _ rfl⟩
            simp only [aOp, hargs, htys, operands, opd_ok hx hp, lenV, hu]
            rfl
          · exact h.elim
        · rename_i e hu
          cases hm
          simp only [wN] at h
          split at h
          · rename_i n _ hp
            refine ⟨_, ?_, h⟩
            simp only [aOp, hargs, htys, operands, opd_ok hx hp, lenV, hu]
            rfl
          · exact h.elim
        · cases hm; exact h
    · -- min
      rename_i x y hargs
      cases hx : okC x && okC y with
      | false => simp [hx] at hm
      | true =>
        simp only [hx, cond_true, Option.some.injEq] at hm; subst hm
        simp only [Bool.and_eq_true] at hx
        simp only [wN] at h
        split at h
        · rename_i k a k' b hp hq
          refine ⟨RR.val (.int k (min a b)), ?_, h _ rfl⟩
          simp only [aOp, hargs, operands, opd_ok hx.1 hp, opd_ok hx.2 hq, foldV, max2V, cond_false, Option.map_some, RR.toN, Option.some.injEq, ANext.val.injEq, Value.int.injEq, true_and]
          split <;> omega
        · exact h.elim
    · -- max
      rename_i x y hargs
      cases hx : okC x && okC y with
      | false => simp [hx] at hm
      | true =>
        simp only [hx, cond_true, Option.some.injEq] at hm; subst hm
        simp only [Bool.and_eq_true] at hx
        simp only [wN] at h
        split at h
        · rename_i k a k' b hp hq
          refine ⟨RR.val (.int k (max a b)), ?_, h _ rfl⟩
          simp only [aOp, hargs, operands, opd_ok hx.1 hp, opd_ok hx.2 hq, foldV, max2V, cond_true, Option.map_some, RR.toN, Option.some.injEq, ANext.val.injEq, Value.int.injEq, true_and]
          split <;> omega
        · exact h.elim
    · -- append
      rename_i x y t t' ts hargs htys
      cases hx : okC x && okC y with
      | false => simp [hx] at hm
      | true =>
        simp only [hx, cond_true] at hm
        simp only [Bool.and_eq_true] at hx
        exact wApp_ok hargs htys hx.1 hx.2 hm h
    · -- copy
      rename_i x y t ts hargs htys
      cases hx : okC x && okC y with
      | false => simp [hx] at hm
      | true =>
        simp only [hx, cond_true] at hm
        simp only [Bool.and_eq_true] at hx
        split at hm
        · rename_i e hu
          cases hz : sizeB P e with
          | none => rw [hz] at hm; cases hm
          | some z =>
            rw [hz] at hm; cases hm
            simp only [wN] at h
            split at h
            · rename_i base dl cap v hp hv
              obtain ⟨sl, new, s1, s2, h1, h2⟩ := srcN h
              have hmin : Nat.min sl dl = min sl dl := rfl
              simp only [aOp, hargs, operands, opd_ok hx.1 hp, opd_ok hx.2 hv, htys, copyV, hu, s1, hz, hmin, s2]
              rcases Nat.eq_zero_or_pos (min sl dl) with q | q
              · have qb : Nat.beq (min sl dl) 0 = true := by rw [q]; rfl
                simp only [qb, cond_true]
                cases base with
                | none => exact ⟨_, rfl, h1 q⟩
                | some a => exact ⟨_, rfl, h1 q⟩
              · have qb : Nat.beq (min sl dl) 0 = false := beqF (by omega)
                obtain ⟨ha, h2⟩ := h2 q
                simp only [qb, cond_false, ha, cond_true]
                split at h2
                · rename_i b off
                  split at h2
                  · rename_i c e' g hc
                    obtain ⟨c', q1, q2⟩ := h2
                    simp only [storeRow_L hc q1]
                    exact ⟨_, rfl, q2⟩
                  · exact h2.elim
                · exact h2.elim
            · exact h.elim
        · cases hm; exact h
    · cases hm; exact h
  · -- a function called by its name
    rename_i f args tys
    cases hx : okCs args.toList with
    | false => simp [hx] at hm
    | true =>
      simp only [hx, cond_true] at hm
      split at hm
      · rename_i fn hfn
        cases hb : fn.body.isSome with
        | false => simp [hb] at hm
        | true =>
          simp only [hb, cond_true, Option.some.injEq] at hm; subst hm
          simp only [wN] at h
          split at h
          · rename_i l hl
            refine ⟨_, ?_, h⟩
            simp only [aOp, operand, opds_ok hx hl, callV, hfn, hb, cond_true, List.nil_append, List.append_nil]
            rfl
          · exact h.elim
      · cases hm
  · -- a check for nil
    rename_i x
    cases hx : okC x with
    | false => simp [hx] at hm
    | true =>
      simp only [hx, cond_true, Option.some.injEq] at hm; subst hm
      simp only [wN] at h
      split at h
      · rename_i a hp
        exact ⟨_, by simp only [aOp, opd_ok hx hp]; rfl, h⟩
      · exact h.elim
  · cases hm; exact h
end
end Go.Vf
end

import Derived.Test.YtneanogeebbjiaaDoorEngFr
/- The machine of plain blocks, by rows: slots and heap are lists of pairs; what holds of code that starts at such a state. -/
namespace Go.Vf
open Go.RowKit
set_option linter.unusedVariables false
set_option linter.unusedSimpArgs false

abbrev TL := List (Nat × Value)

def look {α : Type} : List (Nat × α) → Nat → Option α
  | [], _ => none
  | (k, v) :: r, j => bif Nat.beq k j then some v else look r j

def lookH : List (Nat × Option ABlk) → Nat → Option ABlk
  | [], _ => none
  | (k, v) :: r, j => bif Nat.beq k j then v else lookH r j

def toTr : TL → ATmp
  | [] => .nil
  | (k, v) :: r => (toTr r).put k v

def toH : List (Nat × Option ABlk) → Tr ABlk
  | [] => .nil
  | (k, some b) :: r => (toH r).put k b
  | (k, none) :: r => (toH r).del k

structure SS where
  heap : List (Nat × Option ABlk)
  next : Nat
  gl : Nat

def SS.st (s : SS) : ASt := ⟨toH s.heap, s.next, s.gl⟩

theorem beq_cases (a b : Nat) : (a = b ∧ Nat.beq a b = true) ∨ (a ≠ b ∧ Nat.beq a b = false) := by
  by_cases h : a = b
  · left; subst h; exact ⟨rfl, Nat.beq_refl a⟩
  · right; exact ⟨h, beqF h⟩

theorem toTr_get : ∀ (T : TL) (t : Nat), (toTr T).get t = look T t
  | [], t => rfl
  | (k, v) :: r, t => by
    simp only [toTr, Tr.get_put, look]
    rcases beq_cases k t with ⟨h, hb⟩ | ⟨h, hb⟩
    · rw [hb, if_pos h.symm]; rfl
    · rw [hb, if_neg (fun e => h e.symm)]; exact toTr_get r t

theorem toH_get : ∀ (H : List (Nat × Option ABlk)) (t : Nat), (toH H).get t = lookH H t
  | [], t => rfl
  | (k, some v) :: r, t => by
    simp only [toH, Tr.get_put, lookH]
    rcases beq_cases k t with ⟨h, hb⟩ | ⟨h, hb⟩
    · rw [hb, if_pos h.symm]; rfl
    · rw [hb, if_neg (fun e => h e.symm)]; exact toH_get r t
  | (k, none) :: r, t => by
    simp only [toH, Tr.get_del, lookH]
    rcases beq_cases k t with ⟨h, hb⟩ | ⟨h, hb⟩
    · rw [hb, if_pos h.symm]; rfl
    · rw [hb, if_neg (fun e => h e.symm)]; exact toH_get r t

theorem SS.get (s : SS) (id : Nat) : s.st.heap.get id = lookH s.heap id := toH_get _ _

def FreeFrom (ρ : Ren) (n : Nat) : Prop := ∀ id, n ≤ id → ρ id = none
def Agree (k : Nat) (ρ ρ' : Ren) : Prop := ∀ id, id < k → ρ' id = ρ id

theorem Agree.refl (k : Nat) (ρ : Ren) : Agree k ρ ρ := fun _ _ => rfl
theorem Agree.trans {k : Nat} {a b c : Ren} (h : Agree k a b) (h' : Agree k b c) : Agree k a c := fun id hid => (h' id hid).trans (h id hid)
theorem Agree.mono {k j : Nat} {a b : Ren} (h : Agree k a b) (hj : j ≤ k) : Agree j a b := fun id hid => h id (by omega)
theorem FreeFrom.free {ρ : Ren} {n : Nat} (h : FreeFrom ρ n) (m : Nat) : Free ρ n m := fun id a _ => h id a
theorem FreeFrom.ext {ρ ρ' : Ren} {n m : Nat} (h : FreeFrom ρ n) (hnm : n ≤ m) (x : Ext ρ ρ' n m) : FreeFrom ρ' m := by
  intro id hid
  cases hi : ρ' id with
  | none => rfl
  | some e =>
    rcases x.2 id (by rw [hi]; simp) with q | q
    · exact absurd (h id (by omega)) q
    · omega
theorem Ext.agree {ρ ρ' : Ren} {n m k : Nat} (x : Ext ρ ρ' n m) (hk : k ≤ n) : Agree k ρ ρ' := by
  intro id hid
  cases hr : ρ id with
  | some e => exact x.1 _ _ hr
  | none =>
    cases hi : ρ' id with
    | none => rfl
    | some e =>
      rcases x.2 id (by rw [hi]; simp) with q | q
      · exact absurd hr q
      · omega
theorem Agree.le {ρ ρ' : Ren} {n : Nat} (h : Agree n ρ ρ') (hf : FreeFrom ρ n) : ρ.Le ρ' := by
  intro id e he
  rcases Nat.lt_or_ge id n with q | q
  · rw [h id q]; exact he
  · rw [hf id q] at he; cases he

/-- The mark that a range over a function leaves among an activation's deferred calls. -/
def mkD (D : Nat) : Deferred := { target := .collected D, args := #[] }

/-- The marks that came from w on: each names a block of its own, into which no call has come. -/
def Marks (w w' : World) (M : List Nat) : Prop := M.Nodup ∧ ∀ D ∈ M, w.heap.size ≤ D ∧ w'.heap[D]? = some (.deferred (some []))

theorem Marks.nil (w w' : World) : Marks w w' [] := ⟨List.nodup_nil, fun D h => by cases h⟩
theorem Marks.join {w w1 w2 : World} {M1 M2 : List Nat} (h : Marks w w1 M1) (h' : Marks w1 w2 M2) (hs : w.heap.size ≤ w1.heap.size) (hb : Books w1 w2) : Marks w w2 (M2 ++ M1) := by
  refine ⟨List.nodup_append.2 ⟨h'.1, h.1, fun a ha b hb' e => ?_⟩, fun D hD => ?_⟩
  · subst e
    have h1 := (h'.2 a ha).1
    have h2 := (Array.getElem?_eq_some_iff.1 (h.2 a hb').2).1
    omega
  · rcases List.mem_append.1 hD with q | q
    · have := h'.2 D q; exact ⟨by omega, this.2⟩
    · have := h.2 D q; exact ⟨this.1, hb D this.2⟩

theorem marks_app {Q' : Exit → Act → World → Prop} {e : Exit} {tmps : Array Value} {w : World} {M1 M2 : List Nat} {ds : List Deferred} (h : Q' e ⟨tmps, (M2 ++ M1).map mkD ++ ds⟩ w) : Q' e ⟨tmps, M2.map mkD ++ (M1.map mkD ++ ds)⟩ w := by
  simpa [List.map_append, List.append_assoc] using h

section
variable (P : Program) (nt : Nat)

/-- Code's one end. Of the blocks that it lays, only that their numbers are free is asked, so it may run while others run. -/
def WX (c : Code) (T : TL) (s : SS) (ex : AExit) (T' : TL) (s' : SS) : Prop :=
  s.next ≤ s'.next ∧ s'.gl = s.gl ∧ ∀ (B : Nat) (w0 : World) (ρ : Ren) (w : World) (tmps : Array Value) (ds : List Deferred) (Q' : Exit → Act → World → Prop) (rr : Option Nat), HRel P B w0 ρ s.st w → FRel ρ nt (toTr T) tmps → Free ρ s.next s'.next →
    (∀ ρ' tmps' w' M, HRel P B w0 ρ' s'.st w' → FRel ρ' nt (toTr T') tmps' → Ext ρ ρ' s.next s'.next → Marks w w' M → Q' (exOf ex) ⟨tmps', M.map mkD ++ ds⟩ w') → c.wpIn (Fr rr) 0 P Q' ⟨tmps, ds⟩ w

/-- What holds of code from a state on: of its one end. -/
def W (_k : Nat) (c : Code) (T : TL) (s : SS) (Q : AExit → TL → SS → Prop) : Prop :=
  ∃ ex T' s', Q ex T' s' ∧ WX P nt c T s ex T' s'

/-- What holds of a call: of its one end. -/
def CallW (f : FuncId) (args : List Value) (s : SS) (K : Value → SS → Prop) : Prop :=
  ∃ v s', K v s' ∧ CallOk P f args s.st v (SS.st s')

/-- A call from a state behind which nothing is laid. -/
def CallW0 (f : FuncId) (args : List Value) (s : SS) (K : Value → SS → Prop) : Prop :=
  ∀ (B : Nat) (w0 : World) (ρ : Ren) (args' : List Value) (w : World), HRel P B w0 ρ s.st w → LRel ρ args args' → FreeFrom ρ s.next →
    Calls P f ⟨args'⟩ w fun e w' => ∃ v' v s' ρ', e = .returned v' ∧ K v s' ∧ VRel ρ' v v' ∧ HRel P B w0 ρ' (SS.st s') w' ∧ FreeFrom ρ' s'.next ∧ s.next ≤ s'.next ∧ Agree s.next ρ ρ'

/-- A state may be taken for another. -/
def Wk (_k : Nat) (T : TL) (s : SS) (T' : TL) (s' : SS) : Prop :=
  s.next ≤ s'.next ∧ s'.gl = s.gl ∧ ∀ (B : Nat) (w0 : World) (ρ : Ren) (w : World) (tmps : Array Value), HRel P B w0 ρ s.st w → FRel ρ nt (toTr T) tmps → HRel P B w0 ρ s'.st w ∧ FRel ρ nt (toTr T') tmps

variable {P nt}
variable {k : Nat}
variable {T T' T2 : TL} {s s' s2 : SS} {Q Q1 : AExit → TL → SS → Prop} {c d : Code} {ex ex2 : AExit}

theorem Free.sub {ρ : Ren} {n m n' m' : Nat} (h : Free ρ n m) (h1 : n ≤ n') (h2 : m' ≤ m) : Free ρ n' m' := fun id a b => h id (by omega) (by omega)
theorem Free.ext {ρ ρ' : Ren} {n m k : Nat} (h : Free ρ n k) (x : Ext ρ ρ' n m) (hm : n ≤ m) : Free ρ' m k := by
  intro id a b
  cases hi : ρ' id with
  | none => rfl
  | some e =>
    rcases x.2 id (by rw [hi]; simp) with q | q
    · exact absurd (h id (by omega) b) q
    · omega
theorem Ext.mono {ρ ρ' : Ren} {n m n' m' : Nat} (x : Ext ρ ρ' n m) (h1 : n' ≤ n) (h2 : m ≤ m') : Ext ρ ρ' n' m' := ⟨x.1, fun id h => (x.2 id h).imp (fun q => q) fun ⟨a, b⟩ => ⟨by omega, by omega⟩⟩
theorem Ext.trans' {ρ ρ1 ρ2 : Ren} {n m k : Nat} (x : Ext ρ ρ1 n m) (y : Ext ρ1 ρ2 m k) (h1 : n ≤ m) (h2 : m ≤ k) : Ext ρ ρ2 n k :=
  ⟨fun id e h => y.1 _ _ (x.1 _ _ h), fun id h => by
    rcases y.2 id h with q | q
    · rcases x.2 id q with r | r
      · exact .inl r
      · exact .inr ⟨r.1, by omega⟩
    · exact .inr ⟨by omega, q.2⟩⟩

theorem Wk.refl : Wk P nt k T s T s := ⟨Nat.le_refl _, rfl, fun _ _ _ _ _ H F => ⟨H, F⟩⟩

theorem WX.weak (hw : Wk P nt k T s T' s') (h : WX P nt c T' s' ex T2 s2) : WX P nt c T s ex T2 s2 :=
  ⟨Nat.le_trans hw.1 h.1, h.2.1.trans hw.2.1, fun B w0 ρ w tmps ds Q' rr H F hf hQ =>
    let ⟨H1, F1⟩ := hw.2.2 B w0 ρ w tmps H F
    h.2.2 B w0 ρ w tmps ds Q' rr H1 F1 (hf.sub hw.1 (Nat.le_refl _)) fun ρ' tmps' w' M H2 F2 x K => hQ ρ' tmps' w' M H2 F2 (x.mono hw.1 (Nat.le_refl _)) K⟩

theorem WX.seq (h : WX P nt c T s .normal T' s') (h2 : WX P nt d T' s' ex T2 s2) : WX P nt (.seq c d) T s ex T2 s2 :=
  ⟨Nat.le_trans h.1 h2.1, h2.2.1.trans h.2.1, fun B w0 ρ w tmps ds Q' rr H F hf hQ =>
    wpIn_seq (h.2.2 B w ρ w tmps ds _ rr H.rebase F (hf.sub (Nat.le_refl _) h2.1) fun ρ1 tmps1 w1 M1 H1 F1 x1 K1 =>
      h2.2.2 B w1 ρ1 w1 tmps1 (M1.map mkD ++ ds) Q' rr H1.rebase F1 (hf.ext x1 h.1) fun ρ2 tmps2 w2 M2 H2 F2 x2 K2 =>
        marks_app (hQ ρ2 tmps2 w2 (M2 ++ M1) ((H.join H1).join H2) F2 (x1.trans' x2 h.1 h2.1) (K1.join K2 H1.below.size H2.books)))⟩

theorem WX.seqX (h : WX P nt c T s ex T' s') (hx : ex ≠ .normal) : WX P nt (.seq c d) T s ex T' s' :=
  ⟨h.1, h.2.1, fun B w0 ρ w tmps ds Q' rr H F hf hQ =>
    wpIn_seq (h.2.2 B w0 ρ w tmps ds _ rr H F hf fun ρ1 tmps1 w1 M1 H1 F1 x1 K1 => by
      cases ex with
      | normal => exact absurd rfl hx
      | exit id => exact hQ ρ1 tmps1 w1 M1 H1 F1 x1 K1
      | ret => exact hQ ρ1 tmps1 w1 M1 H1 F1 x1 K1)⟩

theorem W.mono (h : W P nt k c T s Q) (hq : ∀ ex T s, Q ex T s → Q1 ex T s) : W P nt k c T s Q1 :=
  let ⟨a, b, e, q, r⟩ := h
  ⟨a, b, e, hq _ _ _ q, r⟩

theorem CallW.mono {f : FuncId} {args : List Value} {K K1 : Value → SS → Prop} (h : CallW P f args s K) (hq : ∀ v s, K v s → K1 v s) : CallW P f args s K1 :=
  let ⟨a, b, q, r⟩ := h
  ⟨a, b, hq _ _ q, r⟩

theorem W.weak (hw : Wk P nt k T s T' s') (h : W P nt k c T' s' Q) : W P nt k c T s Q :=
  let ⟨a, b, e, q, r⟩ := h
  ⟨a, b, e, q, r.weak hw⟩

theorem W.skip (h : Q .normal T s) : W P nt k .skip T s Q :=
  ⟨_, _, _, h, Nat.le_refl _, rfl, fun _ _ _ _ _ _ _ _ H F hf hQ => wpIn_skip (hQ _ _ _ [] H F (.refl _ _ _) (.nil _ _))⟩
theorem W.exit {id : Nat} (h : Q (.exit id) T s) : W P nt k (.exit id) T s Q :=
  ⟨_, _, _, h, Nat.le_refl _, rfl, fun _ _ _ _ _ _ _ _ H F hf hQ => wpIn_exit (hQ _ _ _ [] H F (.refl _ _ _) (.nil _ _))⟩
theorem W.ret (h : Q .ret T s) : W P nt k .ret T s Q :=
  ⟨_, _, _, h, Nat.le_refl _, rfl, fun _ _ _ _ _ _ _ _ H F hf hQ => wpIn_ret (hQ _ _ _ [] H F (.refl _ _ _) (.nil _ _))⟩

theorem W.seq (h : W P nt k c T s fun ex T' s' => match ex with | .normal => W P nt k d T' s' Q | e => Q e T' s') : W P nt k (.seq c d) T s Q := by
  obtain ⟨ex, T1, s1, q, r⟩ := h
  cases ex with
  | normal =>
    obtain ⟨ex2, T2, s2, q2, r2⟩ := q
    exact ⟨ex2, T2, s2, q2, r.seq r2⟩
  | exit id => exact ⟨_, _, _, q, r.seqX (fun h => by cases h)⟩
  | ret => exact ⟨_, _, _, q, r.seqX (fun h => by cases h)⟩

theorem W.condT {x : Operand} (hx : operand (toTr T) s.st x = some (.bool true)) (h : W P nt k c T s Q) : W P nt k (.cond x c d) T s Q :=
  let ⟨a, b, e, q, r⟩ := h
  ⟨a, b, e, q, r.1, r.2.1, fun B w0 ρ w tmps ds Q' rr H F hf hQ => wpIn_cond (t := true) (bool_inv (F.ev H ds _ _ hx)) (r.2.2 B w0 ρ w tmps ds Q' rr H F hf hQ)⟩
theorem W.condF {x : Operand} (hx : operand (toTr T) s.st x = some (.bool false)) (h : W P nt k d T s Q) : W P nt k (.cond x c d) T s Q :=
  let ⟨a, b, e, q, r⟩ := h
  ⟨a, b, e, q, r.1, r.2.1, fun B w0 ρ w tmps ds Q' rr H F hf hQ => wpIn_cond (t := false) (bool_inv (F.ev H ds _ _ hx)) (r.2.2 B w0 ρ w tmps ds Q' rr H F hf hQ)⟩

theorem WX.block {id : Nat} (h : WX P nt c T s ex T' s') (he : (match ex with | .exit i => (bif Nat.beq i id then AExit.normal else ex) | _ => ex) = ex2) : WX P nt (.block id c) T s ex2 T' s' :=
  ⟨h.1, h.2.1, fun B w0 ρ w tmps ds Q' rr H F hf hQ =>
    wpIn_block (h.2.2 B w0 ρ w tmps ds _ rr H F hf fun ρ1 tmps1 w1 M1 H1 F1 x1 K1 => by
      cases ex with
      | normal => subst he; exact hQ ρ1 tmps1 w1 M1 H1 F1 x1 K1
      | ret => subst he; exact hQ ρ1 tmps1 w1 M1 H1 F1 x1 K1
      | exit i =>
        show (if i = id then Q' .normal ⟨tmps1, M1.map mkD ++ ds⟩ w1 else Q' (.exit i) ⟨tmps1, M1.map mkD ++ ds⟩ w1)
        rcases beq_cases i id with ⟨h1, hb⟩ | ⟨h1, hb⟩
        · rw [if_pos h1]; simp only [hb, cond_true] at he; subst he; exact hQ ρ1 tmps1 w1 M1 H1 F1 x1 K1
        · rw [if_neg h1]; simp only [hb, cond_false] at he; subst he; exact hQ ρ1 tmps1 w1 M1 H1 F1 x1 K1)⟩

theorem W.block {id : Nat} (h : W P nt k c T s fun ex T' s' => match ex with | .exit i => (bif Nat.beq i id then Q .normal T' s' else Q (.exit i) T' s') | e => Q e T' s') : W P nt k (.block id c) T s Q := by
  obtain ⟨ex, T1, s1, q, r⟩ := h
  cases ex with
  | normal => exact ⟨_, _, _, q, r.block rfl⟩
  | ret => exact ⟨_, _, _, q, r.block rfl⟩
  | exit i =>
    rcases beq_cases i id with ⟨h1, hb⟩ | ⟨h1, hb⟩
    · simp only [hb, cond_true] at q
      exact ⟨_, _, _, q, r.block (by simp only [hb, cond_true])⟩
    · simp only [hb, cond_false] at q
      exact ⟨_, _, _, q, r.block (by simp only [hb, cond_false])⟩

variable (P nt k) in
/-- A loop's rounds, from its head to its end. -/
inductive Rounds {ι : Type} (c : Code) (μ : ι → Nat) (TV : ι → TL) (SV : ι → SS) (ex : AExit) (T : TL) (s : SS) : ι → Prop where
  | stop {i : ι} (h : WX P nt c (TV i) (SV i) ex T s) (hx : ex ≠ .normal) : Rounds c μ TV SV ex T s i
  | more {i j : ι} {T2 : TL} {s2 : SS} (h : WX P nt c (TV i) (SV i) .normal T2 s2) (hw : Wk P nt k T2 s2 (TV j) (SV j)) (hlt : μ j < μ i) (r : Rounds c μ TV SV ex T s j) : Rounds c μ TV SV ex T s i

theorem Rounds.le {ι : Type} {μ : ι → Nat} {TV : ι → TL} {SV : ι → SS} {i : ι} (r : Rounds P nt k c μ TV SV ex T s i) : (SV i).next ≤ s.next ∧ s.gl = (SV i).gl := by
  induction r with
  | stop h hx => exact ⟨h.1, h.2.1⟩
  | more h hw hlt r ih => exact ⟨Nat.le_trans h.1 (Nat.le_trans hw.1 ih.1), ih.2.trans (hw.2.1.trans h.2.1)⟩

theorem Rounds.run {ι : Type} {μ : ι → Nat} {TV : ι → TL} {SV : ι → SS} {B : Nat} {Q' : Exit → Act → World → Prop} {rr : Option Nat} {i : ι} (r : Rounds P nt k c μ TV SV ex T s i) : ∀ (n : Nat), μ i < n → ∀ (w0 : World) (ds : List Deferred) (ρ : Ren) (w : World) (tmps : Array Value), HRel P B w0 ρ (SV i).st w → FRel ρ nt (toTr (TV i)) tmps → Free ρ (SV i).next s.next →
    (∀ ρ' tmps' w' M, HRel P B w0 ρ' s.st w' → FRel ρ' nt (toTr T) tmps' → Ext ρ ρ' (SV i).next s.next → Marks w w' M → Q' (exOf ex) ⟨tmps', M.map mkD ++ ds⟩ w') → Code.roundsIn (Fr rr) 0 P c Q' n ⟨tmps, ds⟩ w := by
  induction r with
  | stop h hx =>
    intro n hn w0 ds ρ w tmps H F hf hQ
    obtain ⟨n, rfl⟩ : ∃ m, n = m + 1 := ⟨n - 1, by omega⟩
    rw [roundsIn_succ]
    refine h.2.2 B w0 ρ w tmps ds _ rr H F hf fun ρ1 tmps1 w1 M1 H1 F1 x1 K1 => ?_
    cases ex with
    | normal => exact absurd rfl hx
    | exit id => exact hQ ρ1 tmps1 w1 M1 H1 F1 x1 K1
    | ret => exact hQ ρ1 tmps1 w1 M1 H1 F1 x1 K1
  | more h hw hlt r ih =>
    intro n hn w0 ds ρ w tmps H F hf hQ
    obtain ⟨n, rfl⟩ : ∃ m, n = m + 1 := ⟨n - 1, by omega⟩
    rw [roundsIn_succ]
    have hl := r.le.1
    refine h.2.2 B w ρ w tmps ds _ rr H.rebase F (hf.sub (Nat.le_refl _) (Nat.le_trans hw.1 hl)) fun ρ1 tmps1 w1 M1 H1 F1 x1 K1 => ?_
    obtain ⟨H2, F2⟩ := hw.2.2 B w ρ1 w1 tmps1 H1 F1
    refine ih n (by omega) w1 (M1.map mkD ++ ds) ρ1 w1 tmps1 H2.rebase F2 ((hf.ext x1 h.1).sub hw.1 (Nat.le_refl _)) fun ρ3 tmps3 w3 M3 H3 F3 x3 K3 => ?_
    exact marks_app (hQ ρ3 tmps3 w3 (M3 ++ M1) ((H.join H1).join H3) F3 (x1.trans' (x3.mono hw.1 (Nat.le_refl _)) h.1 (Nat.le_trans hw.1 hl)) (K1.join K3 H1.below.size H3.books))

/-- A loop, by what holds at its head. -/
theorem W.loop {ι : Type} (μ : ι → Nat) (I : ι → Prop) (TV : ι → TL) (SV : ι → SS) (i0 : ι) (h0 : I i0) (hw : Wk P nt k T s (TV i0) (SV i0))
    (body : ∀ i, I i → W P nt k c (TV i) (SV i) fun ex T' s' => match ex with | .normal => ∃ j, I j ∧ μ j < μ i ∧ Wk P nt k T' s' (TV j) (SV j) | e => Q e T' s') : W P nt k (.loop c) T s Q := by
  have key : ∀ (n : Nat) (i : ι), μ i < n → I i → ∃ ex T' s', Q ex T' s' ∧ Rounds P nt k c μ TV SV ex T' s' i := by
    intro n
    induction n with
    | zero => intro i hi; omega
    | succ n ih =>
      intro i hi hI
      obtain ⟨ex, T1, s1, q, r⟩ := body i hI
      cases ex with
      | normal =>
        obtain ⟨j, hj, hlt, hwk⟩ := q
        obtain ⟨ex, T', s', q', r'⟩ := ih j (by omega) hj
        exact ⟨ex, T', s', q', .more r hwk hlt r'⟩
      | exit id => exact ⟨_, _, _, q, .stop r (fun h => by cases h)⟩
      | ret => exact ⟨_, _, _, q, .stop r (fun h => by cases h)⟩
  obtain ⟨ex, T', s', q, r⟩ := key _ i0 (Nat.lt_succ_self _) h0
  refine W.weak hw ⟨ex, T', s', q, r.le.1, r.le.2, fun B w0 ρ w tmps ds Q' rr H F hf hQ => ?_⟩
  exact wpIn_loop_rounds (μ i0 + 1) (r.run _ (Nat.lt_succ_self _) w0 ds ρ w tmps H F hf hQ)

/-! ### Regions -/

def putL (T : TL) (dst : Option Tmp) (v : Value) : TL :=
  match dst with
  | none => T
  | some d => (d, v) :: T

def dstOk (nt : Nat) : Option Tmp → Bool
  | none => true
  | some d => Nat.blt d nt

theorem putT_L {dst : Option Tmp} (h : dstOk nt dst = true) (v : Value) : putT nt (toTr T) dst v = some (toTr (putL T dst v)) := by
  cases dst with
  | none => rfl
  | some d =>
    simp only [dstOk] at h
    simp only [putT, h, cond_true, putL, toTr]

variable (P nt) in
/-- Operations' one end, in the text's order. -/
def WSX (ops : Array Oper) (l : List Oper) (T : TL) (s : SS) (T' : TL) (s' : SS) : Prop :=
  s.next ≤ s'.next ∧ s'.gl = s.gl ∧ ∀ (j : Nat), (∀ i, l[i]? = ops[j + i]?) → ∀ (B : Nat) (w0 : World) (ρ : Ren) (w : World) (tmps : Array Value) (ds : List Deferred) (Q' : Exit → Act → World → Prop) (rr : Option Nat), HRel P B w0 ρ s.st w → FRel ρ nt (toTr T) tmps → Free ρ s.next s'.next →
    (∀ ρ' tmps' w', HRel P B w0 ρ' s'.st w' → FRel ρ' nt (toTr T') tmps' → Ext ρ ρ' s.next s'.next → Q' .normal ⟨tmps', ds⟩ w') → wpOpsIn (Fr rr) 0 P ops Q' (List.range' j l.length) ⟨tmps, ds⟩ w

variable (P nt) in
/-- What holds of operations in the text's order. -/
def WS (_k : Nat) (ops : Array Oper) (l : List Oper) (T : TL) (s : SS) (Q : TL → SS → Prop) : Prop :=
  ∃ T' s', Q T' s' ∧ WSX P nt ops l T s T' s'

variable {ops : Array Oper} {l : List Oper} {o : Oper} {R : TL → SS → Prop}

theorem WS.nil (h : R T s) : WS P nt k ops [] T s R :=
  ⟨_, _, h, Nat.le_refl _, rfl, fun j _ B w0 ρ w tmps ds Q' rr H F hf hQ => by simp only [List.length_nil, List.range'_zero, wpOpsIn]; exact hQ _ _ _ H F (.refl _ _ _)⟩

theorem tail_ops {j : Nat} (hl : ∀ i, (o :: l)[i]? = ops[j + i]?) : ops[j]? = some o ∧ ∀ i, l[i]? = ops[j + 1 + i]? := by
  refine ⟨?_, fun i => ?_⟩
  · have := hl 0; simp at this; exact this.symm
  · have := hl (i + 1)
    simp only [List.getElem?_cons_succ] at this
    rw [this, show j + (i + 1) = j + 1 + i from by omega]

theorem aOp_noDefer {T : ATmp} {s : ASt} {op : Op} {x : ANext} (h : aOp P T s op = some x) : ∀ c, op ≠ .defer c := by
  intro c hc
  subst hc
  simp [aOp] at h

theorem aOp_fin {T : ATmp} {s : ASt} {op : Op} {call : FuncId → List Value → ASt → Option (Value × ASt)} {y : Value × ASt} (h : fin call s (aOp P T s op) = some y) : ∀ c, op ≠ .defer c := by
  cases hx : aOp P T s op with
  | none => rw [hx] at h; cases h
  | some x => exact aOp_noDefer hx

theorem WS.off (hw : want ops (toTr T) o = some false) (hd : dstOk nt o.dst = true) (h : WS P nt k ops l (putL T o.dst (.tuple #[])) s R) : WS P nt k ops (o :: l) T s R := by
  obtain ⟨T1, s1, q, r1, r2, r⟩ := h
  refine ⟨T1, s1, q, r1, r2, fun j hl B w0 ρ w tmps ds Q' rr H F hf hQ => ?_⟩
  obtain ⟨hj, hl'⟩ := tail_ops hl
  obtain ⟨tmps', e1, e2⟩ := F.put (putT_L hd _) (undef_rel (ρ := ρ)) ds
  simp only [List.length_cons, List.range'_succ, wpOpsIn, hj, want_ok F hw, Bool.false_eq_true, if_false]
  refine ⟨fun _ _ => trivial, ?_⟩
  rw [e1]
  exact r (j + 1) hl' B w0 ρ w tmps' ds Q' rr H e2 hf hQ

theorem WS.op (G : Good P) (hw : want ops (toTr T) o = some true) (hd : dstOk nt o.dst = true) {v : Value} (hv : FinOk P s.st (aOp P (toTr T) s.st o.op) v s'.st)
    (h : WS P nt k ops l (putL T o.dst v) s' R) : WS P nt k ops (o :: l) T s R := by
  obtain ⟨T1, s1, q, r1, r2, r⟩ := h
  obtain ⟨m1, m2⟩ := finOk_mono hv
  have m1' : s.next ≤ s'.next := m1
  have m2' : s'.gl = s.gl := m2
  refine ⟨T1, s1, q, Nat.le_trans m1' r1, r2.trans m2', fun j hl B w0 ρ w tmps ds Q' rr H F hf hQ => ?_⟩
  obtain ⟨hj, hl'⟩ := tail_ops hl
  obtain ⟨call, hc, hv⟩ := hv
  simp only [List.length_cons, List.range'_succ, wpOpsIn, hj, want_ok F hw, if_true]
  refine op_fr (aOp_fin hv) (op_wp G hc H F ds hv (hf.sub (Nat.le_refl _) r1) fun v' ρ' w' q1 q2 q3 => ?_)
  obtain ⟨tmps', e1, e2⟩ := (F.mono q3.1).put (putT_L hd _) q1 ds
  rw [e1]
  have q3' : Ext ρ ρ' s.next s'.next := q3
  exact r (j + 1) hl' B w0 ρ' w' tmps' ds Q' rr q2 e2 (hf.ext q3' m1') fun ρ2 tmps2 w2 H2 F2 x2 => hQ ρ2 tmps2 w2 H2 F2 (q3'.trans' x2 m1' r1)

theorem WS.call (G : Good P) (hw : want ops (toTr T) o = some true) (hd : dstOk nt o.dst = true) {f : FuncId} {args : List Value} (hv : aOp P (toTr T) s.st o.op = some (.enter f args))
    (h : CallW P f args s fun v s' => WS P nt k ops l (putL T o.dst v) s' R) : WS P nt k ops (o :: l) T s R := by
  obtain ⟨v, s', ⟨T1, s1, q, r1, r2, r⟩, m1, m2, hc⟩ := h
  have m1' : s.next ≤ s'.next := m1
  have m2' : s'.gl = s.gl := m2
  refine ⟨T1, s1, q, Nat.le_trans m1' r1, r2.trans m2', fun j hl B w0 ρ w tmps ds Q' rr H F hf hQ => ?_⟩
  obtain ⟨hj, hl'⟩ := tail_ops hl
  simp only [List.length_cons, List.range'_succ, wpOpsIn, hj, want_ok F hw, if_true]
  refine op_fr (aOp_noDefer hv) ?_
  obtain ⟨args', h1, h2⟩ := aOp_post G H F ds hv
  unfold Oper.wp
  rw [h1]
  refine (hc B w0 ρ args' w H h2 (hf.sub (Nat.le_refl _) r1)).mono fun e w' he => ?_
  obtain ⟨v', ρ', rfl, q1, q2, q3⟩ := he
  have q3' : Ext ρ ρ' s.next s'.next := q3
  obtain ⟨tmps', e1, e2⟩ := (F.mono q3'.1).put (putT_L hd _) q1 ds
  show wpOpsIn (Fr rr) 0 P ops Q' _ ((⟨tmps, ds⟩ : Act).put o.dst v') w'
  rw [e1]
  exact r (j + 1) hl' B w0 ρ' w' tmps' ds Q' rr q2 e2 (hf.ext q3' m1') fun ρ2 tmps2 w2 H2 F2 x2 => hQ ρ2 tmps2 w2 H2 F2 (q3'.trans' x2 m1' r1)

/-- An operation by what it does to every state of the world that is so. -/
def OpX (P : Program) (op : Op) (T : TL) (s : SS) (v : Value) (s' : SS) : Prop :=
  s.next ≤ s'.next ∧ s'.gl = s.gl ∧ ∀ (o : Oper), o.op = op → ∀ (nt B : Nat) (w0 : World) (ρ : Ren) (w : World) (tmps : Array Value) (ds : List Deferred), HRel P B w0 ρ s.st w → FRel ρ nt (toTr T) tmps → Free ρ s.next s'.next →
    ∃ n v' w' ρ', (execOp (⟨tmps, ds⟩ : Act).eval o).run P w = .ok n w' ∧ (n = .value v' ∨ (n = .skip ∧ v' = undef)) ∧ VRel ρ' v v' ∧ HRel P B w0 ρ' (SS.st s') w' ∧ Ext ρ ρ' s.next s'.next

def OpW (P : Program) (op : Op) (T : TL) (s : SS) (K : Value → SS → Prop) : Prop :=
  ∃ v s', K v s' ∧ OpX P op T s v s'

theorem WS.raw (hw : want ops (toTr T) o = some true) (hd : dstOk nt o.dst = true) (h : OpW P o.op T s fun v s' => WS P nt k ops l (putL T o.dst v) s' R) : WS P nt k ops (o :: l) T s R := by
  obtain ⟨v, s', ⟨T1, s1, q, r1, r2, r⟩, m1, m2, hc⟩ := h
  refine ⟨T1, s1, q, Nat.le_trans m1 r1, r2.trans m2, fun j hl B w0 ρ w tmps ds Q' rr H F hf hQ => ?_⟩
  obtain ⟨hj, hl'⟩ := tail_ops hl
  simp only [List.length_cons, List.range'_succ, wpOpsIn, hj, want_ok F hw, if_true]
  obtain ⟨n, v', w', ρ', h1, h2, q1, q2, q3⟩ := hc o rfl nt B w0 ρ w tmps ds H F (hf.sub (Nat.le_refl _) r1)
  refine op_fr (noDefer_run h1 (h2.elim (fun q => .inl ⟨_, q⟩) fun q => .inr q.1)) ?_
  unfold Oper.wp
  rw [h1]
  obtain ⟨tmps', e1, e2⟩ := (F.mono q3.1).put (putT_L hd _) q1 ds
  have fin : wpOpsIn (Fr rr) 0 P ops Q' (List.range' (j + 1) l.length) ((⟨tmps, ds⟩ : Act).put o.dst v') w' := by
    rw [e1]
    exact r (j + 1) hl' B w0 ρ' w' tmps' ds Q' rr q2 e2 (hf.ext q3 m1) fun ρ2 tmps2 w2 H2 F2 x2 => hQ ρ2 tmps2 w2 H2 F2 (q3.trans' x2 m1 r1)
  rcases h2 with rfl | ⟨rfl, rfl⟩
  · exact fin
  · exact fin

theorem W.region {id : Nat} (h : WS P nt k ops ops.toList T s fun T' s' => Q .normal T' s') : W P nt k (.region id ops false) T s Q := by
  obtain ⟨T1, s1, q, r1, r2, r⟩ := h
  refine ⟨.normal, T1, s1, q, r1, r2, fun B w0 ρ w tmps ds Q' rr H F hf hQ => ?_⟩
  refine wpIn_region ?_
  have := r 0 (fun i => by simp) B w0 ρ w tmps ds Q' rr H F hf fun ρ' tmps' w' H' F' x => hQ ρ' tmps' w' [] H' F' x (.nil _ _)
  rw [List.range_eq_range']
  simpa using this

theorem W.draw (G : Good P) {id : Nat} {pl : Plan} (hnd : ∀ (i : Nat) (o : Oper), ops[i]? = some o → ∀ c, o.op ≠ .defer c) (hpl : plan ops = some pl) (h : rRow P nt ops pl pl.row 0 [] (toTr T) s.st fun T' s' => ∃ T1 s1, T' = toTr T1 ∧ s' = SS.st s1 ∧ Q .normal T1 s1) : W P nt k (.region id ops true) T s Q := by
  obtain ⟨T', s', ⟨T1, s1, rfl, rfl, hq⟩, ⟨m1, m2⟩, hr⟩ := rDraw_ok G hpl h
  refine ⟨.normal, T1, s1, hq, m1, m2, fun B w0 ρ w tmps ds Q' rr H F hf hQ => ?_⟩
  exact region_fr G.mixed hnd fun Q1 hq => hr H.drew F hf fun ρ' tmps' w' H' F' x => hq _ _ (hQ ρ' tmps' w' [] H' F' x (.nil _ _))

/-! ### Calls -/

def argsL : List Value → Nat → TL
  | [], _ => []
  | v :: r, i => (i, v) :: argsL r (i + 1)

theorem argsL_look : ∀ (l : List Value) (i t : Nat), look (argsL l i) t = if i ≤ t then l[t - i]? else none
  | [], i, t => by simp [argsL, look]
  | v :: r, i, t => by
    simp only [argsL, look]
    rcases beq_cases i t with ⟨h, hb⟩ | ⟨h, hb⟩
    · subst h; simp [hb]
    · rw [hb, cond_false, argsL_look r (i + 1) t]
      by_cases h1 : i + 1 ≤ t
      · rw [if_pos h1, if_pos (by omega), show t - i = (t - (i + 1)) + 1 from by omega, List.getElem?_cons_succ]
      · rw [if_neg h1, if_neg (by omega)]

theorem args_relL {ρ : Ren} {args args' : List Value} (h : LRel ρ args args') (hl : args.length ≤ nt) :
    FRel ρ nt (toTr (argsL args 0)) ((⟨args'⟩ : Array Value) ++ Array.replicate (nt - (⟨args'⟩ : Array Value).size) undef) := by
  have := args_rel h hl
  refine ⟨this.1, fun t v ht => this.2 t v ?_⟩
  rw [toTr_get, argsL_look] at ht
  simp only [Nat.zero_le, if_true, Nat.sub_zero] at ht
  have hlt : t < args.length := by
    rcases Nat.lt_or_ge t args.length with q | q
    · exact q
    · rw [List.getElem?_eq_none q] at ht; cases ht
  rw [ofArgs_get, if_pos ⟨Nat.zero_le _, by omega⟩]
  simpa using ht

/-- An activation leaves with its marks: each block is shut. -/
theorem leaves_marks {n : Nat} {fn : Func} {tmps : Array Value} {R : Ending → World → Prop} {B : Nat} {w0 : World} {ρ : Ren} {s : ASt} : ∀ (M : List Nat), M.Nodup → ∀ {w : World}, HRel P B w0 ρ s w → (∀ D ∈ M, w0.heap.size ≤ D ∧ w.heap[D]? = some (.deferred (some []))) →
    (∀ w', HRel P B w0 ρ s w' → ∃ v, (results fn tmps).run P w' = .ok v w' ∧ R (.returned v) w') → LeavesInM Fence.wide n P fn tmps R (M.map mkD) .returning w
  | [], _, w, H, _, hR => hR w H
  | D :: M, hn, w, H, hM, hR => by
    obtain ⟨h1, h2⟩ := hM D (List.mem_cons_self ..)
    refine ⟨(fun e => by cases e), .inl ⟨D, _, rfl, run_takeDeferred h2, ?_⟩⟩
    refine leaves_marks M (List.nodup_cons.1 hn).2 (H.shut h1 h2 _) (fun E hE => ?_) hR
    obtain ⟨q1, q2⟩ := hM E (List.mem_cons_of_mem _ hE)
    exact ⟨q1, (World.putObj_heap_other fun e => (List.nodup_cons.1 hn).1 (by rw [← e]; exact hE)).trans q2⟩

theorem CallW.of {f : FuncId} {fn : Func} {c : Code} {args : List Value} {K : Value → SS → Prop} (hf : P.funcs[f]? = some fn) (hb : fn.body = some c) (hn : args.length ≤ fn.ntmps)
    (h : W P fn.ntmps s.next c (argsL args 0) s fun ex T' s' => (match ex with | .exit _ => False | _ => True) ∧ ∃ l, resultL P (toTr T') s'.st fn.results.toList = some l ∧ K (one l) s') : CallW P f args s K := by
  obtain ⟨ex, T1, s1, ⟨q1, l, q2, q3⟩, r1, r2, r⟩ := h
  refine ⟨one l, s1, q3, r1, r2, fun B w0 ρ args' w H ha hfr => ?_⟩
  have hfr' : Free ρ s.next s1.next := hfr
  refine (callsIn_wide (n := 0)).1 (callsIn_of_wp_marks hf hb trivial (r B w ρ w _ [] _ none H.rebase (args_relL ha hn) hfr' fun ρ' tmps' w' M H' F' x' K => ?_) rfl)
  have hl := leaves_marks (P := P) (n := 0) (fn := fn) (tmps := tmps') (R := fun e w' => ∃ v' ρ', e = .returned v' ∧ VRel ρ' (one l) v' ∧ HRel P B w0 ρ' s1.st w' ∧ Ext ρ ρ' s.st.next s1.st.next) M K.1 (H.join H') (fun D hD => ⟨Nat.le_trans H.below.size (K.2 D hD).1, (K.2 D hD).2⟩) fun w'' H'' => by
    obtain ⟨v', p1, p2⟩ := results_ok H'' F' q2
    exact ⟨v', p1, v', ρ', rfl, p2, H'', x'⟩
  rw [← List.append_nil (M.map mkD)] at hl
  cases ex with
  | exit id => exact q1.elim
  | normal => exact hl
  | ret => exact hl

theorem CallW.zero {f : FuncId} {args : List Value} {K : Value → SS → Prop} (h : CallW P f args s K) : CallW0 P f args s K := by
  obtain ⟨v, s1, hk, h1, h2, h3⟩ := h
  have h1' : s.next ≤ s1.next := h1
  intro B w0 ρ args' w H ha hf
  refine (h3 B w0 ρ args' w H ha (hf.free _)).mono fun e w' he => ?_
  obtain ⟨v', ρ', rfl, q1, q2, q3⟩ := he
  have q3' : Ext ρ ρ' s.next s1.next := q3
  exact ⟨v', v, s1, ρ', rfl, hk, q1, q2, hf.ext h1' q3', h1', q3'.agree (Nat.le_refl _)⟩

end
end Go.Vf

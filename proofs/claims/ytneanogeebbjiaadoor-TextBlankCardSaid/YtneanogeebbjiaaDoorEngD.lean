import Derived.Test.YtneanogeebbjiaaDoorEngC
import Derived.Laws.Strings
/- The machine of plain blocks: its operations against the world's. -/
namespace Go.Vf
open Go.RowKit

def Free (ρ : Ren) (n m : Nat) : Prop := ∀ id, n ≤ id → id < m → ρ id = none
def Ext (ρ ρ' : Ren) (n m : Nat) : Prop := ρ.Le ρ' ∧ ∀ id, ρ' id ≠ none → ρ id ≠ none ∨ (n ≤ id ∧ id < m)
theorem Ext.refl (ρ : Ren) (n m : Nat) : Ext ρ ρ n m := ⟨.refl ρ, fun _ h => .inl h⟩
theorem Ext.one {ρ : Ren} {id : Nat} {e : RE} (h : ρ id = none) {m : Nat} (hm : id < m) : Ext ρ (ρ.ext id e) id m :=
  ⟨Ren.le_ext h, fun i hi => by
    by_cases hi' : i = id
    · right; omega
    · left; simpa [Ren.ext, hi'] using hi⟩

/-- Of a program: what the machine takes for granted. -/
structure Good (P : Program) : Prop where
  num : ∀ (f : Nat) fn, P.funcs[f]? = some fn → (fn.name == "runtime.NumGoroutine") = false
  mixed : P.follows .mixedOrders = true

section
variable (P : Program) (B : Nat) (w0 : World) (ρ : Ren) (s : ASt) (w : World)

def Post (ev : Operand → Value) (o : Oper) : ANext → Prop
  | .val v => ∃ v', (execOp ev o).run P w = .ok (.value v') w ∧ VRel ρ v v'
  | .new b vf => b.ro = false ∧ ∀ (id : Nat) (σ : ASt), ρ id = none → HRel P B w0 ρ σ w → σ.heap.get id = some b →
      ∃ v' w' e, (execOp ev o).run P w = .ok (.value v') w' ∧ HRel P B w0 (ρ.ext id e) σ w' ∧ VRel (ρ.ext id e) (vf id) v'
  | .eff v s' => s.next ≤ s'.next ∧ (Free ρ s.next s'.next → ∃ n w' ρ' v', (execOp ev o).run P w = .ok n w' ∧ (n = .value v' ∨ (n = .skip ∧ v' = undef)) ∧ VRel ρ' v v' ∧
      HRel P B w0 ρ' s' w' ∧ Ext ρ ρ' s.next s'.next)
  | .enter f args => ∃ args' : List Value, (execOp ev o).run P w = .ok (.enter f ⟨args'⟩) w ∧ LRel ρ args args'
end

section
variable {P : Program} {B : Nat} {w0 : World} {ρ : Ren} {s : ASt} {w : World} {T : ATmp} {ev : Operand → Value} {o : Oper}

theorem operands_rel (hE : ∀ x v, operand T s x = some v → VRel ρ v (ev x)) : ∀ {l : List Operand} {vs : List Value}, operands T s l = some vs → LRel ρ vs (l.map ev)
  | [], vs, h => by simp [operands] at h; subst h; exact .nil _
  | x :: r, vs, h => by
    simp only [operands] at h
    split at h
    · cases h
    · rename_i v hv
      split at h
      · cases h
      · rename_i l hl
        cases h
        exact .cons (hE _ _ hv) (operands_rel hE hl)

theorem info_of_size {t : TypeId} {n : Nat} (h : sizeB P t = some n) : ∃ i, P.info? t = some i ∧ i.size = n := by
  unfold sizeB at h
  cases hi : P.info? t with
  | none => simp [hi] at h
  | some i => simp [hi] at h; exact ⟨i, rfl, h⟩

theorem run_sizeB {t : TypeId} {n : Nat} (h : sizeB P t = some n) (w : World) : (sizeOf t).run P w = .ok n w := by
  obtain ⟨i, hi, hn⟩ := info_of_size h
  rw [run_sizeOf w hi]
  simp [Program.cellsOf, hi, hn]

theorem run_aggB {t : TypeId} {b : Bool} (h : aggB P t = some b) (w : World) : (isAgg t).run P w = .ok b w := by
  unfold aggB at h
  unfold isAgg
  cases hd : P.underlying t with
  | none => simp [hd] at h
  | some d =>
    simp only [Sem.run_bind, run_underlying hd, Result.andThen_ok]
    rw [hd] at h
    cases d <;> simp at h <;> subst h <;> rfl

theorem run_zeroB {t : TypeId} {z : Value} (h : zeroB P t = some z) (w : World) : (zeroValue t).run P w = .ok z w ∧ VRel ρ z z := by
  unfold zeroB at h
  split at h
  · rename_i i hi
    split at h
    · rename_i v hv
      cases hp : plainV v with
      | false => simp [hp] at h
      | true =>
        simp [hp] at h
        subst h
        refine ⟨?_, plain_rel hp⟩
        unfold zeroValue
        simp only [Sem.run_bind, run_typeInfo w hi, Result.andThen_ok, hv, Sem.run_pure]
    · cases h
  · cases h

theorem sure_ok {v : Value} {a' : Addr} (h : VRel ρ v (.pointer (some a'))) : ∃ a, v = .pointer (some a) ∧ ARel ρ a a' := by cases h; exact ⟨_, rfl, by assumption⟩

theorem ptr_inv {a : Addr} {v' : Value} (h : VRel ρ (.pointer (some a)) v') : ∃ a', v' = .pointer (some a') ∧ ARel ρ a a' := by cases h; exact ⟨_, rfl, by assumption⟩
theorem int_inv {k : IntKind} {n : Int} {v' : Value} (h : VRel ρ (.int k n) v') : v' = .int k n := by cases h; rfl
theorem bool_inv {b : Bool} {v' : Value} (h : VRel ρ (.bool b) v') : v' = .bool b := by cases h; rfl
theorem str_inv {b : ByteArray} {v' : Value} (h : VRel ρ (.string b) v') : v' = .string b := by cases h; rfl
theorem agg_inv {a : Array Value} {v' : Value} (h : VRel ρ (.agg a) v') : ∃ a', v' = .agg a' ∧ LRel ρ a.toList a'.toList := by
  cases h; rename_i a' h1 h2; exact ⟨a', rfl, h1, h2⟩
theorem tuple_inv {a : Array Value} {v' : Value} (h : VRel ρ (.tuple a) v') : ∃ a', v' = .tuple a' ∧ LRel ρ a.toList a'.toList := by
  cases h; rename_i a' h1 h2; exact ⟨a', rfl, h1, h2⟩
theorem slice_inv {a : Addr} {l c : Nat} {v' : Value} (h : VRel ρ (.slice (some a) l c) v') : ∃ a' c', v' = .slice (some a') l c' ∧ SlRel ρ a a' l c c' := by
  cases h; exact ⟨_, _, rfl, by assumption⟩
theorem func_inv {f : FuncId} {a b : Array Value} {v' : Value} (h : VRel ρ (.func (.func f) a b) v') : ∃ a' b', v' = .func (.func f) a' b' ∧ LRel ρ a.toList a'.toList ∧ LRel ρ b.toList b'.toList := by
  cases h; exact ⟨_, _, rfl, ⟨by assumption, by assumption⟩, ⟨by assumption, by assumption⟩⟩
theorem iface_inv {t : TypeId} {v v' : Value} (h : VRel ρ (.iface t v) v') : ∃ u, v' = .iface t u ∧ VRel ρ v u := by
  cases h; exact ⟨_, rfl, by assumption⟩
theorem slice0_inv {l c : Nat} {v' : Value} (h : VRel ρ (.slice none l c) v') : v' = .slice none l c := by cases h; rfl

theorem SlRel.addr {a a' : Addr} {l c c' : Nat} (h : SlRel ρ a a' l c c') (hl : 0 < l) : ARel ρ a a' := by
  rcases h with ⟨h1, h2, e, h3, h4, h5⟩ | ⟨_, h0, _⟩
  case inr => omega
  refine ⟨h1, h2, e, h3, h4, ?_⟩
  rcases h5 with h5 | h5
  · exact h5.2.1
  · rcases h5.2.2.2.2 with h6 | h6
    · omega
    · exact h6

theorem cell_ok (H : HRel P B w0 ρ s w) {a a' : Addr} (ha : ARel ρ a a') {v : Value} (h : loadCell s a = some v) : ∃ v', w.cell? a' = some v' ∧ VRel ρ v v' := by
  obtain ⟨h1, h2, e, h3, h4, h5⟩ := ha
  unfold loadCell at h
  rw [h1] at h
  simp only [Option.isSome_none, cond_false] at h
  split at h
  · rename_i c t g ro hb
    obtain ⟨-, rc, lo, hi, t0, g2, ht0, g3, g4, g5, g6, g7⟩ := H.blk _ _ _ hb h3
    obtain ⟨v', q1, q2⟩ := g7 _ _ h
    exact ⟨v', by rw [addr_eq h2, h4, cell_at g2, h5]; exact q1, q2⟩
  · cases h

theorem post_load (H : HRel P B w0 ρ s w) (hE : ∀ x v, operand T s x = some v → VRel ρ v (ev x)) {t : TypeId} {a : Operand} (ho : o.op = .load t a) {nx : ANext}
    (h : aOp P T s (.load t a) = some nx) : Post P B w0 ρ s w ev o nx := by
  simp only [aOp] at h
  split at h
  · rename_i ad had
    obtain ⟨a', ha', hrel⟩ := ptr_inv (hE _ _ had)
    have hrun : (execOp ev o).run P w = ((loadVar t a').run P w).andThen fun v w => .ok (.value v) w := by
      simp only [execOp, ho, Instr.loadAt, ha', Instr.sureAddr, Sem.run_bind, Sem.run_pure, Result.andThen_ok]
    split at h
    · cases h
    · rename_i hag
      split at h
      · cases h
      · rename_i n hn
        split at h
        · cases h
        · rename_i l hl
          cases h
          obtain ⟨l', r1, r2, -⟩ := load_ok H hrel hl
          refine ⟨.agg ⟨l'⟩, ?_, .agg' r2⟩
          rw [hrun]
          simp only [loadVar, Sem.run_bind, run_aggB hag, Result.andThen_ok, if_true, run_sizeB hn, r1, Sem.run_pure]
    · rename_i hag
      cases hc : loadCell s ad with
      | none => simp [hc] at h
      | some v =>
        simp [hc] at h
        subst h
        obtain ⟨v', q1, q2⟩ := cell_ok H hrel hc
        refine ⟨v', ?_, q2⟩
        rw [hrun]
        simp only [loadVar, Sem.run_bind, run_aggB hag, Result.andThen_ok, Bool.false_eq_true, if_false, run_load, q1]
  · cases h

theorem post_store (H : HRel P B w0 ρ s w) (hE : ∀ x v, operand T s x = some v → VRel ρ v (ev x)) {t : TypeId} {a x : Operand} (ho : o.op = .store t a x) {nx : ANext}
    (h : aOp P T s (.store t a x) = some nx) : Post P B w0 ρ s w ev o nx := by
  simp only [aOp] at h
  split at h
  · rename_i ad v n had hv hn
    obtain ⟨a', ha', hrel⟩ := ptr_inv (hE _ _ had)
    have hvr := (hE _ _ hv).flat
    cases hc : (Nat.beq (flat v).length n && all1 (flat v)) with
    | false => simp [hc] at h
    | true =>
      simp only [hc, cond_true] at h
      rw [Bool.and_eq_true, Nat.beq_eq] at hc
      split at h
      · cases h
      · rename_i s' hs
        cases h
        obtain ⟨w', r1, r2, r3, r4⟩ := store_ok H hrel hs hc.2 hvr
        refine ⟨by omega, fun _ => ⟨.skip, w', ρ, undef, ?_, .inr ⟨rfl, rfl⟩, .tuple rfl (fun i v v' hv => by simp at hv), r2, .refl _ _ _⟩⟩
        have hlen : (ev x).cells.size = n := by rw [← hc.1]; exact hvr.1.symm
        simp only [execOp, ho, Instr.storeAt, ha', Instr.sureAddr, Sem.run_bind, Sem.run_pure, Result.andThen_ok, storeVar, run_sizeB hn, hlen, ne_eq, not_true_eq_false, if_false]
        have : (ev x).cells.toList = flat (ev x) := rfl
        rw [this, r1]
        rfl
  · cases h


/-! ### Operations that only compute -/

theorem post_move (hE : ∀ x v, operand T s x = some v → VRel ρ v (ev x)) {x : Operand} (ho : o.op = .move x ∨ o.op = .assign x) {nx : ANext}
    (h : (operand T s x).map ANext.val = some nx) : Post P B w0 ρ s w ev o nx := by
  cases hx : operand T s x with
  | none => simp [hx] at h
  | some v =>
    simp [hx] at h
    subst h
    refine ⟨ev x, ?_, hE _ _ hx⟩
    rcases ho with ho | ho <;> simp only [execOp, ho, Sem.run_pure]

theorem post_pick (hE : ∀ x v, operand T s x = some v → VRel ρ v (ev x)) {c a b : Operand} (ho : o.op = .pick c a b) {nx : ANext}
    (h : aOp P T s (.pick c a b) = some nx) : Post P B w0 ρ s w ev o nx := by
  simp only [aOp] at h
  split at h
  · rename_i hc
    cases hx : operand T s a with
    | none => simp [hx] at h
    | some v =>
      simp [hx] at h
      subst h
      refine ⟨ev a, ?_, hE _ _ hx⟩
      simp only [execOp, ho, bool_inv (hE _ _ hc), asBool, Sem.run_bind, Sem.run_pure, Result.andThen_ok, if_true]
  · rename_i hc
    cases hx : operand T s b with
    | none => simp [hx] at h
    | some v =>
      simp [hx] at h
      subst h
      refine ⟨ev b, ?_, hE _ _ hx⟩
      simp only [execOp, ho, bool_inv (hE _ _ hc), asBool, Sem.run_bind, Sem.run_pure, Result.andThen_ok, Bool.false_eq_true, if_false]
  · cases h

theorem post_nilCheck (hE : ∀ x v, operand T s x = some v → VRel ρ v (ev x)) {x : Operand} (ho : o.op = .nilCheck x) {nx : ANext}
    (h : aOp P T s (.nilCheck x) = some nx) : Post P B w0 ρ s w ev o nx := by
  simp only [aOp] at h
  split at h
  · rename_i a hx
    cases h
    obtain ⟨a', ha', hr⟩ := ptr_inv (hE _ _ hx)
    exact ⟨.pointer (some a'), by simp only [execOp, ho, ha', Sem.run_pure], .pointer hr⟩
  · rename_i f a b hx
    cases h
    have hr := hE _ _ hx
    obtain ⟨a', b', he, -, -⟩ := func_inv hr
    exact ⟨ev x, by simp only [execOp, ho, he, Sem.run_pure], hr⟩
  · rename_i t v hx
    cases h
    have hr := hE _ _ hx
    obtain ⟨u, he, -⟩ := iface_inv hr
    exact ⟨ev x, by simp only [execOp, ho, he, Sem.run_pure], hr⟩
  · cases h

theorem post_makeInterface (hE : ∀ x v, operand T s x = some v → VRel ρ v (ev x)) {t : TypeId} {x : Operand} (ho : o.op = .makeInterface t x) {nx : ANext}
    (h : aOp P T s (.makeInterface t x) = some nx) : Post P B w0 ρ s w ev o nx := by
  simp only [aOp] at h
  split at h
  · cases h
  · rename_i d v hni hu hx
    cases h
    refine ⟨.iface t (ev x), ?_, .iface t (hE _ _ hx)⟩
    simp only [execOp, ho, Instr.makeInterface, Sem.run_bind, run_underlying hu, Result.andThen_ok]
    cases d <;> first | rfl | exact absurd rfl (hni _ _)
  · cases h

theorem post_makeFunc (hE : ∀ x v, operand T s x = some v → VRel ρ v (ev x)) {fn : Fn} {a b : Array Operand} (ho : o.op = .makeFunc fn a b) {nx : ANext}
    (h : aOp P T s (.makeFunc fn a b) = some nx) : Post P B w0 ρ s w ev o nx := by
  simp only [aOp] at h
  split at h
  · rename_i x y hx hy
    cases hi : isYield fn with
    | true => rw [hi] at h; cases h
    | false =>
    rw [hi] at h
    cases h
    have h1 := operands_rel hE hx
    have h2 := operands_rel hE hy
    refine ⟨.func fn (a.map ev) (b.map ev), ?_, .func fn hi ?_ ?_ ?_ ?_⟩
    · simp only [execOp, ho, Instr.makeFunc, Sem.run_bind, Sem.run_pure, Result.andThen_ok]
    · simpa using h1.1
    · simpa using h2.1
    · intro i v v' q1 q2; exact h1.2 i v v' q1 (by simpa using q2)
    · intro i v v' q1 q2; exact h2.2 i v v' q1 (by simpa using q2)
  · cases h

theorem post_extract (hE : ∀ x v, operand T s x = some v → VRel ρ v (ev x)) {x : Operand} {i : Nat} (ho : o.op = .extract x i) {nx : ANext}
    (h : aOp P T s (.extract x i) = some nx) : Post P B w0 ρ s w ev o nx := by
  simp only [aOp] at h
  split at h
  · rename_i vs hx
    cases hi : vs.toList[i]? with
    | none => rw [hi] at h; cases h
    | some v =>
      rw [hi] at h
      cases h
      obtain ⟨a', ha', hr⟩ := tuple_inv (hE _ _ hx)
      obtain ⟨v', q1, q2⟩ := hr.get hi
      refine ⟨v', ?_, q2⟩
      simp only [execOp, ho, ha', Instr.extract]
      have : a'[i]? = some v' := by simpa using q1
      simp only [this, Sem.run_bind, Sem.run_pure, Result.andThen_ok]
  · cases h

theorem intBin_run {op : BinOp} {k : IntKind} {a b : Int} {v : Value} (hs : op ≠ .shl) (hs' : op ≠ .shr) (t : TypeId) (h : intBin op k a b = some v) (w : World) :
    (binOp op t (.int k a) (.int k b)).run P w = .ok v w ∧ VRel ρ v v := by
  cases op <;> simp only [intBin] at h <;> first
    | (cases h; done)
    | (cases h; exact ⟨by simp only [binOp, ne_eq, not_true_eq_false, if_false, Op.intArith, Op.intBits, Op.intCmp, Sem.run_pure], by constructor⟩)
    | (split at h
       · cases h
       · rename_i hb
         cases h
         exact ⟨by simp only [binOp, ne_eq, not_true_eq_false, if_false, Op.intDiv, if_neg hb, Sem.run_pure], by constructor⟩)

theorem shiftBin_run {op : BinOp} {k yk : IntKind} {a b : Int} {v : Value} (t : TypeId) (h : shiftBin op k a b = some v) (w : World) :
    (binOp op t (.int k a) (.int yk b)).run P w = .ok v w ∧ VRel ρ v v := by
  unfold shiftBin at h
  split at h
  · cases h
  · rename_i hb
    split at h
    · cases h
      exact ⟨by simp only [binOp, Op.shift, if_neg hb, Sem.run_pure], by constructor⟩
    · cases h
      exact ⟨by simp only [binOp, Op.shift, if_neg hb, Sem.run_pure], by constructor⟩
    · cases h

theorem beqL_eq : ∀ (x y : List UInt8), beqL x y = (x == y)
  | [], [] => rfl
  | [], _ :: _ => rfl
  | _ :: _, [] => rfl
  | a :: x, b :: y => by
    simp only [beqL, beqL_eq x y]
    by_cases h : a = b
    · subst h
      simp
    · rw [beqF (fun e => h (UInt8.toNat_inj.1 e))]
      simp [h]

theorem lssL_eq : ∀ (x y : List UInt8), lssL x y = Op.bytesLess x y
  | [], [] => rfl
  | [], _ :: _ => rfl
  | _ :: _, [] => rfl
  | a :: x, b :: y => by
    simp only [lssL, Op.bytesLess, lssL_eq x y]
    have h1 : Nat.blt a.toNat b.toNat = decide (a < b) := by
      rw [Bool.eq_iff_iff, Nat.blt_eq, decide_eq_true_iff, UInt8.lt_iff_toNat_lt]
    have h2 : Nat.beq a.toNat b.toNat = (a == b) := by
      by_cases h : a = b
      · subst h; simp
      · rw [beqF (fun e => h (UInt8.toNat_inj.1 e))]; simp [h]
    rw [h1, h2]
    cases decide (a < b) <;> cases (a == b) <;> simp

theorem strBin_run {op : BinOp} {a b : ByteArray} {v : Value} (t : TypeId) (h : strBin op a b = some v) (w : World) :
    (binOp op t (.string a) (.string b)).run P w = .ok v w ∧ VRel ρ v v := by
  have hab : (⟨⟨a.data.toList ++ b.data.toList⟩⟩ : ByteArray) = a ++ b := by
    cases a; cases b
    rename_i x y
    cases x; cases y
    apply ByteArray.ext
    rw [ByteArray.data_append]
    simp
  cases op <;> simp only [strBin, beqL_eq, lssL_eq] at h <;> first
    | (cases h; done)
    | (cases h
       exact ⟨by simp only [binOp, Op.stringOp, ByteArray.toList_eq, Sem.run_pure], by constructor⟩)
    | (cases hc : Nat.ble (a.data.toList.length + b.data.toList.length) 4294967296 with
       | false => simp only [hc, cond_false] at h; cases h
       | true =>
         simp only [hc, cond_true] at h
         cases h
         rw [Nat.ble_eq] at hc
         refine ⟨?_, by constructor⟩
         have hsz : ¬ (((a.size + b.size : Nat) : Int) > IntKind.i64.max) := by
           have e1 : a.size = a.data.toList.length := rfl
           have e2 : b.size = b.data.toList.length := rfl
           have : IntKind.i64.max = 9223372036854775807 := by decide
           omega
         simp only [binOp, Op.stringOp, if_neg hsz, Sem.run_pure, hab])

theorem eqGuard_run {op : BinOp} {t : TypeId} {x y : Operand} {a b : Value} (h1 : ∀ c, a ≠ .agg c) (h2 : a ≠ .nilIface) (w : World) :
    (eqGuard op t x y a b).run P w = .ok () w := by
  unfold eqGuard
  cases hop : (!(op matches .eql | .neq))
  · simp only [Bool.false_eq_true, if_false]
    split
    · exact absurd rfl h2
    · exact absurd rfl (h1 _)
    · rfl
  · simp only [if_true]
    rfl

theorem isNone_rel {a a' : Option Addr} (h : VRel ρ (.pointer a) (.pointer a')) : a.isNone = a'.isNone := by cases h <;> rfl

theorem equalIn_flat {d : Nat} {t : TypeId} {x y : Value} {b : Bool} (h : eqlOther P t x y = some b) (w : World) : (Op.equalIn (d + 1) t x y).run P w = .ok b w := by
  unfold eqlOther at h
  split at h <;> first
    | (rename_i hu; cases h; simp only [Op.equalIn, Sem.run_bind, run_underlying hu, Result.andThen_ok, Sem.run_pure]; done)
    | (cases h; done)

theorem eqlOther_rel {t : TypeId} {x y x' y' : Value} {b : Bool} (h : eqlOther P t x y = some b) (hx : VRel ρ x x') (hy : VRel ρ y y') : eqlOther P t x' y' = some b := by
  unfold eqlOther at h
  split at h <;> first
    | (cases h; done)
    | (rename_i hu; cases h; cases hx <;> cases hy <;> (simp only [eqlOther, hu] <;> rfl))

theorem eqlOther_form {t : TypeId} {x y : Value} {b : Bool} (h : eqlOther P t x y = some b) :
    (∀ c, x ≠ .agg c) ∧ x ≠ .nilIface ∧ (∀ k n, x ≠ .int k n) ∧ (∀ k n, x ≠ .float k n) ∧ (∀ k n m, x ≠ .complex k n m) ∧ (∀ n, x ≠ .string n) := by
  unfold eqlOther at h
  split at h <;> first
    | (cases h; done)
    | simp

theorem equal_flat {t : TypeId} {x y : Value} {b : Bool} (h : eqlOther P t x y = some b) (w : World) : (Op.equal t x y).run P w = .ok b w := by
  show (Op.equalIn (9999 + 1) t x y).run P w = _
  exact equalIn_flat h w

theorem binOp_other {t : TypeId} {x y : Value} (hf : (∀ k n, x ≠ .int k n) ∧ (∀ k n, x ≠ .float k n) ∧ (∀ k n m, x ≠ .complex k n m) ∧ (∀ n, x ≠ .string n)) :
    binOp .eql t x y = (do pure (.bool (← Op.equal t x y))) ∧ binOp .neq t x y = (do pure (.bool (!(← Op.equal t x y)))) := by
  obtain ⟨h1, h2, h3, h4⟩ := hf
  cases x <;> first
    | exact absurd rfl (h1 _ _)
    | exact absurd rfl (h2 _ _)
    | exact absurd rfl (h3 _ _ _)
    | exact absurd rfl (h4 _)
    | exact ⟨rfl, rfl⟩

theorem post_binOp (hE : ∀ x v, operand T s x = some v → VRel ρ v (ev x)) {op : BinOp} {t u : TypeId} {x y : Operand} (ho : o.op = .binOp op t x y u) {nx : ANext}
    (h : aOp P T s (.binOp op t x y u) = some nx) : Post P B w0 ρ s w ev o nx := by
  simp only [aOp] at h
  split at h
  · rename_i a b ha hb
    cases hv : binV P op t a b with
    | none => simp [hv] at h
    | some v =>
      simp [hv] at h
      subst h
      have h1 := hE _ _ ha
      have h2 := hE _ _ hb
      have key : ∀ {a' b' : Value}, ev x = a' → ev y = b' → (∀ c, a' ≠ .agg c) → a' ≠ .nilIface → (binOp op t a' b').run P w = .ok v w → (execOp ev o).run P w = .ok (.value v) w := by
        intro a' b' e1 e2 g1 g2 hr
        simp only [execOp, ho, e1, e2, Sem.run_bind, eqGuard_run g1 g2, Result.andThen_ok, hr, Sem.run_pure]
      unfold binV at hv
      split at hv
      · obtain ⟨q1, q2⟩ := shiftBin_run (ρ := ρ) t hv w
        exact ⟨v, key (int_inv h1) (int_inv h2) (by simp) (by simp) q1, q2⟩
      · obtain ⟨q1, q2⟩ := shiftBin_run (ρ := ρ) t hv w
        exact ⟨v, key (int_inv h1) (int_inv h2) (by simp) (by simp) q1, q2⟩
      · rename_i op k p k' q n1 n2
        split at hv
        · rename_i hk
          subst hk
          obtain ⟨q1, q2⟩ := intBin_run (ρ := ρ) (fun e => by subst e; simp at n1) (fun e => by subst e; simp at n2) t hv w
          exact ⟨v, key (int_inv h1) (int_inv h2) (by simp) (by simp) q1, q2⟩
        · cases hv
      · obtain ⟨q1, q2⟩ := strBin_run (ρ := ρ) t hv w
        exact ⟨v, key (str_inv h1) (str_inv h2) (by simp) (by simp) q1, q2⟩
      · cases he : eqlOther P t a b with
        | none => simp [he] at hv
        | some c =>
          simp [he] at hv
          subst hv
          have he' := eqlOther_rel he h1 h2
          obtain ⟨f1, f2, f3⟩ := eqlOther_form he'
          refine ⟨.bool c, key rfl rfl f1 f2 ?_, .bool c⟩
          rw [(binOp_other f3).1]
          simp only [Sem.run_bind, equal_flat he', Result.andThen_ok, Sem.run_pure]
      · cases he : eqlOther P t a b with
        | none => simp [he] at hv
        | some c =>
          simp [he] at hv
          subst hv
          have he' := eqlOther_rel he h1 h2
          obtain ⟨f1, f2, f3⟩ := eqlOther_form he'
          refine ⟨.bool (!c), key rfl rfl f1 f2 ?_, .bool _⟩
          rw [(binOp_other f3).2]
          simp only [Sem.run_bind, equal_flat he', Result.andThen_ok, Sem.run_pure]
      · cases hv
  · cases h

theorem post_unOp (hE : ∀ x v, operand T s x = some v → VRel ρ v (ev x)) {op : UnOp} {t : TypeId} {x : Operand} (ho : o.op = .unOp op t x) {nx : ANext}
    (h : aOp P T s (.unOp op t x) = some nx) : Post P B w0 ρ s w ev o nx := by
  simp only [aOp] at h
  split at h
  · rename_i a ha
    cases hv : unV op a with
    | none => simp [hv] at h
    | some v =>
      simp [hv] at h
      subst h
      have h1 := hE _ _ ha
      unfold unV at hv
      split at hv
      · cases hv
        refine ⟨_, ?_, .int _ _⟩
        simp only [execOp, ho, int_inv h1, Op.unary, Op.intArith, Sem.run_bind, Sem.run_pure, Result.andThen_ok]
      · rename_i k n
        simp only [intBin] at hv
        cases hv
        refine ⟨_, ?_, .int _ _⟩
        simp only [execOp, ho, int_inv h1, Op.unary, Op.intBits, Sem.run_bind, Sem.run_pure, Result.andThen_ok]
      · cases hv
        refine ⟨_, ?_, .bool _⟩
        simp only [execOp, ho, bool_inv h1, Op.unary, Sem.run_bind, Sem.run_pure, Result.andThen_ok]
      · cases hv
  · cases h

end
end Go.Vf

import Derived.Test.YtfminjggoaegdaaGreatDoorEngBc
import Derived.ChangeSlices
import Derived.Carry
import Derived.OpenVars
import Derived.Handed
section
namespace Go.Vf
open Go.RowKit
set_option linter.unusedVariables false
set_option linter.unusedSimpArgs false
section
variable {P : Program} {nt k : Nat} {T : TL} {s s' : SS} {ops : Array Oper}
theorem wG_ok {o : Oper} {mo : MOper} {run skip : Prop} (hm : cOper P nt ops o = some mo) (h : wG T mo.grd run skip) :
  mo.dst = o.dst ∧ dstOk nt o.dst = true ∧ cOp' P o.op = some mo.op ∧ ((want ops (toTr T) o = some true ∧ run) ∨ (want ops (toTr T) o = some false ∧ skip)) := by
 unfold cOper at hm
 cases hd : dstOk nt o.dst with
 | false => simp [hd] at hm
 | true =>
  simp only [hd, cond_true] at hm
  split at hm
  ·cases hm
  ·rename_i m hop
   split at hm
   ·rename_i hg
    cases hm
    exact ⟨rfl, rfl, hop, .inl ⟨by simp only [want, hg], h⟩⟩
   ·rename_i j b hg
    split at hm
    ·rename_i g hj
     split at hm
     ·rename_i d hgd
      cases hm
      refine ⟨rfl, rfl, hop, ?_⟩
      simp only [wG] at h
      simp only [want, hg, hj, hgd, toTr_get]
      split at h
      ·rename_i c hc
       rw [hc]
       cases c <;> cases b <;> first
        | exact .inl ⟨rfl, h⟩
        | exact .inr ⟨rfl, h⟩
      ·rename_i hc
       rw [hc]
       exact .inr ⟨rfl, h⟩
      ·exact h.elim
     ·cases hm
    ·cases hm
theorem wG_okR {o : Oper} {mo : MOper} {run skip : Prop} (hm : cOperR P nt ops o = some mo) (h : wG T mo.grd run skip) :
  mo.dst = o.dst ∧ dstOk nt o.dst = true ∧ cOpR P o.op = some mo.op ∧ ((want ops (toTr T) o = some true ∧ run) ∨ (want ops (toTr T) o = some false ∧ skip)) := by
 unfold cOperR at hm
 cases hd : dstOk nt o.dst with
 | false => simp [hd] at hm
 | true =>
  simp only [hd, cond_true] at hm
  split at hm
  ·cases hm
  ·rename_i m hop
   split at hm
   ·rename_i hg
    cases hm
    exact ⟨rfl, rfl, hop, .inl ⟨by simp only [want, hg], h⟩⟩
   ·rename_i j b hg
    split at hm
    ·rename_i g hj
     split at hm
     ·rename_i d hgd
      cases hm
      refine ⟨rfl, rfl, hop, ?_⟩
      simp only [wG] at h
      simp only [want, hg, hj, hgd, toTr_get]
      split at h
      ·rename_i c hc
       rw [hc]
       cases c <;> cases b <;> first
        | exact .inl ⟨rfl, h⟩
        | exact .inr ⟨rfl, h⟩
      ·rename_i hc
       rw [hc]
       exact .inr ⟨rfl, h⟩
      ·exact h.elim
     ·cases hm
    ·cases hm
theorem OpW.mono {P : Program} {op : Op} {T : TL} {s : SS} {K K1 : Value → SS → Prop} (h : OpW P op T s K) (hq : ∀ v s, K v s → K1 v s) : OpW P op T s K1 :=
 let ⟨a, b, q, r⟩ := h
 ⟨a, b, hq _ _ q, r⟩
theorem cOp_cases {op : Op} {m : MOp} (hm : cOp' P op = some m) : m = .raw op ∨ (cOp P op = some m ∧ m.isRaw = false) := by
 unfold cOp' at hm
 split at hm
 ·cases hm; exact .inl rfl
 ·split at hm
  ·rename_i m' hm'
   split at hm
   ·cases hm
   ·rename_i hr
    cases hm
    exact .inr ⟨hm', hr⟩
  ·cases hm
theorem wN_ok' {op : Op} {m : MOp} {K : RR → Prop} (hm : cOp' P op = some m) (h : wN P m T s K) : ∃ r : RR, aOp P (toTr T) s.st op = some r.toN ∧ K r := by
 rcases cOp_cases hm with rfl | ⟨hm, -⟩
 ·exact h.elim
 ·exact wN_ok hm h
def stepP (P : Program) (m : MOp) (d : Option Tmp) (l : List MOper) (T : TL) (s : SS) (Q : TL → SS → Prop) : Prop :=
 match m with
 | .raw op => OpW P op T s fun v s' => Box (wSeq P l (putL T d v) s' Q)
 | m => wN P m T s fun r => match r with
  | .val v => Box (wSeq P l (putL T d v) s Q)
  | .new b v => Box (wSeq P l (putL T d (v s.next)) { s with heap := (s.next, some b) :: s.heap, next := s.next + 1 } Q)
  | .eff v s' => Box (wSeq P l (putL T d v) s' Q)
  | .call f args => CallW P f args s fun v s' => Box (wSeq P l (putL T d v) s' Q)
theorem stepP_not {m : MOp} {d : Option Tmp} {l : List MOper} {T : TL} {s : SS} {Q : TL → SS → Prop} (hm : m.isRaw = false) : stepP P m d l T s Q = wN P m T s fun r => match r with
  | .val v => Box (wSeq P l (putL T d v) s Q)
  | .new b v => Box (wSeq P l (putL T d (v s.next)) { s with heap := (s.next, some b) :: s.heap, next := s.next + 1 } Q)
  | .eff v s' => Box (wSeq P l (putL T d v) s' Q)
  | .call f args => CallW P f args s fun v s' => Box (wSeq P l (putL T d v) s' Q) := by
 cases m <;> first | rfl | cases hm
theorem none_ok (P : Program) : CallerOk P fun _ _ _ => none := fun _ _ _ _ _ h => by cases h
theorem wSeq_ok (G : Good P) {R : TL → SS → Prop} : ∀ {l : List Oper} {ms : List MOper} {T : TL} {s : SS}, cSeq P nt ops l = some ms → wSeq P ms T s R → WS P nt k ops l T s R
 | [], ms, T, s, hm, h => by
  simp only [cSeq] at hm; cases hm
  exact WS.nil h
 | o :: l, ms, T, s, hm, h => by
  simp only [cSeq] at hm
  split at hm
  ·rename_i mo ml h1 h2
   cases hm
   obtain ⟨e1, e2, e3, q | q⟩ := wG_ok h1 h
   ·obtain ⟨qw, qr⟩ := q
    replace qr : stepP P mo.op mo.dst ml T s R := qr
    rcases cOp_cases e3 with e4 | ⟨e4, e5⟩
    ·rw [e4, e1] at qr
     exact WS.raw qw e2 (OpW.mono qr fun v s1 hh => wSeq_ok G h2 hh.out)
    rw [stepP_not e5] at qr
    obtain ⟨r, hr, hk⟩ := wN_ok e4 qr
    rw [e1] at hk
    cases r with
    | val v => exact WS.op G qw e2 (v := v) (s' := s) ⟨_, none_ok P, by rw [hr]; rfl⟩ (wSeq_ok G h2 hk.out)
    | new b v => exact WS.op G qw e2 (v := v s.next) (s' := { s with heap := (s.next, some b) :: s.heap, next := s.next + 1 }) ⟨_, none_ok P, by rw [hr]; rfl⟩ (wSeq_ok G h2 hk.out)
    | eff v s1 => exact WS.op G qw e2 (v := v) (s' := s1) ⟨_, none_ok P, by rw [hr]; rfl⟩ (wSeq_ok G h2 hk.out)
    | call f args => exact WS.call G qw e2 hr (hk.mono fun v s1 hh => wSeq_ok G h2 hh.out)
   ·obtain ⟨qw, qr⟩ := q
    rw [e1] at qr
    exact WS.off qw e2 (wSeq_ok G h2 qr.out)
  ·cases hm
theorem loadRow_keep {s s' : ASt} (hk : ∀ id b, s.heap.get id = some b → s'.heap.get id = some b) {a : Addr} {n : Nat} {l : List Value} (h : loadRow s a n = some l) : loadRow s' a n = some l := by
 unfold loadRow at h ⊢
 cases hs : a.spot.isSome with
 | true => simp [hs] at h
 | false =>
  simp only [hs, cond_false] at h ⊢
  split at h
  ·rename_i hb
   rw [hk _ _ hb]; exact h
  ·cases h
theorem loadCell_keep {s s' : ASt} (hk : ∀ id b, s.heap.get id = some b → s'.heap.get id = some b) {a : Addr} {v : Value} (h : loadCell s a = some v) : loadCell s' a = some v := by
 unfold loadCell at h ⊢
 cases hs : a.spot.isSome with
 | true => simp [hs] at h
 | false =>
  simp only [hs, cond_false] at h ⊢
  split at h
  ·rename_i hb
   rw [hk _ _ hb]; exact h
  ·cases h
theorem growOf_keep {s s' : ASt} (hk : ∀ id b, s.heap.get id = some b → s'.heap.get id = some b) {a : Addr} {v : Bool × TypeId} (h : growOf s a = some v) : growOf s' a = some v := by
 unfold growOf at h ⊢
 split at h
 ·rename_i hb
  rw [hk _ _ hb]; exact h
 ·cases h
theorem sliceV_keep {s s' : ASt} (hk : ∀ id b, s.heap.get id = some b → s'.heap.get id = some b) {t : TypeId} {x v : Value} {lo hi mx : Option Value} (h : sliceV P s t x lo hi mx = some v) : sliceV P s' t x lo hi mx = some v := by
 unfold sliceV at h ⊢
 split at h
 ·exact h
 ·exact h
 ·split at h
  ·rename_i hg hz
   rw [growOf_keep hk hg, hz]; exact h
  ·rename_i hg hz
   rw [growOf_keep hk hg, hz]; exact h
  ·cases h
 ·split at h
  ·rename_i hg hz
   rw [growOf_keep hk hg, hz]; exact h
  ·cases h
 ·cases h
theorem convertV_keep {s s' : ASt} (hk : ∀ id b, s.heap.get id = some b → s'.heap.get id = some b) {a b : TypeId} {x v : Value} (h : convertV P s a b x = some (.val v)) : convertV P s' a b x = some (.val v) := by
 unfold convertV at h ⊢
 split at h
 ·exact h
 ·exact h
 ·exact h
 ·exact h
 ·split at h
  ·split at h
   ·cases h
   ·rename_i hl
    rw [loadRow_keep hk hl]; exact h
  ·cases h
 ·simp only [Bool.cond_eq_ite] at h
  repeat' (first | (cases h; done) | split at h)
 ·cases h
theorem lenV_keep {s s' : ASt} (hk : ∀ id b, s.heap.get id = some b → s'.heap.get id = some b) {tys : List TypeId} {vs : List Value} {v : Value} (h : lenV P s tys vs = some v) : lenV P s' tys vs = some v := by
 unfold lenV at h ⊢
 split at h
 ·split at h
  ·exact h
  ·exact h
  ·exact h
  ·exact h
  ·split at h
   ·rename_i hb
    rw [hk _ _ hb]; exact h
   ·cases h
  ·exact h
  ·cases h
 ·cases h
theorem capV_keep {s s' : ASt} (hk : ∀ id b, s.heap.get id = some b → s'.heap.get id = some b) {tys : List TypeId} {vs : List Value} {v : Value} (h : capV P s tys vs = some v) : capV P s' tys vs = some v := by
 unfold capV at h ⊢
 split at h
 ·split at h
  ·exact h
  ·exact h
  ·split at h
   ·rename_i hb
    rw [growOf_keep hk hb]; exact h
   ·cases h
  ·cases h
 ·cases h
theorem lookupV_keep {s s' : ASt} (hk : ∀ id b, s.heap.get id = some b → s'.heap.get id = some b) {t : TypeId} {m key v : Value} (h : lookupV P s t m key = some v) : lookupV P s' t m key = some v := by
 unfold lookupV at h ⊢
 split at h
 ·split at h
  ·rename_i hk1 hb
   rw [hk1, hk _ _ hb]; exact h
  ·cases h
 ·cases h
theorem lookA_keep {s s' : ASt} (hk : ∀ id b, s.heap.get id = some b → s'.heap.get id = some b) {t : TypeId} {m key v : Value} {ok : Bool} (h : lookA P s t m key ok = some v) : lookA P s' t m key ok = some v := by
 unfold lookA at h ⊢
 split at h
 ·rename_i kb
  cases hp : lookS P s t m kb.data.toList with
  | none => rw [hp] at h; cases h
  | some p =>
   have hp2 : lookS P s' t m kb.data.toList = some p := by
    unfold lookS at hp ⊢
    split at hp
    ·split at hp
     ·rename_i hk1 hb
      rw [hk1, hk _ _ hb]; exact hp
     ·cases hp
    ·cases hp
   rw [hp] at h
   rw [hp2]
   exact h
 ·cases ok with
  | true => cases h
  | false => exact lookupV_keep hk h
theorem aOp_keep {s s' : ASt} {T : ATmp} (hg : s'.gl = s.gl) (hk : ∀ id b, s.heap.get id = some b → s'.heap.get id = some b) {op : Op} (hc : cls op ≠ 3) {v : Value} (h : aOp P T s op = some (.val v)) : aOp P T s' op = some (.val v) := by
 by_cases h0 : cls op = 0
 ·rw [aOp_pure hg h0]; exact h
 cases op <;> first
  | exact absurd rfl hc
  | exact absurd rfl h0
  | skip
 case alloc e =>
  simp only [aOp] at h; split at h <;> cases h
 case box e x =>
  simp only [aOp] at h; split at h <;> cases h
 case buildSlice t len ps =>
  simp only [aOp] at h
  split at h
  ·split at h
   ·rename_i i z _ _
    cases hb : (Nat.ble (len * i.size) 16777216 && Nat.beq (flat z).length i.size && Nat.blt 0 i.size) with
    | false => simp only [hb, cond_false] at h; cases h
    | true => simp only [hb, cond_true] at h; split at h <;> cases h
   ·cases h
  ·cases h
 case load t x =>
  simp only [aOp, operand_gl hg] at h ⊢
  split at h
  ·rename_i ad hx
   split at h
   ·cases h
   ·split at h
    ·cases h
    ·split at h
     ·cases h
     ·rename_i hl
      rw [loadRow_keep hk hl]; exact h
   ·cases hl : loadCell s ad with
    | none => rw [hl] at h; cases h
    | some u => rw [loadCell_keep hk hl]; rw [hl] at h; exact h
  ·cases h
 case convert a b x =>
  simp only [aOp, operand_gl hg] at h ⊢
  split at h
  ·exact convertV_keep hk h
  ·cases h
 case makeMap t r =>
  cases r with
  | none => simp only [aOp] at h; cases h
  | some r => simp only [aOp] at h; cases h
 case lookup t m key ok =>
  simp only [aOp, operand_gl hg] at h ⊢
  split at h
  ·rename_i mv kv _ _
   cases hl : lookA P s t mv kv ok with
   | none => rw [hl] at h; cases h
   | some u => rw [lookA_keep hk hl]; rw [hl] at h; exact h
  ·cases h
 case makeSlice t l c =>
  simp only [aOp] at h
  split at h
  ·split at h
   ·simp only [Bool.cond_eq_ite] at h
    split at h <;> cases h
   ·cases h
  ·cases h
 case slice t x lo hi mx =>
  have o : ∀ y, opt T s' y = opt T s y := fun y => by cases y <;> simp only [opt, operand_gl hg]
  simp only [aOp, operand_gl hg, o] at h ⊢
  split at h
  ·rename_i v1 l1 h1 m1 _ _ _ _
   cases hl : sliceV P s t v1 l1 h1 m1 with
   | none => rw [hl] at h; cases h
   | some u => rw [sliceV_keep hk hl]; rw [hl] at h; exact h
  ·cases h
 case call c =>
  obtain ⟨callee, args, tys⟩ := c
  cases callee with
  | value f => exact absurd rfl hc
  | invoke r n => exact absurd rfl hc
  | builtin b =>
   cases b <;> first
    | exact absurd rfl hc
    | exact absurd rfl h0
    | skip
   case len =>
    simp only [aOp, operands_gl hg] at h ⊢
    split at h
    ·cases h
    ·rename_i vs _
     cases hl : lenV P s tys.toList vs with
     | none => rw [hl] at h; cases h
     | some u => rw [lenV_keep hk hl]; rw [hl] at h; exact h
   case cap =>
    simp only [aOp, operands_gl hg] at h ⊢
    split at h
    ·cases h
    ·rename_i vs _
     cases hl : capV P s tys.toList vs with
     | none => rw [hl] at h; cases h
     | some u => rw [capV_keep hk hl]; rw [hl] at h; exact h
theorem Keep.get (h : Keep s s') : ∀ id b, s.st.heap.get id = some b → s'.st.heap.get id = some b := fun id b hb => by rw [SS.get] at hb ⊢; exact h.2 id b hb
theorem quiet_op {s : ASt} {T : ATmp} {op : Op} (hc : cls op ≠ 3) {nx : ANext} (h : aOp P T s op = some nx) : (∃ v, nx = .val v) ∨ (∃ b v, nx = .new b v) := by
  have mv : ∀ {x : Option Value}, x.map ANext.val = some nx → (∃ v, nx = .val v) ∨ (∃ b v, nx = .new b v) := by
    intro x hx
    cases x with
    | none => cases hx
    | some v => cases hx; exact .inl ⟨v, rfl⟩
  cases op <;> first
    | exact absurd rfl hc
    | skip
  case lookup t m k ok =>
    simp only [aOp] at h
    split at h
    · exact mv h
    · cases h
  case makeMap t r =>
    cases r with
    | none => simp only [aOp] at h; cases h; exact .inr ⟨_, _, rfl⟩
    | some r => simp only [aOp] at h; cases h
  case convert a b x =>
    simp only [aOp] at h
    have hc' : Nat.beq a b = false := by
      simp only [cls] at hc
      cases hb : Nat.beq a b with
      | false => rfl
      | true => rw [hb] at hc; exact absurd rfl hc
    split at h
    · unfold convertV at h
      simp only [hc', cond_false] at h
      repeat' (first | (cases h; done) | (cases h; exact .inl ⟨_, rfl⟩) | (cases h; exact .inr ⟨_, _, rfl⟩) | (simp only [Bool.cond_eq_ite] at h; split at h) | split at h)
    · cases h
  case call c =>
    obtain ⟨callee, args, tys⟩ := c
    cases callee with
    | value f => exact absurd rfl hc
    | invoke r n => exact absurd rfl hc
    | builtin b =>
      cases b <;> first
        | exact absurd rfl hc
        | (simp only [aOp] at h
           repeat' (first | (cases h; done) | exact mv h | split at h))
  all_goals
    simp only [aOp] at h
    repeat' (first | (cases h; done) | exact mv h | (cases h; exact .inl ⟨_, rfl⟩) | (cases h; exact .inr ⟨_, _, rfl⟩) | (simp only [Bool.cond_eq_ite] at h; split at h) | split at h)
theorem again_keep (h : Keep s s') {r : Rec} (hc : cls r.o ≠ 3) (ha : Again P s.st r) : Again P s'.st r := by
 obtain ⟨o, T, v, nb, lo, hi⟩ := r
 cases nb with
 | none => exact aOp_keep (s := s.st) (s' := s'.st) (show s'.st.gl = s.st.gl from h.1) h.get hc ha
 | some x => exact h.get _ _ ha
theorem Keep.refl : Keep s s := ⟨rfl, fun _ _ h => h⟩
theorem Keep.new {b : ABlk} (hn : lookH s.heap s.next = none) : Keep s { s with heap := (s.next, some b) :: s.heap, next := s.next + 1 } :=
 ⟨rfl, fun id b' h => by
  simp only [lookH]
  rcases beq_cases s.next id with ⟨e, he⟩ | ⟨e, he⟩
  ·subst e; rw [hn] at h; cases h
  ·rw [he]; exact h⟩
theorem fin_ok {op : Op} {r : RR} {v : Value} {s1 : ASt} (hr : aOp P (toTr T) s.st op = some r.toN) (hf : fin (fun _ _ _ => none) s.st (some r.toN) = some (v, s1)) : FinOk P s.st (aOp P (toTr T) s.st op) v s1 :=
 ⟨_, none_ok P, by rw [hr]; exact hf⟩
theorem call_ok {f : FuncId} {args : List Value} {v : Value} {s1 : ASt} (h : CallOk P f args s.st v s1) {op : Op} (hr : aOp P (toTr T) s.st op = some (.enter f args)) : FinOk P s.st (aOp P (toTr T) s.st op) v s1 := by
 classical
 refine ⟨fun f' args' s' => if f' = f ∧ args' = args ∧ s' = s.st then some (v, s1) else none, fun f' args' s' v' s1' hh => ?_, ?_⟩
 ·simp only at hh
  split at hh
  ·rename_i e
   obtain ⟨rfl, rfl, rfl⟩ := e
   cases hh
   exact h
  ·cases hh
 ·rw [hr]
  show (if f = f ∧ args = args ∧ s.st = s.st then some (v, s1) else none) = some (v, s1)
  rw [if_pos ⟨rfl, rfl, rfl⟩]
theorem no_map {x : Option Value} {b : ABlk} {v : Nat → Value} (h : x.map ANext.val = some (.new b v)) : False := by
 cases x <;> cases h
theorem quiet0 {s : ASt} {T : ATmp} {op : Op} (hc : cls op = 0) {b : ABlk} {v : Nat → Value} (h : aOp P T s op = some (.new b v)) : False := by
 cases op <;> first
  | (cases hc; done)
  | skip
 case convert a b x =>
  simp only [cls] at hc
  cases hb : Nat.beq a b <;> rw [hb] at hc <;> cases hc
 case call c =>
  obtain ⟨callee, args, tys⟩ := c
  cases callee with
  | builtin bb =>
   cases bb <;> first
    | (cases hc; done)
    | skip
   all_goals
    simp only [aOp] at h
    repeat' (first | (cases h; done) | exact no_map h | split at h)
  | value f => cases hc
  | _ => cases hc
 all_goals
  simp only [aOp, Bool.cond_eq_ite] at h
  repeat' (first | (cases h; done) | exact no_map h | split at h)
def Stands (P : Program) (r : Rec) : PRec → Prop
 | .rd hi m T v => hi = r.hi ∧ ∀ s' : SS, (wN P m T s' fun x => x = .val v) → Again P s'.st r
 | .nw hi id b => hi = r.hi ∧ ∀ s' : SS, lookH s'.heap id = some b → Again P s'.st r
theorem wN_okR {op : Op} {m : MOp} {K : RR → Prop} (hm : cOpR P op = some m) (h : wN P m T s K) : ∃ r : RR, aOp P (toTr T) s.st op = some r.toN ∧ K r := by
 unfold cOpR at hm
 split at hm
 ·exact wN_ok hm h
 ·exact wN_ok' hm h
theorem Agn.again {k : Nat} {r : Rec} (hk : k < r.hi) : ∀ {pd : List PRec}, Agn P k s' pd → (∃ p ∈ pd, Stands P r p) → Again P s'.st r
 | [], _, ⟨p, hp, _⟩ => by cases hp
 | q :: pd, h, ⟨p, hp, hs⟩ => by
  rcases List.mem_cons.1 hp with rfl | hp2
  ·cases p with
   | rd hi m T v => exact hs.2 s' (h.1 (by rw [hs.1]; exact hk))
   | nw hi id b => exact hs.2 s' (h.1 (by rw [hs.1]; exact hk))
  ·cases q with
   | rd hi m T v => exact Agn.again hk h.2 ⟨p, hp2, hs⟩
   | nw hi id b => exact Agn.again hk h.2 ⟨p, hp2, hs⟩
theorem wRow_ok {pl : Plan} {R : TL → SS → Prop} : ∀ {row : List Nat} {j : Nat} {his : List Nat} {ms : List ROp} {pd : List PRec} {rs : List Rec} {T : TL} {s : SS}, cRow P nt ops pl row j his = some ms → wRow P ms pd T s R →
  (∀ r ∈ rs, r.hi ∈ his ∧ cls r.o ≠ 3 ∧ (j ≤ r.hi → Again P s.st r) ∧ (j < r.hi → ∃ p ∈ pd, Stands P r p)) → rRow P nt ops pl row j rs (toTr T) s.st fun T' s' => ∃ T1 s1, T' = toTr T1 ∧ s' = SS.st s1 ∧ R T1 s1
 | [], j, his, ms, pd, rs, T, s, hm, h, hr => by
  simp only [cRow] at hm; cases hm
  exact ⟨fun r hh _ a => (hr r hh).2.2.1 a, T, s, rfl, rfl, h⟩
 | i :: row, j, his, ms, pd, rs, T, s, hm, h, hr => by
  simp only [cRow] at hm
  split at hm
  ·cases hm
  ·rename_i o ho
   split at hm
   ·cases hm
   ·rename_i mo hmo
    cases h3 : Nat.beq (cls o.op) 3 with
    | true =>
     simp only [h3, cond_true] at hm
     split at hm
     ·cases hm
     ·rename_i ml hml
      cases hm
      have keep : ∀ {s' : SS}, wKeep P (his.any fun h => Nat.blt j h) j pd s s' → ∀ r ∈ rs, r.hi ∈ his ∧ cls r.o ≠ 3 ∧ (j + 1 ≤ r.hi → Again P s'.st r) ∧ (j + 1 < r.hi → ∃ p ∈ pd, Stands P r p) := by
       intro s' hk r hh
       obtain ⟨q1, q2, q3, q4⟩ := hr r hh
       refine ⟨q1, q2, fun q => ?_, fun q => q4 (by omega)⟩
       cases ha : his.any fun h => Nat.blt j h with
       | true =>
        rw [ha] at hk
        rcases hk with hk | hk
        ·exact again_keep hk q2 (q3 (by omega))
        ·exact Agn.again (by omega) hk (q4 (by omega))
       | false =>
        have := List.any_eq_false.1 ha r.hi q1
        rw [Nat.blt_eq] at this
        omega
      obtain ⟨e1, e2, e3, q | q⟩ := wG_okR hmo h
      ·obtain ⟨qw, qr⟩ := q
       obtain ⟨r, hrr, hk⟩ := wN_okR e3 qr
       rw [e1] at hk
       refine ⟨o, true, ho, qw, ?_⟩
       rw [h3]
       refine ⟨fun r hh _ a => (hr r hh).2.2.1 a, ?_⟩
       have wide : ∀ {s' : SS} {p : PRec} {b : Bool}, Keep s s' → ∀ r ∈ rs, r.hi ∈ his ∧ cls r.o ≠ 3 ∧ (j + 1 ≤ r.hi → Again P s'.st r) ∧ (j + 1 < r.hi → ∃ q ∈ (match b with | true => p :: pd | false => pd), Stands P r q) := by
        intro s' p b hk r hh
        obtain ⟨q1, q2, q3, q4⟩ := hr r hh
        refine ⟨q1, q2, fun q => again_keep hk q2 (q3 (by omega)), fun q => ?_⟩
        obtain ⟨x, hx, hs⟩ := q4 (by omega)
        refine ⟨x, ?_, hs⟩
        cases b with
        | true => exact List.mem_cons_of_mem _ hx
        | false => exact hx
       cases r with
       | val v => exact ⟨v, s.st, _, fin_ok hrr rfl, putT_L e2 v, wRow_ok hml hk.out (wide .refl)⟩
       | new b v =>
        simp only at hk
        split at hk
        ·rename_i hn
         exact ⟨v s.next, SS.st { s with heap := (s.next, some b) :: s.heap, next := s.next + 1 }, _, fin_ok hrr rfl, putT_L e2 _, wRow_ok hml hk.out (wide (.new hn))⟩
        ·exact hk.elim
       | eff v s1 => exact ⟨v, s1.st, _, fin_ok hrr rfl, putT_L e2 v, wRow_ok hml hk.2.out (keep hk.1)⟩
       | call f args =>
        obtain ⟨v, s1, ⟨c2, c3⟩, c1⟩ := hk
        exact ⟨v, s1.st, _, call_ok c1 hrr, putT_L e2 v, wRow_ok hml c3.out (keep c2)⟩
      ·obtain ⟨qw, qr⟩ := q
       rw [e1] at qr
       refine ⟨o, false, ho, qw, ?_⟩
       rw [h3]
       exact ⟨fun r hh _ a => (hr r hh).2.2.1 a, _, putT_L e2 _, wRow_ok hml qr.out fun r hh => ⟨(hr r hh).1, (hr r hh).2.1, fun a => (hr r hh).2.2.1 (by omega), fun a => (hr r hh).2.2.2 (by omega)⟩⟩
    | false =>
     have hcls : cls o.op ≠ 3 := fun e => by rw [e] at h3; cases h3
     simp only [h3, cond_false] at hm
     -- what is noted of a thing that needs more than its operands
     have wide : ∀ {s' : SS} {p : PRec} {b : Bool}, Keep s s' → ∀ r ∈ rs, r.hi ∈ (hiOf pl.M i (dropN j pl.es) j :: his) ∧ cls r.o ≠ 3 ∧ (j ≤ r.hi → Again P s'.st r) ∧ (j < r.hi → ∃ q ∈ (match b with | true => p :: pd | false => pd), Stands P r q) := by
      intro s' p b hk r hh
      obtain ⟨q1, q2, q3, q4⟩ := hr r hh
      refine ⟨List.mem_cons_of_mem _ q1, q2, fun a => again_keep hk q2 (q3 a), fun q => ?_⟩
      obtain ⟨x, hx, hs⟩ := q4 q
      refine ⟨x, ?_, hs⟩
      cases b with
      | true => exact List.mem_cons_of_mem _ hx
      | false => exact hx
     cases h0 : Nat.beq (cls o.op) 0 with
     | true =>
      simp only [h0, cond_true] at hm
      split at hm
      ·cases hm
      ·rename_i ml hml
       cases hm
       obtain ⟨e1, e2, e3, q | q⟩ := wG_okR hmo h
       ·obtain ⟨qw, qr⟩ := q
        obtain ⟨r, hrr, hk⟩ := wN_okR e3 qr
        rw [e1] at hk
        refine ⟨o, true, ho, qw, ?_⟩
        rw [h3]
        cases r with
        | val v =>
         refine .inl ⟨v, _, hrr, putT_L e2 v, wRow_ok hml hk.out fun r hh => ?_⟩
         rw [h0] at hh
         exact hr r hh
        | new b v => exact (quiet0 (Nat.eq_of_beq_eq_true h0) hrr).elim
        | eff v s1 =>
         exfalso
         rcases quiet_op hcls hrr with ⟨_, e⟩ | ⟨_, _, e⟩ <;> cases e
        | call f args =>
         exfalso
         rcases quiet_op hcls hrr with ⟨_, e⟩ | ⟨_, _, e⟩ <;> cases e
       ·obtain ⟨qw, qr⟩ := q
        rw [e1] at qr
        refine ⟨o, false, ho, qw, ?_⟩
        rw [h3]
        exact ⟨_, putT_L e2 _, wRow_ok hml qr.out hr⟩
     | false =>
      simp only [h0, cond_false] at hm
      split at hm
      ·cases hm
      ·rename_i ml hml
       cases hm
       obtain ⟨e1, e2, e3, q | q⟩ := wG_okR hmo h
       ·obtain ⟨qw, qr⟩ := q
        obtain ⟨r, hrr, hk⟩ := wN_okR e3 (P := P) qr
        rw [e1] at hk
        refine ⟨o, true, ho, qw, ?_⟩
        rw [h3]
        cases r with
        | val v =>
         refine .inl ⟨v, _, hrr, putT_L e2 v, wRow_ok hml hk.out fun r hh => ?_⟩
         rw [h0] at hh
         rcases List.mem_cons.1 hh with rfl | hh
         ·refine ⟨List.mem_cons_self .., hcls, fun _ => hrr, fun q => ⟨.rd (hiOf pl.M i (dropN j pl.es) j) mo.op T v, ?_, rfl, fun s' hw => ?_⟩⟩
          ·have q' : j < hiOf pl.M i (dropN j pl.es) j := q
           have : Nat.blt j (hiOf pl.M i (dropN j pl.es) j) = true := by rw [Nat.blt_eq]; exact q'
           rw [this]
           exact List.mem_cons_self ..
          ·obtain ⟨x, hx, rfl⟩ := wN_okR e3 hw
           exact hx
         ·exact wide .refl r hh
        | new b v =>
         simp only at hk
         split at hk
         ·rename_i hn
          refine .inr ⟨b, v, _, hrr, putT_L e2 _, wRow_ok (s := { s with heap := (s.next, some b) :: s.heap, next := s.next + 1 }) hml hk.out fun r hh => ?_⟩
          rcases List.mem_cons.1 hh with rfl | hh
          ·refine ⟨?_, hcls, fun _ => ?_, fun q => ⟨.nw (hiOf pl.M i (dropN j pl.es) j) s.next b, ?_, rfl, fun s' hw => ?_⟩⟩
           ·exact List.mem_cons_self ..
           ·show (SS.st _).heap.get s.next = some b
            rw [SS.get]
            simp only [lookH, Nat.beq_refl, cond_true]
           ·have q' : j < hiOf pl.M i (dropN j pl.es) j := q
            have : Nat.blt j (hiOf pl.M i (dropN j pl.es) j) = true := by rw [Nat.blt_eq]; exact q'
            rw [this]
            exact List.mem_cons_self ..
           ·show s'.st.heap.get s.next = some b
            rw [SS.get]
            exact hw
          ·exact wide (.new hn) r hh
         ·exact hk.elim
        | eff v s1 =>
         exfalso
         rcases quiet_op hcls hrr with ⟨_, e⟩ | ⟨_, _, e⟩ <;> cases e
        | call f args =>
         exfalso
         rcases quiet_op hcls hrr with ⟨_, e⟩ | ⟨_, _, e⟩ <;> cases e
       ·obtain ⟨qw, qr⟩ := q
        rw [e1] at qr
        refine ⟨o, false, ho, qw, ?_⟩
        rw [h3]
        exact ⟨_, putT_L e2 _, wRow_ok hml qr.out fun r hh => ⟨List.mem_cons_of_mem _ (hr r hh).1, (hr r hh).2⟩⟩
theorem comp_ok (G : Good P) : ∀ {c : Code} {m : MC} {T : TL} {s : SS} {Q : AExit → TL → SS → Prop}, comp P nt c = some m → wp P nt k m T s Q → W P nt k c T s Q := by
 intro c
 induction c with
 | skip => intro m T s Q hm h; simp only [comp] at hm; cases hm; exact W.skip h
 | region id ops draw =>
  intro m T s Q hm h
  simp only [comp] at hm
  cases draw with
  | true =>
   simp only at hm
   cases hn : ops.toList.all noDefer with
   | false => rw [hn] at hm; cases hm
   | true =>
    rw [hn] at hm
    simp only [cond_true] at hm
    have hnd : ∀ (i : Nat) (o : Oper), ops[i]? = some o → ∀ c, o.op ≠ .defer c := fun i o ho =>
     noDefer_of (List.all_eq_true.1 hn o (List.mem_of_getElem? (i := i) (by simpa using ho)))
    split at hm
    ·cases hm
    ·rename_i pl hpl
     cases hr : cRow P nt ops pl pl.row 0 [] with
     | none => rw [hr] at hm; cases hm
     | some ms =>
      rw [hr] at hm; cases hm
      obtain ⟨T1, s1, hw, h⟩ := h
      exact W.weak hw (W.draw G hnd hpl (wRow_ok hr h (fun r hh => by cases hh)))
  | false =>
   simp only at hm
   cases hr : cSeq P nt ops ops.toList with
   | none => rw [hr] at hm; cases hm
   | some ms =>
    rw [hr] at hm; cases hm
    exact W.region (wSeq_ok G hr h)
 | seq a b iha ihb =>
  intro m T s Q hm h
  simp only [comp] at hm
  split at hm
  ·rename_i x y hx hy
   cases hm
   refine W.seq ((iha hx h).mono fun ex T s hh => ?_)
   cases ex with
   | normal => exact ihb hy hh.out
   | exit id => exact hh
   | ret => exact hh
  ·cases hm
 | cond x a b iha ihb =>
  intro m T s Q hm h
  simp only [comp] at hm
  cases hx : okC x with
  | false => simp [hx] at hm
  | true =>
   simp only [hx, cond_true] at hm
   split at hm
   ·rename_i ma mb ha hb
    cases hm
    simp only [wp] at h
    split at h
    ·rename_i hv
     exact W.condT (opd_ok hx hv) (iha ha h.out)
    ·rename_i hv
     exact W.condF (opd_ok hx hv) (ihb hb h.out)
    ·exact h.elim
   ·cases hm
 | block id c ih =>
  intro m T s Q hm h
  simp only [comp] at hm
  cases hc : comp P nt c with
  | none => rw [hc] at hm; cases hm
  | some mc =>
   rw [hc] at hm; cases hm
   refine W.block ((ih hc h).mono fun ex T s hh => ?_)
   cases ex with
   | normal => exact hh
   | ret => exact hh
   | exit i =>
    simp only at hh ⊢
    cases hb : Nat.beq i id with
    | true => rw [hb] at hh; exact hh
    | false => rw [hb] at hh; exact hh
 | loop c ih =>
  intro m T s Q hm h
  have hm' := hm
  simp only [comp] at hm'
  cases hc : comp P nt c with
  | none => rw [hc] at hm'; cases hm'
  | some mc =>
   rw [hc] at hm'; cases hm'
   exact h _ hm
 | exit id => intro m T s Q hm h; simp only [comp] at hm; cases hm; exact W.exit h
 | ret => intro m T s Q hm h; simp only [comp] at hm; cases hm; exact W.ret h
 | _ => intro m T s Q hm h; simp only [comp] at hm; cases hm
theorem resS_ok {P : Program} : ∀ {l : List ResultVar} {vs : List Value}, resS P T s l = some vs → resultL P (toTr T) s.st l = some vs
 | [], vs, h => h
 | .tmp t :: r, vs, h => by
  simp only [resS] at h
  split at h
  ·rename_i v l hv hl
   cases h
   simp only [resultL, toTr_get, hv, resS_ok hl]
  ·cases h
 | .cell a t :: r, vs, h => by
  simp only [resS] at h
  split at h
  ·rename_i v l hv hl
   cases h
   simp only [resultL, hv, resS_ok hl]
  ·cases h
theorem CallW.body (G : Good P) {f : FuncId} {m : MF} {args : List Value} {K : Value → SS → Prop} (hm : compF P f = some m) (hn : args.length ≤ m.nt) (h : wF P m args s K) : CallW P f args s K := by
 unfold compF at hm
 split at hm
 ·cases hm
 ·rename_i fn hfn
  split at hm
  ·cases hm
  ·rename_i c hc
   cases hx : comp P fn.ntmps c with
   | none => rw [hx] at hm; cases hm
   | some mc =>
    rw [hx] at hm; cases hm
    refine CallW.of hfn hc hn ((comp_ok G hx h.out).mono fun ex T s hh => ?_)
    cases ex with
    | exit id => exact hh.elim
    | normal =>
     simp only at hh
     split at hh
     ·rename_i l hl
      exact ⟨trivial, l, resS_ok hl, hh⟩
     ·exact hh.elim
    | ret =>
     simp only at hh
     split at hh
     ·rename_i l hl
      exact ⟨trivial, l, resS_ok hl, hh⟩
     ·exact hh.elim
theorem MW.loop (G : Good P) {mc : MC} {T : TL} {s : SS} {Q : AExit → TL → SS → Prop} {ι : Type} (μ : ι → Nat) (I : ι → Prop) (TV : ι → TL) (SV : ι → SS) (i0 : ι) (h0 : I i0) (hw : Wk P nt k T s (TV i0) (SV i0))
  (body : ∀ i, I i → Box (wp P nt k mc (TV i) (SV i) fun ex T' s' => match ex with
   | .normal => ∃ j, I j ∧ μ j < μ i ∧ Wk P nt k T' s' (TV j) (SV j)
   | .exit id => Q (.exit id) T' s'
   | .ret => Q .ret T' s')) : MW P nt k (.loop mc) T s Q := by
 intro c hc
 cases c <;> simp only [comp] at hc <;> first
  | (cases hc; done)
  | skip
 case loop c =>
  cases hx : comp P nt c with
  | none => rw [hx] at hc; cases hc
  | some m' =>
   rw [hx] at hc; cases hc
   refine W.loop μ I TV SV i0 h0 hw fun i hi => (comp_ok G hx (body i hi).out).mono fun ex T s hh => ?_
   cases ex with
   | normal => exact hh
   | exit id => exact hh
   | ret => exact hh
 all_goals
  repeat' (first | (cases hc; done) | (simp only [Bool.cond_eq_ite, Option.map_eq_some_iff] at hc; (first | (obtain ⟨_, _, e⟩ := hc; cases e) | skip)) | split at hc)
def Sub (T' : TL) : TL → Prop
 | [] => True
 | (t, v) :: r => look T' t = some v ∧ Sub T' r
theorem Sub.look {T' : TL} : ∀ {T : TL}, Sub T' T → ∀ t v, look T t = some v → Go.Vf.look T' t = some v
 | [], _, t, v, h => by cases h
 | (k, x) :: r, hs, t, v, h => by
  simp only [Go.Vf.look] at h
  rcases beq_cases k t with ⟨e, he⟩ | ⟨e, he⟩
  ·rw [he] at h; cases h; subst e; exact hs.1
  ·rw [he] at h; exact Sub.look hs.2 t v h
def SubH (H' : List (Nat × Option ABlk)) : List (Nat × Option ABlk) → Prop
 | [] => True
 | (id, some b) :: r => lookH H' id = some b ∧ SubH H' r
 | (_, none) :: r => SubH H' r
theorem SubH.look {H' : List (Nat × Option ABlk)} : ∀ {H : List (Nat × Option ABlk)}, SubH H' H → ∀ id b, lookH H id = some b → lookH H' id = some b
 | [], _, t, v, h => by cases h
 | (k, some x) :: r, hs, t, v, h => by
  simp only [lookH] at h
  rcases beq_cases k t with ⟨e, he⟩ | ⟨e, he⟩
  ·rw [he] at h; cases h; subst e; exact hs.1
  ·rw [he] at h; exact SubH.look hs.2 t v h
 | (k, none) :: r, hs, t, v, h => by
  simp only [lookH] at h
  rcases beq_cases k t with ⟨e, he⟩ | ⟨e, he⟩
  ·rw [he] at h; cases h
  ·rw [he] at h; exact SubH.look (H := r) hs t v h
theorem Wk.sub {T' : TL} {s' : SS} (hT : Sub T T') (hH : SubH s.heap s'.heap) (hn : s.next ≤ s'.next) (hg : s'.gl = s.gl) : Wk P nt k T s T' s' := by
 refine ⟨hn, hg, fun B w0 ρ w tmps H F => ⟨?_, ⟨F.1, fun t v ht => F.2 t v ?_⟩⟩⟩
 ·refine H.same hg fun id e b _ hb => ?_
  rw [SS.get] at hb ⊢
  exact hH.look _ _ hb
 ·rw [toTr_get] at ht ⊢
  exact hT.look _ _ ht
theorem SubH.refl (H : List (Nat × Option ABlk)) : ∀ id b, lookH H id = some b → lookH H id = some b := fun _ _ h => h
theorem Wk.same {T' : TL} (hT : Sub T T') : Wk P nt k T s T' s := by
 refine ⟨Nat.le_refl _, rfl, fun B w0 ρ w tmps H F => ⟨H, ⟨F.1, fun t v ht => F.2 t v ?_⟩⟩⟩
 rw [toTr_get] at ht ⊢
 exact hT.look _ _ ht
end
end Go.Vf
end
section
namespace Go.Vf
open Go.RowKit
set_option linter.unusedVariables false
set_option linter.unusedSimpArgs false
def rn1 (f : Nat → Option Nat) : Value → Option Value
 | .pointer (some ⟨b, o, sp⟩) => (match f b with
  | some j => some (.pointer (some ⟨j, o, sp⟩))
  | none => none)
 | .slice (some ⟨b, o, sp⟩) l c => (match f b with
  | some j => some (.slice (some ⟨j, o, sp⟩) l c)
  | none => none)
 | .map (some b) => (match f b with
  | some j => some (.map (some j))
  | none => none)
 | v => bif plain1 v then some v else none
def rnL1 (f : Nat → Option Nat) : List Value → Option (List Value)
 | [] => some []
 | v :: r => match rn1 f v with
  | none => none
  | some v' => match rnL1 f r with
   | none => none
   | some r' => some (v' :: r')
def rnV (f : Nat → Option Nat) : Value → Option Value
 | .agg ⟨cs⟩ => (match rnL1 f cs with
  | some l => some (.agg ⟨l⟩)
  | none => none)
 | .tuple ⟨cs⟩ => (match rnL1 f cs with
  | some l => some (.tuple ⟨l⟩)
  | none => none)
 | .iface t v => (match rn1 f v with
  | some v' => some (.iface t v')
  | none => none)
 | v => rn1 f v
def rnL (f : Nat → Option Nat) : List Value → Option (List Value)
 | [] => some []
 | v :: r => match rnV f v with
  | none => none
  | some v' => match rnL f r with
   | none => none
   | some r' => some (v' :: r')
section
variable {f : Nat → Option Nat} {ρ σ : Ren}
def rnB (f : Nat → Option Nat) (ro : Bool) : ABlk → Option ABlk
 | .cells c t g _ => (match rnL f c with
  | some c' => some (.cells c' t g ro)
  | none => none)
 | _ => none
end
def RenH (f : Nat → Option Nat) (H : List (Nat × Option ABlk)) : List (Nat × Option ABlk) → Prop
 | [] => True
 | (id, some b) :: r => (∃ j b', f id = some j ∧ lookH H j = some b' ∧ rnB f b'.ro b = some b' ∧ b.ro = b'.ro) ∧ RenH f H r
 | (_, none) :: r => RenH f H r
def RenT (f : Nat → Option Nat) (T : TL) : TL → Prop
 | [] => True
 | (t, v) :: r => (∃ v', look T t = some v' ∧ rnV f v = some v') ∧ RenT f T r
theorem RenT.look {f : Nat → Option Nat} {T : TL} : ∀ {T' : TL}, RenT f T T' → ∀ t v, look T' t = some v → ∃ v', look T t = some v' ∧ rnV f v = some v'
 | [], _, t, v, h => by cases h
 | (k, x) :: r, hs, t, v, h => by
  simp only [Go.Vf.look] at h
  rcases beq_cases k t with ⟨e, he⟩ | ⟨e, he⟩
  ·rw [he] at h; cases h; subst e; exact hs.1
  ·rw [he] at h; exact RenT.look hs.2 t v h
theorem RenH.look {f : Nat → Option Nat} {H : List (Nat × Option ABlk)} : ∀ {H' : List (Nat × Option ABlk)}, RenH f H H' → ∀ id b, lookH H' id = some b → ∃ j b', f id = some j ∧ lookH H j = some b' ∧ rnB f b'.ro b = some b' ∧ b.ro = b'.ro
 | [], _, t, v, h => by cases h
 | (k, some x) :: r, hs, t, v, h => by
  simp only [lookH] at h
  rcases beq_cases k t with ⟨e, he⟩ | ⟨e, he⟩
  ·rw [he] at h; cases h; subst e; exact hs.1
  ·rw [he] at h; exact RenH.look (H' := r) hs.2 t v h
 | (k, none) :: r, hs, t, v, h => by
  simp only [lookH] at h
  rcases beq_cases k t with ⟨e, he⟩ | ⟨e, he⟩
  ·rw [he] at h; cases h
  ·rw [he] at h; exact RenH.look (H' := r) hs t v h
section
variable {P : Program} {nt k : Nat} {T T' : TL} {s s' : SS}
def InH (τ : List Nat) (H : List (Nat × Option ABlk)) : List (Nat × Option ABlk) → Prop
 | [] => True
 | (id, some b) :: r => (b.ro = true ∧ ∃ j b', τ[id]? = some j ∧ lookH H j = some b' ∧ rnB (fun i => τ[i]?) b'.ro b = some b') ∧ InH τ H r
 | (_, none) :: r => InH τ H r
theorem InH.look {τ : List Nat} {H : List (Nat × Option ABlk)} : ∀ {H' : List (Nat × Option ABlk)}, InH τ H H' → ∀ id b, lookH H' id = some b → b.ro = true ∧ ∃ j b', τ[id]? = some j ∧ lookH H j = some b' ∧ rnB (fun i => τ[i]?) b'.ro b = some b'
 | [], _, t, v, h => by cases h
 | (k, some x) :: r, hs, t, v, h => by
  simp only [lookH] at h
  rcases beq_cases k t with ⟨e, he⟩ | ⟨e, he⟩
  ·rw [he] at h; cases h; subst e; exact hs.1
  ·rw [he] at h; exact InH.look (H' := r) hs.2 t v h
 | (k, none) :: r, hs, t, v, h => by
  simp only [lookH] at h
  rcases beq_cases k t with ⟨e, he⟩ | ⟨e, he⟩
  ·rw [he] at h; cases h
  ·rw [he] at h; exact InH.look (H' := r) hs t v h
end
end Go.Vf
end
section
namespace Go.Vf
open Go.RowKit
set_option linter.unusedVariables false
section
variable {P : Program} {nt k : Nat} {T : TL} {s : SS} {R : TL → SS → Prop} {Q : AExit → TL → SS → Prop}
def stepK (P : Program) (d : Option Tmp) (l : List MOper) (T : TL) (s : SS) (R : TL → SS → Prop) (r : RR) : Prop :=
 match r with
 | .val v => Box (wSeq P l (putL T d v) s R)
 | .new b v => Box (wSeq P l (putL T d (v s.next)) { s with heap := (s.next, some b) :: s.heap, next := s.next + 1 } R)
 | .eff v s' => Box (wSeq P l (putL T d v) s' R)
 | .call f args => CallW P f args s fun v s' => Box (wSeq P l (putL T d v) s' R)
def rowK (P : Program) (m : MOp) (d : Option Tmp) (chk : Bool) (k : Nat) (l : List ROp) (pd : List PRec) (T : TL) (s : SS) (R : TL → SS → Prop) (r : RR) : Prop :=
 match r with
 | .val v => Box (wRow P l (pdV chk k m T v pd) (putL T d v) s R)
 | .new b v => (match lookH s.heap s.next with
  | none => Box (wRow P l (pdN chk k s.next b pd) (putL T d (v s.next)) { s with heap := (s.next, some b) :: s.heap, next := s.next + 1 } R)
  | some _ => False)
 | .eff v s' => wKeep P chk k pd s s' ∧ Box (wRow P l pd (putL T d v) s' R)
 | .call f args => CallW P f args s fun v s' => wKeep P chk k pd s s' ∧ Box (wRow P l pd (putL T d v) s' R)
def seqQ (P : Program) (nt k : Nat) (b : MC) (Q : AExit → TL → SS → Prop) (ex : AExit) (T : TL) (s : SS) : Prop :=
 match ex with
 | .normal => Box (wp P nt k b T s Q)
 | .exit id => Q (.exit id) T s
 | .ret => Q .ret T s
def blockQ (id : Nat) (Q : AExit → TL → SS → Prop) (ex : AExit) (T : TL) (s : SS) : Prop :=
 match ex with
 | .exit i => (match Nat.beq i id with
  | true => Q .normal T s
  | false => Q (.exit i) T s)
 | .normal => Q .normal T s
 | .ret => Q .ret T s
def regQ (Q : AExit → TL → SS → Prop) (T : TL) (s : SS) : Prop := Q .normal T s
def headQ (P : Program) (nt k : Nat) {ι : Type} (μ : ι → Nat) (I : ι → Prop) (TV : ι → TL) (SV : ι → SS) (i : ι) (Q : AExit → TL → SS → Prop) (ex : AExit) (T : TL) (s : SS) : Prop :=
 match ex with
 | .normal => ∃ j, I j ∧ μ j < μ i ∧ Wk P nt k T s (TV j) (SV j)
 | .exit id => Q (.exit id) T s
 | .ret => Q .ret T s
def runQ (P : Program) (res : List ResultVar) (K : Value → SS → Prop) (ex : AExit) (T : TL) (s : SS) : Prop :=
 match ex with
 | .exit _ => False
 | .normal => (match resS P T s res with
  | some l => K (one l) s
  | none => False)
 | .ret => (match resS P T s res with
  | some l => K (one l) s
  | none => False)
theorem sNil (h : R T s) : Box (wSeq P [] T s R) := ⟨h⟩
theorem wG_imp {T : TL} {g : Option (Tmp × Bool)} {a b c : Prop} (hab : a → b) (h : wG T g a c) : wG T g b c := by
 cases g with
 | none => exact hab h
 | some q =>
  obtain ⟨d, e⟩ := q
  simp only [wG] at h ⊢
  generalize look T d = v at h ⊢
  cases v with
  | none => exact h
  | some v => cases v with
   | bool f => cases f <;> cases e <;> first | exact hab h | exact h
   | _ => exact h
theorem sCons {d : Option Tmp} {g : Option (Tmp × Bool)} {m : MOp} {l : List MOper} (h : wG T g (wN P m T s (stepK P d l T s R)) (Box (wSeq P l (putL T d (.tuple #[])) s R))) : Box (wSeq P (⟨d, g, m⟩ :: l) T s R) := by
 refine ⟨?_⟩
 show wG T g (stepP P m d l T s R) _
 cases hm : m.isRaw with
 | true => cases m <;> first | (cases hm; done) | exact wG_imp (fun q => q.elim) h
 | false => rw [stepP_not hm]; exact h
theorem sRaw {d : Option Tmp} {g : Option (Tmp × Bool)} {op : Op} {l : List MOper} (h : wG T g (OpW P op T s fun v s' => Box (wSeq P l (putL T d v) s' R)) (Box (wSeq P l (putL T d (.tuple #[])) s R))) : Box (wSeq P (⟨d, g, .raw op⟩ :: l) T s R) := ⟨h⟩
theorem rNil {pd : List PRec} (h : R T s) : Box (wRow P [] pd T s R) := ⟨h⟩
theorem rCons {d : Option Tmp} {g : Option (Tmp × Bool)} {m : MOp} {loud chk : Bool} {n : Nat} {l : List ROp} {pd : List PRec} (h : wG T g (wN P m T s (rowK P m d chk n l pd T s R)) (Box (wRow P l pd (putL T d (.tuple #[])) s R))) : Box (wRow P ((⟨d, g, m⟩, loud, chk, n) :: l) pd T s R) := ⟨h⟩
theorem kNo {n : Nat} {pd : List PRec} {s' : SS} {p : Prop} (h : p) : wKeep P false n pd s s' ∧ p := ⟨trivial, h⟩
theorem kAll {n : Nat} {pd : List PRec} {s' : SS} {p : Prop} (hk : Keep s s') (h : p) : wKeep P true n pd s s' ∧ p := ⟨.inl hk, h⟩
theorem kEach {n : Nat} {pd : List PRec} {s' : SS} {p : Prop} (hk : Agn P n s' pd) (h : p) : wKeep P true n pd s s' ∧ p := ⟨.inr hk, h⟩
theorem pSkip (h : Q .normal T s) : Box (wp P nt k .skip T s Q) := ⟨h⟩
theorem pReg {ops : List MOper} (h : Box (wSeq P ops T s (regQ Q))) : Box (wp P nt k (.reg ops) T s Q) := ⟨h.out⟩
theorem pRow {ops : List ROp} (h : Box (wRow P ops [] T s (regQ Q))) : Box (wp P nt k (.row ops) T s Q) := ⟨T, s, .refl, h.out⟩
theorem pSeq {a b : MC} (h : Box (wp P nt k a T s (seqQ P nt k b Q))) : Box (wp P nt k (.seq a b) T s Q) := ⟨h.out⟩
theorem pCond {x : Operand} {a b : MC} (h : match opd T s.gl x with
  | some (.bool true) => Box (wp P nt k a T s Q)
  | some (.bool false) => Box (wp P nt k b T s Q)
  | _ => False) : Box (wp P nt k (.cond x a b) T s Q) := ⟨h⟩
theorem pBlock {id : Nat} {c : MC} (h : Box (wp P nt k c T s (blockQ id Q))) : Box (wp P nt k (.block id c) T s Q) := ⟨h.out⟩
theorem pLoop {c : MC} (h : MW P nt k (.loop c) T s Q) : Box (wp P nt k (.loop c) T s Q) := ⟨h⟩
theorem pExit {id : Nat} (h : Q (.exit id) T s) : Box (wp P nt k (.exit id) T s Q) := ⟨h⟩
theorem CallW.run (G : Good P) {f : FuncId} {res : List ResultVar} {body : MC} {args : List Value} {K : Value → SS → Prop} (hm : compF P f = some ⟨nt, res, body⟩) (hn : args.length ≤ nt) (hk : s.next = k)
  (h : Box (wp P nt k body (argsL args 0) s (runQ P res K))) : CallW P f args s K := by
 subst hk
 refine CallW.body G hm hn ⟨?_⟩
 have e : runQ P res K = fun ex T s => match ex with
   | .exit _ => False
   | .normal | .ret => (match resS P T s res with
    | some l => K (one l) s
    | none => False) := by
  funext ex T s; cases ex <;> rfl
 exact e ▸ h.out
theorem MW.head (G : Good P) {mc : MC} {ι : Type} (μ : ι → Nat) (I : ι → Prop) (TV : ι → TL) (SV : ι → SS) (i0 : ι) (h0 : I i0) (hw : Wk P nt k T s (TV i0) (SV i0))
  (body : ∀ i, I i → Box (wp P nt k mc (TV i) (SV i) (headQ P nt k μ I TV SV i Q))) : MW P nt k (.loop mc) T s Q :=
 MW.loop G μ I TV SV i0 h0 hw fun i hi => ⟨(body i hi).out⟩
theorem sqRet {b : MC} (h : Q .ret T s) : seqQ P nt k b Q .ret T s := h
theorem bkRet {id : Nat} (h : Q .ret T s) : blockQ id Q .ret T s := h
theorem hdRet {ι : Type} {μ : ι → Nat} {I : ι → Prop} {TV : ι → TL} {SV : ι → SS} {i : ι} (h : Q .ret T s) : headQ P nt k μ I TV SV i Q .ret T s := h
theorem pRet (h : Q .ret T s) : Box (wp P nt k .ret T s Q) := ⟨h⟩
theorem gNone {run skip : Prop} (h : run) : wG T none run skip := h
theorem gOn {d : Tmp} {b : Bool} {run skip : Prop} (h : look T d = some (.bool b)) (hr : run) : wG T (some (d, b)) run skip := by
 simp only [wG, h]
 cases b <;> exact hr
variable {K : RR → Prop}
theorem ldI_at {k : IntKind} {x : Operand} {b off : Nat} {c : List Value} {e : TypeId} {g r : Bool} {n : Int} (hx : opd T s.gl x = some (.pointer (some ⟨b, off, none⟩))) (hb : lookH s.heap b = some (.cells c e g r)) (hc : c[off]? = some (.int k n))
  (h : K (.val (.int k n))) : wN P (.ldI k x) T s K := by
 simp only [wN, hx, hb]
 exact ⟨n, hc, h⟩
theorem toStr_at {x : Operand} {b off len cap : Nat} {c : List Value} {e : TypeId} {g r : Bool} {l : List UInt8} (hx : opd T s.gl x = some (.slice (some ⟨b, off, none⟩) len cap)) (hb : lookH s.heap b = some (.cells c e g r)) (hc : takeN len (c.drop off) = some (bytesV l))
  (h : K (.val (.string ⟨⟨l⟩⟩))) : wN P (.toStr x) T s K := by
 simp only [wN, hx, hb]
 exact ⟨l, hc, h⟩
end
end Go.Vf
end
section
namespace Go.Vf
open Go.RowKit Go.ChangeShapes
set_option linter.unusedVariables false
set_option linter.unusedSimpArgs false
theorem wrap_u8 (x : Int) : IntKind.wrap .u8 x = x % 256 := by simp [IntKind.wrap, IntKind.signed, IntKind.bits]
theorem wrap_u64 (x : Int) : IntKind.wrap .u64 x = x % 18446744073709551616 := by simp [IntKind.wrap, IntKind.signed, IntKind.bits]
theorem wrap_i64 (x : Int) : IntKind.wrap .i64 x = (x + 9223372036854775808) % 18446744073709551616 - 9223372036854775808 := by
 simp [IntKind.wrap, IntKind.signed, IntKind.bits]
 split <;> omega
theorem wrap_i32 (x : Int) : IntKind.wrap .i32 x = (x + 2147483648) % 4294967296 - 2147483648 := by
 simp [IntKind.wrap, IntKind.signed, IntKind.bits]
 split <;> omega
theorem i64_id {x : Int} (h : -9223372036854775808 ≤ x ∧ x ≤ 9223372036854775807) : IntKind.wrap .i64 x = x := by rw [wrap_i64]; omega
theorem u8_id {x : Int} (h : 0 ≤ x ∧ x ≤ 255) : IntKind.wrap .u8 x = x := by rw [wrap_u8]; omega
theorem bytesV_len (l : List UInt8) : (bytesV l).length = l.length := by simp [bytesV]
theorem bytesV_get {l : List UInt8} {i : Nat} (h : i < l.length) : (bytesV l)[i]? = some (.int .u8 (l.getD i 0).toNat) := by
 simp [bytesV, List.getD, List.getElem?_eq_getElem h]
theorem bytesV_append (a b : List UInt8) : bytesV a ++ bytesV b = bytesV (a ++ b) := by simp [bytesV]
theorem bytesV_take (l : List UInt8) (n : Nat) : (bytesV l).take n = bytesV (l.take n) := by simp [bytesV, List.map_take]
theorem bytesV_drop (l : List UInt8) (n : Nat) : (bytesV l).drop n = bytesV (l.drop n) := by simp [bytesV, List.map_drop]
theorem all1_bytesV : ∀ l : List UInt8, all1 (bytesV l) = true
 | [] => rfl
 | b :: l => all1_bytesV l
theorem takeN_take : ∀ (n : Nat) (l : List Value), n ≤ l.length → takeN n l = some (l.take n)
 | 0, l, _ => by simp [takeN]
 | n + 1, [], h => by simp at h
 | n + 1, v :: r, h => by simp only [takeN, takeN_take n r (by simpa using h), List.take_succ_cons]
theorem takeN_bytes {l : List UInt8} {off n : Nat} (h : off + n ≤ l.length) : takeN n ((bytesV l).drop off) = some (bytesV ((l.drop off).take n)) := by
 rw [takeN_take _ _ (by simp [bytesV]; omega), bytesV_drop, bytesV_take]
theorem takeN_inv {n : Nat} {l r : List Value} (h : takeN n l = some r) : r = l.take n ∧ n ≤ l.length := takeN_eq _ _ _ h
def Rdb (s : SS) (base : Option Addr) (n : Nat) (l : List UInt8) : Prop :=
 n = l.length ∧ match base with
 | none => l = []
 | some ⟨b, off, sp⟩ => sp = none ∧ b < s.next ∧ ∃ c t g r, lookH s.heap b = some (.cells c t g r) ∧ takeN n (c.drop off) = some (bytesV l) ∧ c.all plain1 = true
theorem Rdb.at {s : SS} {b off n : Nat} {sp : Option Nat} {l : List UInt8} (h : Rdb s (some ⟨b, off, sp⟩) n l) : sp = none ∧ ∃ c t g r, lookH s.heap b = some (.cells c t g r) ∧ ∀ i, i < n → c[off + i]? = some (.int .u8 (l.getD i 0).toNat) := by
 obtain ⟨hn, hs, -, c, t, g, r, h1, h2, -⟩ := h
 refine ⟨hs, c, t, g, r, h1, fun i hi => ?_⟩
 obtain ⟨h3, h4⟩ := takeN_inv h2
 have h5 := bytesV_get (l := l) (i := i) (by omega)
 rw [h3, List.getElem?_take, if_pos hi, List.getElem?_drop] at h5
 exact h5
theorem bytesV_plain (l : List UInt8) : (bytesV l).all plain1 = true := by
 induction l with
 | nil => rfl
 | cons b l ih => simp [bytesV, plain1]
def ABlk.shut : ABlk → ABlk
 | .cells c t g _ => .cells c t g true
 | b => b
def renOf (bs : List (RE × ABlk)) : Ren := fun id => bs[id]?.map Prod.fst
def heapOf : Nat → List (RE × ABlk) → List (Nat × Option ABlk)
 | _, [] => []
 | n, (_, b) :: r => (n, some b) :: heapOf (n + 1) r
theorem heapOf_look : ∀ (l : List (RE × ABlk)) (n id : Nat), lookH (heapOf n l) id = if n ≤ id then l[id - n]?.map Prod.snd else none
 | [], n, id => by simp [heapOf, lookH]
 | (e, b) :: r, n, id => by
  simp only [heapOf, lookH]
  rcases beq_cases n id with ⟨h, hb⟩ | ⟨h, hb⟩
  ·subst h; simp
  ·rw [hb, cond_false, heapOf_look r (n + 1) id]
   by_cases h1 : n + 1 ≤ id
   ·rw [if_pos h1, if_pos (by omega), show id - n = (id - (n + 1)) + 1 from by omega, List.getElem?_cons_succ]
   ·rw [if_neg h1, if_neg (by omega)]
def startS (bs : List (RE × ABlk)) (gl : Nat) : SS := ⟨heapOf 0 bs, bs.length, gl⟩
theorem startS_rel {P : Program} {W : World} {bs : List (RE × ABlk)} {gl : Nat} (h : ∀ (i : Nat) e b, bs[i]? = some (e, b) → BRel P (renOf bs) W e b ∧ b.ro = true ∧ e.blk < W.heap.size)
  (hg : ∀ g, g < gl → ∃ e b, bs[g]? = some (e, b) ∧ e.blk = g ∧ e.off = 0) : HRel P W.heap.size W (renOf bs) (startS bs gl).st W ∧ FreeFrom (renOf bs) (startS bs gl).next := by
 have get : ∀ id b e, (startS bs gl).st.heap.get id = some b → renOf bs id = some e → bs[id]? = some (e, b) := by
  intro id b e hb he
  rw [SS.get] at hb
  simp only [startS, heapOf_look, Nat.zero_le, if_true, Nat.sub_zero] at hb
  simp only [renOf] at he
  cases hx : bs[id]? with
  | none => rw [hx] at hb; cases hb
  | some x =>
   rw [hx] at hb he
   obtain ⟨e', b'⟩ := x
   cases hb; cases he; rfl
 refine ⟨⟨.refl _ _, Nat.le_refl _, .refl _, ?_, ?_, ?_, ?_, ?_⟩, ?_⟩
 ·intro id b e hb he; exact (h _ _ _ (get _ _ _ hb he)).1
 ·intro id b e hb he hr; rw [(h _ _ _ (get _ _ _ hb he)).2.1] at hr; cases hr
 ·intro i j b b' e e' _ hb _ he hr; rw [(h _ _ _ (get _ _ _ hb he)).2.1] at hr; cases hr
 ·intro id e he
  simp only [renOf] at he
  cases hx : bs[id]? with
  | none => rw [hx] at he; cases he
  | some x =>
   rw [hx] at he
   obtain ⟨e', b'⟩ := x
   cases he
   exact (h _ _ _ hx).2.2
 ·intro g hlt
  obtain ⟨e, b, h1, h2, h3⟩ := hg g hlt
  exact ⟨e, by simp [renOf, h1], h2, h3⟩
 ·intro id hid
  simp only [renOf]
  rw [List.getElem?_eq_none (by exact hid)]; rfl
theorem plain1_inv {ρ : Ren} {v w : Value} (hp : plain1 v = true) (q : VRel ρ v w) : w = v := by
 cases v with
 | func fn x y =>
  simp [plain1] at hp
  obtain ⟨⟨hy, rfl⟩, rfl⟩ := hp
  cases q with
  | yield => cases hy
  | func fn _ h1 h2 h3 h4 =>
   simp at h1 h2
   have e1 := h1.symm
   have e2 := h2.symm
   simp at e1 e2
   rw [e1, e2]
 | pointer x => cases x <;> simp [plain1] at hp; cases q; rfl
 | slice x l c => cases x <;> simp [plain1] at hp; cases q; rfl
 | map x => cases x <;> simp [plain1] at hp; cases q; rfl
 | chan x => cases x <;> simp [plain1] at hp; cases q; rfl
 | agg x => simp [plain1] at hp
 | tuple x => simp [plain1] at hp
 | iface t x => simp [plain1] at hp
 | _ => cases q; rfl
theorem plainL_inv {ρ : Ren} {l w : List Value} (hp : l.all plain1 = true) (q : LRel ρ l w) : w = l := by
 refine List.ext_getElem? fun i => ?_
 rcases Nat.lt_or_ge i l.length with h | h
 ·obtain ⟨v', h1, h2⟩ := q.get (List.getElem?_eq_getElem h)
  rw [h1, List.getElem?_eq_getElem h, plain1_inv (List.all_eq_true.1 hp _ (List.getElem_mem h)) h2]
 ·rw [List.getElem?_eq_none h, List.getElem?_eq_none (by rw [← q.1]; exact h)]
theorem plain_inv {ρ : Ren} {v w : Value} (hp : plainV v = true) (q : VRel ρ v w) : w = v := by
 cases v with
 | agg a =>
  cases q with
  | agg h1 h2 =>
   have := plainL_inv (by simpa [plainV] using hp) (⟨h1, h2⟩ : LRel ρ a.toList _)
   congr 1
   exact Array.toList_inj.1 this
 | tuple a =>
  cases q with
  | tuple h1 h2 =>
   have := plainL_inv (by simpa [plainV] using hp) (⟨h1, h2⟩ : LRel ρ a.toList _)
   congr 1
   exact Array.toList_inj.1 this
 | iface t v => cases q with | iface t q => rw [plain1_inv (by simpa [plainV] using hp) q]
 | _ => exact plain1_inv (by simpa [plainV] using hp) q
theorem CallW.answer {P : Program} {f : FuncId} {args : List Value} {s : SS} {v : Value} {ρ : Ren} {W : World} {args' : List Value} (h : CallW P f args s fun v' _ => v' = v) (hp : plainV v = true)
  (H : HRel P W.heap.size W ρ s.st W) (hf : FreeFrom ρ s.next) (ha : LRel ρ args args') : Calls P f ⟨args'⟩ W fun e w' => e = .returned v ∧ Below W.heap.size W w' := by
 refine (h.zero _ _ _ _ _ H ha hf).mono fun e w' he => ?_
 obtain ⟨v', u, s', ρ', rfl, hk, hv, H', _⟩ := he
 subst hk
 exact ⟨by rw [plain_inv hp hv], H'.below⟩
section
variable {H : Type} {enc : TypeId × Value → H} {P : Program} {W : World}
end
end Go.Vf
end
section
namespace Go.Vf
set_option linter.unusedVariables false
set_option linter.unusedSimpArgs false
section
variable {P : Program} {T : TL} {s : SS} {K : RR → Prop} {x y : Operand} {e : TypeId} {a l : List UInt8} {base : Option Addr} {n m c cap b : Nat}
theorem wSrc_Rdb {KK : Nat → List Value → Prop} (h : Rdb s base n l) (hk : KK n (bytesV l)) : wSrc s 1 (.slice base n c) KK := by
 cases base with
 | none =>
  obtain ⟨h1, h2⟩ := h
  simp only at h2
  subst h2
  exact hk
 | some a =>
  obtain ⟨b, off, sp⟩ := a
  obtain ⟨h1, rfl, -, cc, t, g, r, h2, h3, -⟩ := h
  simp only [wSrc, h2, Nat.mul_one]
  exact ⟨_, h3, hk⟩
theorem setRow_bytes : ∀ (a l : List UInt8) (o : Nat), o + l.length ≤ a.length → setRow (bytesV a) o (bytesV l) = some (bytesV (a.take o ++ l ++ a.drop (o + l.length)))
 | a, [], 0, _ => by cases a <;> simp [bytesV, setRow]
 | [], x :: l, 0, h => by simp at h
 | [], l, o + 1, h => by simp at h
 | y :: a, x :: l, 0, h => by
  have := setRow_bytes a l 0 (by simp at h ⊢; omega)
  simp only [bytesV, List.map_cons, setRow] at this ⊢
  rw [this]
  simp
 | y :: a, l, o + 1, h => by
  have := setRow_bytes a l o (by simp at h; omega)
  simp only [bytesV, List.map_cons, setRow] at this ⊢
  rw [this]
  simp [show o + 1 + l.length = (o + l.length) + 1 from by omega]
theorem appB_room (hx : opd T s.gl x = some (.slice (some ⟨b, 0, none⟩) m cap)) (hbk : lookH s.heap b = some (.cells (bytesV a) e false false)) (hcap : a.length = cap) (hy : opd T s.gl y = some (.slice base n c)) (hr : Rdb s base n l) (hmn : m + n ≤ cap) (hb : cap ≤ 4294967296)
  (h : K (.eff (.slice (some ⟨b, 0, none⟩) (m + n) cap) { s with heap := (b, some (.cells (bytesV (a.take m ++ l ++ a.drop (m + n))) e false false)) :: s.heap })) : wN P (.app e 1 1 x y) T s K := by
 simp only [wN, wAppB, hx, hy]
 refine wSrc_Rdb hr ⟨⟨by omega, by omega, by rw [bytesV_len, hr.1, Nat.mul_one], all1_bytesV l⟩, ?_⟩
 simp only [hbk]
 refine ⟨fun _ => ⟨trivial, _, (by rw [Nat.mul_one, Nat.zero_add]; exact setRow_bytes a l m (by have := hr.1; omega)), fun m' hm' => ?_⟩, fun q => by omega⟩
 subst hm'
 have := hr.1
 rw [← this]; exact h
theorem toStr_Rdb (hx : opd T s.gl x = some (.slice base n c)) (hr : Rdb s base n l) (h : K (.val (.string ⟨⟨l⟩⟩))) : wN P (.toStr x) T s K := by
 cases base with
 | none =>
  obtain ⟨_, h2⟩ := hr
  simp only at h2
  subst h2
  simp only [wN, hx]
  exact h
 | some a =>
  obtain ⟨b, off, sp⟩ := a
  obtain ⟨h1, rfl, -, cc, t, g, r, h2, h3, -⟩ := hr
  exact toStr_at hx h2 h3 h
end
end Go.Vf
end
section
namespace Go.Vf
open Go.RowKit Go.ChangeShapes
set_option linter.unusedVariables false
set_option linter.unusedSimpArgs false
section
variable {H : Type} {enc : TypeId × Value → H} {P : Program} {W : World}
def GoodB (P : Program) (W : World) (e : RE) (b : ABlk) : Prop := (∀ ρ, BRel P ρ W e b) ∧ b.ro = true ∧ e.blk < W.heap.size
theorem all_stays {W' : World} (hl : laidOutB P = true) (hb : Below W.heap.size W W') {sp : Nat → Bool} : ∀ {ts : List TypeId} {vs : List Value} {ds : List (DataW H)} {ps : List MemPlace}, (ts.all fun t => P.readableRec t && decide (t < P.types.size)) = true →
  DataW.TrodAll enc P W 0 (fun _ => true) true ts vs ds ps → (∀ p ∈ ps, sp p.block = true) → (∀ p ∈ ps, p.block < W.heap.size) → DataW.TrodAll enc P W' 0 sp true ts vs ds ps
 | [], [], [], _, _, h, _, _ => h
 | t :: ts, v :: vs, d :: ds, ps, ht, h, hs, hlt => by
  obtain ⟨p, q, h1, h2, rfl⟩ := h
  simp only [List.all_cons, Bool.and_eq_true, decide_eq_true_eq] at ht
  exact ⟨p, q, WideElems.Trod_stays hl ht.1.1 ht.1.2 h1 (fun x hx => hb.same (hlt x (by simp [hx]))) (fun x hx => hs x (by simp [hx])),
   all_stays hl hb ht.2 h2 (fun x hx => hs x (by simp [hx])) (fun x hx => hlt x (by simp [hx])), rfl⟩
 | [], _ :: _, _, _, _, h, _, _ => h.elim
 | [], [], _ :: _, _, _, h, _, _ => h.elim
 | _ :: _, [], _, _, _, h, _, _ => h.elim
 | _ :: _, _ :: _, [], _, _, h, _, _ => h.elim
end
end Go.Vf
end
section
namespace Go.Vf
set_option linter.unusedVariables false
set_option linter.unusedSimpArgs false
section
variable {P : Program} {T : TL} {s : SS} {K : RR → Prop} {x y : Operand} {a l : List UInt8} {base : Option Addr} {n m cap b : Nat}
theorem gOff {d : Tmp} {b c : Bool} {run skip : Prop} (h : look T d = some (.bool c)) (hc : c = !b) (hr : skip) : wG T (some (d, b)) run skip := by
 subst hc
 simp only [wG, h]
 cases b <;> exact hr
def Slc (P : Program) (s : SS) (base : Option Addr) (n cap : Nat) (l : List UInt8) : Prop :=
 Rdb s base n l ∧ match base with
 | none => True
 | some ⟨b, _, _⟩ => ∃ c t g r, lookH s.heap b = some (.cells c t g r) ∧ (g = true → sizeB P t = some 1) ∧ (g = false → n ≤ cap)
theorem appB_new {e t : TypeId} {g : Bool} {c : Nat} (hx : opd T s.gl x = some (.slice (some ⟨b, 0, none⟩) m cap)) (hbk : lookH s.heap b = some (.cells (bytesV a) t false g)) (hm : m = a.length) (hy : opd T s.gl y = some (.slice base n c)) (hr : Rdb s base n l) (hn : cap < m + n) (hb : m + n ≤ 4294967296)
  (h : K (.eff (.slice (some ⟨s.next, 0, none⟩) (m + n) 0) { s with heap := (s.next, some (.cells (bytesV (a ++ l)) e true false)) :: s.heap, next := s.next + 1 })) : wN P (.app e 1 1 x y) T s K := by
 simp only [wN, wAppB, hx, hy]
 refine wSrc_Rdb hr ⟨⟨by omega, by omega, by rw [bytesV_len, hr.1, Nat.mul_one], all1_bytesV l⟩, ?_⟩
 simp only [hbk]
 refine ⟨fun q => by omega, fun _ => ⟨bytesV a, ?_, fun m' l' hm' hl' => ?_⟩⟩
 ·rw [Nat.mul_one, List.drop_zero, takeN_take _ _ (by rw [bytesV_len]; omega), List.take_of_length_le (by rw [bytesV_len]; omega)]
 ·subst hm'; subst hl'; rw [bytesV_append]; exact h
end
end Go.Vf
end
section
namespace Go.Vf
open Go.RowKit Go.ChangeShapes
set_option linter.unusedVariables false
set_option linter.unusedSimpArgs false
section
variable {H : Type} {enc : TypeId × Value → H} {P : Program} {W : World}
end
end Go.Vf
end
section
namespace Go.Vf
set_option linter.unusedVariables false
set_option linter.unusedSimpArgs false
theorem lkH {k : Nat} {v : Option ABlk} {r : List (Nat × Option ABlk)} : lookH ((k, v) :: r) k = v := by
 simp only [lookH, Nat.beq_refl, cond_true]
theorem lkT {k j : Nat} {v : Option ABlk} {r : List (Nat × Option ABlk)} {b : ABlk} (h : k ≠ j) (hr : lookH r j = some b) : lookH ((k, v) :: r) j = some b := by
 simp only [lookH, beqF h, cond_false]; exact hr
theorem lkN {k j : Nat} {v : Option ABlk} {r : List (Nat × Option ABlk)} (h : k ≠ j) (hr : lookH r j = none) : lookH ((k, v) :: r) j = none := by
 simp only [lookH, beqF h, cond_false]; exact hr
def Fine (s : SS) : Prop := ∀ id, s.next ≤ id → lookH s.heap id = none
theorem Fine.at {s : SS} (h : Fine s) : lookH s.heap s.next = none := h _ (Nat.le_refl _)
structure Chg (s s' : SS) (A : List Nat) : Prop where
 gl : s'.gl = s.gl
 next : s.next ≤ s'.next
 blk : ∀ id x, id < s.next → id ∉ A → lookH s.heap id = some x → lookH s'.heap id = some x
 fine : Fine s → Fine s'
theorem Chg.refl (s : SS) (A : List Nat) : Chg s s A := ⟨rfl, Nat.le_refl _, fun _ _ _ _ h => h, fun h => h⟩
theorem Chg.trans {a b c : SS} {A B : List Nat} (h : Chg a b A) (k : Chg b c B) : Chg a c (A ++ B) :=
 ⟨k.gl.trans h.gl, Nat.le_trans h.next k.next, fun id x hid hA hx => k.blk id x (Nat.lt_of_lt_of_le hid h.next) (fun q => hA (List.mem_append_right _ q)) (h.blk id x hid (fun q => hA (List.mem_append_left _ q)) hx), fun f => k.fine (h.fine f)⟩
theorem Chg.sub {s s' : SS} {A B : List Nat} (h : Chg s s' A) (hs : ∀ id ∈ A, id < s.next → id ∈ B) : Chg s s' B :=
 ⟨h.gl, h.next, fun id x hid hB hx => h.blk id x hid (fun q => hB (hs id q hid)) hx, h.fine⟩
theorem Chg.trans' {a b c : SS} {A B C : List Nat} (h : Chg a b A) (k : Chg b c B) (hA : ∀ id ∈ A, id < a.next → id ∈ C) (hB : ∀ id ∈ B, id < a.next → id ∈ C) : Chg a c C :=
 (h.trans k).sub fun id q hid => (List.mem_append.1 q).elim (fun q => hA id q hid) (fun q => hB id q hid)
theorem Chg.new {s : SS} {b : ABlk} (A : List Nat) : Chg s { s with heap := (s.next, some b) :: s.heap, next := s.next + 1 } A :=
 ⟨rfl, Nat.le_succ _, fun id x hid _ hx => lkT (by omega) hx, fun f id hid => by
  have hid' : s.next + 1 ≤ id := hid
  exact lkN (by omega) (f id (by omega))⟩
theorem Chg.new2 {s : SS} {b : ABlk} {i : Nat} : Chg s { s with heap := (s.next, some b) :: (i, none) :: s.heap, next := s.next + 1 } [i] :=
 ⟨rfl, Nat.le_succ _, fun id x hid hA hx => lkT (by omega) (lkT (fun e => hA (by simp [e])) hx), fun f id hid => by
  have hid' : s.next + 1 ≤ id := hid
  refine lkN (by omega) ?_
  by_cases e : i = id
  ·subst e; exact lkH
  ·exact lkN e (f id (by omega))⟩
theorem Chg.turn {s : SS} {b : ABlk} {i : Nat} (h : i < s.next) : Chg s { s with heap := (i, some b) :: s.heap } [i] :=
 ⟨rfl, Nat.le_refl _, fun id x hid hA hx => lkT (fun e => hA (by simp [e])) hx, fun f id hid => by
  have hid' : s.next ≤ id := hid
  exact lkN (by omega) (f id hid)⟩
theorem Chg.nil {a b c : SS} {Z : List Nat} (h : Chg a b []) (k : Chg b c Z) : Chg a c Z := h.trans k
theorem Chg.fresh {a b c : SS} {A Z : List Nat} (h : Chg a b A) (k : Chg b c Z) (hz : ∀ id ∈ Z, a.next ≤ id) : Chg a c A :=
 h.trans' k (fun id q _ => q) (fun id q hid => absurd (hz id q) (Nat.not_le.2 hid))
theorem Chg.keep {s s' : SS} (h : Chg s s' []) (f : Fine s) : Keep s s' :=
 ⟨h.gl, fun id b hb => by
  rcases Nat.lt_or_ge id s.next with q | q
  ·exact h.blk id b q (by simp) hb
  ·rw [f id q] at hb; cases hb⟩
def blkOf : Option Addr → List Nat
 | none => []
 | some a => [a.block]
section
variable {P : Program} {tB : TypeId}
def Own (tB : TypeId) (s : SS) (base : Option Addr) (l : List UInt8) : Prop :=
 match base with
 | none => l = []
 | some ⟨b, off, sp⟩ => off = 0 ∧ sp = none ∧ b < s.next ∧ ∃ g, lookH s.heap b = some (.cells (bytesV l) tB g false) ∧ (g = false → l = [])
theorem Own.lt {s : SS} {base : Option Addr} {l : List UInt8} (h : Own tB s base l) : ∀ id ∈ blkOf base, id < s.next := by
 cases base with
 | none => simp [blkOf]
 | some a =>
  obtain ⟨b, off, sp⟩ := a
  intro id hid
  simp only [blkOf, List.mem_singleton] at hid
  subst hid
  exact h.2.2.1
theorem Own.chg {s s' : SS} {base : Option Addr} {l : List UInt8} {A : List Nat} (h : Own tB s base l) (c : Chg s s' A) (hA : ∀ id ∈ blkOf base, id ∉ A) : Own tB s' base l := by
 cases base with
 | none => exact h
 | some a =>
  obtain ⟨b, off, sp⟩ := a
  obtain ⟨h1, h2, h3, g, h4, h5⟩ := h
  exact ⟨h1, h2, Nat.lt_of_lt_of_le h3 c.next, g, c.blk _ _ h3 (hA b (by simp [blkOf])) h4, h5⟩
theorem Own.rdb {s : SS} {base : Option Addr} {l : List UInt8} (h : Own tB s base l) : Rdb s base l.length l := by
 cases base with
 | none => exact ⟨rfl, h⟩
 | some a =>
  obtain ⟨b, off, sp⟩ := a
  obtain ⟨rfl, rfl, h3, g, h4, h5⟩ := h
  refine ⟨rfl, rfl, h3, _, _, _, _, h4, ?_, bytesV_plain _⟩
  rw [takeN_bytes (by omega), List.drop_zero, List.take_of_length_le (by omega)]
theorem Rdb.chg {s s' : SS} {base : Option Addr} {n : Nat} {l : List UInt8} {A : List Nat} (h : Rdb s base n l) (c : Chg s s' A) (hA : ∀ id ∈ blkOf base, id ∉ A) : Rdb s' base n l := by
 cases base with
 | none => exact h
 | some a =>
  obtain ⟨b, off, sp⟩ := a
  obtain ⟨h1, h2, h3, cc, t, g, r, h4, h5, h6⟩ := h
  exact ⟨h1, h2, Nat.lt_of_lt_of_le h3 c.next, cc, t, g, r, c.blk _ _ h3 (hA b (by simp [blkOf])) h4, h5, h6⟩
theorem Slc.chg {s s' : SS} {base : Option Addr} {n cap : Nat} {l : List UInt8} {A : List Nat} (h : Slc P s base n cap l) (c : Chg s s' A) (hA : ∀ id ∈ blkOf base, id ∉ A) : Slc P s' base n cap l := by
 refine ⟨h.1.chg c hA, ?_⟩
 have h2 := h.2
 cases base with
 | none => trivial
 | some a =>
  obtain ⟨b, off, sp⟩ := a
  obtain ⟨cc, t, g, r, q1, q2, q3⟩ := h2
  obtain ⟨_, _, h3, _⟩ := h.1
  exact ⟨cc, t, g, r, c.blk _ _ h3 (hA b (by simp [blkOf])) q1, q2, q3⟩
theorem Rdb.lt {s : SS} {base : Option Addr} {n : Nat} {l : List UInt8} (h : Rdb s base n l) : ∀ id ∈ blkOf base, id < s.next := by
 cases base with
 | none => simp [blkOf]
 | some a =>
  obtain ⟨b, off, sp⟩ := a
  intro id hid
  simp only [blkOf, List.mem_singleton] at hid
  subst hid
  exact h.2.2.1
end
section
variable {P : Program} {T : TL} {s : SS} {K : RR → Prop} {x y : Operand} {base : Option Addr} {n c b off : Nat} {l a : List UInt8} {e : TypeId}
theorem ldI_is {k : IntKind} {cs : List Value} {t : TypeId} {g r : Bool} {z : Int} (hx : opd T s.gl x = some (.pointer (some ⟨b, off, none⟩))) (hb : lookH s.heap b = some (.cells cs t g r)) (hc : cs[off]? = some (.int k z))
  (h : K (.val (.int k z))) : wN P (.ldI k x) T s K := ldI_at hx hb hc h
theorem ldB_is {cs : List Value} {t : TypeId} {g r : Bool} {z : Bool} (hx : opd T s.gl x = some (.pointer (some ⟨b, off, none⟩))) (hb : lookH s.heap b = some (.cells cs t g r)) (hc : cs[off]? = some (.bool z))
  (h : K (.val (.bool z))) : wN P (.ldB x) T s K := by
 simp only [wN, hx, hb]
 exact ⟨z, hc, h⟩
theorem ld1_is {cs : List Value} {t : TypeId} {g r : Bool} {v : Value} (hx : opd T s.gl x = some (.pointer (some ⟨b, off, none⟩))) (hb : lookH s.heap b = some (.cells cs t g r)) (hc : cs[off]? = some v)
  (h : K (.val v)) : wN P (.ld1 x) T s K := by
 simp only [wN, hx, hb]
 exact ⟨v, hc, h⟩
theorem ldN_is {m : Nat} {cs new : List Value} {t : TypeId} {g r : Bool} (hx : opd T s.gl x = some (.pointer (some ⟨b, off, none⟩))) (hb : lookH s.heap b = some (.cells cs t g r)) (hc : takeN m (cs.drop off) = some new)
  (h : K (.val (.agg ⟨new⟩))) : wN P (.ldN m x) T s K := by
 simp only [wN, hx, hb]
 exact ⟨new, hc, h⟩
theorem st_is {m : Nat} {cs cs' : List Value} {v : Value} {t : TypeId} {g : Bool} (hx : opd T s.gl x = some (.pointer (some ⟨b, off, none⟩))) (hy : opd T s.gl y = some v) (hb : lookH s.heap b = some (.cells cs t g false))
  (hf : (Nat.beq (flat v).length m && all1 (flat v)) = true) (hc : setRow cs off (flat v) = some cs') (h : K (.eff (.tuple #[]) { s with heap := (b, some (.cells cs' t g false)) :: s.heap })) : wN P (.st m x y) T s K := by
 simp only [wN, hx, hy, hb, hf]
 exact ⟨cs', hc, h⟩
theorem st_abs {m : Nat} {cs cs' : List Value} {v : Value} {t : TypeId} {g : Bool} (hx : opd T s.gl x = some (.pointer (some ⟨b, off, none⟩))) (hy : opd T s.gl y = some v) (hb : lookH s.heap b = some (.cells cs t g false)) (hlt : b < s.next)
  (hf : (Nat.beq (flat v).length m && all1 (flat v)) = true) (hc : setRow cs off (flat v) = some cs') (h : ∀ s' : SS, lookH s'.heap b = some (.cells cs' t g false) → Chg s s' [b] → s'.next = s.next → K (.eff (.tuple #[]) s')) : wN P (.st m x y) T s K :=
 st_is hx hy hb hf hc (h _ lkH (.turn hlt) rfl)
theorem mkS_is {z cs : List Value} {m : Nat} {ps : List (Nat × Nat × Operand)} {vs : List (Nat × Nat × Value)} (hl : opdPs T s.gl ps = some vs) (hc : layM z vs = some cs) (h : K (.new (.cells cs e false false) fun id => .slice (some ⟨id, 0, none⟩) m m)) : wN P (.mkS e m z ps) T s K := by
 simp only [wN, hl, hc]
 exact h
theorem appB_own {m : Nat} {new : List UInt8} (ho : Own e s base a) (hm : m = a.length) (hn : n = new.length) (h0 : 0 < n) (hb : m + n ≤ 4294967296)
  (h : ∀ s' : SS, Own e s' (some ⟨s.next, 0, none⟩) (a ++ new) → Chg s s' (blkOf base) → s'.next = s.next + 1 → K (.eff (.slice (some ⟨s.next, 0, none⟩) (m + n) 0) s')) : wAppB s e 1 1 base m 0 n (bytesV new) K := by
 refine ⟨⟨by omega, hb, by rw [bytesV_len, hn, Nat.mul_one], all1_bytesV _⟩, ?_⟩
 cases base with
 | none =>
  have ha : a = [] := ho
  subst ha
  refine ⟨fun q => by omega, fun _ => ⟨hm, fun m' hm' => ?_⟩⟩
  have := h { s with heap := (s.next, some (.cells (bytesV new) e true false)) :: s.heap, next := s.next + 1 } ⟨rfl, rfl, Nat.lt_succ_self _, true, lkH, fun q => by cases q⟩ (.new _) rfl
  rw [show m + n = m' by simp at hm; omega] at this
  exact this
 | some q =>
  obtain ⟨b, off, sp⟩ := q
  obtain ⟨rfl, rfl, h3, g, h4, h5⟩ := ho
  simp only [h4]
  have old : takeN (m * 1) ((bytesV a).drop 0) = some (bytesV a) := by
   rw [Nat.mul_one, takeN_bytes (by omega), List.drop_zero, List.take_of_length_le (by omega)]
  cases g with
  | true =>
   refine ⟨fun q => by omega, fun _ => ⟨rfl, rfl, _, old, fun m' l' hm' hl' => ?_⟩⟩
   subst hm'; subst hl'
   rw [bytesV_append]
   exact h { s with heap := (s.next, some (.cells (bytesV (a ++ new)) e true false)) :: (b, none) :: s.heap, next := s.next + 1 } ⟨rfl, rfl, Nat.lt_succ_self _, true, lkH, fun q => by cases q⟩ .new2 rfl
  | false =>
   have ha := h5 rfl
   subst ha
   refine ⟨fun q => by omega, fun _ => ⟨_, old, fun m' l' hm' hl' => ?_⟩⟩
   subst hm'; subst hl'
   rw [bytesV_append]
   exact h { s with heap := (s.next, some (.cells (bytesV ([] ++ new)) e true false)) :: s.heap, next := s.next + 1 } ⟨rfl, rfl, Nat.lt_succ_self _, true, lkH, fun q => by cases q⟩ (.new _) rfl
theorem app_own {m : Nat} {sb : Option Addr} (ho : Own e s base a) (hm : m = a.length) (hx : opd T s.gl x = some (.slice base m 0)) (hy : opd T s.gl y = some (.slice sb n c)) (hr : Rdb s sb n l) (h0 : 0 < n) (hb : m + n ≤ 1073741824)
  (h : ∀ s' : SS, Own e s' (some ⟨s.next, 0, none⟩) (a ++ l) → Chg s s' (blkOf base) → s'.next = s.next + 1 → K (.eff (.slice (some ⟨s.next, 0, none⟩) (m + n) 0) s')) : wN P (.app e 1 1 x y) T s K := by
 simp only [wN, hx, hy]
 exact wSrc_Rdb hr (appB_own ho hm hr.1 h0 (by omega) h)
end
section
variable {P : Program} {T : TL} {s : SS} {K : RR → Prop} {x y : Operand}
def OwnR (t : TypeId) (s : SS) (W : Option Addr) (cw n : Nat) (cs : List Value) : Prop :=
 match W with
 | none => cs = [] ∧ n = 0 ∧ cw = 0
 | some ⟨b, off, sp⟩ => off = 0 ∧ sp = none ∧ b < s.next ∧ ∃ g, lookH s.heap b = some (.cells cs t g false) ∧ (g = false → cw = n)
theorem OwnR.lt {t : TypeId} {W : Option Addr} {cw n : Nat} {cs : List Value} (h : OwnR t s W cw n cs) : ∀ id ∈ blkOf W, id < s.next := by
 cases W with
 | none => simp [blkOf]
 | some a =>
  obtain ⟨b, off, sp⟩ := a
  intro id hid
  simp only [blkOf, List.mem_singleton] at hid
  subst hid
  exact h.2.2.1
theorem OwnR.chg {t : TypeId} {s' : SS} {W : Option Addr} {cw n : Nat} {cs : List Value} {A : List Nat} (h : OwnR t s W cw n cs) (c : Chg s s' A) (hA : ∀ id ∈ blkOf W, id ∉ A) : OwnR t s' W cw n cs := by
 cases W with
 | none => exact h
 | some a =>
  obtain ⟨b, off, sp⟩ := a
  obtain ⟨h1, h2, h3, g, h4, h5⟩ := h
  exact ⟨h1, h2, Nat.lt_of_lt_of_le h3 c.next, g, c.blk _ _ h3 (hA b (by simp [blkOf])) h4, h5⟩
theorem OwnR.at {t : TypeId} {W : Option Addr} {cw n : Nat} {cs : List Value} (h : OwnR t s W cw n cs) : ∀ id ∈ blkOf W, ∃ g, lookH s.heap id = some (.cells cs t g false) := by
 cases W with
 | none => simp [blkOf]
 | some a =>
  obtain ⟨b, off, sp⟩ := a
  intro id hid
  simp only [blkOf, List.mem_singleton] at hid
  subst hid
  obtain ⟨h1, h2, h3, g, h4, h5⟩ := h
  exact ⟨g, h4⟩
theorem OwnR.pos {t : TypeId} {W : Option Addr} {cw n : Nat} {cs : List Value} (h : OwnR t s W cw n cs) (hn : 0 < n) : ∃ b g, W = some ⟨b, 0, none⟩ ∧ lookH s.heap b = some (.cells cs t g false) := by
 cases W with
 | none => obtain ⟨_, h, _⟩ := h; omega
 | some a =>
  obtain ⟨b, off, sp⟩ := a
  obtain ⟨rfl, rfl, h3, g, h4, h5⟩ := h
  exact ⟨b, g, rfl, h4⟩
theorem appR {t t' : TypeId} {size bytes : Nat} {W : Option Addr} {cw n b : Nat} {cs new : List Value} {g r : Bool} (h : OwnR t s W cw n cs) (hsz : cs.length = n * size) (hb1 : (n + 1) * bytes ≤ 140737488355328 ∧ n + 1 ≤ 4294967296) (hx : opd T s.gl x = some (.slice W n cw)) (hy : opd T s.gl y = some (.slice (some ⟨b, 0, none⟩) 1 1))
  (hb : lookH s.heap b = some (.cells new t' g r)) (hnew : new.length = size) (ha : all1 new = true) (hK : ∀ s' : SS, OwnR t s' (some ⟨s.next, 0, none⟩) 0 (n + 1) (cs ++ new) → Chg s s' (blkOf W) → s'.next = s.next + 1 → K (.eff (.slice (some ⟨s.next, 0, none⟩) (n + 1) 0) s')) : wN P (.app t size bytes x y) T s K := by
 simp only [wN, hx, hy, wSrc, hb]
 refine ⟨new, by rw [List.drop_zero, Nat.one_mul, takeN_take _ _ (by omega), List.take_of_length_le (by omega)], ⟨⟨hb1.1, hb1.2, by rw [Nat.one_mul]; exact hnew, ha⟩, ?_⟩⟩
 cases W with
 | none =>
  obtain ⟨rfl, rfl, rfl⟩ := h
  refine ⟨fun q => by simp at q, fun _ => ⟨rfl, fun m' hm' => ?_⟩⟩
  subst hm'
  exact hK { s with heap := (s.next, some (.cells new t true false)) :: s.heap, next := s.next + 1 } ⟨rfl, rfl, Nat.lt_succ_self _, true, by simp only [List.nil_append]; exact lkH, fun q => by cases q⟩ (.new _) rfl
 | some q =>
  obtain ⟨b2, off, sp⟩ := q
  obtain ⟨rfl, rfl, h3, g2, h4, h5⟩ := h
  simp only [h4]
  have old : takeN (n * size) (cs.drop 0) = some cs := by
   rw [List.drop_zero, takeN_take _ _ (by omega), List.take_of_length_le (by omega)]
  cases g2 with
  | true =>
   refine ⟨fun q => by omega, fun _ => ⟨rfl, rfl, _, old, fun m' l' hm' hl' => ?_⟩⟩
   subst hm'; subst hl'
   exact hK { s with heap := (s.next, some (.cells (cs ++ new) t true false)) :: (b2, none) :: s.heap, next := s.next + 1 } ⟨rfl, rfl, Nat.lt_succ_self _, true, lkH, fun q => by cases q⟩ .new2 rfl
  | false =>
   have := h5 rfl
   refine ⟨fun q => by omega, fun _ => ⟨_, old, fun m' l' hm' hl' => ?_⟩⟩
   subst hm'; subst hl'
   exact hK { s with heap := (s.next, some (.cells (cs ++ new) t true false)) :: s.heap, next := s.next + 1 } ⟨rfl, rfl, Nat.lt_succ_self _, true, lkH, fun q => by cases q⟩ (.new _) rfl
end
section
variable {P : Program} {T : TL} {s : SS} {R : TL → SS → Prop} {m : MOp} {d : Option Tmp} {chk : Bool} {k : Nat} {l : List ROp} {pd : List PRec} {b : ABlk} {v : Nat → Value}
theorem rNew (hn : lookH s.heap s.next = none) (h : Box (wRow P l (pdN chk k s.next b pd) (putL T d (v s.next)) { s with heap := (s.next, some b) :: s.heap, next := s.next + 1 } R)) : rowK P m d chk k l pd T s R (.new b v) := by
 simp only [rowK, hn]
 exact h
end
end Go.Vf
end

import Derived.Test.YtneanogeebbjiaaDoorEngI
/- The machine of plain blocks: operations in a row; calls. -/
namespace Go.Vf
open Go.RowKit

/-- What a call's answer says of the world's call. -/
def CallOk (P : Program) (f : FuncId) (args : List Value) (s : ASt) (v : Value) (s' : ASt) : Prop :=
  s.next ≤ s'.next ∧ s'.gl = s.gl ∧ ∀ (B : Nat) (w0 : World) (ρ : Ren) (args' : List Value) (w : World), HRel P B w0 ρ s w → LRel ρ args args' → Free ρ s.next s'.next →
    Calls P f ⟨args'⟩ w fun e w' => ∃ v' ρ', e = .returned v' ∧ VRel ρ' v v' ∧ HRel P B w0 ρ' s' w' ∧ Ext ρ ρ' s.next s'.next

def CallerOk (P : Program) (call : Caller) : Prop := ∀ f args s v s', call f args s = some (v, s') → CallOk P f args s v s'

/-- An operation's end, whatever answers its call. -/
def FinOk (P : Program) (s : ASt) (nx : Option ANext) (v : Value) (s' : ASt) : Prop := ∃ call : Caller, CallerOk P call ∧ fin call s nx = some (v, s')

section
variable {P : Program} {B : Nat} {w0 : World} {ρ : Ren} {s s' : ASt} {w : World} {T T' : ATmp} {o : Oper} {call : Caller} {nt : Nat}


theorem aOp_next {op : Op} {v : Value} (h : aOp P T s op = some (.eff v s')) : s.next ≤ s'.next := by
  have key : ∀ {s s' : ASt} {a : Addr} {vs : List Value}, storeRow s a vs = some s' → s'.next = s.next := by
    intro s s' a vs h
    unfold storeRow at h
    cases hsp : a.spot.isSome with
    | true => simp [hsp] at h
    | false =>
      simp only [hsp, cond_false] at h
      split at h
      · split at h
        · cases h
        · cases h; rfl
      · cases h
  cases op with
  | store t a x =>
    simp only [aOp, cond] at h
    repeat' (first | (cases h; done) | split at h)
    rename_i hs
    cases h
    exact Nat.le_of_eq (key hs).symm
  | call c =>
    obtain ⟨callee, args, argTypes⟩ := c
    cases callee with
    | builtin bb =>
      simp only [aOp] at h
      split at h
      · cases h
      · rename_i vs hvs
        cases bb <;> simp only at h <;> first
          | (cases h; done)
          | (cases hx : lenV P s argTypes.toList vs <;> simp [hx] at h; done)
          | (cases hx : capV P s argTypes.toList vs <;> simp [hx] at h; done)
          | (split at h
             · rename_i x r; cases hx : foldV true x r <;> simp [hx] at h
             · cases h)
          | (split at h
             · rename_i x r; cases hx : foldV false x r <;> simp [hx] at h
             · cases h)
          | (simp only [appendV, cond] at h
             repeat' (first | (cases h; done) | (cases h; exact Nat.le_succ _) | split at h)
             all_goals (first | (rename_i hs; cases h; exact Nat.le_of_eq (key hs).symm) | (cases h; exact Nat.le_succ _)))
          | (simp only [copyV, cond] at h
             repeat' (first | (cases h; done) | split at h)
             all_goals (first | (rename_i hs; cases h; exact Nat.le_of_eq (key hs).symm)))
    | value f =>
      simp only [aOp, callV, cond] at h
      repeat' (first | (cases h; done) | split at h)
    | invoke r n => simp only [aOp] at h; cases h
  | convert a c x =>
    simp only [aOp, convertV, cond] at h
    repeat' (first | (cases h; done) | (cases h; exact Nat.le_refl _) | split at h)
  | makeMap t r => cases r <;> (simp only [aOp] at h; cases h)
  | _ =>
    exfalso
    simp only [aOp, cond] at h
    first
      | (cases h; done)
      | exact map_val_eff h
      | (repeat' (first | (cases h; done) | exact map_val_eff h | split at h))

theorem fin_mono (hc : CallerOk P call) {v : Value} (h : fin call s (aOp P T s o.op) = some (v, s')) : s.next ≤ s'.next ∧ s'.gl = s.gl := by
  cases hx : aOp P T s o.op with
  | none => rw [hx] at h; cases h
  | some nx =>
    rw [hx] at h
    cases nx with
    | val u => cases h; exact ⟨Nat.le_refl _, rfl⟩
    | new b vf => cases h; exact ⟨Nat.le_succ _, rfl⟩
    | eff u s1 => cases h; exact ⟨aOp_next hx, aOp_gl hx⟩
    | enter f args =>
      obtain ⟨h1, h2, -⟩ := hc _ _ _ _ _ h
      exact ⟨h1, h2⟩

/-- One operation. -/
theorem op_wp (G : Good P) (hc : CallerOk P call) (H : HRel P B w0 ρ s w) {tmps : Array Value} (F : FRel ρ nt T tmps) (ds : List Deferred) {v : Value} (h : fin call s (aOp P T s o.op) = some (v, s'))
    (hfree : Free ρ s.next s'.next) {K : Act → World → Prop} {Q : Exit → Act → World → Prop}
    (hK : ∀ v' ρ' w', VRel ρ' v v' → HRel P B w0 ρ' s' w' → Ext ρ ρ' s.next s'.next → K ((⟨tmps, ds⟩ : Act).put o.dst v') w') : o.wp P ⟨tmps, ds⟩ w K Q := by
  cases hx : aOp P T s o.op with
  | none => rw [hx] at h; cases h
  | some nx =>
    have hp := aOp_post G H F ds hx
    rw [hx] at h
    unfold Oper.wp
    cases nx with
    | val u =>
      cases h
      obtain ⟨v', h1, h2⟩ := hp
      rw [h1]
      exact hK v' ρ w h2 H (.refl _ _ _)
    | new b vf =>
      cases h
      obtain ⟨hro, hp⟩ := hp
      have hf := hfree s.next (Nat.le_refl _) (Nat.lt_succ_self _)
      have H' : HRel P B w0 ρ { s with heap := s.heap.put s.next b, next := s.next + 1 } w := by
        refine H.same rfl fun id e b' he hb' => ?_
        rw [Tr.get_put] at hb'
        by_cases hid : id = s.next
        · subst hid; rw [hf] at he; cases he
        · rwa [if_neg hid] at hb'
      obtain ⟨v', w', e, h1, h2, h3⟩ := hp s.next _ hf H' (by simp)
      rw [h1]
      exact hK v' _ w' h3 h2 (Ext.one hf (Nat.lt_succ_self _))
    | eff u s1 =>
      cases h
      obtain ⟨-, hp⟩ := hp
      obtain ⟨n, w', ρ', v', h1, h2, h3, h4, h5⟩ := hp hfree
      rw [h1]
      rcases h2 with rfl | ⟨rfl, rfl⟩
      · exact hK v' ρ' w' h3 h4 h5
      · exact hK _ ρ' w' h3 h4 h5
    | enter f args =>
      obtain ⟨args', h1, h2⟩ := hp
      rw [h1]
      obtain ⟨-, -, hcall⟩ := hc _ _ _ _ _ h
      refine (hcall B w0 ρ args' w H h2 hfree).mono fun e w' he => ?_
      obtain ⟨v', ρ', rfl, q1, q2, q3⟩ := he
      exact hK v' ρ' w' q1 q2 q3

theorem want_ok {ops : Array Oper} {tmps : Array Value} (F : FRel ρ nt T tmps) {b : Bool} (h : want ops T o = some b) : Region.wanted o (yielded ops tmps) = b := by
  unfold want at h
  unfold Region.wanted
  split at h
  · rename_i hg
    rw [hg]; cases h; rfl
  · rename_i j c hg
    rw [hg]
    simp only
    unfold yielded
    split at h
    · rename_i hj
      cases h
      simp [hj]
    · rename_i g hj
      split at h
      · rename_i hd
        cases h
        simp [hj, hd]
      · rename_i d hd
        split at h
        · rename_i cc ht
          cases h
          obtain ⟨v', h1, h2⟩ := F.2 _ _ ht
          rw [bool_inv h2] at h1
          simp only [hj, hd, Option.bind_some, h1]
          cases cc <;> cases c <;> rfl
        · rename_i vs ht
          cases h
          obtain ⟨v', h1, h2⟩ := F.2 _ _ ht
          obtain ⟨a', e, -⟩ := tuple_inv h2
          rw [e] at h1
          simp only [hj, hd, Option.bind_some, h1]
          rfl
        · cases h

theorem undef_rel : VRel ρ (.tuple #[]) undef := .tuple rfl (fun i v v' hv => by simp at hv)

/-- Operations in the text's order. -/
theorem aSeq_ok (G : Good P) (hc : CallerOk P call) {ops : Array Oper} : ∀ (l : List Oper) (k : Nat), (∀ j, l[j]? = ops[k + j]?) → ∀ {T : ATmp} {s : ASt} {T' : ATmp} {s' : ASt}, aSeq P call nt ops l T s = some (T', s') →
    (s.next ≤ s'.next ∧ s'.gl = s.gl) ∧ ∀ {ρ : Ren} {w : World} {tmps : Array Value} {ds : List Deferred} {Q : Exit → Act → World → Prop}, HRel P B w0 ρ s w → FRel ρ nt T tmps → Free ρ s.next s'.next →
      (∀ ρ' tmps' w', HRel P B w0 ρ' s' w' → FRel ρ' nt T' tmps' → Ext ρ ρ' s.next s'.next → Q .normal ⟨tmps', ds⟩ w') → wpOps P ops Q (List.range' k l.length) ⟨tmps, ds⟩ w
  | [], k, _, T, s, T', s', h => by
    simp only [aSeq] at h
    cases h
    exact ⟨⟨Nat.le_refl _, rfl⟩, fun H F _ hQ => by simp only [List.length_nil, List.range'_zero, wpOps]; exact hQ _ _ _ H F (.refl _ _ _)⟩
  | o :: rest, k, hl, T, s, T', s', h => by
    have hk : ops[k]? = some o := by have := hl 0; simp at this; exact this.symm
    have hl' : ∀ j, rest[j]? = ops[k + 1 + j]? := fun j => by
      have := hl (j + 1)
      simp only [List.getElem?_cons_succ] at this
      rw [this, show k + (j + 1) = k + 1 + j from by omega]
    simp only [aSeq] at h
    split at h
    · cases h
    · -- it doesn't run
      rename_i hw
      split at h
      · cases h
      · rename_i T1 hT1
        obtain ⟨h1, h2⟩ := aSeq_ok G hc rest (k + 1) hl' h
        refine ⟨h1, fun {ρ w tmps ds Q} H F hf hQ => ?_⟩
        obtain ⟨tmps', e1, e2⟩ := F.put hT1 (undef_rel (ρ := ρ)) ds
        simp only [List.length_cons, List.range'_succ, wpOps, hk, want_ok F hw, Bool.false_eq_true, if_false]
        rw [e1]
        exact h2 H e2 hf hQ
    · rename_i hw
      split at h
      · cases h
      · rename_i v s1 hv
        split at h
        · cases h
        · rename_i T1 hT1
          obtain ⟨h1, h2⟩ := aSeq_ok G hc rest (k + 1) hl' h
          obtain ⟨m1, m2⟩ := fin_mono hc hv
          refine ⟨⟨by omega, by rw [h1.2, m2]⟩, fun {ρ w tmps ds Q} H F hf hQ => ?_⟩
          simp only [List.length_cons, List.range'_succ, wpOps, hk, want_ok F hw, if_true]
          refine .inl (op_wp G hc H F ds hv (fun id a b => hf id a (by omega)) fun v' ρ' w' q1 q2 q3 => ?_)
          obtain ⟨tmps', e1, e2⟩ := (F.mono q3.1).put hT1 q1 ds
          rw [e1]
          refine h2 q2 e2 (fun id a b => ?_) fun ρ'' tmps'' w'' r1 r2 r3 => hQ ρ'' tmps'' w'' r1 r2 ⟨q3.1.trans r3.1, fun id hid => ?_⟩
          · cases hx : ρ' id with
            | none => rfl
            | some e =>
              rcases q3.2 id (by rw [hx]; simp) with t | t
              · exact absurd (hf id (by omega) b) t
              · omega
          · rcases r3.2 id hid with t | t
            · rcases q3.2 id t with t | t
              · exact .inl t
              · right; omega
            · right; omega

end
end Go.Vf

import Derived.Test.YtneanogeebbjiaaDoorEngL
/- The machine of plain blocks: a region whose order is open comes to the same, whatever the order. -/
namespace Go.Vf
open Go.RowKit

def TLf (L : Nat → Bool) : List Ev → ATmp → ATmp
  | [], T => T
  | e :: r, T => TLf L r (bif L e.i then stepT T e else T)

theorem stepT_get (T : ATmp) (e : Ev) (t : Nat) : (stepT T e).get t = if e.o.dst = some t then some e.v else T.get t := by
  unfold stepT
  split
  · rename_i h; rw [h]; simp
  · rename_i d h
    rw [h, Tr.get_put]
    by_cases hd : t = d
    · subst hd; simp
    · rw [if_neg hd, if_neg (by simpa using Ne.symm hd)]

theorem TLf_A {L : Nat → Bool} {t : Nat} : ∀ (l : List Ev) (T T' : ATmp), T.get t = T'.get t → (∀ e ∈ l, e.o.dst = some t → L e.i = true) → (TLf L l T).get t = (l.foldl stepT T').get t
  | [], T, T', h, _ => h
  | e :: r, T, T', h, hl => by
    simp only [TLf, List.foldl_cons]
    refine TLf_A r _ _ ?_ fun x hx => hl x (List.mem_cons_of_mem _ hx)
    cases hL : L e.i with
    | true => simp only [cond_true, stepT_get, h]
    | false =>
      simp only [cond_false, stepT_get]
      rw [if_neg (fun hd => by rw [hl e (List.mem_cons_self ..) hd] at hL; cases hL)]
      exact h

theorem TLf_B {L : Nat → Bool} {t : Nat} : ∀ (l : List Ev) (T : ATmp), (∀ e ∈ l, e.o.dst = some t → L e.i = false) → (TLf L l T).get t = T.get t
  | [], T, _ => rfl
  | e :: r, T, hl => by
    simp only [TLf]
    rw [TLf_B r _ fun x hx => hl x (List.mem_cons_of_mem _ hx)]
    cases hL : L e.i with
    | true =>
      simp only [cond_true, stepT_get]
      rw [if_neg (fun hd => by rw [hl e (List.mem_cons_self ..) hd] at hL; cases hL)]
    | false => rfl

theorem TLf_C {L L' : Nat → Bool} {t : Nat} : ∀ (l : List Ev) (T T' : ATmp), (∀ e ∈ l, L e.i = L' e.i) → T.get t = T'.get t → (TLf L l T).get t = (TLf L' l T').get t
  | [], T, T', _, h => h
  | e :: r, T, T', hl, h => by
    simp only [TLf]
    refine TLf_C r _ _ (fun x hx => hl x (List.mem_cons_of_mem _ hx)) ?_
    rw [hl e (List.mem_cons_self ..)]
    cases L' e.i with
    | true => simp only [cond_true, stepT_get, h]
    | false => exact h

theorem TLf_append {L : Nat → Bool} : ∀ (a b : List Ev) (T : ATmp), TLf L (a ++ b) T = TLf L b (TLf L a T)
  | [], b, T => rfl
  | e :: r, b, T => by simp only [List.cons_append, TLf]; exact TLf_append r b _

theorem TLf_all {L : Nat → Bool} : ∀ (l : List Ev) (T : ATmp), (∀ e ∈ l, L e.i = true) → TLf L l T = l.foldl stepT T
  | [], T, _ => rfl
  | e :: r, T, h => by
    simp only [TLf, h e (List.mem_cons_self ..), cond_true, List.foldl_cons]
    exact TLf_all r _ fun x hx => h x (List.mem_cons_of_mem _ hx)

theorem chainOk_spec {M : Tr Nat} : ∀ {es : List Nat}, chainOk M es = true → ∀ (k : Nat) a b, es[k]? = some a → es[k + 1]? = some b → (maskAt M b).testBit a = true
  | [], h, k, a, b, h1, h2 => by simp at h1
  | [x], h, k, a, b, h1, h2 => by simp at h2
  | x :: y :: r, h, 0, a, b, h1, h2 => by
    simp only [chainOk, Bool.and_eq_true] at h
    simp at h1 h2
    subst h1; subst h2
    exact h.1
  | x :: y :: r, h, k + 1, a, b, h1, h2 => by
    simp only [chainOk, Bool.and_eq_true] at h
    exact chainOk_spec h.2 k a b (by simpa using h1) (by simpa using h2)

theorem dropN_eq : ∀ (k : Nat) (l : List Nat), dropN k l = l.drop k
  | 0, l => by cases l <;> rfl
  | k + 1, [] => rfl
  | k + 1, x :: l => by simp only [dropN, List.drop_succ_cons]; exact dropN_eq k l

theorem hiOf_spec {M : Tr Nat} {i : Nat} : ∀ (l : List Nat) (k : Nat), hiOf M i l k = k + l.length ∨ ∃ e, k ≤ hiOf M i l k ∧ l[hiOf M i l k - k]? = some e ∧ (maskAt M e).testBit i = true
  | [], k => by simp [hiOf]
  | e :: r, k => by
    simp only [hiOf]
    cases h : (maskAt M e).testBit i with
    | true => right; exact ⟨e, by simp, by simp, h⟩
    | false =>
      simp only [cond_false]
      rcases hiOf_spec r (k + 1) with q | ⟨x, q1, q2, q3⟩
      · left; rw [q]; simp; omega
      · right
        refine ⟨x, by omega, ?_, q3⟩
        rw [show hiOf M i r (k + 1) - k = (hiOf M i r (k + 1) - (k + 1)) + 1 from by omega, List.getElem?_cons_succ]
        exact q2

section
variable {P : Program} {call : Caller} {nt : Nat} {ops : Array Oper}

structure PlanOk (ops : Array Oper) (M : Tr Nat) (es row : List Nat) (sn : Nat) : Prop where
  hM : M = masks ops.toList 0 .nil
  hae : allEdges ops.toList 0 = true
  hnm : namesOk M (writersT ops.toList 0 .nil) ops ops.toList 0 = true
  hch : chainOk M es = true
  hro : rowOk M es ops row 0 0 = some (sn, es.length)
  hsn : sn + 1 = 1 <<< ops.size

theorem plan_ok {pl : Plan} (h : plan ops = some pl) : ∃ sn, PlanOk ops pl.M pl.es pl.row sn := by
  unfold plan at h
  simp only at h
  cases hc : (chainOk (masks ops.toList 0 .nil) (effs ops.toList 0) && allEdges ops.toList 0 && namesOk (masks ops.toList 0 .nil) (writersT ops.toList 0 .nil) ops ops.toList 0) with
  | false => simp only [hc, cond_false] at h; cases h
  | true =>
    simp only [hc, cond_true] at h
    simp only [Bool.and_eq_true] at hc
    split at h
    · rename_i sn k hr
      cases hb : (Nat.beq (sn + 1) (1 <<< ops.toList.length) && Nat.beq k (effs ops.toList 0).length) with
      | false => simp only [hb, cond_false] at h; cases h
      | true =>
        simp only [hb, cond_true] at h
        simp only [Bool.and_eq_true, Nat.beq_eq] at hb
        cases h
        exact ⟨sn, rfl, hc.1.2, hc.2, hc.1.1, by rw [hr, hb.2], hb.1⟩
    · cases h

variable {M : Tr Nat} {es row : List Nat} {sn : Nat}

theorem PlanOk.all (h : PlanOk ops M es row sn) {i : Nat} (hi : i < ops.size) : i ∈ row := by
  have hb : sn.testBit i = true := by
    have : sn = 2 ^ ops.size - 1 := by
      have := h.hsn
      rw [Nat.one_shiftLeft] at this
      omega
    rw [this, Nat.testBit_two_pow_sub_one]
    simpa using hi
  rcases (rowOk_spec h.hro).1 i hb with q | q
  · simp at q
  · exact q

theorem PlanOk.mask (h : PlanOk ops M es row sn) {L : Nat → Prop} (cl : ∀ i o, L i → ops[i]? = some o → ∀ e ∈ o.after.toList, Region.binds .any e = true → L e.on) :
    ∀ (i : Nat) o, ops[i]? = some o → (∀ e ∈ o.after.toList, Region.binds .any e = true → L e.on) → ∀ j, (maskAt M i).testBit j = true → L j := by
  intro i
  induction i using Nat.strongRecOn with
  | _ i ih =>
    intro o ho hL j hj
    rw [h.hM] at hj
    have := masks_spec ops.toList 0 .nil h.hae i o (by simpa using ho) j (by simpa using hj)
    obtain ⟨e, h1, h2, h3, h4⟩ := this
    have hon := hL e h1 h2
    rcases h4 with rfl | h4
    · exact hon
    · have hlt : e.on < ops.size := by
        have : i < ops.size := by
          rcases Nat.lt_or_ge i ops.size with q | q
          · exact q
          · rw [Array.getElem?_eq_none q] at ho; cases ho
        omega
      refine ih e.on (by omega) ops[e.on] (Array.getElem?_eq_getElem hlt) (cl e.on _ hon (Array.getElem?_eq_getElem hlt)) j ?_
      rw [h.hM]; exact h4

theorem PlanOk.names (h : PlanOk ops M es row sn) {j i : Nat} {o o' : Oper} {t : Nat} (hj : ops[j]? = some o) (ht : t ∈ namesOf ops o) (hi : ops[i]? = some o') (hd : o'.dst = some t) :
    i = j ∨ (maskAt M j).testBit i = true ∨ (maskAt M i).testBit j = true := by
  have h1 := namesOk_spec h.hnm j o (by simpa using hj)
  have h2 := nameOk_spec h1 t ht
  have h3 := writersT_spec ops.toList 0 .nil i o' t (by simpa using hi) hd
  have := ordered_spec h2 _ h3
  simpa using this

def Lb (listed : Array Bool) (i : Nat) : Bool := listed.getD i false

structure Inv (P : Program) (B : Nat) (w0 : World) (nt : Nat) (ops : Array Oper) (es : List Nat) (T0 : ATmp) (ρ0 : Ren) (evs : List Ev) (σ : Nat → ASt) (listed : Array Bool) (ρ : Ren) (tmps : Array Value) (w : World) (kL : Nat) : Prop where
  sz : listed.size = ops.size
  cl : ∀ i o, Lb listed i = true → ops[i]? = some o → ∀ e ∈ o.after.toList, Region.binds .any e = true → Lb listed e.on = true
  kle : kL ≤ es.length
  ef : ∀ (j : Nat) e, es[j]? = some e → (Lb listed e = true ↔ j < kL)
  H : HRel P B w0 ρ (σ kL) w
  F : FRel ρ nt (TLf (Lb listed) evs T0) tmps
  le : ρ0.Le ρ
  dom : ∀ id, ρ id ≠ none → ρ0 id ≠ none ∨ ∃ e ∈ evs, Lb listed e.i = true ∧ e.nb ≤ id ∧ id < e.ne

theorem Lb_set {listed : Array Bool} {i : Nat} (hi : i < listed.size) (j : Nat) : Lb (listed.setIfInBounds i true) j = if j = i then true else Lb listed j := by
  unfold Lb
  simp only [Array.getD_eq_getD_getElem?]
  by_cases h : j = i
  · subst h; rw [Array.getElem?_setIfInBounds_self_of_lt hi]; simp
  · rw [Array.getElem?_setIfInBounds_ne (Ne.symm h), if_neg h]

/-- Stages and numbers. -/
theorem Tra.chain {rs : List Rec} {T : ATmp} {s : ASt} {Tf : ATmp} {sf : ASt} {kn : Nat} {evs : List Ev} {σ : Nat → ASt} {st : Nat → Nat}
    (h : Tra P nt ops M es row 0 rs T s Tf sf kn evs σ st) : ∀ a b, a ≤ b → b ≤ kn → st a ≤ st b ∧ (σ a).next ≤ (σ b).next ∧ (a < b → (σ a).next ≤ st b) := by
  intro a b hab
  induction b with
  | zero =>
    intro _
    have : a = 0 := by omega
    subst this
    exact ⟨Nat.le_refl _, Nat.le_refl _, fun h => by omega⟩
  | succ b ih =>
    intro hb
    by_cases e : a = b + 1
    · subst e; exact ⟨Nat.le_refl _, Nat.le_refl _, fun h => by omega⟩
    · obtain ⟨h1, h2, h3⟩ := ih (by omega) (by omega)
      have q1 := h.stn b (Nat.zero_le _) (by omega)
      have q2 := h.sts b (Nat.zero_le _) (by omega)
      have q3 := h.stn (b + 1) (Nat.zero_le _) hb
      exact ⟨by omega, by omega, fun _ => by omega⟩

theorem inv_step (G : Good P) (hp : PlanOk ops M es row sn) {B : Nat} {w0 : World} {ρ0 : Ren} {T0 : ATmp} {s0 : ASt} {Tf : ATmp} {sf : ASt} {evs : List Ev} {σ : Nat → ASt} {st : Nat → Nat}
    (ht : Tra P nt ops M es row 0 [] T0 s0 Tf sf es.length evs σ st) (hf0 : Free ρ0 s0.next sf.next) {listed : Array Bool} {ρ : Ren} {tmps : Array Value} {w : World} {kL : Nat}
    (I : Inv P B w0 nt ops es T0 ρ0 evs σ listed ρ tmps w kL) {i : Nat} (hi : i ∈ Region.ready .any ops listed) {K : Act → World → Prop} {Q : Exit → Act → World → Prop} {ds : List Deferred}
    (hK : ∀ ρ' tmps' w' kL', Inv P B w0 nt ops es T0 ρ0 evs σ (listed.setIfInBounds i true) ρ' tmps' w' kL' → K ⟨tmps', ds⟩ w') : wpOp P ops Q i K ⟨tmps, ds⟩ w := by
  obtain ⟨hiL, o, ho, hedges⟩ := mem_ready.1 hi
  have hin : i < ops.size := by
    rcases Nat.lt_or_ge i ops.size with q | q
    · exact q
    · rw [Array.getElem?_eq_none q] at ho; cases ho
  have hiL' : Lb listed i = false := by
    unfold Lb
    simp only [Array.getD_eq_getD_getElem?] at hiL ⊢
    rw [Array.getElem?_eq_getElem (by rw [I.sz]; exact hin)] at hiL ⊢
    simpa using hiL
  have hedges' : ∀ e ∈ o.after.toList, Region.binds .any e = true → Lb listed e.on = true := fun e he hb => hedges e (by simpa using he) hb
  -- its place in the row
  obtain ⟨-, hnd, -, hpos⟩ := rowOk_spec hp.hro
  have hmem : i ∈ evs.map Ev.i := by rw [ht.idx]; exact hp.all hin
  obtain ⟨e, he, hei⟩ := List.mem_map.1 hmem
  obtain ⟨pre, post, hsplit⟩ := List.append_of_mem he
  have hrow : row = pre.map Ev.i ++ i :: post.map Ev.i := by rw [← ht.idx, hsplit]; simp [hei]
  obtain ⟨hopi, hwant, hdlt, hnbne⟩ := ht.op e he
  rw [hei, ho] at hopi
  cases hopi
  have hmaskpre : ∀ j, (maskAt M i).testBit j = true → j ∈ pre.map Ev.i := by
    intro j hj
    rcases hpos _ _ _ hrow j hj with q | q
    · simp at q
    · exact q
  have hnd' : (pre.map Ev.i ++ i :: post.map Ev.i).Nodup := hrow ▸ hnd
  have hnpre : ∀ x ∈ pre, x.i ≠ i := by
    intro x hx hxi
    have := (List.nodup_append.1 hnd').2.2 x.i (List.mem_map.2 ⟨x, hx, rfl⟩) i (List.mem_cons_self ..)
    exact this hxi
  have hnpost : ∀ x ∈ post, x.i ≠ i := by
    intro x hx hxi
    have := (List.nodup_cons.1 (List.nodup_append.1 hnd').2.1).1
    exact this (hxi ▸ List.mem_map.2 ⟨x, hx, rfl⟩)
  have hprepost : ∀ x ∈ pre, ∀ y ∈ post, x.i ≠ y.i := by
    intro x hx y hy hxy
    exact (List.nodup_append.1 hnd').2.2 x.i (List.mem_map.2 ⟨x, hx, rfl⟩) y.i (List.mem_cons_of_mem _ (List.mem_map.2 ⟨y, hy, rfl⟩)) hxy
  have hclos := hp.mask (L := fun j => Lb listed j = true) I.cl
  have hmaskL : ∀ j, (maskAt M i).testBit j = true → Lb listed j = true := hclos i e.o ho hedges'
  have hmaskNot : ∀ j oj, ops[j]? = some oj → Lb listed j = true → (maskAt M j).testBit i = false := by
    intro j oj hoj hj
    cases hb : (maskAt M j).testBit i with
    | false => rfl
    | true =>
      have := hclos j oj hoj (I.cl j oj hj hoj) i hb
      rw [hiL'] at this; cases this
  have hpreMask : ∀ x ∈ pre, (maskAt M x.i).testBit i = false := by
    intro x hx
    cases hb : (maskAt M x.i).testBit i with
    | false => rfl
    | true =>
      obtain ⟨p1, p2, hsp⟩ := List.append_of_mem hx
      have hrow2 : row = p1.map Ev.i ++ x.i :: (p2.map Ev.i ++ i :: post.map Ev.i) := by rw [hrow, hsp]; simp
      rcases hpos _ _ _ hrow2 i hb with q | q
      · simp at q
      · obtain ⟨y, hy, hyi⟩ := List.mem_map.1 q
        exact absurd hyi (hnpre y (by rw [hsp]; simp [hy]))
  -- the slots that it looks at
  have hopOf : ∀ x ∈ evs, ops[x.i]? = some x.o := fun x hx => (ht.op x hx).1
  have hpreEv : ∀ x ∈ pre, x ∈ evs := fun x hx => by rw [hsplit]; simp [hx]
  have hpostEv : ∀ x ∈ post, x ∈ evs := fun x hx => by rw [hsplit]; simp [hx]
  have hprew : ∀ t, t ∈ namesOf ops e.o → ∀ x ∈ pre, x.o.dst = some t → Lb listed x.i = true := by
    intro t htn x hx hd
    rcases hp.names ho htn (hopOf x (hpreEv x hx)) hd with q | q | q
    · exact absurd q (hnpre x hx)
    · exact hmaskL _ q
    · rw [hpreMask x hx] at q; cases q
  have hpostw : ∀ t, t ∈ namesOf ops e.o → ∀ x ∈ post, x.o.dst = some t → Lb listed x.i = false := by
    intro t htn x hx hd
    rcases hp.names ho htn (hopOf x (hpostEv x hx)) hd with q | q | q
    · exact absurd q (hnpost x hx)
    · obtain ⟨y, hy, hyi⟩ := List.mem_map.1 (hmaskpre _ q)
      exact absurd hyi (hprepost y hy x hx)
    · cases hb : Lb listed x.i with
      | false => rfl
      | true =>
        have := hmaskNot x.i x.o (hopOf x (hpostEv x hx)) hb
        rw [this] at q; cases q
  have heT := ht.tT pre e post hsplit
  have hTL : ∀ t, t ∈ namesOf ops e.o → (TLf (Lb listed) evs T0).get t = e.T.get t := by
    intro t htn
    rw [hsplit, TLf_append, TLf_B (e :: post), heT]
    · exact TLf_A pre T0 T0 rfl (hprew t htn)
    · intro x hx hd
      cases hx with
      | head => rw [hei]; exact hiL'
      | tail _ hx => exact hpostw t htn x hx hd
  have hops : ∀ t, Operand.tmp t ∈ e.o.op.operands.toList → (TLf (Lb listed) evs T0).get t = e.T.get t := fun t h => hTL t (by
    unfold namesOf; simp [mem_tmpsOf h])
  -- behind it
  have hset := Lb_set (listed := listed) (i := i) (by rw [I.sz]; exact hin)
  have hsz' : (listed.setIfInBounds i true).size = ops.size := by rw [Array.size_setIfInBounds]; exact I.sz
  have hcl' : ∀ j oj, Lb (listed.setIfInBounds i true) j = true → ops[j]? = some oj → ∀ x ∈ oj.after.toList, Region.binds .any x = true → Lb (listed.setIfInBounds i true) x.on = true := by
    intro j oj hj hoj x hx hb
    rw [hset] at hj ⊢
    by_cases hxi : x.on = i
    · rw [if_pos hxi]
    · rw [if_neg hxi]
      by_cases hji : j = i
      · subst hji; rw [ho] at hoj; cases hoj; exact hedges' x hx hb
      · rw [if_neg hji] at hj; exact I.cl j oj hj hoj x hx hb
  have hF' : ∀ {ρ' : Ren} {v' : Value}, ρ.Le ρ' → VRel ρ' e.v v' → ∃ tmps', (⟨tmps, ds⟩ : Act).put e.o.dst v' = ⟨tmps', ds⟩ ∧ FRel ρ' nt (TLf (Lb (listed.setIfInBounds i true)) evs T0) tmps' := by
    intro ρ' v' hle hv
    have hput : ∃ T1, putT nt (TLf (Lb listed) evs T0) e.o.dst e.v = some T1 ∧ T1 = stepT (TLf (Lb listed) evs T0) e := by
      unfold putT stepT
      cases hd : e.o.dst with
      | none => exact ⟨_, rfl, rfl⟩
      | some d =>
        have hb : Nat.blt d nt = true := by rw [Nat.blt_eq]; exact hdlt d hd
        simp only [hb, cond_true]
        exact ⟨_, rfl, rfl⟩
    obtain ⟨T1, hT1, hT1'⟩ := hput
    obtain ⟨tmps', p1, p2⟩ := (I.F.mono hle).put hT1 hv ds
    refine ⟨tmps', p1, p2.1, fun t u hu => p2.2 t u ?_⟩
    rw [← hu, hT1', stepT_get]
    have hLpre : ∀ x ∈ pre, Lb (listed.setIfInBounds i true) x.i = Lb listed x.i := fun x hx => by rw [hset, if_neg (hnpre x hx)]
    have hLpost : ∀ x ∈ post, Lb (listed.setIfInBounds i true) x.i = Lb listed x.i := fun x hx => by rw [hset, if_neg (hnpost x hx)]
    have hLi : Lb (listed.setIfInBounds i true) e.i = true := by rw [hset, if_pos hei]
    have hLi' : Lb listed e.i = false := by rw [hei]; exact hiL'
    rw [hsplit, TLf_append, TLf_append]
    simp only [TLf, hLi, hLi', cond_true, cond_false]
    by_cases hd : e.o.dst = some t
    · rw [if_pos hd]
      have htn : t ∈ namesOf ops e.o := by unfold namesOf; simp [hd]
      rw [TLf_B post _ (fun x hx hdx => by rw [hLpost x hx]; exact hpostw t htn x hx hdx), stepT_get, if_pos hd]
    · rw [if_neg hd]
      refine TLf_C post _ _ (fun x hx => (hLpost x hx).symm) ?_
      rw [stepT_get, if_neg hd]
      exact TLf_C pre _ _ (fun x hx => (hLpre x hx).symm) rfl
  have hdom' : ∀ {ρ' : Ren}, (∀ id, ρ' id ≠ none → ρ id ≠ none ∨ (e.nb ≤ id ∧ id < e.ne)) → ∀ id, ρ' id ≠ none → ρ0 id ≠ none ∨ ∃ x ∈ evs, Lb (listed.setIfInBounds i true) x.i = true ∧ x.nb ≤ id ∧ id < x.ne := by
    intro ρ' h id hid
    rcases h id hid with q | q
    · rcases I.dom id q with q | ⟨x, hx, q1, q2⟩
      · exact .inl q
      · right; exact ⟨x, hx, by rw [hset]; split; rfl; exact q1, q2⟩
    · right; exact ⟨e, he, by rw [hset, if_pos hei], q⟩
  -- where its numbers lie
  have hfreeE : Free ρ e.nb e.ne := by
    intro id h1 h2
    cases hx : ρ id with
    | none => rfl
    | some ent =>
      exfalso
      have hin0 : s0.next ≤ id ∧ id < sf.next := by
        have c0 := ht.st0
        by_cases h3 : cls e.o.op = 3
        · obtain ⟨g1, g2, g3, g4, g5, -⟩ := ht.lo e he h3
          have := ht.chain 0 e.k (Nat.zero_le _) (by omega)
          have t2 := ht.chain (e.k + 1) es.length (by omega) (Nat.le_refl _)
          have t3 := ht.stn es.length (Nat.zero_le _) (Nat.le_refl _)
          have t4 := (ht.stn 0 (Nat.zero_le _) (Nat.zero_le _)).1
          rw [ht.last] at t3
          omega
        · obtain ⟨g1, g2, g3, g4, g5, -⟩ := ht.qu e he h3
          have := ht.chain 0 e.k (Nat.zero_le _) g3
          have t2 := ht.chain e.k es.length g3 (Nat.le_refl _)
          rw [ht.last] at t2
          omega
      rcases I.dom id (by rw [hx]; simp) with q | ⟨x, hxe, q1, q2, q3⟩
      · exact q (hf0 id hin0.1 hin0.2)
      · -- two places' numbers do not meet
        have hxne : x.i ≠ i := fun h => by rw [h, hiL'] at q1; cases q1
        have hxsplit := hxe
        rw [hsplit] at hxsplit
        have hsep := ht.sep
        rw [hsplit] at hsep
        have hsep := List.pairwise_append.1 hsep
        rcases List.mem_append.1 hxsplit with hxp | hxp
        · have := hsep.2.2 x hxp e (List.mem_cons_self ..)
          omega
        · cases hxp with
          | head => exact hxne hei
          | tail _ hxp =>
            have := (List.pairwise_cons.1 hsep.2.1).1 x hxp
            omega
  -- the loud ones
  have hloudPos : ∀ j, es[j]? = some i → j = kL := by
    intro j hj
    have h1 : ¬ j < kL := fun h => by rw [(I.ef j i hj).2 h] at hiL'; cases hiL'
    have h2 : j ≤ kL := by
      cases j with
      | zero => omega
      | succ c =>
        have hcl : c < es.length := by
          rcases Nat.lt_or_ge c es.length with q | q
          · exact q
          · rw [List.getElem?_eq_none (by omega)] at hj; cases hj
        have hcb := chainOk_spec hp.hch c es[c] i (List.getElem?_eq_getElem hcl) hj
        have := (I.ef c es[c] (List.getElem?_eq_getElem hcl)).1 (hmaskL _ hcb)
        omega
    omega
  have hlow : ∀ c, prevOk M es i c = true → c ≤ kL := by
    intro c hpv
    cases c with
    | zero => omega
    | succ c =>
      simp only [prevOk] at hpv
      split at hpv
      · rename_i x hx
        have := (I.ef c x hx).1 (hmaskL _ hpv)
        omega
      · cases hpv
  have hcovOf : ∀ (j : Nat) x, es[j]? = some x → ∃ y ∈ evs, cls y.o.op = 3 ∧ y.i = x := by
    intro j x hx
    have hjl : j < es.length := by
      rcases Nat.lt_or_ge j es.length with q | q
      · exact q
      · rw [List.getElem?_eq_none q] at hx; cases hx
    obtain ⟨y, y1, y2, y3⟩ := ht.cov j (Nat.zero_le _) hjl
    obtain ⟨g1, -⟩ := ht.lo y y1 y2
    rw [y3, hx] at g1
    cases g1
    exact ⟨y, y1, y2, rfl⟩
  have hhigh : ∀ c, c ≤ kL → kL ≤ hiOf M i (dropN c es) c := by
    intro c hc
    rw [dropN_eq]
    rcases hiOf_spec (M := M) (i := i) (es.drop c) c with q | ⟨x, q1, q2, q3⟩
    · rw [q, List.length_drop]
      have := I.kle
      omega
    · rcases Nat.lt_or_ge (hiOf M i (es.drop c) c) kL with t | t
      · exfalso
        rw [List.getElem?_drop, show c + (hiOf M i (es.drop c) c - c) = hiOf M i (es.drop c) c from by omega] at q2
        have hxL := (I.ef _ x q2).2 t
        obtain ⟨y, y1, y2, y3⟩ := hcovOf _ x q2
        have := hmaskNot x y.o (y3 ▸ hopOf y y1) hxL
        rw [this] at q3; cases q3
      · exact t
  -- a stage further
  have hadv : ∀ (s' : ASt) (ρ' : Ren) (w' : World), cls e.o.op = 3 → s'.next = e.ne → (∀ id, id < s'.next ∨ (σ (e.k + 1)).next ≤ id → (σ (e.k + 1)).heap.get id = s'.heap.get id) → s'.gl = (σ (e.k + 1)).gl → HRel P B w0 ρ' s' w' → Ext ρ ρ' e.nb e.ne → HRel P B w0 ρ' (σ (e.k + 1)) w' := by
    intro s' ρ' w' h3 hnx hag hgl hH hx
    obtain ⟨g1, g2, g3, g4, g5, -⟩ := ht.lo e he h3
    refine hH.same hgl.symm fun id ent b hent hb => ?_
    by_cases hid : id < s'.next ∨ (σ (e.k + 1)).next ≤ id
    · rw [← hag id hid]; exact hb
    · exfalso
      have hid1 : e.ne ≤ id := by omega
      have hid2 : id < (σ (e.k + 1)).next := by omega
      rcases hx.2 id (by rw [hent]; simp) with q | q
      · rcases I.dom id q with q | ⟨x, hxe, q1, q2, q3⟩
        · have c0 := ht.chain 0 (e.k + 1) (Nat.zero_le _) (by omega)
          have c1 := ht.chain (e.k + 1) es.length (by omega) (Nat.le_refl _)
          rw [ht.last] at c1
          rw [ht.st0] at c0
          exact q (hf0 id (by omega) (by omega))
        · have hxne : x.i ≠ i := fun h => by rw [h, hiL'] at q1; cases q1
          by_cases hx3 : cls x.o.op = 3
          · obtain ⟨z1, z2, z3, z4, z5, -⟩ := ht.lo x hxe hx3
            by_cases hk : x.k ≤ e.k
            · have := ht.chain (x.k + 1) (e.k + 1) (by omega) (by omega)
              omega
            · have := ht.chain (e.k + 1) x.k (by omega) (by omega)
              omega
          · obtain ⟨z1, z2, z3, z4, z5, -⟩ := ht.qu x hxe hx3
            by_cases hk : x.k ≤ e.k
            · have := ht.chain x.k e.k hk (by omega)
              have := ht.sts e.k (Nat.zero_le _) g3
              omega
            · by_cases hk2 : e.k + 1 < x.k
              · have := (ht.chain (e.k + 1) x.k (by omega) (by omega)).2.2 hk2
                omega
              · have hxk : x.k = e.k + 1 := by omega
                rw [hxk] at z1
                simp only [prevOk, g1] at z1
                rw [hei] at z1
                have := hmaskNot x.i x.o (hopOf x hxe) q1
                rw [this] at z1; cases z1
      · omega
  have hefLoud : cls e.o.op = 3 → e.k = kL ∧ kL + 1 ≤ es.length ∧ ∀ (j : Nat) x, es[j]? = some x → (Lb (listed.setIfInBounds i true) x = true ↔ j < kL + 1) := by
    intro h3
    obtain ⟨g1, g2, g3, -⟩ := ht.lo e he h3
    rw [hei] at g1
    have hk := hloudPos _ g1
    refine ⟨hk, by omega, fun j x hx => ?_⟩
    rw [hset]
    by_cases hxi : x = i
    · rw [if_pos hxi]
      have := hloudPos j (hxi ▸ hx)
      constructor
      · intro _; omega
      · intro _; rfl
    · rw [if_neg hxi, I.ef j x hx]
      have : j ≠ kL := fun h => by
        rw [h, ← hk, g1] at hx
        cases hx; exact hxi rfl
      omega
  have hefQuiet : cls e.o.op ≠ 3 → ∀ (j : Nat) x, es[j]? = some x → (Lb (listed.setIfInBounds i true) x = true ↔ j < kL) := by
    intro h3 j x hx
    have hxi : x ≠ i := by
      intro h
      obtain ⟨y, y1, y2, y3⟩ := hcovOf j x hx
      have := hopOf y y1
      rw [y3, h, ho] at this
      have e2 := Option.some.inj this
      rw [e2] at h3
      exact h3 y2
    rw [hset, if_neg hxi]
    exact I.ef j x hx
  have hgls : ∀ j, j ≤ es.length → (σ j).gl = s0.gl := fun j hj => (ht.stn j (Nat.zero_le _) hj).2
  have hwanted : Region.wanted e.o (yielded ops tmps) = e.wt := by
    refine want_ok (ρ := ρ) (nt := nt) (T := TLf (Lb listed) evs T0) I.F ?_
    rw [want_congr hTL]; exact hwant
  unfold wpOp
  simp only [ho, hwanted]
  cases hwt : e.wt with
  | false =>
    simp only [Bool.false_eq_true, if_false]
    obtain ⟨u1, u2⟩ := ht.un e he hwt
    obtain ⟨tmps', p1, p2⟩ := hF' (.refl ρ) (u1 ▸ undef_rel (ρ := ρ))
    rw [p1]
    by_cases h3 : cls e.o.op = 3
    · obtain ⟨k1, k2, k3⟩ := hefLoud h3
      obtain ⟨g1, g2, g3, g4, g5, s', g6, g7, g8, g9⟩ := ht.lo e he h3
      have hs' := g9 hwt
      refine hK ρ tmps' w (kL + 1) ⟨hsz', hcl', k2, k3, ?_, p2, I.le, hdom' fun id h => .inl h⟩
      have := hadv s' ρ w h3 g6 g7 (by rw [hs', hgls _ (by omega), hgls _ (by omega)]) (by rw [hs', k1]; exact I.H) (.refl _ _ _)
      rw [k1] at this; exact this
    · exact hK ρ tmps' w kL ⟨hsz', hcl', I.kle, hefQuiet h3, I.H, p2, I.le, hdom' fun id h => .inl h⟩
  | true =>
    simp only [if_true]
    refine .inl ?_
    by_cases h3 : cls e.o.op = 3
    · obtain ⟨k1, k2, k3⟩ := hefLoud h3
      obtain ⟨g1, g2, g3, g4, g5, s', g6, g7, g8, g9⟩ := ht.lo e he h3
      obtain ⟨call, hc, hfin⟩ := g8 hwt
      rw [k1, ← aOp_congr hops] at hfin
      refine op_wp G hc I.H I.F ds hfin ?_ fun v' ρ' w' q1 q2 q3 => ?_
      · rw [← k1, ← g4, g6]; exact hfreeE
      · obtain ⟨tmps', p1, p2⟩ := hF' q3.1 q1
        rw [p1]
        have hx : Ext ρ ρ' e.nb e.ne := by rw [g4, ← g6, k1]; exact q3
        have hgl' := (fin_mono hc hfin).2
        refine hK ρ' tmps' w' (kL + 1) ⟨hsz', hcl', k2, k3, ?_, p2, I.le.trans q3.1, hdom' hx.2⟩
        have := hadv s' ρ' w' h3 g6 g7 (by rw [hgl', hgls _ (by omega), hgls _ (by omega)]) q2 hx
        rw [k1] at this; exact this
    · obtain ⟨z1, z2, z3, z4, z5, z6⟩ := ht.qu e he h3
      rw [hei] at z1 z6
      have hk1 := hlow _ z1
      have hk2 := hhigh _ hk1
      rcases z6 hwt with ⟨a1, a2⟩ | ⟨a1, b, vf, s1, a2, a3, a4, a5⟩
      · have hop := a2 kL hk1 I.kle hk2
        rw [← aOp_congr hops] at hop
        obtain ⟨v', r1, r2⟩ := aOp_post G I.H I.F ds hop
        obtain ⟨tmps', p1, p2⟩ := hF' (.refl ρ) r2
        unfold Oper.wp
        rw [r1]
        show K ((⟨tmps, ds⟩ : Act).put e.o.dst v') w
        rw [p1]
        exact hK ρ tmps' w kL ⟨hsz', hcl', I.kle, hefQuiet h3, I.H, p2, I.le, hdom' fun id h => .inl h⟩
      · have hop := aOp_new (s' := σ kL) (by rw [a3, hgls _ I.kle]) a4
        rw [← aOp_congr hops] at hop
        obtain ⟨r0, r1⟩ := aOp_post G I.H I.F ds hop
        have hnone := hfreeE e.nb (Nat.le_refl _) (by omega)
        obtain ⟨v', w', ent, r2, r3, r4⟩ := r1 e.nb (σ kL) hnone I.H (a5 kL hk1 I.kle hk2)
        rw [← a2] at r4
        obtain ⟨tmps', p1, p2⟩ := hF' (Ren.le_ext hnone) r4
        unfold Oper.wp
        rw [r2]
        show K ((⟨tmps, ds⟩ : Act).put e.o.dst v') w'
        rw [p1]
        refine hK _ tmps' w' kL ⟨hsz', hcl', I.kle, hefQuiet h3, r3, p2, I.le.trans (Ren.le_ext hnone), hdom' fun id h => ?_⟩
        by_cases hid : id = e.nb
        · right; omega
        · left; simpa [Ren.ext, hid] using h

/-- How many are not yet listed. -/
def missing (listed : Array Bool) : Nat := (List.range listed.size).countP fun i => !(Lb listed i)

theorem countP_set (p q : Nat → Bool) (i : Nat) (hp : p i = true) (hq : q i = false) (h : ∀ j, j ≠ i → q j = p j) : ∀ (l : List Nat), l.Nodup → i ∈ l → l.countP q + 1 = l.countP p
  | [], _, hi => by simp at hi
  | x :: r, hn, hi => by
    obtain ⟨h1, h2⟩ := List.nodup_cons.1 hn
    by_cases hx : x = i
    · subst hx
      have : r.countP q = r.countP p := List.countP_congr fun y hy => by rw [h y (fun e => h1 (e ▸ hy))]
      rw [List.countP_cons, List.countP_cons, hp, hq, this]; simp
    · have hr : i ∈ r := by cases hi with | head => exact absurd rfl hx | tail _ h => exact h
      have := countP_set p q i hp hq h r h2 hr
      rw [List.countP_cons, List.countP_cons, h x hx]
      omega

theorem missing_set {listed : Array Bool} {i : Nat} (hi : i < listed.size) (hL : Lb listed i = false) : missing (listed.setIfInBounds i true) + 1 = missing listed := by
  unfold missing
  rw [Array.size_setIfInBounds]
  refine countP_set _ _ i (by simp [hL]) (by simp [Lb_set hi]) (fun j hj => by simp [Lb_set hi, hj]) _ List.nodup_range (List.mem_range.2 hi)

theorem ready_of_missing (hp : PlanOk ops M es row sn) {listed : Array Bool} (hsz : listed.size = ops.size) : Region.ready .any ops listed = [] → ∀ i, i < ops.size → Lb listed i = true := by
  intro hr i
  induction i using Nat.strongRecOn with
  | _ i ih =>
    intro hi
    cases hL : Lb listed i with
    | true => rfl
    | false =>
      exfalso
      have : i ∈ Region.ready .any ops listed := by
        refine mem_ready.2 ⟨?_, ops[i], Array.getElem?_eq_getElem hi, fun e he hb => ?_⟩
        · unfold Lb at hL
          simp only [Array.getD_eq_getD_getElem?] at hL ⊢
          rw [Array.getElem?_eq_getElem (by omega)] at hL ⊢
          simpa using hL
        · have hlt : e.on < i := by
            have hall : ∀ (l : List Oper) (k : Nat), allEdges l k = true → ∀ (a : Nat) o, l[a]? = some o → edgesOk o.after.toList (k + a) = true := by
              intro l
              induction l with
              | nil => intro k h a o ho; simp at ho
              | cons x r ihl =>
                intro k h a o ho
                simp only [allEdges, Bool.and_eq_true] at h
                cases a with
                | zero => simp at ho; subst ho; exact h.1.1
                | succ a =>
                  have := ihl (k + 1) h.2 a o (by simpa using ho)
                  rwa [show k + (a + 1) = k + 1 + a from by omega]
            have h1 := hall ops.toList 0 hp.hae i ops[i] (by simp [hi])
            have := edgesOk_spec h1 e (by simpa using he) hb
            omega
          exact ih e.on hlt (by omega)
      rw [hr] at this
      simp at this

theorem tra_ok (G : Good P) {T T' : ATmp} {s s' : ASt} {pl : Plan} {sn : Nat} (hp : PlanOk ops pl.M pl.es pl.row sn) {evs : List Ev} {σ : Nat → ASt} {st : Nat → Nat}
    (ht : Tra P nt ops pl.M pl.es pl.row 0 [] T s T' s' pl.es.length evs σ st) :
    (s.next ≤ s'.next ∧ s'.gl = s.gl) ∧ ∀ {B : Nat} {w0 : World} {ρ : Ren} {w : World} {tmps : Array Value} {ds : List Deferred} {Q : Exit → Act → World → Prop}, HRel P B w0 ρ s w → FRel ρ nt T tmps → Free ρ s.next s'.next →
      (∀ ρ' tmps' w', HRel P B w0 ρ' s' w' → FRel ρ' nt T' tmps' → Ext ρ ρ' s.next s'.next → Q .normal ⟨tmps', ds⟩ w') → wpAny P .any ops Q ops.size (Array.replicate ops.size false) ⟨tmps, ds⟩ w := by
  have hch := ht.chain 0 pl.es.length (Nat.zero_le _) (Nat.le_refl _)
  have hst0 := (ht.stn 0 (Nat.zero_le _) (Nat.zero_le _)).1
  rw [ht.st0] at hst0
  rw [ht.last] at hch
  refine ⟨⟨by omega, by rw [← ht.last]; exact (ht.stn _ (Nat.zero_le _) (Nat.le_refl _)).2⟩, fun {B w0 ρ w tmps ds Q} H F hf hQ => ?_⟩
  have main : ∀ (fuel : Nat) (listed : Array Bool) (ρ' : Ren) (tmps' : Array Value) (w' : World) (kL : Nat), missing listed = fuel → Inv P B w0 nt ops pl.es T ρ evs σ listed ρ' tmps' w' kL → wpAny P .any ops Q fuel listed ⟨tmps', ds⟩ w' := by
    intro fuel
    induction fuel with
    | zero =>
      intro listed ρ' tmps' w' kL hm I
      have hall : ∀ i, i < ops.size → Lb listed i = true := by
        intro i hi
        unfold missing at hm
        rw [List.countP_eq_zero] at hm
        have := hm i (List.mem_range.2 (by rw [I.sz]; exact hi))
        simpa using this
      refine ⟨?_, ?_⟩
      · cases hr : Region.ready .any ops listed with
        | nil => rfl
        | cons x xs =>
          exfalso
          have hx : x ∈ Region.ready .any ops listed := by rw [hr]; exact List.mem_cons_self ..
          obtain ⟨q1, o, q2, -⟩ := mem_ready.1 hx
          have hxn : x < ops.size := by
            rcases Nat.lt_or_ge x ops.size with q | q
            · exact q
            · rw [Array.getElem?_eq_none q] at q2; cases q2
          have := hall x hxn
          unfold Lb at this
          simp only [Array.getD_eq_getD_getElem?] at this q1
          rw [Array.getElem?_eq_getElem (by rw [I.sz]; exact hxn)] at this q1
          simp at this q1
          rw [this] at q1; cases q1
      · have hallE : ∀ e ∈ evs, Lb listed e.i = true := fun e he => hall e.i (by
          have := (ht.op e he).1
          rcases Nat.lt_or_ge e.i ops.size with q | q
          · exact q
          · rw [Array.getElem?_eq_none q] at this; cases this)
        have hk : kL = pl.es.length := by
          have hle := I.kle
          rcases Nat.lt_or_ge kL pl.es.length with q | q
          · exfalso
            obtain ⟨y, y1, y2, y3⟩ := ht.cov kL (Nat.zero_le _) q
            obtain ⟨g1, -⟩ := ht.lo y y1 y2
            rw [y3] at g1
            have := (I.ef kL y.i g1).1 (hallE y y1)
            omega
          · omega
        subst hk
        refine hQ ρ' tmps' w' (ht.last ▸ I.H) ?_ ⟨I.le, fun id hid => ?_⟩
        · have := I.F
          rw [TLf_all evs T hallE, ← ht.tF] at this
          exact this
        · rcases I.dom id hid with q | ⟨e, he, q1, q2, q3⟩
          · exact .inl q
          · right
            have h1 := ht.fst e he
            refine ⟨by omega, ?_⟩
            by_cases h3 : cls e.o.op = 3
            · obtain ⟨g1, g2, g3, g4, g5, -⟩ := ht.lo e he h3
              have := ht.chain (e.k + 1) pl.es.length (by omega) (Nat.le_refl _)
              have t3 := ht.stn pl.es.length (Nat.zero_le _) (Nat.le_refl _)
              rw [ht.last] at t3
              omega
            · obtain ⟨g1, g2, g3, g4, g5, -⟩ := ht.qu e he h3
              have := ht.chain e.k pl.es.length g3 (Nat.le_refl _)
              rw [ht.last] at this
              omega
    | succ fuel ih =>
      intro listed ρ' tmps' w' kL hm I
      refine ⟨fun hr => ?_, fun i hi => ?_⟩
      · exfalso
        have hall := ready_of_missing hp I.sz hr
        have : missing listed = 0 := by
          unfold missing
          rw [List.countP_eq_zero]
          intro i hi
          rw [hall i (by rw [← I.sz]; exact List.mem_range.1 hi)]
          simp
        omega
      · refine inv_step G hp ht hf I hi fun ρ'' tmps'' w'' kL'' I' => ih _ ρ'' tmps'' w'' kL'' ?_ I'
        obtain ⟨q1, o, q2, -⟩ := mem_ready.1 hi
        have hin : i < listed.size := by
          rw [I.sz]
          rcases Nat.lt_or_ge i ops.size with q | q
          · exact q
          · rw [Array.getElem?_eq_none q] at q2; cases q2
        have hL : Lb listed i = false := by
          unfold Lb
          simp only [Array.getD_eq_getD_getElem?] at q1 ⊢
          rw [Array.getElem?_eq_getElem hin] at q1 ⊢
          simpa using q1
        have := missing_set hin hL
        omega
  have hLb0 : ∀ i, Lb (Array.replicate ops.size false) i = false := by
    intro i
    unfold Lb
    simp only [Array.getD_eq_getD_getElem?, Array.getElem?_replicate]
    split <;> rfl
  refine main ops.size _ ρ tmps w 0 ?_ ⟨Array.size_replicate, fun i o h => (by rw [hLb0] at h; cases h), Nat.zero_le _, fun j e _ => (by rw [hLb0]; simp), ?_, ?_, .refl _, fun id h => .inl h⟩
  · unfold missing
    rw [Array.size_replicate]
    have : (List.range ops.size).countP (fun i => !Lb (Array.replicate ops.size false) i) = (List.range ops.size).length := by
      rw [List.countP_eq_length]
      intro i _
      simp [hLb0]
    rw [this, List.length_range]
  · refine H.same (ht.stn 0 (Nat.zero_le _) (Nat.zero_le _)).2 fun id ent b hent hb => ?_
    by_cases hid : id < s.next ∨ (σ 0).next ≤ id
    · rw [← ht.agr id hid]; exact hb
    · exfalso
      rw [hf id (by omega) (by omega)] at hent; cases hent
  · refine ⟨F.1, fun t v htv => F.2 t v ?_⟩
    have : TLf (Lb (Array.replicate ops.size false)) evs T = T := by
      have : ∀ (l : List Ev) (T : ATmp), TLf (Lb (Array.replicate ops.size false)) l T = T := by
        intro l
        induction l with
        | nil => intro T; rfl
        | cons x r ih => intro T; simp only [TLf, hLb0, cond_false]; exact ih T
      exact this evs T
    rw [this] at htv; exact htv


theorem aDraw_ok (G : Good P) (hc : CallerOk P call) {T T' : ATmp} {s s' : ASt} (h : aDraw P call nt ops T s = some (T', s')) :
    (s.next ≤ s'.next ∧ s'.gl = s.gl) ∧ ∀ {B : Nat} {w0 : World} {ρ : Ren} {w : World} {tmps : Array Value} {ds : List Deferred} {Q : Exit → Act → World → Prop}, HRel P B w0 ρ s w → FRel ρ nt T tmps → Free ρ s.next s'.next →
      (∀ ρ' tmps' w', HRel P B w0 ρ' s' w' → FRel ρ' nt T' tmps' → Ext ρ ρ' s.next s'.next → Q .normal ⟨tmps', ds⟩ w') → wpAny P .any ops Q ops.size (Array.replicate ops.size false) ⟨tmps, ds⟩ w := by
  unfold aDraw at h
  split at h
  · cases h
  · rename_i pl hpl
    obtain ⟨sn, hp⟩ := plan_ok hpl
    obtain ⟨evs, σ, st, ht⟩ := aRow_tra hc rfl rfl pl.row 0 [] T s T' s' 0 sn pl.es.length h hp.hro
    exact tra_ok G hp ht

/-- A region whose order is open, its calls answered by whatever holds of them. -/
theorem rDraw_ok (G : Good P) {T : ATmp} {s : ASt} {pl : Plan} (hpl : plan ops = some pl) {Q0 : ATmp → ASt → Prop} (h : rRow P nt ops pl pl.row 0 [] T s Q0) :
    ∃ T' s', Q0 T' s' ∧ (s.next ≤ s'.next ∧ s'.gl = s.gl) ∧ ∀ {B : Nat} {w0 : World} {ρ : Ren} {w : World} {tmps : Array Value} {ds : List Deferred} {Q : Exit → Act → World → Prop}, HRel P B w0 ρ s w → FRel ρ nt T tmps → Free ρ s.next s'.next →
      (∀ ρ' tmps' w', HRel P B w0 ρ' s' w' → FRel ρ' nt T' tmps' → Ext ρ ρ' s.next s'.next → Q .normal ⟨tmps', ds⟩ w') → wpAny P .any ops Q ops.size (Array.replicate ops.size false) ⟨tmps, ds⟩ w := by
  obtain ⟨sn, hp⟩ := plan_ok hpl
  obtain ⟨Tf, sf, evs, σ, st, ht, hq⟩ := rRow_tra (nt := nt) rfl rfl pl.row 0 [] T s 0 sn pl.es.length h hp.hro
  exact ⟨Tf, sf, hq, tra_ok G hp ht⟩

end
end Go.Vf

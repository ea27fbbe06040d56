import Derived.Test.YtneanogeebbjiaaDoorEngK
/- The machine of plain blocks: what a run along a row has done, place by place. -/
namespace Go.Vf
open Go.RowKit

structure Ev where
  i : Nat
  o : Oper
  wt : Bool
  T : ATmp
  v : Value
  k : Nat
  nb : Nat
  ne : Nat

def stepT (T : ATmp) (e : Ev) : ATmp :=
  match e.o.dst with
  | none => T
  | some d => T.put d e.v

/-- It tells the same at this state. -/
def Again (P : Program) (s : ASt) (r : Rec) : Prop :=
  match r.nb with
  | none => aOp P r.T s r.o = some (.val r.v)
  | some (id, b) => s.heap.get id = some b

theorem again_spec {P : Program} {s : ASt} {r : Rec} (h : again P s r = true) : Again P s r := by
  obtain ⟨o, T, v, nb, lo, hi⟩ := r
  cases nb with
  | none =>
    simp only [again] at h
    show aOp P T s o = some (.val v)
    split at h
    · rename_i u hu
      rw [hu, veq_eq h]
    · cases h
  | some x =>
    obtain ⟨id, b⟩ := x
    simp only [again] at h
    show s.heap.get id = some b
    split at h
    · rename_i b' hb
      rw [hb, beqBlk_eq h]
    · cases h

structure Tra (P : Program) (nt : Nat) (ops : Array Oper) (M : Tr Nat) (es row : List Nat) (k : Nat) (rs : List Rec) (T : ATmp) (s : ASt) (Tf : ATmp) (sf : ASt) (kn : Nat)
    (evs : List Ev) (σ : Nat → ASt) (st : Nat → Nat) : Prop where
  idx : evs.map Ev.i = row
  tT : ∀ pre e post, evs = pre ++ e :: post → e.T = pre.foldl stepT T
  tF : Tf = evs.foldl stepT T
  op : ∀ e ∈ evs, ops[e.i]? = some e.o ∧ want ops e.T e.o = some e.wt ∧ (∀ d, e.o.dst = some d → d < nt) ∧ e.nb ≤ e.ne
  un : ∀ e ∈ evs, e.wt = false → e.v = .tuple #[] ∧ e.ne = e.nb
  qu : ∀ e ∈ evs, cls e.o.op ≠ 3 → prevOk M es e.i e.k = true ∧ k ≤ e.k ∧ e.k ≤ kn ∧ st e.k ≤ e.nb ∧ e.ne ≤ (σ e.k).next ∧ (e.wt = true →
    ((e.ne = e.nb ∧ ∀ j, e.k ≤ j → j ≤ kn → j ≤ hiOf M e.i (dropN e.k es) e.k → aOp P e.T (σ j) e.o.op = some (.val e.v)) ∨
     (e.ne = e.nb + 1 ∧ ∃ b vf s1, e.v = vf e.nb ∧ s1.gl = s.gl ∧ aOp P e.T s1 e.o.op = some (.new b vf) ∧ ∀ j, e.k ≤ j → j ≤ kn → j ≤ hiOf M e.i (dropN e.k es) e.k → (σ j).heap.get e.nb = some b)))
  lo : ∀ e ∈ evs, cls e.o.op = 3 → es[e.k]? = some e.i ∧ k ≤ e.k ∧ e.k < kn ∧ e.nb = (σ e.k).next ∧ e.ne = st (e.k + 1) ∧ ∃ s' : ASt, s'.next = e.ne ∧
    (∀ id, id < s'.next ∨ (σ (e.k + 1)).next ≤ id → (σ (e.k + 1)).heap.get id = s'.heap.get id) ∧
    (e.wt = true → FinOk P (σ e.k) (aOp P e.T (σ e.k) e.o.op) e.v s') ∧ (e.wt = false → s' = σ e.k)
  st0 : st k = s.next
  stn : ∀ j, k ≤ j → j ≤ kn → st j ≤ (σ j).next ∧ (σ j).gl = s.gl
  sts : ∀ j, k ≤ j → j < kn → (σ j).next ≤ st (j + 1)
  agr : ∀ id, id < s.next ∨ (σ k).next ≤ id → (σ k).heap.get id = s.heap.get id
  rcs : ∀ r ∈ rs, ∀ j, k ≤ j → j ≤ kn → r.lo ≤ j → j ≤ r.hi → Again P (σ j) r
  last : σ kn = sf
  kk : k ≤ kn
  fst : ∀ e ∈ evs, s.next ≤ e.nb
  sep : evs.Pairwise fun a b => a.ne ≤ b.nb
  cov : ∀ j, k ≤ j → j < kn → ∃ e ∈ evs, cls e.o.op = 3 ∧ e.k = j

theorem putT_step {nt : Nat} {T T' : ATmp} {e : Ev} (h : putT nt T e.o.dst e.v = some T') : T' = stepT T e ∧ ∀ d, e.o.dst = some d → d < nt := by
  unfold putT at h
  unfold stepT
  split at h
  · rename_i hd
    cases h
    rw [hd]
    exact ⟨rfl, fun d e => by cases e⟩
  · rename_i d hd
    cases hb : Nat.blt d nt with
    | false => simp [hb] at h
    | true =>
      simp [hb] at h
      rw [hd]
      rw [Nat.blt_eq] at hb
      exact ⟨h.symm, fun d' e => by cases e; exact hb⟩

section
variable {P : Program} {call : Caller} {nt : Nat} {ops : Array Oper} {M : Tr Nat} {es : List Nat}

/-- A quiet place in front. -/
theorem Tra.quiet {row : List Nat} {k : Nat} {rs rs' : List Rec} {T T' : ATmp} {s s' : ASt} {Tf : ATmp} {sf : ASt} {kn : Nat} {evs : List Ev} {σ : Nat → ASt} {st : Nat → Nat} {e : Ev}
    (h : Tra P nt ops M es row k rs' T' s' Tf sf kn evs σ st) (hrs : ∀ r ∈ rs, r ∈ rs') (hT : T' = stepT T e) (heT : e.T = T) (hek : e.k = k) (hnb : e.nb = s.next) (hne : e.ne = s'.next) (hle : s.next ≤ s'.next) (hgl : s'.gl = s.gl)
    (hop : ops[e.i]? = some e.o ∧ want ops e.T e.o = some e.wt ∧ (∀ d, e.o.dst = some d → d < nt)) (hun : e.wt = false → e.v = .tuple #[] ∧ e.ne = e.nb) (hc : cls e.o.op ≠ 3) (hprev : prevOk M es e.i k = true)
    (hget : ∀ id, id < s.next ∨ s'.next ≤ id → s'.heap.get id = s.heap.get id)
    (hq : e.wt = true → ((e.ne = e.nb ∧ ∀ j, e.k ≤ j → j ≤ kn → j ≤ hiOf M e.i (dropN e.k es) e.k → aOp P e.T (σ j) e.o.op = some (.val e.v)) ∨
      (e.ne = e.nb + 1 ∧ ∃ b vf s1, e.v = vf e.nb ∧ s1.gl = s.gl ∧ aOp P e.T s1 e.o.op = some (.new b vf) ∧ ∀ j, e.k ≤ j → j ≤ kn → j ≤ hiOf M e.i (dropN e.k es) e.k → (σ j).heap.get e.nb = some b))) :
    Tra P nt ops M es (e.i :: row) k rs T s Tf sf kn (e :: evs) σ (fun j => if j = k then s.next else st j) where
  idx := by simp [h.idx]
  tT := by
    intro pre x post he
    cases pre with
    | nil => simp only [List.nil_append, List.cons.injEq] at he; obtain ⟨rfl, rfl⟩ := he; exact heT
    | cons y pre =>
      simp only [List.cons_append, List.cons.injEq] at he
      obtain ⟨rfl, he⟩ := he
      rw [h.tT pre x post he, hT]; rfl
  tF := by rw [h.tF, hT]; rfl
  op := by
    intro x hx
    cases hx with
    | head => exact ⟨hop.1, hop.2.1, hop.2.2, by omega⟩
    | tail _ hx => exact h.op x hx
  un := by
    intro x hx
    cases hx with
    | head => exact hun
    | tail _ hx => exact h.un x hx
  qu := by
    intro x hx h3
    cases hx with
    | head =>
      have h1 := h.stn k (Nat.le_refl _) h.kk
      have h2 := h.st0
      exact ⟨hek ▸ hprev, by omega, by have := h.kk; omega, by rw [hek, if_pos rfl]; omega, by rw [hek, hne, ← h2]; exact h1.1, hq⟩
    | tail _ hx =>
      obtain ⟨q1, q2, q3, q4, q5, q6⟩ := h.qu x hx h3
      refine ⟨q1, q2, q3, ?_, q5, fun hw => (q6 hw).elim .inl fun ⟨a, b, vf, s1, c1, c2, c3⟩ => .inr ⟨a, b, vf, s1, c1, by rw [c2, hgl], c3⟩⟩
      split
      · rename_i hk
        rw [hk, h.st0] at q4; omega
      · exact q4
  lo := by
    intro x hx h3
    cases hx with
    | head => exact absurd h3 hc
    | tail _ hx =>
      obtain ⟨q1, q2, q3, q4, q5, q6⟩ := h.lo x hx h3
      refine ⟨q1, q2, q3, q4, ?_, q6⟩
      rw [if_neg (by omega)]; exact q5
  st0 := by simp
  stn := by
    intro j h1 h2
    obtain ⟨q1, q2⟩ := h.stn j h1 h2
    refine ⟨?_, by rw [q2, hgl]⟩
    split
    · rename_i hk; subst hk; rw [h.st0] at q1; omega
    · exact q1
  sts := by
    intro j h1 h2
    rw [if_neg (by omega)]
    exact h.sts j h1 h2
  agr := by
    intro id hid
    have h1 := (h.stn k (Nat.le_refl _) h.kk).1
    rw [h.st0] at h1
    rw [h.agr id (by rcases hid with q | q; left; omega; right; exact q), hget id (by rcases hid with q | q; left; exact q; right; omega)]
  rcs := fun r hr => h.rcs r (hrs r hr)
  last := h.last
  kk := h.kk
  fst := by
    intro x hx
    cases hx with
    | head => omega
    | tail _ hx => have := h.fst x hx; omega
  sep := List.pairwise_cons.2 ⟨fun x hx => by rw [hne]; exact h.fst x hx, h.sep⟩
  cov := fun j h1 h2 => let ⟨x, q1, q2⟩ := h.cov j h1 h2; ⟨x, List.mem_cons_of_mem _ q1, q2⟩

/-- A loud place in front. -/
theorem Tra.loud {row : List Nat} {k : Nat} {rs : List Rec} {T T' : ATmp} {s s' : ASt} {Tf : ATmp} {sf : ASt} {kn : Nat} {evs : List Ev} {σ : Nat → ASt} {st : Nat → Nat} {e : Ev}
    (h : Tra P nt ops M es row (k + 1) rs T' s' Tf sf kn evs σ st) (hT : T' = stepT T e) (heT : e.T = T) (hek : e.k = k) (hnb : e.nb = s.next) (hne : e.ne = s'.next) (hle : s.next ≤ s'.next) (hgl : s'.gl = s.gl)
    (hop : ops[e.i]? = some e.o ∧ want ops e.T e.o = some e.wt ∧ (∀ d, e.o.dst = some d → d < nt)) (hun : e.wt = false → e.v = .tuple #[] ∧ e.ne = e.nb) (hc : cls e.o.op = 3) (hes : es[k]? = some e.i)
    (hrec : ∀ r ∈ rs, r.lo ≤ k → k ≤ r.hi → Again P s r)
    (hw : e.wt = true → FinOk P s (aOp P e.T s e.o.op) e.v s') (hw' : e.wt = false → s' = s) :
    Tra P nt ops M es (e.i :: row) k rs T s Tf sf kn (e :: evs) (fun j => if j = k then s else σ j) (fun j => if j = k then s.next else st j) where
  idx := by simp [h.idx]
  tT := by
    intro pre x post he
    cases pre with
    | nil => simp only [List.nil_append, List.cons.injEq] at he; obtain ⟨rfl, rfl⟩ := he; exact heT
    | cons y pre =>
      simp only [List.cons_append, List.cons.injEq] at he
      obtain ⟨rfl, he⟩ := he
      rw [h.tT pre x post he, hT]; rfl
  tF := by rw [h.tF, hT]; rfl
  op := by
    intro x hx
    cases hx with
    | head => exact ⟨hop.1, hop.2.1, hop.2.2, by omega⟩
    | tail _ hx => exact h.op x hx
  un := by
    intro x hx
    cases hx with
    | head => exact hun
    | tail _ hx => exact h.un x hx
  qu := by
    intro x hx h3
    cases hx with
    | head => exact absurd hc h3
    | tail _ hx =>
      obtain ⟨q1, q2, q3, q4, q5, q6⟩ := h.qu x hx h3
      have hne' : x.k ≠ k := by omega
      simp only [if_neg hne']
      refine ⟨q1, by omega, q3, q4, q5, fun hw => ?_⟩
      rcases q6 hw with ⟨a, b⟩ | ⟨a, b, vf, s1, c1, c2, c3, c4⟩
      · left
        exact ⟨a, fun j j1 j2 j3 => by rw [if_neg (by omega)]; exact b j j1 j2 j3⟩
      · right
        exact ⟨a, b, vf, s1, c1, by rw [c2, hgl], c3, fun j j1 j2 j3 => by rw [if_neg (by omega)]; exact c4 j j1 j2 j3⟩
  lo := by
    intro x hx h3
    cases hx with
    | head =>
      have h1 := h.st0
      refine ⟨hek ▸ hes, by omega, by have := h.kk; omega, by rw [hek, if_pos rfl]; exact hnb, ?_, s', hne.symm, ?_, ?_, ?_⟩
      · rw [if_neg (by omega), hek, h1, hne]
      · intro id hid
        rw [if_neg (by omega), hek] at hid ⊢
        exact h.agr id hid
      · intro hwt
        simp only [hek, if_true]
        exact hw hwt
      · intro hwt
        simp only [hek, if_true]
        exact hw' hwt
    | tail _ hx =>
      obtain ⟨q1, q2, q3, q4, q5, s2, q6, q7, q8, q9⟩ := h.lo x hx h3
      have hne1 : x.k ≠ k := by omega
      have hne2 : x.k + 1 ≠ k := by omega
      simp only [if_neg hne1, if_neg hne2]
      exact ⟨q1, by omega, q3, q4, q5, s2, q6, q7, q8, q9⟩
  st0 := by simp
  stn := by
    intro j h1 h2
    by_cases hj : j = k
    · subst hj; simp
    · simp only [if_neg hj]
      obtain ⟨q1, q2⟩ := h.stn j (by omega) h2
      exact ⟨q1, by rw [q2, hgl]⟩
  sts := by
    intro j h1 h2
    rw [if_neg (show ¬ j + 1 = k by omega)]
    by_cases hj : j = k
    · subst hj; rw [if_pos rfl, h.st0]; exact hle
    · rw [if_neg hj]; exact h.sts j (by omega) h2
  agr := by
    intro id _
    simp
  rcs := by
    intro r hr j h1 h2 h3 h4
    by_cases hj : j = k
    · subst hj; rw [if_pos rfl]; exact hrec r hr h3 h4
    · rw [if_neg hj]; exact h.rcs r hr j (by omega) h2 h3 h4
  last := by
    have := h.kk
    rw [if_neg (by omega)]; exact h.last
  kk := by have := h.kk; omega
  fst := by
    intro x hx
    cases hx with
    | head => omega
    | tail _ hx => have := h.fst x hx; omega
  sep := List.pairwise_cons.2 ⟨fun x hx => by rw [hne]; exact h.fst x hx, h.sep⟩
  cov := by
    intro j h1 h2
    by_cases hj : j = k
    · exact ⟨e, List.mem_cons_self .., hc, by omega⟩
    · obtain ⟨x, q1, q2⟩ := h.cov j (by omega) h2
      exact ⟨x, List.mem_cons_of_mem _ q1, q2⟩

theorem aRow_tra (hc : CallerOk P call) {pl : Plan} (hM : pl.M = M) (hes : pl.es = es) : ∀ (row : List Nat) (k : Nat) (rs : List Rec) (T : ATmp) (s : ASt) (Tf : ATmp) (sf : ASt) (seen sn kn : Nat),
    aRow P call nt ops pl row k rs T s = some (Tf, sf) → rowOk M es ops row seen k = some (sn, kn) → ∃ evs σ st, Tra P nt ops M es row k rs T s Tf sf kn evs σ st
  | [], k, rs, T, s, Tf, sf, seen, sn, kn, h, hr => by
    simp only [aRow] at h
    cases ha : againAll P s k rs with
    | false => simp [ha] at h
    | true =>
      simp [ha] at h
      obtain ⟨rfl, rfl⟩ := h
      simp only [rowOk, Option.some.injEq, Prod.mk.injEq] at hr
      obtain ⟨rfl, rfl⟩ := hr
      refine ⟨[], fun _ => s, fun _ => s.next, rfl, fun pre e post he => by simp at he, rfl, by simp, by simp, by simp, by simp, rfl, fun j _ _ => ⟨Nat.le_refl _, rfl⟩, fun j h1 h2 => by omega, fun id _ => rfl,
        fun r hr j h1 h2 h3 h4 => ?_, rfl, Nat.le_refl _, by simp, List.Pairwise.nil, fun j h1 h2 => by omega⟩
      have : j = k := by omega
      subst this
      exact again_spec (againAll_spec ha r hr h3 h4)
  | i :: rest, k, rs, T, s, Tf, sf, seen, sn, kn, h, hr => by
    simp only [aRow] at h
    simp only [rowOk] at hr
    split at h
    · cases h
    · rename_i o ho
      rw [ho] at hr
      simp only at hr
      cases hck : (!(seen.testBit i) && Nat.beq (maskAt M i &&& seen) (maskAt M i)) with
      | false => simp only [hck, cond_false] at hr; cases hr
      | true =>
        simp only [hck, cond_true] at hr
        cases h3 : Nat.beq (cls o.op) 3 with
        | true =>
          simp only [h3, cond_true] at hr
          have hcls : cls o.op = 3 := by rwa [Nat.beq_eq] at h3
          split at hr
          · rename_i e0 he0
            cases hei : Nat.beq e0 i with
            | false => simp only [hei, cond_false] at hr; cases hr
            | true =>
              simp only [hei, cond_true] at hr
              rw [Nat.beq_eq] at hei
              subst hei
              split at h
              · cases h
              · -- it doesn't run
                rename_i hw
                simp only [h3, cond_true] at h
                cases ha : againAll P s k rs with
                | false => simp [ha] at h
                | true =>
                  simp only [ha, cond_true] at h
                  split at h
                  · cases h
                  · rename_i T' hT'
                    obtain ⟨evs, σ, st, ht⟩ := aRow_tra hc hM hes rest (k + 1) rs T' s Tf sf _ sn kn h hr
                    obtain ⟨p1, p2⟩ := putT_step (e := ⟨e0, o, false, T, .tuple #[], k, s.next, s.next⟩) hT'
                    exact ⟨_, _, _, ht.loud p1 rfl rfl rfl rfl (Nat.le_refl _) rfl ⟨ho, hw, p2⟩ (fun _ => ⟨rfl, rfl⟩) hcls he0 (fun r hr a b => again_spec (againAll_spec ha r hr a b)) (fun e => by cases e) (fun _ => rfl)⟩
              · rename_i hw
                simp only [h3, cond_true] at h
                cases ha : againAll P s k rs with
                | false => simp [ha] at h
                | true =>
                  simp only [ha, cond_true] at h
                  split at h
                  · cases h
                  · rename_i v s' hv
                    split at h
                    · cases h
                    · rename_i T' hT'
                      obtain ⟨evs, σ, st, ht⟩ := aRow_tra hc hM hes rest (k + 1) rs T' s' Tf sf _ sn kn h hr
                      obtain ⟨p1, p2⟩ := putT_step (e := ⟨e0, o, true, T, v, k, s.next, s'.next⟩) hT'
                      obtain ⟨m1, m2⟩ := fin_mono hc hv
                      exact ⟨_, _, _, ht.loud p1 rfl rfl rfl rfl m1 m2 ⟨ho, hw, p2⟩ (fun e => by cases e) hcls he0 (fun r hr a b => again_spec (againAll_spec ha r hr a b)) (fun _ => ⟨call, hc, hv⟩) (fun e => by cases e)⟩
          · cases hr
        | false =>
          simp only [h3, cond_false] at hr
          have hcls : cls o.op ≠ 3 := fun e => by rw [e] at h3; cases h3
          cases hpv : prevOk M es i k with
          | false => simp only [hpv, cond_false] at hr; cases hr
          | true =>
            simp only [hpv, cond_true] at hr
            split at h
            · cases h
            · rename_i hw
              simp only [h3, cond_false] at h
              split at h
              · cases h
              · rename_i T' hT'
                obtain ⟨evs, σ, st, ht⟩ := aRow_tra hc hM hes rest k rs T' s Tf sf _ sn kn h hr
                obtain ⟨p1, p2⟩ := putT_step (e := ⟨i, o, false, T, .tuple #[], k, s.next, s.next⟩) hT'
                exact ⟨_, _, _, ht.quiet (fun r hr => hr) p1 rfl rfl rfl rfl (Nat.le_refl _) rfl ⟨ho, hw, p2⟩ (fun _ => ⟨rfl, rfl⟩) hcls hpv (fun id _ => rfl) (fun e => by cases e)⟩
            · rename_i hw
              simp only [h3, cond_false] at h
              split at h
              · rename_i v hv
                split at h
                · cases h
                · rename_i T' hT'
                  obtain ⟨evs, σ, st, ht⟩ := aRow_tra hc hM hes rest k _ T' s Tf sf _ sn kn h hr
                  obtain ⟨p1, p2⟩ := putT_step (e := ⟨i, o, true, T, v, k, s.next, s.next⟩) hT'
                  refine ⟨_, _, _, ht.quiet (fun r hr => ?_) p1 rfl rfl rfl rfl (Nat.le_refl _) rfl ⟨ho, hw, p2⟩ (fun e => by cases e) hcls hpv (fun id _ => rfl) (fun _ => .inl ⟨rfl, fun j j1 j2 j3 => ?_⟩)⟩
                  · cases Nat.beq (cls o.op) 0
                    · exact List.mem_cons_of_mem _ hr
                    · exact hr
                  · simp only at j1 j3 ⊢
                    cases h0 : Nat.beq (cls o.op) 0 with
                    | true =>
                      rw [Nat.beq_eq] at h0
                      rw [aOp_pure (ht.stn j j1 j2).2 h0]; exact hv
                    | false =>
                      have := ht.rcs ⟨o.op, T, v, none, k, hiOf pl.M i (dropN k pl.es) k⟩ (by rw [h0]; exact List.mem_cons_self ..) j j1 j2 j1 (by rw [hM, hes]; exact j3)
                      exact this
              · rename_i b vf hv
                split at h
                · cases h
                · rename_i T' hT'
                  obtain ⟨evs, σ, st, ht⟩ := aRow_tra hc hM hes rest k _ T' _ Tf sf _ sn kn h hr
                  obtain ⟨p1, p2⟩ := putT_step (e := ⟨i, o, true, T, vf s.next, k, s.next, s.next + 1⟩) hT'
                  refine ⟨_, _, _, ht.quiet (fun r hr => List.mem_cons_of_mem _ hr) p1 rfl rfl rfl rfl (Nat.le_succ _) rfl ⟨ho, hw, p2⟩ (fun e => by cases e) hcls hpv (fun id hid => ?_) (fun _ => .inr ⟨rfl, b, vf, s, rfl, rfl, hv, fun j j1 j2 j3 => ?_⟩)⟩
                  · simp only [Tr.get_put]
                    rw [if_neg (by simp only at hid; omega)]
                  · simp only at j1 j3 ⊢
                    have := ht.rcs ⟨o.op, T, vf s.next, some (s.next, b), k, hiOf pl.M i (dropN k pl.es) k⟩ (List.mem_cons_self ..) j j1 j2 j1 (by rw [hM, hes]; exact j3)
                    exact this
              · cases h


/-- A row, its calls answered by whatever holds of them. -/
def rRow (P : Program) (nt : Nat) (ops : Array Oper) (pl : Plan) : List Nat → Nat → List Rec → ATmp → ASt → (ATmp → ASt → Prop) → Prop
  | [], k, rs, T, s, Q => (∀ r ∈ rs, r.lo ≤ k → k ≤ r.hi → Again P s r) ∧ Q T s
  | i :: rest, k, rs, T, s, Q => ∃ o b, ops[i]? = some o ∧ want ops T o = some b ∧
    match b, Nat.beq (cls o.op) 3 with
    | false, true => (∀ r ∈ rs, r.lo ≤ k → k ≤ r.hi → Again P s r) ∧ ∃ T', putT nt T o.dst (.tuple #[]) = some T' ∧ rRow P nt ops pl rest (k + 1) rs T' s Q
    | false, false => ∃ T', putT nt T o.dst (.tuple #[]) = some T' ∧ rRow P nt ops pl rest k rs T' s Q
    | true, true => (∀ r ∈ rs, r.lo ≤ k → k ≤ r.hi → Again P s r) ∧ ∃ v s' T', FinOk P s (aOp P T s o.op) v s' ∧ putT nt T o.dst v = some T' ∧ rRow P nt ops pl rest (k + 1) rs T' s' Q
    | true, false =>
      (∃ v T', aOp P T s o.op = some (.val v) ∧ putT nt T o.dst v = some T' ∧ rRow P nt ops pl rest k (bif Nat.beq (cls o.op) 0 then rs else ⟨o.op, T, v, none, k, hiOf pl.M i (dropN k pl.es) k⟩ :: rs) T' s Q) ∨
      (∃ b v T', aOp P T s o.op = some (.new b v) ∧ putT nt T o.dst (v s.next) = some T' ∧
        rRow P nt ops pl rest k (⟨o.op, T, v s.next, some (s.next, b), k, hiOf pl.M i (dropN k pl.es) k⟩ :: rs) T' { s with heap := s.heap.put s.next b, next := s.next + 1 } Q)

theorem finOk_mono {s s' : ASt} {T : ATmp} {op : Op} {v : Value} (h : FinOk P s (aOp P T s op) v s') : s.next ≤ s'.next ∧ s'.gl = s.gl := by
  obtain ⟨call, hc, hf⟩ := h
  exact fin_mono (o := { (default : Oper) with op := op }) hc hf

theorem rRow_tra {pl : Plan} (hM : pl.M = M) (hes : pl.es = es) {Q : ATmp → ASt → Prop} : ∀ (row : List Nat) (k : Nat) (rs : List Rec) (T : ATmp) (s : ASt) (seen sn kn : Nat),
    rRow P nt ops pl row k rs T s Q → rowOk M es ops row seen k = some (sn, kn) → ∃ Tf sf evs σ st, Tra P nt ops M es row k rs T s Tf sf kn evs σ st ∧ Q Tf sf
  | [], k, rs, T, s, seen, sn, kn, h, hr => by
    obtain ⟨ha, hq⟩ := h
    simp only [rowOk, Option.some.injEq, Prod.mk.injEq] at hr
    obtain ⟨rfl, rfl⟩ := hr
    refine ⟨T, s, [], fun _ => s, fun _ => s.next, ⟨rfl, fun pre e post he => by simp at he, rfl, by simp, by simp, by simp, by simp, rfl, fun j _ _ => ⟨Nat.le_refl _, rfl⟩, fun j h1 h2 => by omega, fun id _ => rfl,
      fun r hr j h1 h2 h3 h4 => ?_, rfl, Nat.le_refl _, by simp, List.Pairwise.nil, fun j h1 h2 => by omega⟩, hq⟩
    have : j = k := by omega
    subst this
    exact ha r hr h3 h4
  | i :: rest, k, rs, T, s, seen, sn, kn, h, hr => by
    obtain ⟨o, b, ho, hw, h⟩ := h
    simp only [rowOk] at hr
    rw [ho] at hr
    simp only at hr
    cases hck : (!(seen.testBit i) && Nat.beq (maskAt M i &&& seen) (maskAt M i)) with
    | false => simp only [hck, cond_false] at hr; cases hr
    | true =>
      simp only [hck, cond_true] at hr
      cases h3 : Nat.beq (cls o.op) 3 with
      | true =>
        simp only [h3, cond_true] at hr
        have hcls : cls o.op = 3 := by rwa [Nat.beq_eq] at h3
        split at hr
        · rename_i e0 he0
          cases hei : Nat.beq e0 i with
          | false => simp only [hei, cond_false] at hr; cases hr
          | true =>
            simp only [hei, cond_true] at hr
            rw [Nat.beq_eq] at hei
            subst hei
            rw [h3] at h
            cases b with
            | false =>
              obtain ⟨ha, T', hT', h⟩ := h
              obtain ⟨Tf, sf, evs, σ, st, ht, hq⟩ := rRow_tra hM hes rest (k + 1) rs T' s _ sn kn h hr
              obtain ⟨p1, p2⟩ := putT_step (e := ⟨e0, o, false, T, .tuple #[], k, s.next, s.next⟩) hT'
              exact ⟨Tf, sf, _, _, _, ht.loud p1 rfl rfl rfl rfl (Nat.le_refl _) rfl ⟨ho, hw, p2⟩ (fun _ => ⟨rfl, rfl⟩) hcls he0 (fun r hr => ha r hr) (fun e => by cases e) (fun _ => rfl), hq⟩
            | true =>
              obtain ⟨ha, v, s', T', hv, hT', h⟩ := h
              obtain ⟨Tf, sf, evs, σ, st, ht, hq⟩ := rRow_tra hM hes rest (k + 1) rs T' s' _ sn kn h hr
              obtain ⟨p1, p2⟩ := putT_step (e := ⟨e0, o, true, T, v, k, s.next, s'.next⟩) hT'
              obtain ⟨m1, m2⟩ := finOk_mono hv
              exact ⟨Tf, sf, _, _, _, ht.loud p1 rfl rfl rfl rfl m1 m2 ⟨ho, hw, p2⟩ (fun e => by cases e) hcls he0 (fun r hr => ha r hr) (fun _ => hv) (fun e => by cases e), hq⟩
        · cases hr
      | false =>
        simp only [h3, cond_false] at hr
        have hcls : cls o.op ≠ 3 := fun e => by rw [e] at h3; cases h3
        cases hpv : prevOk M es i k with
        | false => simp only [hpv, cond_false] at hr; cases hr
        | true =>
          simp only [hpv, cond_true] at hr
          rw [h3] at h
          cases b with
          | false =>
            obtain ⟨T', hT', h⟩ := h
            obtain ⟨Tf, sf, evs, σ, st, ht, hq⟩ := rRow_tra hM hes rest k rs T' s _ sn kn h hr
            obtain ⟨p1, p2⟩ := putT_step (e := ⟨i, o, false, T, .tuple #[], k, s.next, s.next⟩) hT'
            exact ⟨Tf, sf, _, _, _, ht.quiet (fun r hr => hr) p1 rfl rfl rfl rfl (Nat.le_refl _) rfl ⟨ho, hw, p2⟩ (fun _ => ⟨rfl, rfl⟩) hcls hpv (fun id _ => rfl) (fun e => by cases e), hq⟩
          | true =>
            rcases h with ⟨v, T', hv, hT', h⟩ | ⟨bk, vf, T', hv, hT', h⟩
            · obtain ⟨Tf, sf, evs, σ, st, ht, hq⟩ := rRow_tra hM hes rest k _ T' s _ sn kn h hr
              obtain ⟨p1, p2⟩ := putT_step (e := ⟨i, o, true, T, v, k, s.next, s.next⟩) hT'
              refine ⟨Tf, sf, _, _, _, ht.quiet (fun r hr => ?_) p1 rfl rfl rfl rfl (Nat.le_refl _) rfl ⟨ho, hw, p2⟩ (fun e => by cases e) hcls hpv (fun id _ => rfl) (fun _ => .inl ⟨rfl, fun j j1 j2 j3 => ?_⟩), hq⟩
              · cases Nat.beq (cls o.op) 0
                · exact List.mem_cons_of_mem _ hr
                · exact hr
              · simp only at j1 j3 ⊢
                cases h0 : Nat.beq (cls o.op) 0 with
                | true =>
                  rw [Nat.beq_eq] at h0
                  rw [aOp_pure (ht.stn j j1 j2).2 h0]; exact hv
                | false =>
                  have := ht.rcs ⟨o.op, T, v, none, k, hiOf pl.M i (dropN k pl.es) k⟩ (by rw [h0]; exact List.mem_cons_self ..) j j1 j2 j1 (by rw [hM, hes]; exact j3)
                  exact this
            · obtain ⟨Tf, sf, evs, σ, st, ht, hq⟩ := rRow_tra hM hes rest k _ T' _ _ sn kn h hr
              obtain ⟨p1, p2⟩ := putT_step (e := ⟨i, o, true, T, vf s.next, k, s.next, s.next + 1⟩) hT'
              refine ⟨Tf, sf, _, _, _, ht.quiet (fun r hr => List.mem_cons_of_mem _ hr) p1 rfl rfl rfl rfl (Nat.le_succ _) rfl ⟨ho, hw, p2⟩ (fun e => by cases e) hcls hpv (fun id hid => ?_) (fun _ => .inr ⟨rfl, bk, vf, s, rfl, rfl, hv, fun j j1 j2 j3 => ?_⟩), hq⟩
              · simp only [Tr.get_put]
                rw [if_neg (by simp only at hid; omega)]
              · simp only at j1 j3 ⊢
                have := ht.rcs ⟨o.op, T, vf s.next, some (s.next, bk), k, hiOf pl.M i (dropN k pl.es) k⟩ (List.mem_cons_self ..) j j1 j2 j1 (by rw [hM, hes]; exact j3)
                exact this

end
end Go.Vf

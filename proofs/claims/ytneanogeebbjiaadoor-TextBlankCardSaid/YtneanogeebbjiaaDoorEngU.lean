import Derived.Test.YtneanogeebbjiaaDoorEngT
/- The machine of plain blocks, by rows: numbers of blocks may be changed; what holds of a call from a small state holds from every state that has it in it. -/
namespace Go.Vf
open Go.RowKit
set_option linter.unusedVariables false
set_option linter.unusedSimpArgs false

def rn1 (f : Nat → Option Nat) : Value → Option Value
  | .pointer (some ⟨b, o, sp⟩) => (match f b with
    | some j => some (.pointer (some ⟨j, o, sp⟩))
    | none => none)
  | .slice (some ⟨b, o, sp⟩) l c => (match f b with
    | some j => some (.slice (some ⟨j, o, sp⟩) l c)
    | none => none)
  | .map (some b) => (match f b with
    | some j => some (.map (some j))
    | none => none)
  | v => bif plain1 v then some v else none

def rnL1 (f : Nat → Option Nat) : List Value → Option (List Value)
  | [] => some []
  | v :: r => match rn1 f v with
    | none => none
    | some v' => match rnL1 f r with
      | none => none
      | some r' => some (v' :: r')

def rnV (f : Nat → Option Nat) : Value → Option Value
  | .agg ⟨cs⟩ => (match rnL1 f cs with
    | some l => some (.agg ⟨l⟩)
    | none => none)
  | .tuple ⟨cs⟩ => (match rnL1 f cs with
    | some l => some (.tuple ⟨l⟩)
    | none => none)
  | .iface t v => (match rn1 f v with
    | some v' => some (.iface t v')
    | none => none)
  | v => rn1 f v

def rnL (f : Nat → Option Nat) : List Value → Option (List Value)
  | [] => some []
  | v :: r => match rnV f v with
    | none => none
    | some v' => match rnL f r with
      | none => none
      | some r' => some (v' :: r')

section
variable {f : Nat → Option Nat} {ρ σ : Ren}

theorem rn1_rel (h : ∀ id j, f id = some j → σ j = ρ id) {v v' w : Value} (hv : rn1 f v = some v') : VRel ρ v w ↔ VRel σ v' w := by
  have pl : ∀ {v : Value}, plain1 v = true → (VRel ρ v w ↔ VRel σ v w) := by
    intro v hp
    have a := plain1_rel (ρ := ρ) hp
    have b := plain1_rel (ρ := σ) hp
    constructor
    · intro q
      have : w = v := by
        cases v with
        | func fn x y =>
          simp [plain1] at hp
          obtain ⟨⟨hy, rfl⟩, rfl⟩ := hp
          cases q with
          | yield => cases hy
          | func fn _ h1 h2 h3 h4 =>
            simp at h1 h2
            have e1 := h1.symm
            have e2 := h2.symm
            simp at e1 e2
            rw [e1, e2]
        | pointer x => cases x <;> simp [plain1] at hp; cases q; rfl
        | slice x l c => cases x <;> simp [plain1] at hp; cases q; rfl
        | map x => cases x <;> simp [plain1] at hp; cases q; rfl
        | chan x => cases x <;> simp [plain1] at hp; cases q; rfl
        | agg x => simp [plain1] at hp
        | tuple x => simp [plain1] at hp
        | iface t x => simp [plain1] at hp
        | _ => cases q; rfl
      rw [this]; exact b
    · intro q
      have : w = v := by
        cases v with
        | func fn x y =>
          simp [plain1] at hp
          obtain ⟨⟨hy, rfl⟩, rfl⟩ := hp
          cases q with
          | yield => cases hy
          | func fn _ h1 h2 h3 h4 =>
            simp at h1 h2
            have e1 := h1.symm
            have e2 := h2.symm
            simp at e1 e2
            rw [e1, e2]
        | pointer x => cases x <;> simp [plain1] at hp; cases q; rfl
        | slice x l c => cases x <;> simp [plain1] at hp; cases q; rfl
        | map x => cases x <;> simp [plain1] at hp; cases q; rfl
        | chan x => cases x <;> simp [plain1] at hp; cases q; rfl
        | agg x => simp [plain1] at hp
        | tuple x => simp [plain1] at hp
        | iface t x => simp [plain1] at hp
        | _ => cases q; rfl
      rw [this]; exact a
  unfold rn1 at hv
  split at hv
  · rename_i b o sp
    split at hv
    · rename_i j hj
      cases hv
      have hj' := h _ _ hj
      constructor
      · intro q; cases q with | pointer q => obtain ⟨q1, q2, e, q3, q4, q5⟩ := q; exact .pointer ⟨q1, q2, e, by show σ j = _; rw [hj']; exact q3, q4, q5⟩
      · intro q; cases q with | pointer q => obtain ⟨q1, q2, e, q3, q4, q5⟩ := q; exact .pointer ⟨q1, q2, e, by show ρ b = _; rw [← hj']; exact q3, q4, q5⟩
    · cases hv
  · rename_i b o sp l c
    split at hv
    · rename_i j hj
      cases hv
      have hj' := h _ _ hj
      constructor
      · intro q; cases q with | slice q => rcases q with ⟨q1, q2, e, q3, q4⟩ | ⟨q1, q2, q3, e, q4, q5⟩; exact .slice (.inl ⟨q1, q2, e, by show σ j = _; rw [hj']; exact q3, q4⟩); exact .slice (.inr ⟨q1, q2, q3, e, by show σ j = _; rw [hj']; exact q4, q5⟩)
      · intro q; cases q with | slice q => rcases q with ⟨q1, q2, e, q3, q4⟩ | ⟨q1, q2, q3, e, q4, q5⟩; exact .slice (.inl ⟨q1, q2, e, by show ρ b = _; rw [← hj']; exact q3, q4⟩); exact .slice (.inr ⟨q1, q2, q3, e, by show ρ b = _; rw [← hj']; exact q4, q5⟩)
    · cases hv
  · rename_i b
    split at hv
    · rename_i j hj
      cases hv
      have hj' := h _ _ hj
      constructor
      · intro q; cases q with | map q1 q2 => exact .map (by rw [hj']; exact q1) q2
      · intro q; cases q with | map q1 q2 => exact .map (by rw [← hj']; exact q1) q2
    · cases hv
  · cases hp : plain1 v with
    | false => simp [hp] at hv
    | true => simp [hp] at hv; subst hv; exact pl hp

theorem rnL1_len : ∀ {l l' : List Value}, rnL1 f l = some l' → l'.length = l.length
  | [], l', h => by simp only [rnL1] at h; cases h; rfl
  | v :: r, l', h => by
    simp only [rnL1] at h
    split at h
    · cases h
    · split at h
      · cases h
      · rename_i hr; cases h; simp [rnL1_len hr]

theorem rnL1_get : ∀ {l l' : List Value}, rnL1 f l = some l' → ∀ (i : Nat) v, l[i]? = some v → ∃ v', l'[i]? = some v' ∧ rn1 f v = some v'
  | [], l', h, i, v, hv => by simp at hv
  | x :: r, l', h, i, v, hv => by
    simp only [rnL1] at h
    split at h
    · cases h
    · rename_i x' hx
      split at h
      · cases h
      · rename_i r' hr
        cases h
        cases i with
        | zero => simp at hv; subst hv; exact ⟨x', rfl, hx⟩
        | succ i => simp at hv; simpa using rnL1_get hr i v hv

theorem rnL1_rel (h : ∀ id j, f id = some j → σ j = ρ id) {l l' w : List Value} (hv : rnL1 f l = some l') : LRel ρ l w ↔ LRel σ l' w := by
  have hl := rnL1_len hv
  constructor
  · intro q
    refine ⟨by rw [hl]; exact q.1, fun i a b ha hb => ?_⟩
    have hi : i < l.length := by
      rcases Nat.lt_or_ge i l.length with z | z
      · exact z
      · rw [List.getElem?_eq_none (by rw [hl]; exact z)] at ha; cases ha
    obtain ⟨v', p1, p2⟩ := rnL1_get hv i l[i] (List.getElem?_eq_getElem hi)
    rw [p1] at ha; cases ha
    exact (rn1_rel h p2).1 (q.2 i _ _ (List.getElem?_eq_getElem hi) hb)
  · intro q
    refine ⟨by rw [← hl]; exact q.1, fun i a b ha hb => ?_⟩
    obtain ⟨v', p1, p2⟩ := rnL1_get hv i a ha
    exact (rn1_rel h p2).2 (q.2 i _ _ p1 hb)

theorem rnV_rel (h : ∀ id j, f id = some j → σ j = ρ id) {v v' w : Value} (hv : rnV f v = some v') : VRel ρ v w ↔ VRel σ v' w := by
  unfold rnV at hv
  split at hv
  · rename_i cs
    split at hv
    · rename_i l hl
      cases hv
      constructor
      · intro q; cases q with | agg h1 h2 => exact .agg' (b := _) ((rnL1_rel h hl).1 ⟨h1, h2⟩)
      · intro q; cases q with | agg h1 h2 => exact .agg' (b := _) ((rnL1_rel h hl).2 ⟨h1, h2⟩)
    · cases hv
  · rename_i cs
    split at hv
    · rename_i l hl
      cases hv
      constructor
      · intro q; cases q with | tuple h1 h2 => exact .tuple' (b := _) ((rnL1_rel h hl).1 ⟨h1, h2⟩)
      · intro q; cases q with | tuple h1 h2 => exact .tuple' (b := _) ((rnL1_rel h hl).2 ⟨h1, h2⟩)
    · cases hv
  · rename_i t x
    split at hv
    · rename_i x' hx
      cases hv
      constructor
      · intro q; cases q with | iface t q => exact .iface t ((rn1_rel h hx).1 q)
      · intro q; cases q with | iface t q => exact .iface t ((rn1_rel h hx).2 q)
    · cases hv
  · exact rn1_rel h hv

theorem rnL_len : ∀ {l l' : List Value}, rnL f l = some l' → l'.length = l.length
  | [], l', h => by simp only [rnL] at h; cases h; rfl
  | v :: r, l', h => by
    simp only [rnL] at h
    split at h
    · cases h
    · split at h
      · cases h
      · rename_i hr; cases h; simp [rnL_len hr]

theorem rnL_get : ∀ {l l' : List Value}, rnL f l = some l' → ∀ (i : Nat) v, l[i]? = some v → ∃ v', l'[i]? = some v' ∧ rnV f v = some v'
  | [], l', h, i, v, hv => by simp at hv
  | x :: r, l', h, i, v, hv => by
    simp only [rnL] at h
    split at h
    · cases h
    · rename_i x' hx
      split at h
      · cases h
      · rename_i r' hr
        cases h
        cases i with
        | zero => simp at hv; subst hv; exact ⟨x', rfl, hx⟩
        | succ i => simp at hv; simpa using rnL_get hr i v hv

theorem rnL_rel (h : ∀ id j, f id = some j → σ j = ρ id) {l l' w : List Value} (hv : rnL f l = some l') : LRel ρ l w ↔ LRel σ l' w := by
  have hl := rnL_len hv
  constructor
  · intro q
    refine ⟨by rw [hl]; exact q.1, fun i a b ha hb => ?_⟩
    have hi : i < l.length := by
      rcases Nat.lt_or_ge i l.length with z | z
      · exact z
      · rw [List.getElem?_eq_none (by rw [hl]; exact z)] at ha; cases ha
    obtain ⟨v', p1, p2⟩ := rnL_get hv i l[i] (List.getElem?_eq_getElem hi)
    rw [p1] at ha; cases ha
    exact (rnV_rel h p2).1 (q.2 i _ _ (List.getElem?_eq_getElem hi) hb)
  · intro q
    refine ⟨by rw [← hl]; exact q.1, fun i a b ha hb => ?_⟩
    obtain ⟨v', p1, p2⟩ := rnL_get hv i a ha
    exact (rnV_rel h p2).2 (q.2 i _ _ p1 hb)

/-- A block under other numbers (ro: whether it may be written then). -/
def rnB (f : Nat → Option Nat) (ro : Bool) : ABlk → Option ABlk
  | .cells c t g _ => (match rnL f c with
    | some c' => some (.cells c' t g ro)
    | none => none)
  | _ => none

theorem rnB_fwd {P : Program} {w : World} {e : RE} (h : ∀ id j, f id = some j → σ j = ρ id) {b b' : ABlk} {ro : Bool} (hb : rnB f ro b = some b') (hr : b'.ro = false → b.ro = false) (q : BRel P ρ w e b) : BRel P σ w e b' := by
  cases b with
  | cells c t g r =>
    simp only [rnB] at hb
    split at hb
    · rename_i c' hc
      cases hb
      have hl := rnL_len hc
      obtain ⟨h1, rc, lo, hi, t0, h2, ht0, h3, h4, h5, h6, h7⟩ := q
      refine ⟨h1, rc, lo, hi, t0, h2, fun e => ht0 (hr e), h3, h4, by rw [hl]; exact h5, h6, fun i v hv => ?_⟩
      have hi' : i < c.length := by
        rcases Nat.lt_or_ge i c.length with z | z
        · exact z
        · rw [List.getElem?_eq_none (by rw [hl]; exact z)] at hv; cases hv
      obtain ⟨v1, p1, p2⟩ := rnL_get hc i c[i] (List.getElem?_eq_getElem hi')
      rw [p1] at hv; cases hv
      obtain ⟨v', q1, q2⟩ := h7 i _ (List.getElem?_eq_getElem hi')
      exact ⟨v', q1, (rnV_rel h p2).1 q2⟩
    · cases hb
  | map es clock => simp [rnB] at hb
  | siter s p => simp [rnB] at hb
  | miter a b c d => simp [rnB] at hb
  | loop r => simp [rnB] at hb

theorem rnB_bwd {P : Program} {w : World} {e : RE} (h : ∀ id j, f id = some j → σ j = ρ id) {b b' : ABlk} {ro : Bool} (hb : rnB f ro b = some b') (hr : b.ro = false → b'.ro = false) (q : BRel P σ w e b') : BRel P ρ w e b := by
  cases b with
  | cells c t g r =>
    simp only [rnB] at hb
    split at hb
    · rename_i c' hc
      cases hb
      have hl := rnL_len hc
      obtain ⟨h1, rc, lo, hi, t0, h2, ht0, h3, h4, h5, h6, h7⟩ := q
      refine ⟨h1, rc, lo, hi, t0, h2, fun e => ht0 (hr e), h3, h4, by rw [← hl]; exact h5, h6, fun i v hv => ?_⟩
      obtain ⟨v1, p1, p2⟩ := rnL_get hc i v hv
      obtain ⟨v', q1, q2⟩ := h7 i _ p1
      exact ⟨v', q1, (rnV_rel h p2).2 q2⟩
    · cases hb
  | map es clock => simp [rnB] at hb
  | siter s p => simp [rnB] at hb
  | miter a b c d => simp [rnB] at hb
  | loop r => simp [rnB] at hb
end

theorem nodup_inj {l : List Nat} (h : l.Nodup) {i j x : Nat} (hi : l[i]? = some x) (hj : l[j]? = some x) : i = j := by
  obtain ⟨l1, e1⟩ := List.getElem?_eq_some_iff.1 hi
  obtain ⟨l2, e2⟩ := List.getElem?_eq_some_iff.1 hj
  have := List.pairwise_iff_getElem.1 h
  rcases Nat.lt_trichotomy i j with q | q | q
  · exact absurd (e1.trans e2.symm) (this i j l1 l2 q)
  · exact q
  · exact absurd (e2.trans e1.symm) (this j i l2 l1 q)

/-- Numbers from a place on, by a row: the i-th stands for so. -/
def numF (k : Nat) (ex : List Nat) (id : Nat) : Option Nat :=
  bif Nat.blt id k then some id else ex[id - k]?

/-- Each block of the target is the source's, under the source's numbers. -/
def RenH (f : Nat → Option Nat) (H : List (Nat × Option ABlk)) : List (Nat × Option ABlk) → Prop
  | [] => True
  | (id, some b) :: r => (∃ j b', f id = some j ∧ lookH H j = some b' ∧ rnB f b'.ro b = some b' ∧ b.ro = b'.ro) ∧ RenH f H r
  | (_, none) :: r => RenH f H r

def RenT (f : Nat → Option Nat) (T : TL) : TL → Prop
  | [] => True
  | (t, v) :: r => (∃ v', look T t = some v' ∧ rnV f v = some v') ∧ RenT f T r

theorem RenT.look {f : Nat → Option Nat} {T : TL} : ∀ {T' : TL}, RenT f T T' → ∀ t v, look T' t = some v → ∃ v', look T t = some v' ∧ rnV f v = some v'
  | [], _, t, v, h => by cases h
  | (k, x) :: r, hs, t, v, h => by
    simp only [Go.Vf.look] at h
    rcases beq_cases k t with ⟨e, he⟩ | ⟨e, he⟩
    · rw [he] at h; cases h; subst e; exact hs.1
    · rw [he] at h; exact RenT.look hs.2 t v h

theorem RenH.look {f : Nat → Option Nat} {H : List (Nat × Option ABlk)} : ∀ {H' : List (Nat × Option ABlk)}, RenH f H H' → ∀ id b, lookH H' id = some b → ∃ j b', f id = some j ∧ lookH H j = some b' ∧ rnB f b'.ro b = some b' ∧ b.ro = b'.ro
  | [], _, t, v, h => by cases h
  | (k, some x) :: r, hs, t, v, h => by
    simp only [lookH] at h
    rcases beq_cases k t with ⟨e, he⟩ | ⟨e, he⟩
    · rw [he] at h; cases h; subst e; exact hs.1
    · rw [he] at h; exact RenH.look (H' := r) hs.2 t v h
  | (k, none) :: r, hs, t, v, h => by
    simp only [lookH] at h
    rcases beq_cases k t with ⟨e, he⟩ | ⟨e, he⟩
    · rw [he] at h; cases h
    · rw [he] at h; exact RenH.look (H' := r) hs t v h

section
variable {P : Program} {nt k : Nat} {T T' : TL} {s s' : SS}

/-! ### From a small state to every state -/

/-- Blocks behind a place, each under its number there. -/
def newH (n : Nat) : List ABlk → List (Nat × Option ABlk)
  | [] => []
  | b :: r => (n, some b) :: newH (n + 1) r

theorem newH_look : ∀ (l : List ABlk) (n : Nat) (H : List (Nat × Option ABlk)) (id : Nat), lookH (newH n l ++ H) id = if n ≤ id ∧ id < n + l.length then l[id - n]? else lookH H id
  | [], n, H, id => by simp [newH]; omega
  | b :: r, n, H, id => by
    simp only [newH, List.cons_append, lookH]
    rcases beq_cases n id with ⟨e, he⟩ | ⟨e, he⟩
    · subst e; rw [he, cond_true, if_pos (by simp)]; simp
    · rw [he, cond_false, newH_look r (n + 1) H id]
      simp only [List.length_cons]
      by_cases h1 : n + 1 ≤ id ∧ id < n + 1 + r.length
      · rw [if_pos h1, if_pos (by omega), show id - n = (id - (n + 1)) + 1 from by omega, List.getElem?_cons_succ]
      · rw [if_neg h1, if_neg (by omega)]

/-- What the numbers of a small state (below m: by τ; the i-th of ex: n + i) stand for. -/
def outF (m : Nat) (τ : List Nat) (n : Nat) (ex : List Nat) (id : Nat) : Option Nat :=
  bif Nat.blt id m then τ[id]? else (ex.idxOf? id).map (n + ·)

/-- The blocks of a small state are some of the great one's. -/
def InH (τ : List Nat) (H : List (Nat × Option ABlk)) : List (Nat × Option ABlk) → Prop
  | [] => True
  | (id, some b) :: r => (b.ro = true ∧ ∃ j b', τ[id]? = some j ∧ lookH H j = some b' ∧ rnB (fun i => τ[i]?) b'.ro b = some b') ∧ InH τ H r
  | (_, none) :: r => InH τ H r

theorem InH.look {τ : List Nat} {H : List (Nat × Option ABlk)} : ∀ {H' : List (Nat × Option ABlk)}, InH τ H H' → ∀ id b, lookH H' id = some b → b.ro = true ∧ ∃ j b', τ[id]? = some j ∧ lookH H j = some b' ∧ rnB (fun i => τ[i]?) b'.ro b = some b'
  | [], _, t, v, h => by cases h
  | (k, some x) :: r, hs, t, v, h => by
    simp only [lookH] at h
    rcases beq_cases k t with ⟨e, he⟩ | ⟨e, he⟩
    · rw [he] at h; cases h; subst e; exact hs.1
    · rw [he] at h; exact InH.look (H' := r) hs.2 t v h
  | (k, none) :: r, hs, t, v, h => by
    simp only [lookH] at h
    rcases beq_cases k t with ⟨e, he⟩ | ⟨e, he⟩
    · rw [he] at h; cases h
    · rw [he] at h; exact InH.look (H' := r) hs t v h

/-- Of a small state's answer: which of its new blocks go out (ex), as which blocks (bs), and what is told. -/
def Out (m : Nat) (τ : List Nat) (n : Nat) (bs : List ABlk) (v' : Value) (v : Value) (s : SS) : Prop :=
  ∃ ex : List Nat, ex.Nodup ∧ ex.length = bs.length ∧ (∀ j ∈ ex, m ≤ j) ∧ rnV (outF m τ n ex) v = some v' ∧
    ∀ (i : Nat) j b, ex[i]? = some j → bs[i]? = some b → ∃ b0, lookH s.heap j = some b0 ∧ b0.ro = false ∧ rnB (outF m τ n ex) false b0 = some b

theorem CallOk.lift {f : FuncId} {c args : List Value} {sc s : SS} {τ : List Nat} {bs : List ABlk} {v' : Value} {K : Value → SS → Prop} (h : CallW P f c sc K)
    (hm : τ.length = sc.next) (hτ : ∀ j ∈ τ, j < s.next) (hg : sc.gl = s.gl) (hgl : ∀ g, g < s.gl → τ[g]? = some g)
    (ha : rnL (fun i => τ[i]?) c = some args) (hH : InH τ s.heap sc.heap) (hbs : ∀ b ∈ bs, b.ro = false)
    (hK : ∀ v s1, K v s1 → Out sc.next τ s.next bs v' v s1) : CallOk P f args s.st v' (SS.st ⟨newH s.next bs ++ s.heap, s.next + bs.length, s.gl⟩) := by
  refine ⟨Nat.le_add_right _ _, rfl, fun B w0 ρ args' w H hargs hfree => ?_⟩
  have hfree' : ∀ id, s.next ≤ id → id < s.next + bs.length → ρ id = none := hfree
  let ρc : Ren := fun id => match τ[id]? with | some j => ρ j | none => none
  have hrel : ∀ id j, (fun i => τ[i]?) id = some j → ρ j = ρc id := fun id j h => by
    have h' : τ[id]? = some j := h
    show ρ j = (match τ[id]? with | some j => ρ j | none => none)
    rw [h']
  have hBsz := H.size
  have Hc : HRel P w.heap.size w ρc sc.st w := by
    refine ⟨.refl _ _, Nat.le_refl _, .refl _, ?_, ?_, ?_, ?_, ?_, ?_⟩
    · intro id b e hb he
      rw [SS.get] at hb
      obtain ⟨q0, j, b', q1, q2, q3⟩ := hH.look _ _ hb
      exact rnB_bwd hrel q3 (fun z => by rw [q0] at z; cases z) (H.blk j b' e (by rw [SS.get]; exact q2) (by rw [hrel _ _ q1]; exact he))
    · intro id b e hb he hr
      rw [SS.get] at hb
      rw [(hH.look _ _ hb).1] at hr; cases hr
    · intro id b e hb he hr
      simp only [ρc] at he
      split at he
      · exact H.lt _ _ he
      · cases he
    · intro i j b b' e e' hb hb' he he' hr
      rw [SS.get] at hb
      rw [(hH.look _ _ hb).1] at hr; cases hr
    · intro id e he
      simp only [ρc] at he
      split at he
      · exact H.lt _ _ he
      · cases he
    · intro g hg'
      have hg2 : g < s.gl := by have : g < sc.gl := hg'; omega
      obtain ⟨e, h1, h2⟩ := H.glob g hg2
      exact ⟨e, by rw [← hrel g g (hgl g hg2)]; exact h1, h2⟩
  have hfc : FreeFrom ρc sc.next := by
    intro id hid
    show (match τ[id]? with | some j => ρ j | none => none) = none
    rw [List.getElem?_eq_none (by omega)]
  refine (h.zero w.heap.size w ρc args' w Hc ((rnL_rel hrel ha).2 hargs) hfc).mono fun e w' he => ?_
  obtain ⟨u, v, s1, ρ1, rfl, hk, hv, H1, hf1, hle, hag⟩ := he
  obtain ⟨ex, hnd, hlen, hlow, hrv, hblk⟩ := hK _ _ hk
  let ρ' : Ren := fun id => if s.next ≤ id ∧ id < s.next + bs.length then (match ex[id - s.next]? with | some j => ρ1 j | none => none) else ρ id
  have hin : ∀ i j, ex[i]? = some j → ρ' (s.next + i) = ρ1 j := by
    intro i j hij
    have hi : i < ex.length := by
      rcases Nat.lt_or_ge i ex.length with z | z
      · exact z
      · rw [List.getElem?_eq_none z] at hij; cases hij
    show (if s.next ≤ s.next + i ∧ s.next + i < s.next + bs.length then (match ex[s.next + i - s.next]? with | some j => ρ1 j | none => none) else ρ (s.next + i)) = ρ1 j
    rw [if_pos (by omega), Nat.add_sub_cancel_left, hij]
  have hout : ∀ id, id < s.next → ρ' id = ρ id := fun id hid => by
    show (if s.next ≤ id ∧ id < s.next + bs.length then _ else ρ id) = ρ id
    rw [if_neg (by omega)]
  have hrel2 : ∀ id j, outF sc.next τ s.next ex id = some j → ρ' j = ρ1 id := by
    intro id j hj
    unfold outF at hj
    cases hb : Nat.blt id sc.next with
    | true =>
      simp only [hb, cond_true] at hj
      rw [Nat.blt_eq] at hb
      rw [hout j (hτ j (List.mem_of_getElem? hj)), hag id hb, hrel _ _ hj]
    | false =>
      simp only [hb, cond_false] at hj
      cases hx : ex.idxOf? id with
      | none => rw [hx] at hj; cases hj
      | some i =>
        rw [hx] at hj
        simp only [Option.map_some, Option.some.injEq] at hj
        subst hj
        have := List.idxOf?_eq_some_iff.1 hx
        obtain ⟨hlt, heq, _⟩ := this
        exact hin i id (by rw [List.getElem?_eq_getElem hlt]; simpa using heq)
  have hleρ : ρ.Le ρ' := by
    intro id e he
    show (if s.next ≤ id ∧ id < s.next + bs.length then _ else ρ id) = some e
    by_cases hw : s.next ≤ id ∧ id < s.next + bs.length
    · rw [hfree' id hw.1 hw.2] at he; cases he
    · rw [if_neg hw]; exact he
  have hwin : ∀ id b, s.next ≤ id ∧ id < s.next + bs.length → bs[id - s.next]? = some b → ∀ e, ρ' id = some e → ∃ j b0, ρ1 j = some e ∧ ex[id - s.next]? = some j ∧ lookH s1.heap j = some b0 ∧ b0.ro = false ∧ rnB (outF sc.next τ s.next ex) false b0 = some b := by
    intro id b hid hb e he
    have hi : id - s.next < ex.length := by omega
    have hj := List.getElem?_eq_getElem hi
    obtain ⟨b0, q1, q2, q3⟩ := hblk _ _ b hj hb
    refine ⟨ex[id - s.next], b0, ?_, hj, q1, q2, q3⟩
    have := hin _ _ hj
    rw [show s.next + (id - s.next) = id from by omega] at this
    rw [← this]; exact he
  have hmem : ∀ id, s.next ≤ id ∧ id < s.next + bs.length → ∃ b, bs[id - s.next]? = some b ∧ b.ro = false := fun id hid =>
    ⟨bs[id - s.next]'(by omega), List.getElem?_eq_getElem (by omega), hbs _ (List.getElem_mem _)⟩
  refine ⟨u, ρ', rfl, (rnV_rel hrel2 hrv).1 hv, ⟨H.below.trans (H1.below.mono hBsz), H.base, H.books.trans H1.books, ?_, ?_, ?_, ?_, ?_, ?_⟩, hleρ, fun id hid => ?_⟩
  · intro id b e hb he
    rw [SS.get] at hb
    rw [newH_look] at hb
    split at hb
    · rename_i hw
      obtain ⟨j, b0, q1, q2, q3, q4, q5⟩ := hwin id b hw hb e he
      exact rnB_fwd hrel2 q5 (fun _ => q4) (H1.blk j b0 e (by rw [SS.get]; exact q3) q1)
    · rename_i hw
      have he' : ρ id = some e := by have h' : (if s.next ≤ id ∧ id < s.next + bs.length then _ else ρ id) = some e := he; rw [if_neg hw] at h'; exact h'
      exact (H.blk id b e (by rw [SS.get]; exact hb) he').mono hleρ (H1.below.block _ (H.lt _ _ he'))
  · intro id b e hb he hr
    rw [SS.get] at hb
    rw [newH_look] at hb
    split at hb
    · rename_i hw
      obtain ⟨j, b0, q1, q2, q3, q4, q5⟩ := hwin id b hw hb e he
      have := H1.own j b0 e (by rw [SS.get]; exact q3) q1 q4
      omega
    · rename_i hw
      have he' : ρ id = some e := by have h' : (if s.next ≤ id ∧ id < s.next + bs.length then _ else ρ id) = some e := he; rw [if_neg hw] at h'; exact h'
      exact H.own id b e (by rw [SS.get]; exact hb) he' hr
  · intro id b e hb he hr
    rw [SS.get] at hb
    rw [newH_look] at hb
    split at hb
    · rename_i hw
      obtain ⟨b1, p1, p2⟩ := hmem id hw
      rw [p1] at hb; cases hb
      rw [p2] at hr; cases hr
    · rename_i hw
      have he' : ρ id = some e := by have h' : (if s.next ≤ id ∧ id < s.next + bs.length then _ else ρ id) = some e := he; rw [if_neg hw] at h'; exact h'
      exact H.low id b e (by rw [SS.get]; exact hb) he' hr
  · intro i j b b' e e' hb hb' he he' hr hr' hne
    rw [SS.get] at hb hb'
    rw [newH_look] at hb hb'
    have old : ∀ id e, ¬ (s.next ≤ id ∧ id < s.next + bs.length) → ρ' id = some e → ρ id = some e := by
      intro id e hw h
      have h' : (if s.next ≤ id ∧ id < s.next + bs.length then _ else ρ id) = some e := h
      rw [if_neg hw] at h'; exact h'
    split at hb
    · rename_i hw
      obtain ⟨j1, b1, q1, q2, q3, q4, q5⟩ := hwin i b hw hb e he
      split at hb'
      · rename_i hw'
        obtain ⟨j2, b2, r1, r2, r3, r4, r5⟩ := hwin j b' hw' hb' e' he'
        refine H1.inj j1 j2 b1 b2 e e' (by rw [SS.get]; exact q3) (by rw [SS.get]; exact r3) q1 r1 q4 r4 fun e => ?_
        subst e
        have := nodup_inj hnd q2 r2
        omega
      · rename_i hw'
        have a1 := H1.own j1 b1 e (by rw [SS.get]; exact q3) q1 q4
        have a2 := H.lt _ _ (old _ _ hw' he')
        omega
    · rename_i hw
      split at hb'
      · rename_i hw'
        obtain ⟨j2, b2, r1, r2, r3, r4, r5⟩ := hwin j b' hw' hb' e' he'
        have a1 := H1.own j2 b2 e' (by rw [SS.get]; exact r3) r1 r4
        have a2 := H.lt _ _ (old _ _ hw he)
        omega
      · rename_i hw'
        exact H.inj i j b b' e e' (by rw [SS.get]; exact hb) (by rw [SS.get]; exact hb') (old _ _ hw he) (old _ _ hw' he') hr hr' hne
  · intro id e he
    have h' : (if s.next ≤ id ∧ id < s.next + bs.length then (match ex[id - s.next]? with | some j => ρ1 j | none => none) else ρ id) = some e := he
    split at h'
    · split at h'
      · exact H1.lt _ _ h'
      · cases h'
    · have := H.lt _ _ h'
      have := H1.below.size
      omega
  · intro g hg'
    obtain ⟨e, h1, h2⟩ := H.glob g hg'
    exact ⟨e, hleρ _ _ h1, h2⟩
  · by_cases hw : s.next ≤ id ∧ id < s.next + bs.length
    · exact .inr hw
    · left
      have h' : (if s.next ≤ id ∧ id < s.next + bs.length then _ else ρ id) ≠ none := hid
      rw [if_neg hw] at h'; exact h'

end
end Go.Vf

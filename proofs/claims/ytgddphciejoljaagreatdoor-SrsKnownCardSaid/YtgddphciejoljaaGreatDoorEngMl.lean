import Derived.Test.YtgddphciejoljaaGreatDoorEngBf
import Derived.Test.YtgddphciejoljaaGreatDoorEngMp
/- The machine of plain blocks, by rows: a region whose order is open and whose ends differ by the order (a map's literal with calls among its keys). -/
namespace Go.Vf
open Go.RowKit
set_option linter.unusedVariables false
set_option linter.unusedSimpArgs false

/-- Slots that the listed places have filled. -/
def TLs (L : Nat → Bool) (D : List (Nat × Nat × Value)) (T : TL) : TL := ((D.filter fun d => L d.1).map fun d => d.2) ++ T

def upd (L : Nat → Bool) (i : Nat) : Nat → Bool := fun j => if j = i then true else L j

theorem look_app {α : Type} : ∀ (a b : List (Nat × α)) (t : Nat), look (a ++ b) t = match look a t with | some v => some v | none => look b t
  | [], b, t => rfl
  | (k, v) :: r, b, t => by
    simp only [List.cons_append, look]
    rcases beq_cases k t with ⟨_, hb⟩ | ⟨_, hb⟩
    · simp [hb]
    · simp only [hb, cond_false]; exact look_app r b t

theorem look_none {α : Type} : ∀ {a : List (Nat × α)} {t : Nat}, t ∉ a.map (·.1) → look a t = none
  | [], t, _ => rfl
  | (k, v) :: r, t, h => by
    simp only [List.map_cons, List.mem_cons, not_or] at h
    simp only [look]
    rcases beq_cases k t with ⟨e, _⟩ | ⟨_, hb⟩
    · exact absurd e.symm h.1
    · simp only [hb, cond_false]; exact look_none h.2

theorem TLs_none {L : Nat → Bool} {D : List (Nat × Nat × Value)} {T : TL} {i : Nat} (h : ∀ d ∈ D, d.1 ≠ i) : TLs (upd L i) D T = TLs L D T := by
  unfold TLs
  congr 2
  refine List.filter_congr fun d hd => ?_
  simp [upd, h d hd]

theorem TLs_in {L : Nat → Bool} {T : TL} {i t : Nat} {v : Value} : ∀ {D : List (Nat × Nat × Value)}, (D.map (·.2.1)).Nodup → (i, t, v) ∈ D → L i = true → look (TLs L D T) t = some v
  | [], _, h, _ => by simp at h
  | d :: D, hn, h, hL => by
    simp only [List.map_cons, List.nodup_cons] at hn
    unfold TLs
    rcases List.mem_cons.1 h with rfl | h
    · simp [hL, look, Nat.beq_refl]
    · have hne : d.2.1 ≠ t := fun e => hn.1 (e ▸ List.mem_map.2 ⟨_, h, rfl⟩)
      have ih := TLs_in (T := T) hn.2 h hL
      unfold TLs at ih
      cases hd : L d.1 with
      | false => simp only [List.filter_cons, hd, Bool.false_eq_true, if_false]; exact ih
      | true =>
        simp only [List.filter_cons, hd, if_true, List.map_cons, List.cons_append]
        obtain ⟨a, b, c⟩ := d
        simp only [look, beqF hne, cond_false]
        exact ih

theorem TLs_set {L : Nat → Bool} {T : TL} {i t : Nat} {v : Value} : ∀ {D : List (Nat × Nat × Value)}, (D.map (·.1)).Nodup → (D.map (·.2.1)).Nodup → (i, t, v) ∈ D → L i = false → ∀ u, look (TLs (upd L i) D T) u = look ((t, v) :: TLs L D T) u
  | [], _, _, h, _, _ => by simp at h
  | d :: D, h1, h2, h, hL, u => by
    simp only [List.map_cons, List.nodup_cons] at h1 h2
    rcases List.mem_cons.1 h with rfl | h
    · have hr : ∀ d ∈ D, d.1 ≠ i := fun d hd e => h1.1 (e ▸ List.mem_map.2 ⟨d, hd, rfl⟩)
      have := TLs_none (L := L) (T := T) hr
      unfold TLs at this ⊢
      simp only [List.filter_cons, upd, if_true, hL, Bool.false_eq_true, if_false, List.map_cons, List.cons_append, look]
      have h3 : (fun d : Nat × Nat × Value => if d.1 = i then true else L d.1) = fun d => upd L i d.1 := rfl
      rw [h3, this]
    · have hne : d.1 ≠ i := fun e => h1.1 (e ▸ List.mem_map.2 ⟨_, h, rfl⟩)
      have hnt : d.2.1 ≠ t := fun e => h2.1 (e ▸ List.mem_map.2 ⟨_, h, rfl⟩)
      have ih := TLs_set (T := T) h1.2 h2.2 h hL u
      obtain ⟨a, b, c⟩ := d
      simp only at hne hnt
      unfold TLs at ih ⊢
      have hu : upd L i a = L a := by simp [upd, hne]
      cases hd : L a with
      | false =>
        simp only [List.filter_cons, hu, hd, Bool.false_eq_true, if_false]
        exact ih
      | true =>
        simp only [List.filter_cons, hu, hd, if_true, List.map_cons, List.cons_append, look] at ih ⊢
        rcases beq_cases b u with ⟨e, hb⟩ | ⟨e, hb⟩
        · subst e
          simp only [hb, cond_true, beqF (Ne.symm hnt), cond_false]
        · simp only [hb, cond_false]
          exact ih

/-- What a step does, whatever comes behind it. -/
def StepX (P : Program) (o : Oper) (T : TL) (s : SS) (v : Value) (s' : SS) : Prop :=
  s.next ≤ s'.next ∧ s'.gl = s.gl ∧ ∀ (nt B : Nat) (w0 : World) (ρ : Ren) (w : World) (tmps : Array Value) (ds : List Deferred) (K : Act → World → Prop) (Q : Exit → Act → World → Prop), HRel P B w0 ρ s.st w → FRel ρ nt (toTr T) tmps → Free ρ s.next s'.next →
    (∀ v' ρ' w', VRel ρ' v v' → HRel P B w0 ρ' s'.st w' → Ext ρ ρ' s.next s'.next → K ((⟨tmps, ds⟩ : Act).put o.dst v') w') → o.wp P ⟨tmps, ds⟩ w K Q

section
variable {P : Program} {o : Oper} {T : TL} {s s' s2 : SS} {v : Value}

theorem StepX.of_op (h : OpX P o.op T s v s') : StepX P o T s v s' := by
  refine ⟨h.1, h.2.1, fun nt B w0 ρ w tmps ds K Q H F hf hK => ?_⟩
  obtain ⟨n, v', w', ρ', h1, h2, q1, q2, q3⟩ := h.2.2 o rfl nt B w0 ρ w tmps ds H F hf
  unfold Oper.wp
  rw [h1]
  have := hK v' ρ' w' q1 q2 q3
  rcases h2 with rfl | ⟨rfl, rfl⟩
  · exact this
  · exact this

theorem StepX.of_fin (G : Good P) (h : FinOk P s.st (aOp P (toTr T) s.st o.op) v s'.st) : StepX P o T s v s' := by
  obtain ⟨call, hc, h⟩ := h
  have hm := fin_mono hc h
  exact ⟨hm.1, hm.2, fun nt B w0 ρ w tmps ds K Q H F hf hK => op_wp G hc H F ds h hf hK⟩

theorem StepX.to (h : StepX P o T s v s') (hn : s2.next = s'.next) (hg : s2.gl = s'.gl) (hh : ∀ id b, lookH s2.heap id = some b → lookH s'.heap id = some b) : StepX P o T s v s2 := by
  refine ⟨by rw [hn]; exact h.1, by rw [hg]; exact h.2.1, fun nt B w0 ρ w tmps ds K Q H F hf hK => h.2.2 nt B w0 ρ w tmps ds K Q H F (hn ▸ hf) fun v' ρ' w' q1 q2 q3 => ?_⟩
  exact hK v' ρ' w' q1 (q2.same hg fun id e b _ hb => by rw [SS.get] at hb ⊢; exact hh id b hb) (hn ▸ q3)
end

section
variable {P : Program} {nt : Nat} {ops : Array Oper}

/-- Whatever is listed, what it waits for is. -/
def ClosedL (ops : Array Oper) (L : Nat → Bool) : Prop := ∀ i o, L i = true → ops[i]? = some o → ∀ e ∈ o.after.toList, Region.binds .any e = true → L e.on = true

/-- A region's steps, with the states that they lead through. -/
structure Lit (P : Program) (nt : Nat) (ops : Array Oper) (D : List (Nat × Nat × Value)) (T : TL) (s : SS) {σ : Type} (S : σ → SS) (good : (Nat → Bool) → σ → Prop) (N : Nat) : Prop where
  edges : allEdges ops.toList 0 = true
  nd1 : (D.map (·.1)).Nodup
  nd2 : (D.map (·.2.1)).Nodup
  dlt : ∀ d ∈ D, d.2.1 < nt ∧ d.1 < ops.size
  le : ∀ L x, good L x → s.next ≤ (S x).next ∧ (S x).next ≤ N ∧ (S x).gl = s.gl
  step : ∀ L x i o, ops[i]? = some o → good L x → L i = false → ClosedL ops L → (∀ e ∈ o.after.toList, Region.binds .any e = true → L e.on = true) →
    o.guard = none ∧ ∃ v x', good (upd L i) x' ∧ StepX P o (TLs L D T) (S x) v (S x') ∧ ((o.dst = none ∧ ∀ d ∈ D, d.1 ≠ i) ∨ ∃ t, o.dst = some t ∧ (i, t, v) ∈ D)

theorem ready_of_edges (he : allEdges ops.toList 0 = true) {listed : Array Bool} (hsz : listed.size = ops.size) : Region.ready .any ops listed = [] → ∀ i, i < ops.size → Lb listed i = true := by
  intro hr i
  induction i using Nat.strongRecOn with
  | _ i ih =>
    intro hi
    cases hL : Lb listed i with
    | true => rfl
    | false =>
      exfalso
      have : i ∈ Region.ready .any ops listed := by
        refine mem_ready.2 ⟨?_, ops[i], Array.getElem?_eq_getElem hi, fun e he' hb => ?_⟩
        · unfold Lb at hL
          simp only [Array.getD_eq_getD_getElem?] at hL ⊢
          rw [Array.getElem?_eq_getElem (by omega)] at hL ⊢
          simpa using hL
        · have hlt : e.on < i := by
            have hall : ∀ (l : List Oper) (k : Nat), allEdges l k = true → ∀ (a : Nat) o, l[a]? = some o → edgesOk o.after.toList (k + a) = true := by
              intro l
              induction l with
              | nil => intro k h a o ho; simp at ho
              | cons x r ihl =>
                intro k h a o ho
                simp only [allEdges, Bool.and_eq_true] at h
                cases a with
                | zero => simp at ho; subst ho; exact h.1.1
                | succ a =>
                  have := ihl (k + 1) h.2 a o (by simpa using ho)
                  rwa [show k + (a + 1) = k + 1 + a from by omega]
            have h1 := hall ops.toList 0 he i ops[i] (by simp [hi])
            have := edgesOk_spec h1 e (by simpa using he') hb
            omega
          exact ih e.on hlt (by omega)
      rw [hr] at this
      simp at this

theorem Lb_upd {listed : Array Bool} {i : Nat} (hi : i < listed.size) : Lb (listed.setIfInBounds i true) = upd (Lb listed) i := by
  funext j
  rw [Lb_set hi]
  rfl

theorem Lit.run {D : List (Nat × Nat × Value)} {T : TL} {s : SS} {σ : Type} {S : σ → SS} {good : (Nat → Bool) → σ → Prop} {N : Nat} (h : Lit P nt ops D T s S good N) {x0 : σ} (g0 : good (fun _ => false) x0) (hs0 : S x0 = s)
    {B : Nat} {w0 : World} {ρ : Ren} {w : World} {tmps : Array Value} {ds : List Deferred} {Q : Exit → Act → World → Prop} (H : HRel P B w0 ρ s.st w) (F : FRel ρ nt (toTr T) tmps) (hf : Free ρ s.next N)
    (hQ : ∀ L x ρ' tmps' w', (∀ i, i < ops.size → L i = true) → good L x → HRel P B w0 ρ' (S x).st w' → FRel ρ' nt (toTr (D.map (·.2) ++ T)) tmps' → Ext ρ ρ' s.next (S x).next → Q .normal ⟨tmps', ds⟩ w') :
    wpAny P .any ops Q ops.size (Array.replicate ops.size false) ⟨tmps, ds⟩ w := by
  have fin : ∀ (listed : Array Bool) (x : σ) (ρ' : Ren) (tmps' : Array Value) (w' : World), (∀ i, i < ops.size → Lb listed i = true) → good (Lb listed) x → HRel P B w0 ρ' (S x).st w' → FRel ρ' nt (toTr (TLs (Lb listed) D T)) tmps' → Ext ρ ρ' s.next (S x).next → Q .normal ⟨tmps', ds⟩ w' := by
    intro listed x ρ' tmps' w' hall g H' F' X
    refine hQ _ x ρ' tmps' w' hall g H' ?_ X
    have : TLs (Lb listed) D T = D.map (·.2) ++ T := by
      unfold TLs
      rw [List.filter_eq_self.2 fun d hd => hall _ (h.dlt d hd).2]
    rwa [this] at F'
  have main : ∀ (fuel : Nat) (listed : Array Bool) (x : σ) (ρ' : Ren) (tmps' : Array Value) (w' : World), missing listed = fuel → listed.size = ops.size → ClosedL ops (Lb listed) → good (Lb listed) x → HRel P B w0 ρ' (S x).st w' → FRel ρ' nt (toTr (TLs (Lb listed) D T)) tmps' → Ext ρ ρ' s.next (S x).next →
      wpAny P .any ops Q fuel listed ⟨tmps', ds⟩ w' := by
    intro fuel
    induction fuel with
    | zero =>
      intro listed x ρ' tmps' w' hm hsz hcl g H' F' X
      have hall : ∀ i, i < ops.size → Lb listed i = true := by
        intro i hi
        unfold missing at hm
        rw [List.countP_eq_zero] at hm
        have := hm i (List.mem_range.2 (by omega))
        simpa using this
      refine ⟨?_, fin listed x ρ' tmps' w' hall g H' F' X⟩
      cases hr : Region.ready .any ops listed with
      | nil => rfl
      | cons y ys =>
        exfalso
        have hy : y ∈ Region.ready .any ops listed := by rw [hr]; exact List.mem_cons_self ..
        obtain ⟨q1, o, q2, -⟩ := mem_ready.1 hy
        have hyn : y < ops.size := by
          rcases Nat.lt_or_ge y ops.size with q | q
          · exact q
          · rw [Array.getElem?_eq_none q] at q2; cases q2
        have := hall y hyn
        unfold Lb at this
        simp only [Array.getD_eq_getD_getElem?] at this q1
        rw [Array.getElem?_eq_getElem (by omega)] at this q1
        simp at this q1
        rw [this] at q1; cases q1
    | succ fuel ih =>
      intro listed x ρ' tmps' w' hm hsz hcl g H' F' X
      refine ⟨fun hr => fin listed x ρ' tmps' w' (ready_of_edges h.edges hsz hr) g H' F' X, fun i hi => ?_⟩
      obtain ⟨q1, o, ho, hedges⟩ := mem_ready.1 hi
      have hin : i < listed.size := by
        rw [hsz]
        rcases Nat.lt_or_ge i ops.size with q | q
        · exact q
        · rw [Array.getElem?_eq_none q] at ho; cases ho
      have hL : Lb listed i = false := by
        unfold Lb
        simp only [Array.getD_eq_getD_getElem?] at q1 ⊢
        rw [Array.getElem?_eq_getElem hin] at q1 ⊢
        simpa using q1
      have hed : ∀ e ∈ o.after.toList, Region.binds .any e = true → Lb listed e.on = true := fun e he hb => hedges e (by simpa using he) hb
      have hmiss := missing_set hin hL
      have hset := Lb_upd hin
      obtain ⟨hg, v, x', g', hstep, hdst⟩ := h.step (Lb listed) x i o ho g hL hcl hed
      obtain ⟨l1, l2, l3⟩ := h.le _ _ g
      obtain ⟨m1, m2, m3⟩ := h.le _ _ g'
      have hcl' : ClosedL ops (Lb (listed.setIfInBounds i true)) := by
        rw [hset]
        intro j oj hj hoj e he hb
        unfold upd at hj ⊢
        by_cases hji : j = i
        · subst hji
          rw [ho] at hoj; cases hoj
          split
          · rfl
          · exact hed e he hb
        · rw [if_neg hji] at hj
          split
          · rfl
          · exact hcl j oj hj hoj e he hb
      have hwanted : Region.wanted o (yielded ops tmps') = true := by unfold Region.wanted; rw [hg]
      unfold wpOp
      simp only [ho, hwanted, if_true]
      refine .inl (hstep.2.2 nt B w0 ρ' w' tmps' ds _ Q H' F' ((hf.ext X l1).sub (Nat.le_refl _) m2) fun v' ρ2 w2 r1 r2 r3 => ?_)
      have X2 := X.trans' r3 l1 hstep.1
      rcases hdst with ⟨hd, hD⟩ | ⟨t, hd, hD⟩
      · have hp : (⟨tmps', ds⟩ : Act).put o.dst v' = ⟨tmps', ds⟩ := by rw [hd]; rfl
        rw [hp]
        refine ih _ x' ρ2 tmps' w2 (by omega) (by simpa using hsz) hcl' (hset ▸ g') r2 ?_ X2
        rw [hset, TLs_none hD]
        exact F'.mono r3.1
      · obtain ⟨tmps2, e1, e2⟩ := (F'.mono r3.1).put (dst := some t) (v := v) (T' := toTr ((t, v) :: TLs (Lb listed) D T)) (by
          have : Nat.blt t nt = true := by rw [Nat.blt_eq]; exact (h.dlt _ hD).1
          simp only [putT, this, cond_true, toTr]) r1 ds
        rw [hd, e1]
        refine ih _ x' ρ2 tmps2 w2 (by omega) (by simpa using hsz) hcl' (hset ▸ g') r2 ⟨e2.1, fun u z hz => e2.2 u z ?_⟩ X2
        rw [toTr_get, hset, TLs_set h.nd1 h.nd2 hD hL] at hz
        rw [toTr_get]
        exact hz
  have hLb0 : Lb (Array.replicate ops.size false) = fun _ => false := by
    funext i
    unfold Lb
    simp only [Array.getD_eq_getD_getElem?, Array.getElem?_replicate]
    split <;> rfl
  have hm0 : missing (Array.replicate ops.size false) = ops.size := by
    unfold missing
    rw [Array.size_replicate, hLb0]
    have : (List.range ops.size).countP (fun i => !false) = (List.range ops.size).length := by
      rw [List.countP_eq_length]
      intro i _
      simp
    rw [this, List.length_range]
  have hT0 : TLs (fun _ => false) D T = T := by
    unfold TLs
    simp
  refine main ops.size _ x0 ρ tmps w hm0 Array.size_replicate (by rw [hLb0]; intro i o hh; cases hh) (by rw [hLb0]; exact g0) (hs0 ▸ H) (by rw [hLb0, hT0]; exact F) (by rw [hs0]; exact .refl _ _ _)

/-- The ground with other numbers taken. -/
def SS.upto (s : SS) (n : Nat) : SS := { heap := s.heap, next := n, gl := s.gl }

theorem WX.upto {c : Code} {T T' : TL} {s g : SS} {ex : AExit} {n N : Nat} (h : WX P nt c T s ex T' (g.upto n)) (hN : n ≤ N) : WX P nt c T s ex T' (g.upto N) :=
  ⟨Nat.le_trans h.1 hN, h.2.1, fun B w0 ρ w tmps ds Q' rr H F hf hQ => h.2.2 B w0 ρ w tmps ds Q' rr H F (hf.sub (Nat.le_refl _) hN) fun ρ' tmps' w' M H' F' x K =>
    hQ ρ' tmps' w' M (H'.same rfl fun _ _ _ _ hb => hb) F' (x.mono (Nat.le_refl _) hN) K⟩

/-- A region with many ends, and the code behind it, which has one. -/
theorem W.many (G : Good P) {k id : Nat} {D : List (Nat × Nat × Value)} {T T' : TL} {s g : SS} {σ : Type} {S : σ → SS} {good : (Nat → Bool) → σ → Prop} {N : Nat} {ex : AExit} {c : Code} {Q : AExit → TL → SS → Prop} (hnd : ops.toList.all noDefer = true) (h : Lit P nt ops D T s S good N) {x0 : σ} (g0 : good (fun _ => false) x0) (hs0 : S x0 = s)
    (hgl : g.gl = s.gl) (l : List σ) (hl : ∀ L x, (∀ i, i < ops.size → L i = true) → good L x → x ∈ l) (rest : ∀ L x, (∀ i, i < ops.size → L i = true) → good L x → ∃ n, WX P nt c (D.map (·.2) ++ T) (S x) ex T' (g.upto n)) (hQ : ∀ n, s.next ≤ n → Q ex T' (g.upto n)) :
    W P nt k (.seq (.region id ops true) c) T s Q := by
  obtain ⟨N1, hN0, hN1⟩ := bound_all (l := l) (p := fun x n => (∃ L, (∀ i, i < ops.size → L i = true) ∧ good L x) → WX P nt c (D.map (·.2) ++ T) (S x) ex T' (g.upto n)) (fun x a b hab hx he => (hx he).upto hab) (fun x _ => by
    by_cases he : ∃ L, (∀ i, i < ops.size → L i = true) ∧ good L x
    · obtain ⟨L, h1, h2⟩ := he
      obtain ⟨n, hn⟩ := rest L x h1 h2
      exact ⟨n, fun _ => hn⟩
    · exact ⟨0, fun q => absurd q he⟩) (max N s.next)
  have hnd' : ∀ (i : Nat) (o : Oper), ops[i]? = some o → ∀ c, o.op ≠ .defer c := fun i o ho =>
    noDefer_of (List.all_eq_true.1 hnd o (List.mem_of_getElem? (i := i) (by simpa using ho)))
  refine ⟨ex, T', g.upto N1, hQ N1 (by omega), by show s.next ≤ N1; omega, hgl, fun B w0 ρ w tmps ds Q' rr H F hf hQ' => ?_⟩
  refine wpIn_seq (region_fr G.mixed hnd' fun Q1 hq => h.run g0 hs0 H.drew.rebase F (hf.sub (Nat.le_refl _) (by show N ≤ N1; omega)) fun L x ρ1 tmps1 w1 hall gx H1 F1 x1 => hq _ _ ?_)
  obtain ⟨m1, m2, m3⟩ := h.le _ _ gx
  have hw := hN1 x (hl L x hall gx) ⟨L, hall, gx⟩
  refine hw.2.2 B w1 ρ1 w1 tmps1 ds Q' rr H1.rebase F1 (hf.ext x1 m1) fun ρ2 tmps2 w2 M2 H2 F2 x2 K2 => ?_
  exact hQ' ρ2 tmps2 w2 M2 ((H.drew.join H1).join H2) F2 (x1.trans' x2 m1 hw.1) ⟨K2.1, fun D hD => ⟨Nat.le_trans H1.below.size (K2.2 D hD).1, (K2.2 D hD).2⟩⟩
end

/-! ### A map's literal -/

inductive LS where
  | a
  | b (π : List Nat)
  | c (π : List Nat)

/-- Entries in the order in which they came. -/
def mkE (kv : Nat → Value × Value) : List Nat → Nat → List MapEntry
  | [], _ => []
  | i :: r, n => ⟨(kv i).1, (kv i).2, n⟩ :: mkE kv r (n + 1)

theorem mkE_append (kv : Nat → Value × Value) (i : Nat) : ∀ (l : List Nat) (n : Nat), mkE kv (l ++ [i]) n = mkE kv l n ++ [⟨(kv i).1, (kv i).2, n + l.length⟩]
  | [], n => rfl
  | j :: r, n => by
    simp only [List.cons_append, mkE, mkE_append kv i r, List.length_cons]
    rw [show n + 1 + r.length = n + (r.length + 1) from by omega]

theorem mkE_mem {kv : Nat → Value × Value} {x : MapEntry} : ∀ {l : List Nat} {n : Nat}, x ∈ mkE kv l n → (∃ j ∈ l, x.key = (kv j).1 ∧ x.val = (kv j).2) ∧ n ≤ x.born ∧ x.born < n + l.length
  | [], n, h => by simp [mkE] at h
  | j :: r, n, h => by
    simp only [mkE, List.mem_cons] at h
    rcases h with rfl | h
    · exact ⟨⟨j, by simp, rfl, rfl⟩, Nat.le_refl _, by simp only [List.length_cons]; omega⟩
    · obtain ⟨⟨i, h1, h2⟩, h3, h4⟩ := mkE_mem h
      exact ⟨⟨i, by simp [h1], h2⟩, by omega, by simp only [List.length_cons]; omega⟩

theorem mkE_born {kv : Nat → Value × Value} : ∀ {l : List Nat} {n : Nat}, ((mkE kv l n).map (·.born)).Nodup
  | [], n => by simp [mkE]
  | j :: r, n => by
    simp only [mkE, List.map_cons, List.nodup_cons]
    refine ⟨fun h => ?_, mkE_born⟩
    obtain ⟨x, hx, e⟩ := List.mem_map.1 h
    have := (mkE_mem hx).2.1
    omega

def litS (kv : Nat → Value × Value) (s : SS) : LS → SS
  | .a => s
  | .b π => { heap := (s.next, some (.map (mkE kv π 0) π.length)) :: s.heap, next := s.next + 1, gl := s.gl }
  | .c π => { heap := (s.next + 1, some (.miter s.next π.length [] π.length)) :: (s.next, some (.map (mkE kv π 0) π.length)) :: s.heap, next := s.next + 1 + 1, gl := s.gl }

structure LitD where
  mt : TypeId
  tm : Nat
  t2 : Nat
  t3 : Nat
  i0 : Nat
  im : Nat
  ir : Nat
  I : List Nat
  Dp : List (Nat × Nat × Value)

def litG (z : LitD) (L : Nat → Bool) : LS → Prop
  | .a => L z.i0 = false ∧ L z.ir = false ∧ ∀ i ∈ z.I, L i = false
  | .b π => L z.i0 = true ∧ L z.ir = false ∧ π.Perm (z.I.filter L)
  | .c π => L z.i0 = true ∧ L z.ir = true ∧ π.Perm z.I

def LitD.D (z : LitD) (n : Nat) : List (Nat × Nat × Value) := (z.i0, z.tm, .map (some n)) :: (z.im, z.t2, .map (some n)) :: (z.ir, z.t3, .pointer (some ⟨n + 1, 0, none⟩)) :: z.Dp

def keyV (Dp : List (Nat × Nat × Value)) : Operand → Value
  | .const k => k
  | .tmp t => match look (Dp.map (·.2)) t with
    | some v => v
    | none => .bool false
  | _ => .bool false

def LitD.kv (z : LitD) (ops : Array Oper) (i : Nat) : Value × Value :=
  match ops[i]? with
  | none => (.bool false, .bool false)
  | some o => match o.op with
    | .insert _ _ k (.const v) => (keyV z.Dp k, v)
    | _ => (.bool false, .bool false)

def onE (o : Oper) (j : Nat) : Bool := o.after.toList.any fun e => Region.binds .any e && Nat.beq e.on j
def dep (Dp : List (Nat × Nat × Value)) (o : Oper) (t : Nat) : Bool := o.after.toList.any fun e => Region.binds .any e && (match look Dp e.on with
  | some (t', _) => Nat.beq t' t
  | none => false)
def isD (d : Option Tmp) (t : Nat) : Bool :=
  match d with
  | some x => Nat.beq x t
  | none => false
def LitD.pureOk (z : LitD) (o : Oper) (i : Nat) : Bool :=
  !(z.I.contains i) && !(Nat.beq i z.i0) && !(Nat.beq i z.ir) && (match look z.Dp i with
    | some (t, _) => isD o.dst t
    | none => false)

def LitD.chk (z : LitD) (o : Oper) (i : Nat) : Bool :=
  o.guard.isNone && (match o.op with
  | .makeMap t none => Nat.beq i z.i0 && Nat.beq t z.mt && isD o.dst z.tm
  | .insert t (.tmp m) key (.const v) => z.I.contains i && Nat.beq t z.mt && Nat.beq m z.tm && o.dst.isNone && onE o z.i0 && plainV v && okC key && (match key with
    | .const _ => true
    | .tmp t => dep z.Dp o t
    | _ => false)
  | .range t (.tmp x) => Nat.beq i z.ir && Nat.beq t z.mt && Nat.beq x z.t2 && isD o.dst z.t3 && onE o z.im
  | .move (.tmp x) => bif Nat.beq i z.im then Nat.beq x z.tm && isD o.dst z.t2 && onE o z.i0 && !(z.I.contains i) && !(Nat.beq i z.i0) && !(Nat.beq i z.ir) else z.pureOk o i
  | _ => z.pureOk o i)

def chkAll (z : LitD) : List Oper → Nat → Bool
  | [], _ => true
  | o :: r, i => z.chk o i && chkAll z r (i + 1)

def LitD.ok (z : LitD) (nt : Nat) (ops : Array Oper) : Bool :=
  chkAll z ops.toList 0 && allEdges ops.toList 0 && decide (z.i0 :: z.im :: z.ir :: z.Dp.map (·.1)).Nodup && decide (z.tm :: z.t2 :: z.t3 :: z.Dp.map (·.2.1)).Nodup
    && ((z.i0, z.tm) :: (z.im, z.t2) :: (z.ir, z.t3) :: z.Dp.map fun d => (d.1, d.2.1)).all (fun d => Nat.blt d.2 nt && Nat.blt d.1 ops.size)
    && decide z.I.Nodup && (z.I.all fun i => !((z.i0 :: z.im :: z.ir :: z.Dp.map (·.1)).contains i) && isStr (z.kv ops i).1) && decide (z.I.map fun i => keyOf (z.kv ops i).1).Nodup
    && (match ops[z.im]? with
      | some om => onE om z.i0 && z.I.all (onE om)
      | none => false)

theorem chkAll_at {z : LitD} : ∀ {l : List Oper} {k : Nat}, chkAll z l k = true → ∀ (a : Nat) o, l[a]? = some o → z.chk o (k + a) = true
  | [], k, h, a, o, ho => by simp at ho
  | x :: r, k, h, a, o, ho => by
    simp only [chkAll, Bool.and_eq_true] at h
    cases a with
    | zero => simp at ho; subst ho; exact h.1
    | succ a =>
      have := chkAll_at h.2 a o (by simpa using ho)
      rwa [show k + (a + 1) = k + 1 + a from by omega]

theorem onE_spec {o : Oper} {j : Nat} {L : Nat → Bool} (h : onE o j = true) (hed : ∀ e ∈ o.after.toList, Region.binds .any e = true → L e.on = true) : L j = true := by
  unfold onE at h
  obtain ⟨e, he, h⟩ := List.any_eq_true.1 h
  simp only [Bool.and_eq_true, Nat.beq_eq] at h
  exact h.2 ▸ hed e he h.1

theorem look_mem {α : Type} : ∀ {D : List (Nat × α)} {i : Nat} {x : α}, look D i = some x → (i, x) ∈ D
  | [], i, x, h => by cases h
  | (k, v) :: r, i, x, h => by
    simp only [look] at h
    rcases beq_cases k i with ⟨e, hb⟩ | ⟨e, hb⟩
    · simp only [hb, cond_true] at h; cases h; subst e; exact List.mem_cons_self ..
    · simp only [hb, cond_false] at h; exact List.mem_cons_of_mem _ (look_mem h)

/-- Lists of so many of I. -/
def prods (I : List Nat) : Nat → List (List Nat)
  | 0 => [[]]
  | n + 1 => (prods I n).flatMap fun r => I.map (· :: r)
theorem prods_mem {I : List Nat} : ∀ {n : Nat} {l : List Nat}, l.length = n → (∀ a ∈ l, a ∈ I) → l ∈ prods I n
  | 0, l, h, _ => by cases l with
    | nil => simp [prods]
    | cons a r => simp at h
  | n + 1, l, h, hI => by cases l with
    | nil => simp at h
    | cons a r =>
      simp only [prods, List.mem_flatMap, List.mem_map]
      exact ⟨r, prods_mem (by simpa using h) (fun b hb => hI b (by simp [hb])), a, hI a (by simp), rfl⟩

theorem filter_upd {I : List Nat} {L : Nat → Bool} {i : Nat} (h : i ∉ I) : I.filter (upd L i) = I.filter L :=
  List.filter_congr fun j hj => by
    have : j ≠ i := fun e => h (e ▸ hj)
    simp [upd, this]
theorem filter_upd_in {L : Nat → Bool} {i : Nat} (hL : L i = false) : ∀ {I : List Nat}, I.Nodup → i ∈ I → (i :: I.filter L).Perm (I.filter (upd L i))
  | [], _, h => by simp at h
  | j :: I, hn, h => by
    simp only [List.nodup_cons] at hn
    rcases List.mem_cons.1 h with rfl | h
    · have h1 : upd L i i = true := by simp [upd]
      simp only [List.filter_cons, hL, h1, Bool.false_eq_true, if_false, if_true]
      rw [filter_upd hn.1]
    · have hne : j ≠ i := fun e => hn.1 (e ▸ h)
      have h1 : upd L i j = L j := by simp [upd, hne]
      have ih := filter_upd_in hL hn.2 h
      simp only [List.filter_cons, h1]
      cases L j with
      | false => simpa using ih
      | true =>
        simp only [if_true]
        exact (List.Perm.swap _ _ _).trans (ih.cons _)

section
variable {P : Program} {nt : Nat} {ops : Array Oper} {z : LitD} {T : TL} {s : SS} {kt et : TypeId}

/-- What an operation that turns nothing is asked for. -/
def PureOk (P : Program) (ops : Array Oper) (Dp : List (Nat × Nat × Value)) (gl : Nat) : Prop :=
  ∀ i o t v, ops[i]? = some o → look Dp i = some (t, v) → ∀ (T : TL) (s : SS), s.gl = gl → (∀ e ∈ o.after.toList, Region.binds .any e = true → ∀ t' v', look Dp e.on = some (t', v') → look T t' = some v') → StepX P o T s v s

/-- .. in a state of which A is known. -/
def PureOkA (P : Program) (ops : Array Oper) (z : LitD) (T0 : TL) (A : SS → Prop) : Prop :=
  ∀ i o t v, ops[i]? = some o → look z.Dp i = some (t, v) → ∀ (T : TL) (s : SS), A s → (∀ u, u ∉ z.tm :: z.t2 :: z.t3 :: z.Dp.map (·.2.1) → look T u = look T0 u) → (∀ e ∈ o.after.toList, Region.binds .any e = true → ∀ t' v', look z.Dp e.on = some (t', v') → look T t' = some v') → StepX P o T s v s
/-- .. and told of the slots that lay there ahead. -/
def PureOkT (P : Program) (ops : Array Oper) (z : LitD) (T0 : TL) (gl : Nat) : Prop :=
  ∀ i o t v, ops[i]? = some o → look z.Dp i = some (t, v) → ∀ (T : TL) (s : SS), s.gl = gl → (∀ u, u ∉ z.tm :: z.t2 :: z.t3 :: z.Dp.map (·.2.1) → look T u = look T0 u) → (∀ e ∈ o.after.toList, Region.binds .any e = true → ∀ t' v', look z.Dp e.on = some (t', v') → look T t' = some v') → StepX P o T s v s
theorem PureOk.toT {T0 : TL} {gl : Nat} (h : PureOk P ops z.Dp gl) : PureOkT P ops z T0 gl := fun i o t v ho hl T s hg _ hd => h i o t v ho hl T s hg hd
theorem TLs_out {L : Nat → Bool} {D : List (Nat × Nat × Value)} {T0 : TL} {u : Nat} (h : u ∉ D.map (·.2.1)) : look (TLs L D T0) u = look T0 u := by
  unfold TLs
  rw [look_app, look_none (fun q => by
    simp only [List.map_map, List.mem_map, List.mem_filter, Function.comp] at q
    obtain ⟨d, ⟨hd, _⟩, rfl⟩ := q
    exact h (List.mem_map.2 ⟨d, hd, rfl⟩))]

theorem no_caller : CallerOk P fun _ _ _ => none := fun f args s v s' h => by cases h

theorem isD_eq {d : Option Tmp} {t : Nat} (h : isD d t = true) : d = some t := by
  cases d with
  | none => cases h
  | some x => simp only [isD, Nat.beq_eq] at h; rw [h]

theorem isNone_eq {α : Type} {g : Option α} (h : g.isNone = true) : g = none := by cases g <;> simp at h ⊢

theorem lit_okA (G : Good P) (hok : z.ok nt ops = true) (hm : P.underlying z.mt = some (.map kt et)) (hk : P.underlying kt = some .string) {A : SS → Prop} (hA : ∀ x, A (litS (z.kv ops) s x)) (hp : PureOkA P ops z T A) : Lit P nt ops (z.D s.next) T s (litS (z.kv ops) s) (litG z) (s.next + 1 + 1) := by
  unfold LitD.ok at hok
  simp only [Bool.and_eq_true, decide_eq_true_eq] at hok
  obtain ⟨⟨⟨⟨⟨⟨⟨⟨hchk, hedg⟩, hn1⟩, hn2⟩, hall⟩, hI⟩, hIn⟩, hkd⟩, him⟩ := hok
  have hIn' : ∀ i ∈ z.I, i ∉ (z.i0 :: z.im :: z.ir :: z.Dp.map (·.1)) ∧ isStr (z.kv ops i).1 = true := by
    intro i hi
    have := List.all_eq_true.1 hIn i hi
    simp only [Bool.and_eq_true, Bool.not_eq_true', List.contains_eq_mem, decide_eq_false_iff_not] at this
    exact this
  have hne : ∀ i ∈ z.I, ∀ j ∈ z.I, i ≠ j → (z.kv ops i).1 ≠ (z.kv ops j).1 := by
    intro i hi j hj hij e
    have inj : ∀ (l : List Nat), (l.map fun i => keyOf (z.kv ops i).1).Nodup → i ∈ l → j ∈ l → False := by
      intro l
      induction l with
      | nil => intro _ h; simp at h
      | cons a r ih =>
        intro hn h1 h2
        simp only [List.map_cons, List.nodup_cons] at hn
        rcases List.mem_cons.1 h1 with q1 | q1
        · rcases List.mem_cons.1 h2 with q2 | q2
          · exact hij (q1.trans q2.symm)
          · exact hn.1 (List.mem_map.2 ⟨j, q2, by simp only [← q1, e]⟩)
        · rcases List.mem_cons.1 h2 with q2 | q2
          · exact hn.1 (List.mem_map.2 ⟨i, q1, by simp only [← q2, e]⟩)
          · exact ih hn.2 q1 q2
    exact inj _ hkd hi hj
  have hn2D : ((z.D s.next).map (·.2.1)).Nodup := hn2
  have hn1D : ((z.D s.next).map (·.1)).Nodup := hn1
  refine ⟨hedg, hn1D, hn2D, ?_, ?_, ?_⟩
  · intro d hd
    have key : (d.1, d.2.1) ∈ ((z.i0, z.tm) :: (z.im, z.t2) :: (z.ir, z.t3) :: z.Dp.map fun d => (d.1, d.2.1)) := by
      simp only [LitD.D, List.mem_cons] at hd
      rcases hd with rfl | rfl | rfl | hd
      · simp
      · simp
      · simp
      · exact List.mem_cons_of_mem _ (List.mem_cons_of_mem _ (List.mem_cons_of_mem _ (List.mem_map.2 ⟨d, hd, rfl⟩)))
    have := List.all_eq_true.1 hall _ key
    simp only [Bool.and_eq_true, Nat.blt_eq] at this
    exact this
  · intro L x g
    cases x with
    | a => exact ⟨Nat.le_refl _, by show s.next ≤ _; omega, rfl⟩
    | b π => exact ⟨by show s.next ≤ s.next + 1; omega, by show s.next + 1 ≤ _; omega, rfl⟩
    | c π => exact ⟨by show s.next ≤ s.next + 1 + 1; omega, Nat.le_refl _, rfl⟩
  · intro L x i o ho g hL hcl hed
    have hc := chkAll_at hchk i o (by simpa using ho)
    rw [Nat.zero_add] at hc
    unfold LitD.chk at hc
    simp only [Bool.and_eq_true] at hc
    obtain ⟨hgd, hc⟩ := hc
    refine ⟨isNone_eq hgd, ?_⟩
    -- what turns nothing
    have still : ∀ {v : Value}, i ∉ z.I → i ≠ z.i0 → i ≠ z.ir → litG z (upd L i) x := by
      intro v h1 h2 h3
      have e0 : upd L i z.i0 = L z.i0 := by simp [upd, Ne.symm h2]
      have e1 : upd L i z.ir = L z.ir := by simp [upd, Ne.symm h3]
      cases x with
      | a => exact ⟨e0 ▸ g.1, e1 ▸ g.2.1, fun j hj => by
          have : j ≠ i := fun e => h1 (e ▸ hj)
          have := g.2.2 j hj
          simpa [upd, ‹j ≠ i›] using this⟩
      | b π => exact ⟨e0 ▸ g.1, e1 ▸ g.2.1, by rw [filter_upd h1]; exact g.2.2⟩
      | c π => exact ⟨e0 ▸ g.1, e1 ▸ g.2.1, g.2.2⟩
    have pure : z.pureOk o i = true → ∃ v x', litG z (upd L i) x' ∧ StepX P o (TLs L (z.D s.next) T) (litS (z.kv ops) s x) v (litS (z.kv ops) s x') ∧ ((o.dst = none ∧ ∀ d ∈ z.D s.next, d.1 ≠ i) ∨ ∃ t, o.dst = some t ∧ (i, t, v) ∈ z.D s.next) := by
      intro h
      unfold LitD.pureOk at h
      simp only [Bool.and_eq_true, Bool.not_eq_true', List.contains_eq_mem, decide_eq_false_iff_not] at h
      obtain ⟨⟨⟨h1, h2⟩, h3⟩, h4⟩ := h
      cases hl : look z.Dp i with
      | none => rw [hl] at h4; cases h4
      | some tv =>
        obtain ⟨t, v⟩ := tv
        rw [hl] at h4
        refine ⟨v, x, still (v := v) h1 (fun e => by rw [e, Nat.beq_refl] at h2; cases h2) (fun e => by rw [e, Nat.beq_refl] at h3; cases h3), ?_, .inr ⟨t, isD_eq h4, ?_⟩⟩
        · refine hp i o t v ho hl _ _ (hA x) (fun u hu => TLs_out hu) fun e he hb t' v' hl' => ?_
          exact TLs_in hn2D (by simp only [LitD.D]; exact List.mem_cons_of_mem _ (List.mem_cons_of_mem _ (List.mem_cons_of_mem _ (look_mem hl')))) (hed e he hb)
        · simp only [LitD.D]
          exact List.mem_cons_of_mem _ (List.mem_cons_of_mem _ (List.mem_cons_of_mem _ (look_mem hl)))
    split at hc
    · -- the map is made
      rename_i t hop
      simp only [Bool.and_eq_true, Nat.beq_eq] at hc
      obtain ⟨⟨rfl, rfl⟩, hd⟩ := hc
      cases x with
      | b π => rw [g.1] at hL; cases hL
      | c π => rw [g.1] at hL; cases hL
      | a =>
        have h0I : z.i0 ∉ z.I := fun h => (hIn' _ h).1 (List.mem_cons_self ..)
        have hr : z.ir ≠ z.i0 := fun e => by
          have := (List.nodup_cons.1 hn1).1
          rw [← e] at this
          exact this (by simp)
        refine ⟨.map (some s.next), .b [], ⟨by simp [upd], by simp [upd, hr, g.2.1], ?_⟩, StepX.of_fin G ⟨fun _ _ _ => none, no_caller, ?_⟩, .inr ⟨z.tm, isD_eq hd, by simp [LitD.D]⟩⟩
        · rw [filter_upd h0I, List.filter_eq_nil_iff.2 fun j hj => by rw [g.2.2 j hj]; simp]
        · rw [hop]; rfl
    · -- an entry
      rename_i t m key v hop
      simp only [Bool.and_eq_true, Nat.beq_eq, List.contains_eq_mem, decide_eq_true_eq] at hc
      obtain ⟨⟨⟨⟨⟨⟨⟨hiI, rfl⟩, rfl⟩, hd⟩, he0⟩, hpv⟩, hck⟩, hkey⟩ := hc
      have hkv : z.kv ops i = (keyV z.Dp key, v) := by
        unfold LitD.kv
        rw [ho]
        simp only [hop]
      cases x with
      | a => have := onE_spec he0 hed; rw [g.1] at this; cases this
      | c π =>
        exfalso
        cases hmm : ops[z.im]? with
        | none => rw [hmm] at him; cases him
        | some om =>
          rw [hmm] at him
          simp only [Bool.and_eq_true] at him
          -- the range is listed, so is the move, so are all entries
          have hir := g.2.1
          have : ∃ orr, ops[z.ir]? = some orr ∧ onE orr z.im = true := by
            have hlt : z.ir < ops.size := by
              have := List.all_eq_true.1 hall (z.ir, z.t3) (by simp)
              simp only [Bool.and_eq_true, Nat.blt_eq] at this
              exact this.2
            refine ⟨ops[z.ir], Array.getElem?_eq_getElem hlt, ?_⟩
            have hcr := chkAll_at hchk z.ir ops[z.ir] (by simp [hlt])
            rw [Nat.zero_add] at hcr
            unfold LitD.chk at hcr
            simp only [Bool.and_eq_true] at hcr
            have hcr := hcr.2
            have hpn : ∀ o', z.pureOk o' z.ir = true → False := by
              intro o' h
              unfold LitD.pureOk at h
              simp [Nat.beq_refl] at h
            have hr0 : z.ir ≠ z.i0 := fun e => by
              have := (List.nodup_cons.1 hn1).1
              rw [← e] at this
              exact this (by simp)
            split at hcr
            · simp only [Bool.and_eq_true, Nat.beq_eq] at hcr
              exact absurd hcr.1.1 hr0
            · simp only [Bool.and_eq_true, List.contains_eq_mem, decide_eq_true_eq] at hcr
              exact absurd (by simp) (hIn' _ hcr.1.1.1.1.1.1.1).1
            · simp only [Bool.and_eq_true] at hcr
              exact hcr.2
            · simp only [Bool.cond_eq_ite] at hcr
              split at hcr
              · simp [Nat.beq_refl] at hcr
              · exact (hpn _ hcr).elim
            · exact (hpn _ hcr).elim
          obtain ⟨orr, hor, hoe⟩ := this
          have hLm := onE_spec hoe (hcl _ _ hir hor)
          have := onE_spec (List.all_eq_true.1 him.2 i hiI) (hcl _ _ hLm hmm)
          rw [this] at hL; cases hL
      | b π =>
        have hm0 := onE_spec he0 hed
        have hmem : ∀ j ∈ π, j ∈ z.I ∧ L j = true := fun j hj => by
          have := (g.2.2.mem_iff (a := j)).1 hj
          simpa using this
        have hslot : look (TLs L (z.D s.next) T) z.tm = some (.map (some s.next)) := TLs_in hn2D (by simp [LitD.D]) hm0
        have hk1 : opd (TLs L (z.D s.next) T) (litS (z.kv ops) s (.b π)).gl key = some (keyV z.Dp key) := by
          cases key with
          | const k => rfl
          | tmp t =>
            simp only [dep] at hkey
            obtain ⟨e, he, h⟩ := List.any_eq_true.1 hkey
            simp only [Bool.and_eq_true] at h
            obtain ⟨hb, h⟩ := h
            cases hl : look z.Dp e.on with
            | none => rw [hl] at h; cases h
            | some tv =>
              obtain ⟨t', v'⟩ := tv
              rw [hl] at h
              simp only [Nat.beq_eq] at h
              subst h
              have hDn : (z.Dp.map (·.2.1)).Nodup := (List.nodup_cons.1 (List.nodup_cons.1 (List.nodup_cons.1 hn2).2).2).2
              have h1 : look (TLs (fun _ => true) z.Dp []) t' = some v' := TLs_in hDn (look_mem hl) rfl
              have h2 : TLs (fun _ => true) z.Dp [] = z.Dp.map (·.2) := by unfold TLs; rw [List.filter_eq_self.2 (fun _ _ => rfl), List.append_nil]
              rw [h2] at h1
              show look _ t' = some _
              rw [TLs_in hn2D (List.mem_cons_of_mem _ (List.mem_cons_of_mem _ (List.mem_cons_of_mem _ (look_mem hl)))) (hed e he hb)]
              simp only [keyV, h1]
          | global g => simp at hkey
          | func f => simp at hkey
        have hks : MapKept.IsKey .string (keyV z.Dp key) := by
          have := (hIn' i hiI).2
          rw [hkv] at this
          cases hkk : keyV z.Dp key <;> rw [hkk] at this <;> first | trivial | cases this
        obtain ⟨v1, s1, ⟨rfl, rfl⟩, hop2⟩ := insert_W (P := P) (K := fun v' s' => v' = .tuple #[] ∧ s' = { litS (z.kv ops) s (.b π) with heap := (s.next, some (.map (mkE (z.kv ops) π 0 ++ [⟨keyV z.Dp key, v, π.length⟩]) (π.length + 1))) :: (litS (z.kv ops) s (.b π)).heap })
          (T := TLs L (z.D s.next) T) (s := litS (z.kv ops) s (.b π)) (t := z.mt) (m := .tmp z.tm) (key := key) (val := .const v) (id := s.next) (clock := π.length) (es := mkE (z.kv ops) π 0) (kv := keyV z.Dp key) (v := v)
          (by rw [Bool.and_eq_true, Bool.and_eq_true]; exact ⟨⟨rfl, hck⟩, hpv⟩) hm hk hslot hk1 rfl hks (by simp [litS, lookH, Nat.beq_refl]) (fun x hx => by
            obtain ⟨⟨j, hj, e, -⟩, -⟩ := mkE_mem hx
            have := (hIn' j (hmem j hj).1).2
            rw [← e] at this
            cases hkk : x.key <;> rw [hkk] at this <;> first | trivial | cases this) (fun x hx => by
            obtain ⟨⟨j, hj, e, -⟩, -⟩ := mkE_mem hx
            have hij : j ≠ i := fun e => by have := (hmem j hj).2; rw [e, hL] at this; cases this
            have := hne j (hmem j hj).1 i hiI hij
            rw [hkv] at this
            rw [e]; exact this) ⟨rfl, rfl⟩
        have hii := (hIn' i hiI).1
        have e0 : i ≠ z.i0 := fun e => hii (by simp [e])
        have e1 : i ≠ z.ir := fun e => hii (by simp [e])
        refine ⟨.tuple #[], .b (π ++ [i]), ⟨by simp [upd, Ne.symm e0, g.1], by simp [upd, Ne.symm e1, g.2.1], ?_⟩, ?_, .inl ⟨isNone_eq hd, ?_⟩⟩
        · exact (List.perm_append_comm (l₁ := π) (l₂ := [i])).trans (((g.2.2).cons i).trans (filter_upd_in hL hI hiI))
        · have hst := StepX.of_op (P := P) (o := o) (T := TLs L (z.D s.next) T) (s := litS (z.kv ops) s (.b π)) (by rw [hop]; exact hop2)
          refine hst.to rfl rfl fun id b hb => ?_
          simp only [litS, lookH, mkE_append, hkv, Nat.zero_add, List.length_append, List.length_cons, List.length_nil] at hb ⊢
          rcases beq_cases s.next id with ⟨_, q⟩ | ⟨_, q⟩
          · simp only [q, cond_true] at hb ⊢; exact hb
          · simp only [q, cond_false] at hb ⊢; exact hb
        · intro d hd e
          refine hii ?_
          rw [← e]
          simp only [LitD.D, List.mem_cons] at hd
          rcases hd with rfl | rfl | rfl | hd
          · simp
          · simp
          · simp
          · exact List.mem_cons_of_mem _ (List.mem_cons_of_mem _ (List.mem_cons_of_mem _ (List.mem_map.2 ⟨d, hd, rfl⟩)))
    · -- the way through it begins
      rename_i t x1 hop
      simp only [Bool.and_eq_true, Nat.beq_eq] at hc
      obtain ⟨⟨⟨⟨rfl, rfl⟩, rfl⟩, hd⟩, hem⟩ := hc
      have hLm := onE_spec hem hed
      cases hmm : ops[z.im]? with
      | none => rw [hmm] at him; cases him
      | some om =>
        rw [hmm] at him
        simp only [Bool.and_eq_true] at him
        have hcm := hcl _ _ hLm hmm
        have h0 := onE_spec him.1 hcm
        have hIa : ∀ j ∈ z.I, L j = true := fun j hj => onE_spec (List.all_eq_true.1 him.2 j hj) hcm
        cases x with
        | a => rw [g.1] at h0; cases h0
        | c π => rw [g.2.1] at hL; cases hL
        | b π =>
          have hslot : look (TLs L (z.D s.next) T) z.t2 = some (.map (some s.next)) := TLs_in hn2D (by simp [LitD.D]) hLm
          obtain ⟨v1, s1, ⟨rfl, rfl⟩, hop2⟩ := range_W (P := P) (K := fun v' s' => v' = .pointer (some ⟨s.next + 1, 0, none⟩) ∧ s' = litS (z.kv ops) s (.c π))
            (T := TLs L (z.D s.next) T) (s := litS (z.kv ops) s (.b π)) (t := z.mt) (x := .tmp z.t2) (id := s.next) (clock := π.length) (es := mkE (z.kv ops) π 0) rfl hm hslot (by simp [litS, lookH, Nat.beq_refl]) ⟨rfl, rfl⟩
          refine ⟨_, .c π, ⟨?_, by simp [upd], ?_⟩, StepX.of_op (by rw [hop]; exact hop2), .inr ⟨z.t3, isD_eq hd, by simp [LitD.D]⟩⟩
          · unfold upd; split; rfl; exact h0
          · have := g.2.2
            rwa [List.filter_eq_self.2 hIa] at this
    · -- a move
      rename_i x1 hop
      simp only [Bool.cond_eq_ite] at hc
      split at hc
      · rename_i hi
        simp only [Nat.beq_eq] at hi
        subst hi
        simp only [Bool.and_eq_true, Nat.beq_eq, Bool.not_eq_true', List.contains_eq_mem, decide_eq_false_iff_not] at hc
        obtain ⟨⟨⟨⟨⟨rfl, hd⟩, he0⟩, h1⟩, h2⟩, h3⟩ := hc
        have hm0 := onE_spec he0 hed
        have hslot : look (TLs L (z.D s.next) T) z.tm = some (.map (some s.next)) := TLs_in hn2D (by simp [LitD.D]) hm0
        refine ⟨.map (some s.next), x, still (v := .bool false) h1 (fun e => by rw [e, Nat.beq_refl] at h2; cases h2) (fun e => by rw [e, Nat.beq_refl] at h3; cases h3), StepX.of_fin G ⟨fun _ _ _ => none, no_caller, ?_⟩, .inr ⟨z.t2, isD_eq hd, by simp [LitD.D]⟩⟩
        rw [hop]
        simp only [aOp, operand, toTr_get, hslot, Option.map_some, fin]
      · exact pure hc
    · exact pure hc
end

section
variable {P : Program} {nt : Nat} {ops : Array Oper} {z : LitD} {T T' : TL} {s s' g : SS} {kt et : TypeId} {c : Code} {ex : AExit}

theorem WX.over {T3 : TL} {s3 : SS} {k : Nat} (h : WX P nt c T s ex T3 s3) (hw : Wk P nt k T3 s3 T' s') (hn : s'.next = s3.next) : WX P nt c T s ex T' s' :=
  ⟨by rw [hn]; exact h.1, hw.2.1.trans h.2.1, fun B w0 ρ w tmps ds Q' rr H F hf hQ => h.2.2 B w0 ρ w tmps ds Q' rr H F (hn ▸ hf) fun ρ' tmps' w' M H' F' x K =>
    let ⟨H2, F2⟩ := hw.2.2 B w0 ρ' w' tmps' H' F'
    hQ ρ' tmps' w' M H2 F2 (hn ▸ x) K⟩

/-- A map's literal whose calls stand among its keys, and the loop behind it. -/
theorem W.litA (G : Good P) {k id : Nat} {Q : AExit → TL → SS → Prop} (hnd : ops.toList.all noDefer = true) (hok : z.ok nt ops = true) (hm : P.underlying z.mt = some (.map kt et)) (hk : P.underlying kt = some .string) {A : SS → Prop} (hA : ∀ x, A (litS (z.kv ops) s x)) (hp : PureOkA P ops z T A) (hgl : g.gl = s.gl)
    (rest : ∀ π : List Nat, π.Perm z.I → W P nt k c ((z.D s.next).map (·.2) ++ T) (litS (z.kv ops) s (.c π)) fun ex' T3 s3 => ex' = ex ∧ Wk P nt k T3 s3 T' (g.upto s3.next)) (hQ : ∀ n, s.next ≤ n → Q ex T' (g.upto n)) : W P nt k (.seq (.region id ops true) c) T s Q := by
  have hlit := lit_okA (T := T) (s := s) G hok hm hk hA hp
  unfold LitD.ok at hok
  simp only [Bool.and_eq_true, decide_eq_true_eq] at hok
  have hall := hok.1.1.1.1.2
  have l0 : z.i0 < ops.size := by
    have := List.all_eq_true.1 hall (z.i0, z.tm) (by simp)
    simp only [Bool.and_eq_true, Nat.blt_eq] at this
    exact this.2
  have lr : z.ir < ops.size := by
    have := List.all_eq_true.1 hall (z.ir, z.t3) (by simp)
    simp only [Bool.and_eq_true, Nat.blt_eq] at this
    exact this.2
  have hend : ∀ (L : Nat → Bool) (x : LS), (∀ i, i < ops.size → L i = true) → litG z L x → ∃ π, x = .c π ∧ π.Perm z.I := by
    intro L x hL hx
    cases x with
    | a => have := hx.1; rw [hL _ l0] at this; cases this
    | b π => have := hx.2.1; rw [hL _ lr] at this; cases this
    | c π => exact ⟨π, rfl, hx.2.2⟩
  have h0I : litG z (fun _ => false) .a := ⟨rfl, rfl, fun _ _ => rfl⟩
  refine W.many G hnd hlit (x0 := .a) h0I rfl hgl ((prods z.I z.I.length).map .c) (fun L x hL hx => ?_) (fun L x hL hx => ?_) hQ
  · obtain ⟨π, rfl, hπ⟩ := hend L x hL hx
    exact List.mem_map.2 ⟨π, prods_mem hπ.length_eq (fun a ha => (hπ.mem_iff).1 ha), rfl⟩
  · obtain ⟨π, rfl, hπ⟩ := hend L x hL hx
    obtain ⟨ex', T3, s3, ⟨rfl, hw⟩, hx3⟩ := rest π hπ
    exact ⟨s3.next, hx3.over hw rfl⟩
theorem W.litT (G : Good P) {k id : Nat} {Q : AExit → TL → SS → Prop} (hnd : ops.toList.all noDefer = true) (hok : z.ok nt ops = true) (hm : P.underlying z.mt = some (.map kt et)) (hk : P.underlying kt = some .string) (hp : PureOkT P ops z T s.gl) (hgl : g.gl = s.gl)
    (rest : ∀ π : List Nat, π.Perm z.I → W P nt k c ((z.D s.next).map (·.2) ++ T) (litS (z.kv ops) s (.c π)) fun ex' T3 s3 => ex' = ex ∧ Wk P nt k T3 s3 T' (g.upto s3.next)) (hQ : ∀ n, s.next ≤ n → Q ex T' (g.upto n)) : W P nt k (.seq (.region id ops true) c) T s Q := W.litA G hnd hok hm hk (A := fun s' => s'.gl = s.gl) (fun x => by cases x <;> rfl) hp hgl rest hQ
theorem W.lit (G : Good P) {k id : Nat} {Q : AExit → TL → SS → Prop} (hnd : ops.toList.all noDefer = true) (hok : z.ok nt ops = true) (hm : P.underlying z.mt = some (.map kt et)) (hk : P.underlying kt = some .string) (hp : PureOk P ops z.Dp s.gl) (hgl : g.gl = s.gl)
    (rest : ∀ π : List Nat, π.Perm z.I → W P nt k c ((z.D s.next).map (·.2) ++ T) (litS (z.kv ops) s (.c π)) fun ex' T3 s3 => ex' = ex ∧ Wk P nt k T3 s3 T' (g.upto s3.next)) (hQ : ∀ n, s.next ≤ n → Q ex T' (g.upto n)) : W P nt k (.seq (.region id ops true) c) T s Q := W.litT G hnd hok hm hk hp.toT hgl rest hQ
end

end Go.Vf

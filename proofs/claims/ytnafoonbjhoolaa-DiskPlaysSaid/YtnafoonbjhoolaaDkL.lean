import Derived.Test.YtnafoonbjhoolaaDkK
import Derived.Test.YtnafoonbjhoolaaDkI
/- What is seen is what waits, laid over what is sure. -/
namespace Go.Vf.S
open Go Go.Vf
attribute [local irreducible] wSeq wRow wp
set_option linter.unusedVariables false
set_option linter.unusedSimpArgs false
set_option maxRecDepth 10000

def Dk.Inv (A : Dk) : Prop := A.now = lays A.ws A.sure

theorem lays_app (ws : List (Nat × List UInt8)) (w : Nat × List UInt8) (b : List UInt8) : lays (ws ++ [w]) b = layF (lays ws b) w.1 w.2 := by
  simp [lays, List.foldl_append]
theorem inv_made (c : Nat) : (Dk.made c).Inv := rfl
theorem inv_wrote {A : Dk} (h : A.Inv) (k : Int) (l : List UInt8) : (A.wrote k l).2.Inv := by
  unfold Dk.wrote
  split
  · exact h
  · split
    · exact h
    · show layF A.now k.toNat l = lays (A.ws ++ [(k.toNat, l)]) A.sure
      rw [lays_app, ← h]
theorem inv_synced {A : Dk} (h : A.Inv) : A.synced.Inv := h
theorem inv_act {A : Dk} (h : A.Inv) (a : AV) : (A.act a).Inv := by
  unfold Dk.act
  split
  · exact inv_wrote h _ _
  · split
    · exact inv_synced h
    · split
      · exact h
      · exact h
theorem inv_acts : ∀ (l : List AV) {A : Dk}, A.Inv → (l.foldl Dk.act A).Inv
  | [], A, h => h
  | a :: l, A, h => inv_acts l (inv_act h a)
theorem inv_runV (l : List AV) : (runV l).Inv := inv_acts _ (inv_made 400)

def Dk.wroteAll (A : Dk) (l : List AV) : Dk := l.foldl (fun A a => (A.wrote a.pos a.bl).2) A
theorem wrote_sure (A : Dk) (k : Int) (l : List UInt8) : (A.wrote k l).2.sure = A.sure ∧ ∀ w ∈ (A.wrote k l).2.ws, w ∈ A.ws ∨ w.2 = l := by
  unfold Dk.wrote
  split
  · exact ⟨rfl, fun w h => .inl h⟩
  · split
    · exact ⟨rfl, fun w h => .inl h⟩
    · refine ⟨rfl, fun w h => ?_⟩
      rcases List.mem_append.1 h with h | h
      · exact .inl h
      · rw [List.mem_singleton.1 h]; exact .inr rfl
theorem wroteAll_is : ∀ (l : List AV) (A : Dk), A.Inv → (A.wroteAll l).Inv ∧ (A.wroteAll l).sure = A.sure ∧ ∀ w ∈ (A.wroteAll l).ws, w ∈ A.ws ∨ ∃ a ∈ l, w.2 = a.bl
  | [], A, h => ⟨h, rfl, fun w hw => .inl hw⟩
  | a :: l, A, h => by
    obtain ⟨h1, h2, h3⟩ := wroteAll_is l (A.wrote a.pos a.bl).2 (inv_wrote h _ _)
    obtain ⟨g1, g2⟩ := wrote_sure A a.pos a.bl
    refine ⟨h1, h2.trans g1, fun w hw => ?_⟩
    rcases h3 w hw with q | ⟨x, hx, q⟩
    · rcases g2 w q with r | r
      · exact .inl r
      · exact .inr ⟨a, List.mem_cons_self .., r⟩
    · exact .inr ⟨x, List.mem_cons_of_mem _ hx, q⟩
theorem wroteAll_take {A : Dk} {l : List AV} {i : Nat} (h : i < l.length) : A.wroteAll (l.take (i + 1)) = ((A.wroteAll (l.take i)).wrote l[i].pos l[i].bl).2 := by
  unfold Dk.wroteAll
  rw [List.take_add_one, List.foldl_append, List.getElem?_eq_getElem h]
  rfl

theorem cutW_all {ws : List (Nat × List UInt8)} (h : ∀ w ∈ ws, w.2.length ≤ 40) : cutW ws (List.replicate ws.length 40) = ws := by
  refine List.ext_getElem? fun i => ?_
  simp only [cutW, List.getElem?_mapIdx]
  cases hi : ws[i]? with
  | none => rfl
  | some w =>
    have hlt := (List.getElem?_eq_some_iff.1 hi).1
    have := h w (List.mem_of_getElem? hi)
    rw [List.getD, List.getElem?_replicate, if_pos hlt]
    simp only [Option.map_some, Option.getD_some]
    rw [List.take_of_length_le]
    exact this
theorem cutW_none : ∀ {ws : List (Nat × List UInt8)} {b : List UInt8} (n : Nat), lays (cutW ws (List.replicate n 0)) b = b := by
  intro ws b n
  have : ∀ w ∈ cutW ws (List.replicate n 0), w.2 = [] := by
    intro w hw
    obtain ⟨i, hi⟩ := List.getElem?_of_mem hw
    simp only [cutW, List.getElem?_mapIdx] at hi
    cases hx : ws[i]? with
    | none => rw [hx] at hi; cases hi
    | some x =>
      rw [hx] at hi
      cases hi
      have e : (List.replicate n (0 : Int)).getD i 0 = 0 := by
        rw [List.getD, List.getElem?_replicate]
        split <;> rfl
      show x.2.take (max ((List.replicate n (0 : Int)).getD i 0) 0).toNat = []
      rw [e]
      rfl
  generalize cutW ws (List.replicate n 0) = l at this
  induction l generalizing b with
  | nil => rfl
  | cons w l ih =>
    show lays l (layF b w.1 w.2) = b
    rw [this w (List.mem_cons_self ..)]
    have e : layF b w.1 [] = b := by unfold layF; rw [if_pos rfl]
    rw [e]
    exact ih fun x hx => this x (List.mem_cons_of_mem _ hx)

theorem rdi_row {s : SS} {W : Option Addr} {cw n : Nat} {z : Int} (h : OwnR tI s W cw n (List.replicate n (.int .i64 z))) : RdI s W n (List.replicate n z) := by
  cases W with
  | none =>
    obtain ⟨_, rfl, _⟩ := h
    exact ⟨rfl, rfl⟩
  | some a =>
    obtain ⟨b, off, sp⟩ := a
    obtain ⟨rfl, rfl, h3, g, h4, h5⟩ := h
    refine ⟨by simp, rfl, h3, _, _, _, h4, fun i hi => ?_⟩
    rw [Nat.zero_add, List.getElem?_replicate, if_pos hi, List.getD, List.getElem?_replicate, if_pos hi]
    rfl
theorem repeat_int (z : Int) : ∀ n : Nat, repeatL n [.int .i64 z] = List.replicate n (.int .i64 z)
  | 0 => rfl
  | n + 1 => by
    have := repeat_int z n
    show [.int .i64 z] ++ repeatL n [.int .i64 z] = _
    rw [this, List.replicate_succ]
    rfl

theorem InA.chg {s s' : SS} {lb : Option Addr} {l : List AV} {Z : List Nat} (h : InA s lb l) (c : Chg s s' Z) (hz : ∀ id c t g, lookH s.heap id = some (.cells c t g true) → id ∉ Z) : InA s' lb l := by
  refine ⟨?_, fun a ha => (h.2.1 a ha).chg c (fun id q => let ⟨_, _, _, e⟩ := (h.2.1 a ha).ro id q; hz _ _ _ _ e), h.2.2⟩
  have h1 := h.1
  cases lb with
  | none => exact h1
  | some a =>
    obtain ⟨b, off, sp⟩ := a
    obtain ⟨q1, q2, q3, q4⟩ := h1
    exact ⟨q1, q2, Nat.lt_of_lt_of_le q3 c.next, c.blk _ _ q3 (hz _ _ _ _ q4) q4⟩
theorem DAt.inA {s s' : SS} {d : Nat} {A : Dk} {B B' : Bs} (h : DAt s d A B) (st : Step d s B s' B') {lb : Option Addr} {l : List AV} (hl : InA s lb l) : InA s' lb l :=
  hl.chg st.chg fun id c t g e r => h.footR e (foot_whole r)

/-- A row of calls of one's own, behind what a disk's call changes. -/
theorem DAt.acts {s s' : SS} {d : Nat} {A : Dk} {B B' : Bs} (h : DAt s d A B) (st : Step d s B s' B') {ob : Option Addr} {fw : List AV} (ho : OwnR tA s ob 0 fw.length (aCells fw)) (ha : ∀ a ∈ fw, ActOk s a) : OwnR tA s' ob 0 fw.length (aCells fw) ∧ ∀ a ∈ fw, ActOk s' a := by
  refine ⟨ho.chg st.chg fun id q r => ?_, fun a hx => (ha a hx).chg st.chg fun id q r => ?_⟩
  · obtain ⟨g, e⟩ := ho.at id q
    exact h.foot3 e ⟨by decide, by decide, by decide⟩ (foot_whole r)
  · obtain ⟨_, _, _, e⟩ := (ha a hx).ro id q
    exact h.footR e (foot_whole r)

structure WrI (s5 : SS) (d : Nat) (A : Dk) (B : Bs) (fw : List AV) (x : RunS) : Prop where
  le : x.i ≤ fw.length
  at_ : DAt x.s d (A.wroteAll (fw.take x.i)) x.B
  st : Step d s5 B x.s x.B
  few : x.B.wl.length ≤ B.wl.length + x.i
end Go.Vf.S

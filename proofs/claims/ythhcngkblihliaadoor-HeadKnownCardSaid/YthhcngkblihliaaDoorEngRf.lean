import Derived.Test.YthhcngkblihliaaDoorEngBc
import Derived.RangeFuncRecord
/- The machine of plain blocks: a round of a range over a function. -/
namespace Go.Vf
open Go.RowKit
set_option linter.unusedVariables false

/-- What a yield's answer says of the world's round. -/
def YieldOk (P : Program) (l : Nat) (args : List Value) (s : ASt) (v : Value) (s' : ASt) : Prop :=
  s.next ≤ s'.next ∧ s'.gl = s.gl ∧ ∀ (B : Nat) (w0 : World) (ρ : Ren) (args' : List Value) (w : World) (e : RE), HRel P B w0 ρ s w → LRel ρ args args' → Free ρ s.next s'.next → ρ l = some e →
    YieldAt Fence.wide 0 P e.blk ⟨args'⟩ w fun x w' => ∃ v' ρ', x = .returned v' ∧ VRel ρ' v v' ∧ HRel P B w0 ρ' s' w' ∧ Ext ρ ρ' s.next s'.next

/-- What holds of a call of yield: of its one end. -/
def YieldW (P : Program) (l : Nat) (args : List Value) (s : SS) (K : Value → SS → Prop) : Prop :=
  ∃ v s', K v s' ∧ YieldOk P l args s.st v (SS.st s')

theorem YieldW.mono {P : Program} {l : Nat} {args : List Value} {s : SS} {K K1 : Value → SS → Prop} (h : YieldW P l args s K) (hq : ∀ v s, K v s → K1 v s) : YieldW P l args s K1 :=
  let ⟨a, b, q, r⟩ := h
  ⟨a, b, hq _ _ q, r⟩

def SS.loop (s : SS) (l : Nat) (r : ALoop) : SS := { s with heap := (l, some (.loop r)) :: s.heap }

theorem HRel.loop {P : Program} {B : Nat} {w0 : World} {ρ : Ren} {s : SS} {w : World} {l : Nat} {e : RE} {r : ALoop} (H : HRel P B w0 ρ s.st w) (hl : lookH s.heap l = some (.loop r)) (he : ρ l = some e) :
    ∃ rec : Loop, w.heap[e.blk]? = some (.loop rec) ∧ rec.state = r.state ∧ rec.pending = r.pending ∧ rec.params = r.params ∧ rec.assign = r.assign ∧ rec.body = r.body ∧ FRel ρ r.nt r.tmps rec.tmps ∧
      ∀ st pe, HRel P B w0 ρ (s.loop l { r with state := st, pending := pe }).st (w.putObj e.blk (.loop { rec with state := st, pending := pe })) := by
  have hb : s.st.heap.get l = some (.loop r) := by rw [SS.get]; exact hl
  obtain ⟨h0, tmps, fn, d, h1, h2, h3⟩ := H.blk l _ e hb he
  refine ⟨_, h1, rfl, rfl, rfl, rfl, rfl, ⟨h2, h3⟩, fun st pe => ?_⟩
  have hlt := (Array.getElem?_eq_some_iff.1 h1).1
  refine H.turn (b := .loop r) (b' := .loop { r with state := st, pending := pe }) he hb rfl rfl (fun i => ?_) rfl (by simp) (fun k hk => World.putObj_heap_other hk) rfl rfl rfl ?_
  · rw [SS.get, SS.get]
    simp only [SS.loop, lookH]
    rcases beq_cases l i with ⟨q, hq⟩ | ⟨q, hq⟩
    · subst q; simp
    · rw [hq, cond_false, if_neg (fun e => q e.symm)]
  · exact ⟨h0, tmps, fn, d, World.putObj_heap_same hlt, h2, h3⟩

/-- A block that nothing maps. -/
theorem HRel.alloc {P : Program} {B : Nat} {w0 : World} {ρ : Ren} {s : ASt} {w : World} (H : HRel P B w0 ρ s w) (o : Obj) : HRel P B w0 ρ s (w.alloc o) :=
  { below := H.below.alloc H.size o, base := H.base
    books := H.books.trans fun k hk => (Below.heap_alloc w o k (Array.getElem?_eq_some_iff.1 hk).1).trans hk
    blk := fun id b e hb he => (H.blk id b e hb he).mono (.refl _) (Below.heap_alloc w o _ (H.lt _ _ he))
    own := H.own, low := H.low, inj := H.inj
    lt := fun id e he => by have := H.lt id e he; simp; omega
    glob := H.glob }

/-- Slots with a round's parameters put. -/
def putPs : List Tmp → List Value → TL → TL
  | p :: ps, v :: vs, T => putPs ps vs ((p, v) :: T)
  | _, _, T => T

theorem putPs_rel {ρ : Ren} {nt : Nat} : ∀ (ps : List Tmp) (vs vs' : List Value) (T : TL) (tmps : Array Value), vs.length = ps.length → LRel ρ vs vs' → (∀ p ∈ ps, p < nt) → FRel ρ nt (toTr T) tmps →
    FRel ρ nt (toTr (putPs ps vs T)) ((ps.zip vs').foldl (fun t pv => t.setIfInBounds pv.1 pv.2) tmps)
  | [], [], vs', T, tmps, _, h, _, F => by
    have := h.inv_nil
    subst this
    exact F
  | [], v :: vs, _, _, _, h, _, _, _ => by simp at h
  | p :: ps, [], _, _, _, h, _, _, _ => by simp at h
  | p :: ps, v :: vs, vs', T, tmps, hl, h, hp, F => by
    obtain ⟨v', r, rfl, h1, h2⟩ := h.inv_cons
    obtain ⟨tmps', e1, e2⟩ := F.put (putT_L (dst := some p) (by simp only [dstOk]; rw [Nat.blt_eq]; exact hp p (List.mem_cons_self ..)) v) h1 []
    have e3 : tmps.setIfInBounds p v' = tmps' := congrArg Act.tmps e1
    subst e3
    exact putPs_rel ps vs r ((p, v) :: T) _ (by simpa using hl) h2 (fun q hq => hp q (List.mem_cons_of_mem _ hq)) e2

def isNormal : AExit → Bool
  | .normal => true
  | _ => false

def jumpOf : AExit → Option Code
  | .normal => none
  | .exit id => some (.exit id)
  | .ret => some .ret

/-- A round, by its assignments and its body. -/
theorem YieldW.round {P : Program} {k l : Nat} {r : ALoop} {T : TL} {args : List Value} {s : SS} {K : Value → SS → Prop} (hl : lookH s.heap l = some (.loop r)) (hr : r.state = .ready) (hT : r.tmps = toTr T)
    (hps : args.length = r.params.toList.length) (hlt : ∀ p ∈ r.params.toList, p < r.nt)
    (h : W P r.nt k r.assign (putPs r.params.toList args T) s fun ex T1 s1 => ex = .normal ∧ lookH s1.heap l = some (.loop r) ∧
      W P r.nt k r.body T1 (s1.loop l { r with state := .busy }) fun ex2 T2 s2 => lookH s2.heap l = some (.loop { r with state := .busy }) ∧
        K (.bool (isNormal ex2)) (s2.loop l { r with state := if (jumpOf ex2).isNone then .ready else .done, pending := jumpOf ex2 })) : YieldW P l args s K := by
  obtain ⟨ex, T1, s1, ⟨rfl, hl1, ex2, T2, s2, ⟨hl2, hk⟩, b1, b2, b3⟩, a1, a2, a3⟩ := h
  have b1' : s1.next ≤ s2.next := b1
  have b2' : s2.gl = s1.gl := b2
  refine ⟨_, _, hk, Nat.le_trans a1 b1', b2'.trans a2, fun B w0 ρ args' w e H ha hf he => ?_⟩
  have hf' : Free ρ s.next s2.next := hf
  obtain ⟨rec, q1, q2, q3, q4, q5, q6, qF, -⟩ := H.loop hl he
  rw [hT] at qF
  have hsz : (⟨args'⟩ : Array Value).size = rec.params.size := by rw [q4]; simpa using ha.1.symm.trans hps
  refine ⟨rec.fn, _, rec.assign, rec.body, run_yield q1 hsz, roundIn_of_wpIn trivial ?_⟩
  rw [q5, q6]
  have hF1 : FRel ρ r.nt (toTr (putPs r.params.toList args T)) ((rec.params.zip ⟨args'⟩).foldl (fun tmps (t, a) => tmps.setIfInBounds t a) rec.tmps) := by
    rw [q4, ← Array.foldl_toList, Array.toList_zip]
    exact putPs_rel _ _ _ _ _ hps ha hlt qF
  refine a3 B w0 ρ w _ [] _ (some e.blk) H hF1 (hf'.sub (Nat.le_refl _) b1') fun ρ1 tmps1 w1 M1 H1 F1 x1 K1 => ?_
  have he1 := x1.1 _ _ he
  obtain ⟨rec1, p1, p2, p3, p4, p5, p6, -, pH⟩ := H1.loop hl1 he1
  refine ⟨_, run_beginRound p1 (by rw [p2, hr]), ?_⟩
  have H2 := pH .busy rec1.pending
  have hr2 : ({ r with state := .busy, pending := rec1.pending } : ALoop) = { r with state := .busy } := by rw [p3]
  rw [hr2] at H2
  refine b3 B w0 ρ1 _ _ (M1.map mkD ++ []) _ (some e.blk) H2 F1 (hf'.ext x1 a1) fun ρ2 tmps2 w2 M2 H3 F3 x2 K2 => ?_
  have x2' : Ext ρ1 ρ2 s1.next s2.next := x2
  obtain ⟨rec2, r1, -, -, -, -, -, -, rH⟩ := H3.loop hl2 (x2.1 _ _ he1)
  have fin : ∀ j b, b = j.isNone → ∃ v w', (Instr.endRound e.blk j).run P w2 = .ok v w' ∧ ∃ v' ρ', Ending.returned v = .returned v' ∧ VRel ρ' (.bool b) v' ∧ HRel P B w0 ρ' (s2.loop l { r with state := if j.isNone then .ready else .done, pending := j }).st w' ∧ Ext ρ ρ' s.next s2.next := by
    intro j b hb
    subst hb
    exact ⟨_, _, run_endRound j r1, _, ρ2, rfl, .bool _, rH _ _, x1.trans' x2' a1 b1'⟩
  cases ex2 with
  | normal => exact fin none true rfl
  | exit id => exact fin (some (.exit id)) false rfl
  | ret => exact fin (some .ret) false rfl

end Go.Vf

import Derived.Test.YtioildcpkcijkaaDoorLgR
import Derived.Test.YtioildcpkcijkaaDoorFnK04
/- What the law LogSure says: the ground. -/
namespace Go.Vf.S
open Go Go.Vf Go.Vf.Fr
attribute [local irreducible] wSeq wRow wp wG
set_option linter.unusedVariables false
set_option linter.unusedSimpArgs false
set_option maxRecDepth 10000

theorem gTup {T : TL} {d : Tmp} {b : Bool} {vs : Array Value} {run skip : Prop} (h : look T d = some (.tuple vs)) (hs : skip) : wG T (some (d, b)) run skip := by
  simp only [wG, h]
  exact hs

/-- Blocks that may be written, none of them calls. -/
def Loose (s : SS) (Z : List Nat) : Prop := ∀ id ∈ Z, id < s.next → ∃ c t g, lookH s.heap id = some (.cells c t g false) ∧ t ≠ tA
theorem Loose.nil (s : SS) : Loose s [] := fun id q => by simp at q
theorem Loose.cons {s : SS} {a : Nat} {Z : List Nat} {c : List Value} {t : TypeId} {g : Bool} (h : lookH s.heap a = some (.cells c t g false)) (ht : t ≠ tA) (hz : Loose s Z) : Loose s (a :: Z) := fun id q hl => by
  rcases List.mem_cons.1 q with rfl | q
  · exact ⟨c, t, g, h, ht⟩
  · exact hz id q hl
theorem loose_dk {s : SS} {d : Nat} {D : Dk} {B : Bs} (k : DAt s d D B) : Loose s (foot d B) := fun id q hl => by
  simp only [foot, List.mem_cons, List.mem_append] at q
  rcases q with rfl | (q | q) | q
  · exact ⟨_, _, _, k.obj, by decide⟩
  · obtain ⟨z, hz⟩ := k.sure.at _ q
    exact ⟨_, _, _, hz, by decide⟩
  · obtain ⟨z, hz⟩ := k.now.at _ q
    exact ⟨_, _, _, hz, by decide⟩
  · obtain ⟨z, hz⟩ := k.row.at _ q
    exact ⟨_, _, _, hz, by decide⟩
theorem loose_on {s : SS} {g d : Nat} {D : Dk} {B : Bs} {ps : PL} {j z : Nat} (o : On s g d D B ps j z) : Loose s (g :: foot d B) := .cons o.la.blk (by decide) (loose_dk o.dk)
theorem loose_row {s : SS} {W : Option Addr} {cw n : Nat} {cs : List Value} (h : OwnR tSl s W cw n cs) : Loose s (blkOf W) := fun id q hl => by
  obtain ⟨z, hz⟩ := h.at id q
  exact ⟨_, _, _, hz, by decide⟩

/-- A row that was appended to, perhaps cut behind. -/
def OwnT (s : SS) (W : Option Addr) (cw : Nat) (qs : List Py) : Prop :=
  match W with
  | none => qs = [] ∧ cw = 0
  | some ⟨b, off, sp⟩ => off = 0 ∧ sp = none ∧ cw = 0 ∧ b < s.next ∧ ∃ cs, lookH s.heap b = some (.cells cs tSl true false) ∧ cs.take qs.length = pyCells qs ∧ qs.length ≤ cs.length
theorem OwnT.at {s : SS} {W : Option Addr} {cw : Nat} {qs : List Py} (h : OwnT s W cw qs) : ∀ id ∈ blkOf W, id < s.next ∧ ∃ cs, lookH s.heap id = some (.cells cs tSl true false) := by
  cases W with
  | none => simp [blkOf]
  | some a =>
    obtain ⟨b, off, sp⟩ := a
    intro id hid
    simp only [blkOf, List.mem_singleton] at hid
    subst hid
    obtain ⟨_, _, _, h4, cs, h5, _⟩ := h
    exact ⟨h4, cs, h5⟩
theorem OwnT.chg {s s' : SS} {W : Option Addr} {cw : Nat} {qs : List Py} {Z : List Nat} (h : OwnT s W cw qs) (c : Chg s s' Z) (hZ : ∀ id ∈ blkOf W, id ∉ Z) : OwnT s' W cw qs := by
  cases W with
  | none => exact h
  | some a =>
    obtain ⟨b, off, sp⟩ := a
    obtain ⟨h1, h2, h3, h4, cs, h5, h6⟩ := h
    exact ⟨h1, h2, h3, Nat.lt_of_lt_of_le h4 c.next, cs, c.blk _ _ h4 (hZ b (by simp [blkOf])) h5, h6⟩
/-- One thing behind. -/
theorem appT {T : TL} {s : SS} {x y : Operand} {K : RR → Prop} {W : Option Addr} {cw b : Nat} {qs : List Py} {q : Py} {t' : TypeId} {g r : Bool} (h : OwnT s W cw qs) (hl : qs.length < 1000000) (hx : opd T s.gl x = some (.slice W qs.length cw)) (hy : opd T s.gl y = some (.slice (some ⟨b, 0, none⟩) 1 1))
    (hb : lookH s.heap b = some (.cells [.slice q.1 q.2.2.length q.2.1] t' g r)) (hK : ∀ s' : SS, OwnT s' (some ⟨s.next, 0, none⟩) 0 (qs ++ [q]) → Chg s s' (blkOf W) → s'.next = s.next + 1 → K (.eff (.slice (some ⟨s.next, 0, none⟩) (qs.length + 1) 0) s')) : wN pr (.app tSl 1 24 x y) T s K := by
  have e : pyCells (qs ++ [q]) = pyCells qs ++ [.slice q.1 q.2.2.length q.2.1] := by simp [pyCells]
  have le : (pyCells (qs ++ [q])).length = (qs ++ [q]).length := by simp [pyCells]
  simp only [wN, hx, hy, wSrc, hb]
  refine ⟨[.slice q.1 q.2.2.length q.2.1], rfl, ⟨⟨by omega, by omega, rfl, rfl⟩, ?_⟩⟩
  cases W with
  | none =>
    obtain ⟨rfl, rfl⟩ := h
    refine ⟨fun q => by simp at q, fun _ => ⟨rfl, fun m' hm' => ?_⟩⟩
    subst hm'
    exact hK { s with heap := (s.next, some (.cells [.slice q.1 q.2.2.length q.2.1] tSl true false)) :: s.heap, next := s.next + 1 } ⟨rfl, rfl, rfl, Nat.lt_succ_self _, _, lkH, rfl, Nat.le_refl _⟩ (.new _) rfl
  | some p =>
    obtain ⟨b2, off, sp⟩ := p
    obtain ⟨rfl, rfl, rfl, h3, cs, h4, h5, h6⟩ := h
    simp only [h4]
    have old : takeN (qs.length * 1) (cs.drop 0) = some (pyCells qs) := by
      rw [List.drop_zero, Nat.mul_one, takeN_take _ _ h6, h5]
    refine ⟨fun q => by omega, fun _ => ⟨trivial, trivial, _, old, fun m' l' hm' hl' => ?_⟩⟩
    subst hm'; subst hl'
    exact hK { s with heap := (s.next, some (.cells (pyCells qs ++ [.slice q.1 q.2.2.length q.2.1]) tSl true false)) :: (b2, none) :: s.heap, next := s.next + 1 } ⟨rfl, rfl, rfl, Nat.lt_succ_self _, _, lkH, by rw [← e, ← le, List.take_length], by rw [← e, le]; exact Nat.le_refl _⟩ .new2 rfl

/-- Payloads of a row that may be cut. -/
structure PysT (s : SS) (s0 : Nat) (W : Option Addr) (cw : Nat) (ps : List Py) : Prop where
  row : OwnT s W cw ps
  new : ∀ id ∈ blkOf W, s0 ≤ id
  each : ∀ q ∈ ps, Rdb s q.1 q.2.2.length q.2.2 ∧ ∀ id ∈ blkOf q.1, s0 ≤ id ∧ id ∉ blkOf W
theorem PysT.no (s : SS) (s0 : Nat) : PysT s s0 none 0 [] := ⟨⟨rfl, rfl⟩, by simp [blkOf], by simp⟩
theorem PysT.chg' {s s' : SS} {s0 : Nat} {W : Option Addr} {cw : Nat} {ps : List Py} {Z : List Nat} (h : PysT s s0 W cw ps) (c : Chg s s' Z) (hZ : ∀ id, PyIn W ps id → id ∉ Z) : PysT s' s0 W cw ps :=
  ⟨h.row.chg c (fun id q => hZ id (.inl q)), h.new, fun q hq => ⟨(h.each q hq).1.chg c (fun id r => hZ id (.inr ⟨q, hq, r⟩)), (h.each q hq).2⟩⟩
theorem PysT.ge {s : SS} {s0 : Nat} {W : Option Addr} {cw : Nat} {ps : List Py} (h : PysT s s0 W cw ps) {id : Nat} (hi : PyIn W ps id) : s0 ≤ id ∧ id < s.next := by
  rcases hi with q | ⟨q, hq, r⟩
  · exact ⟨h.new id q, (h.row.at id q).1⟩
  · exact ⟨((h.each q hq).2 id r).1, (h.each q hq).1.lt id r⟩
theorem PysT.row' {s : SS} {s0 : Nat} {W : Option Addr} {cw : Nat} {qs : List Py} (h : PysT s s0 W cw qs) : RowAt s W qs := by
  refine ⟨?_, fun q hq => (h.each q hq).1⟩
  have := h.row
  cases W with
  | none => exact this.1
  | some a =>
    obtain ⟨b, off, sp⟩ := a
    obtain ⟨h1, h2, h3, h4, cs, h5, h6, h7⟩ := this
    exact ⟨h1, h2, h4, cs, _, _, _, h5, h6⟩
/-- Cut behind. -/
theorem PysT.cut {s : SS} {s0 : Nat} {W : Option Addr} {cw : Nat} {qs : List Py} (h : PysT s s0 W cw qs) (m : Nat) (hm : m ≤ qs.length) : PysT s s0 W cw (qs.take m) := by
  refine ⟨?_, h.new, fun q hq => h.each q (List.mem_of_mem_take hq)⟩
  have := h.row
  cases W with
  | none => exact ⟨by rw [this.1, List.take_nil], this.2⟩
  | some a =>
    obtain ⟨b, off, sp⟩ := a
    obtain ⟨h1, h2, h3, h4, cs, h5, h6, h7⟩ := this
    have e : (qs.take m).length = m := by rw [List.length_take]; omega
    refine ⟨h1, h2, h3, h4, cs, h5, ?_, by omega⟩
    have := congrArg (List.take m) h6
    rw [List.take_take, Nat.min_eq_left hm] at this
    rw [e, this]
    simp [pyCells, List.map_take]
theorem slL_rowT {T : TL} {s : SS} {K : RR → Prop} {x hi : Operand} {W : Option Addr} {cw m : Nat} {qs : List Py} {k : Int} (h : OwnT s W cw qs) (hx : opd T s.gl x = some (.slice W qs.length cw)) (hh : opd T s.gl hi = some (.int .i64 k)) (hk : k = (m : Int)) (hm : m ≤ qs.length) (hK : K (.val (.slice W m cw))) : wN pr (.slL 1 x none (some hi)) T s K := by
  subst hk
  cases W with
  | none =>
    obtain ⟨rfl, rfl⟩ := h
    obtain rfl : m = 0 := by simpa using hm
    simp only [wN, hx, opdO, hh, wBnd]
    refine ⟨⟨by omega, by omega⟩, fun m' hm' => ?_⟩
    obtain rfl : m' = 0 := by omega
    exact hK
  | some a =>
    obtain ⟨b, off, sp⟩ := a
    obtain ⟨rfl, rfl, rfl, h3, cs, h4, h5, h6⟩ := h
    simp only [wN, hx, opdO, hh, h4]
    refine ⟨by kernel_rfl, ?_⟩
    simp only [wBnd]
    refine ⟨⟨by omega, by omega⟩, fun m' hm' o n' ho hn' => ?_⟩
    obtain rfl : m' = m := by omega
    subst ho; subst hn'
    simpa using hK
theorem loose_T {s : SS} {W : Option Addr} {cw : Nat} {qs : List Py} (h : OwnT s W cw qs) : Loose s (blkOf W) := fun id q hl => by
  obtain ⟨-, cs, hz⟩ := h.at id q
  exact ⟨_, _, _, hz, by decide⟩
theorem On.rowT {s s' : SS} {g d : Nat} {D : Dk} {B : Bs} {ps : PL} {j z : Nat} {W : Option Addr} {cw : Nat} {qs : List Py} (h : On s g d D B ps j z) (hr : OwnT s W cw qs) (c : Chg s s' (blkOf W)) : On s' g d D B ps j z :=
  h.chg c (fun q => by obtain ⟨-, cs, hz⟩ := hr.at _ q; exact type_ne hz h.ev.steps (by decide) rfl) (fun q => by obtain ⟨-, cs, hz⟩ := hr.at _ q; exact type_ne hz h.la.blk (by decide) rfl) (fun id q r => by obtain ⟨-, cs, hz⟩ := hr.at _ r; exact h.dk.foot3 hz (by decide) q)

/-- The calls, as they lie. -/
structure Acts (s : SS) (ob : Option Addr) (fw : List AV) : Prop where
  row : OwnR tA s ob 0 fw.length (aCells fw)
  ok : ∀ a ∈ fw, ActOk s a
theorem Acts.chg {s s' : SS} {ob : Option Addr} {fw : List AV} {Z : List Nat} (h : Acts s ob fw) (c : Chg s s' Z) (hZ : Loose s Z) : Acts s' ob fw := by
  refine ⟨h.row.chg c fun id q r => ?_, fun a ha => (h.ok a ha).chg c fun id q r => ?_⟩
  · obtain ⟨cc, t, g, e, ht⟩ := hZ id r (h.row.lt id q)
    obtain ⟨g', e'⟩ := h.row.at id q
    exact type_ne e e' ht rfl
  · obtain ⟨c1, t1, g1, e1⟩ := (h.ok a ha).ro id q
    have hlt : id < s.next := by
      rcases List.mem_append.1 q with q | q
      · exact (h.ok a ha).1.lt id q
      · exact (h.ok a ha).2.1.lt id q
    obtain ⟨cc, t, g, e, ht⟩ := hZ id r hlt
    exact ro_ne e1 e rfl

structure Sv where
  i : Nat
  g : Nat
  all : PL
  j : Nat
  W : Option Addr
  cw : Nat
  qs : List Py
  D : Dk
  B : Bs
  z : Nat
  s : SS

/-- What holds at each call. -/
structure SvI (s0 : SS) (d mb : Nat) (ob : Option Addr) (fw : List AV) (x : Sv) : Prop where
  on : On x.s x.g d x.D x.B x.all x.j x.z
  newD : NewD s0.next d x.B
  newG : s0.next ≤ x.g
  next : s0.next ≤ x.s.next
  cap : x.D.cap = 3000
  full : x.D.full = false
  sure : ∃ zs, x.D.sure = ch 0#32 1#32 (x.all.take x.j) ++ List.replicate zs 0
  ws : Ws x.j x.all x.D.ws
  h60 : ∀ p ∈ x.all, p.length ≤ 60
  many : x.all.length ≤ x.i
  mod : lookH x.s.heap mb = some (.cells [.slice x.W x.qs.length x.cw, .int .i64 x.j] tMd false false)
  mlt : mb < x.s.next
  mge : s0.next ≤ mb
  py : PysT x.s s0.next x.W x.cw x.qs
  pq : x.qs.map (·.2.2) = x.all
  off : ∀ id, PyIn x.W x.qs id → id ∉ whole d x.B ∧ id ≠ x.g ∧ id ≠ mb
  acts : Acts x.s ob fw
  mg : mb ≠ x.g ∧ mb ∉ whole d x.B

theorem SvI.len {s0 : SS} {d mb : Nat} {ob : Option Addr} {fw : List AV} {x : Sv} (h : SvI s0 d mb ob fw x) : x.qs.length = x.all.length := by rw [← h.pq, List.length_map]
theorem SvI.few {s0 : SS} {d mb : Nat} {ob : Option Addr} {fw : List AV} {x : Sv} (h : SvI s0 d mb ob fw x) : x.D.ws.length ≤ x.i := by have := h.ws.len; have := h.many; omega

/-- Nothing that counts changes. -/
theorem SvI.same {s0 : SS} {d mb : Nat} {ob : Option Addr} {fw : List AV} {x : Sv} {s' : SS} (h : SvI s0 d mb ob fw x) (c : Chg x.s s' []) : SvI s0 d mb ob fw { x with s := s' } :=
  { h with on := h.on.same c, next := Nat.le_trans h.next c.next, mod := c.blk _ _ h.mlt (by simp) h.mod, mlt := Nat.lt_of_lt_of_le h.mlt c.next, py := h.py.chg' c (by simp), acts := h.acts.chg c (.nil _) }
end Go.Vf.S

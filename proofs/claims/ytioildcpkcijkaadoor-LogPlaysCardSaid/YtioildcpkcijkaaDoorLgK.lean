import Derived.Test.YtioildcpkcijkaaDoorLgJ
import Derived.Test.YtioildcpkcijkaaDoorEngBg
/- Payloads that are handed in, and those that were appended. -/
namespace Go.Vf.S
open Go Go.Vf Go.Vf.Fr
attribute [local irreducible] wSeq wRow wp wG
set_option linter.unusedVariables false
set_option linter.unusedSimpArgs false
set_option maxRecDepth 10000

abbrev RowT := Option Addr × Nat × List UInt8
/-- What is handed in: a row of rows. -/
structure RowsS (s0 : Nat) (s : SS) (lb : Option Addr) (rows : List RowT) : Prop where
  row : match lb with
    | none => rows = []
    | some ⟨b, off, sp⟩ => off = 0 ∧ sp = none ∧ b < s0 ∧ b < s.next ∧ ∃ t r, lookH s.heap b = some (.cells (rows.map fun r => .slice r.1 r.2.1 0) t true r)
  each : ∀ r ∈ rows, Slc pr s r.1 r.2.1 0 r.2.2 ∧ ∀ id ∈ blkOf r.1, id < s0

theorem RowsS.chg {s0 : Nat} {s s' : SS} {lb : Option Addr} {rows : List RowT} {Z : List Nat} (h : RowsS s0 s lb rows) (c : Chg s s' Z) (hZ : ∀ id ∈ Z, s0 ≤ id) : RowsS s0 s' lb rows := by
  refine ⟨?_, fun r hr => ⟨(h.each r hr).1.chg c fun id q z => absurd ((h.each r hr).2 id q) (Nat.not_lt.2 (hZ id z)), (h.each r hr).2⟩⟩
  have := h.row
  cases lb with
  | none => exact this
  | some a =>
    obtain ⟨b, off, sp⟩ := a
    obtain ⟨h1, h2, h3, h4, t, r, h5⟩ := this
    exact ⟨h1, h2, h3, Nat.lt_of_lt_of_le h4 c.next, t, r, c.blk _ _ h4 (fun q => absurd h3 (Nat.not_lt.2 (hZ _ q))) h5⟩
theorem RowsS.at {s0 : Nat} {s : SS} {lb : Option Addr} {rows : List RowT} (h : RowsS s0 s lb rows) {i : Nat} {r : RowT} (hi : rows[i]? = some r) : ∃ b, lb = some ⟨b, 0, none⟩ ∧ ∃ cs t g q, lookH s.heap b = some (.cells cs t g q) ∧ cs[i]? = some (.slice r.1 r.2.1 0) := by
  have hlt := (List.getElem?_eq_some_iff.1 hi).1
  have := h.row
  cases lb with
  | none => simp only at this; subst this; simp at hlt
  | some a =>
    obtain ⟨b, off, sp⟩ := a
    obtain ⟨rfl, rfl, h3, h4, t, q, h5⟩ := this
    exact ⟨b, rfl, _, _, _, _, h5, by rw [List.getElem?_map, hi]; rfl⟩

/-- A row of what was handed in, put together here. -/
structure Al (s0 : Nat) (s : SS) (W : Option Addr) (cw : Nat) (qs : List Py) : Prop where
  row : OwnR tSl s W cw qs.length (pyCells qs)
  new : ∀ id ∈ blkOf W, s0 ≤ id
  each : ∀ q ∈ qs, Rdb s q.1 q.2.2.length q.2.2 ∧ ∀ id ∈ blkOf q.1, id < s0

theorem Al.no (s0 : Nat) (s : SS) : Al s0 s none 0 [] := ⟨⟨rfl, rfl, rfl⟩, by simp [blkOf], by simp⟩
theorem Al.chg {s0 : Nat} {s s' : SS} {W : Option Addr} {cw : Nat} {qs : List Py} {Z : List Nat} (h : Al s0 s W cw qs) (c : Chg s s' Z) (hZ : ∀ id ∈ Z, s0 ≤ id ∧ id ∉ blkOf W) : Al s0 s' W cw qs :=
  ⟨h.row.chg c (fun id q z => (hZ id z).2 q), h.new, fun q hq => ⟨(h.each q hq).1.chg c (fun id r z => absurd ((h.each q hq).2 id r) (Nat.not_lt.2 (hZ id z).1)), (h.each q hq).2⟩⟩
theorem Al.rowAt {s0 : Nat} {s : SS} {W : Option Addr} {cw : Nat} {qs : List Py} (h : Al s0 s W cw qs) : RowAt s W qs := by
  refine ⟨?_, fun q hq => (h.each q hq).1⟩
  have := h.row
  cases W with
  | none => exact List.eq_nil_of_length_eq_zero this.2.1
  | some a =>
    obtain ⟨b, off, sp⟩ := a
    obtain ⟨h1, h2, h3, g, h4, h5⟩ := this
    exact ⟨h1, h2, h3, _, _, _, _, h4, List.take_of_length_le (by simp [pyCells])⟩
/-- One more. -/
theorem Al.snoc {T : TL} {s0 : Nat} {s : SS} {W : Option Addr} {cw : Nat} {qs : List Py} {q : Py} {x y : Operand} {K : RR → Prop} (h : Al s0 s W cw qs) (hq : Rdb s q.1 q.2.2.length q.2.2 ∧ ∀ id ∈ blkOf q.1, id < s0) (hs : s0 ≤ s.next) (hl : qs.length < 1000000) (hx : opd T s.gl x = some (.slice W qs.length cw)) (hy : opd T s.gl y = some (.slice (some ⟨s.next, 0, none⟩) 1 1))
    (hK : ∀ s' : SS, Al s0 s' (some ⟨s.next + 1, 0, none⟩) 0 (qs ++ [q]) → Chg s s' (blkOf W) → K (.eff (.slice (some ⟨s.next + 1, 0, none⟩) (qs.length + 1) 0) s')) :
    wN pr (.app tSl 1 24 x y) T { s with heap := (s.next, some (.cells [.slice q.1 q.2.2.length q.2.1] tSl false false)) :: s.heap, next := s.next + 1 } K := by
  refine appR (h.row.chg (.new []) (by simp)) (by simp [pyCells]) (by omega) hx hy lkH rfl rfl fun s5 r5 c5 n5 => ?_
  have c : Chg s s5 (blkOf W) := (Chg.new (b := .cells [.slice q.1 q.2.2.length q.2.1] tSl false false) []).trans' c5 (fun id q _ => by simp at q) (fun id q _ => q)
  refine hK s5 ⟨?_, ?_, ?_⟩ c
  · have e : pyCells (qs ++ [q]) = pyCells qs ++ [.slice q.1 q.2.2.length q.2.1] := by simp [pyCells]
    rw [e, List.length_append]
    exact r5
  · intro id r
    obtain rfl : id = s.next + 1 := by simpa [blkOf] using r
    omega
  · have keep : ∀ q : Py, (Rdb s q.1 q.2.2.length q.2.2 ∧ ∀ id ∈ blkOf q.1, id < s0) → Rdb s5 q.1 q.2.2.length q.2.2 ∧ ∀ id ∈ blkOf q.1, id < s0 := fun q hq => ⟨hq.1.chg c (fun id r w => by have := hq.2 id r; have := h.new id w; omega), hq.2⟩
    intro a ha
    rcases List.mem_append.1 ha with r | r
    · exact keep a (h.each a r)
    · obtain rfl : a = q := by simpa using r
      exact keep a hq
theorem row_off {s : SS} {d g : Nat} {A : Lg} {D : Dk} {B : Bs} {W : Option Addr} {cw n : Nat} {cs : List Value} (h : OwnR tSl s W cw n cs) (k : DAt s d D B) : ∀ id ∈ blkOf W, id ∉ whole d B := fun id q => by
  obtain ⟨z, hz⟩ := h.at id q
  exact k.foot3 hz (by decide)
theorem row_offL {s : SS} {d g : Nat} {A : Lg} {W : Option Addr} {cw n : Nat} {cs : List Value} (h : OwnR tSl s W cw n cs) (k : LAt s g d A) : ∀ id ∈ blkOf W, id ≠ g := fun id q => by
  obtain ⟨z, hz⟩ := h.at id q
  exact type_ne hz k.blk (by decide)
theorem row_off0 {s : SS} {W : Option Addr} {cw n : Nat} {cs : List Value} (h : OwnR tSl s W cw n cs) (k : Ev s) : 0 ∉ blkOf W := fun q => by
  obtain ⟨z, hz⟩ := h.at 0 q
  exact type_ne hz k.steps (by decide) rfl
theorem On.row {s s' : SS} {g d : Nat} {D : Dk} {B : Bs} {ps : PL} {j z : Nat} {W : Option Addr} {cw n : Nat} {cs : List Value} (h : On s g d D B ps j z) (hr : OwnR tSl s W cw n cs) (c : Chg s s' (blkOf W)) : On s' g d D B ps j z :=
  h.chg c (row_off0 hr h.ev) (fun q => row_offL hr h.la g q rfl) (fun id q r => row_off (g := g) (A := lgS ps j) hr h.dk id r q)

/-- All that a disk has is new. -/
def NewD (s0 d : Nat) (B : Bs) : Prop := ∀ id ∈ whole d B, s0 ≤ id
theorem NewD.al {s0 d : Nat} {B B' : Bs} {s : SS} (h : NewD s0 d B) (al : ∀ id ∈ whole d B', id ∈ whole d B ∨ s.next ≤ id) (hs : s0 ≤ s.next) : NewD s0 d B' := fun id q => (al id q).elim (h id) (fun q => Nat.le_trans hs q)
theorem Al.on {s0 g d : Nat} {s s' : SS} {W : Option Addr} {cw : Nat} {qs : List Py} {D : Dk} {B : Bs} {ps : PL} {j z : Nat} (h : Al s0 s W cw qs) (o : On s g d D B ps j z) (c : Chg s s' (g :: foot d B)) (hg : s0 ≤ g) (hn : NewD s0 d B) : Al s0 s' W cw qs := by
  refine h.chg c fun id q => ?_
  rcases List.mem_cons.1 q with rfl | q
  · exact ⟨hg, fun r => row_offL h.row o.la _ r rfl⟩
  · exact ⟨hn id (List.mem_append_left _ q), fun r => row_off (g := g) (A := lgS ps j) h.row o.dk id r (List.mem_append_left _ q)⟩
theorem RowsS.on {s0 g d : Nat} {s s' : SS} {lb : Option Addr} {rows : List RowT} {B : Bs} (h : RowsS s0 s lb rows) (c : Chg s s' (g :: foot d B)) (hg : s0 ≤ g) (hn : NewD s0 d B) : RowsS s0 s' lb rows := by
  refine h.chg c fun id q => ?_
  rcases List.mem_cons.1 q with rfl | q
  · exact hg
  · exact hn id (List.mem_append_left _ q)
theorem foot_g {s s' : SS} {g d : Nat} {B : Bs} (c : Chg s s' (foot d B)) : Chg s s' (g :: foot d B) := c.sub fun id q _ => List.mem_cons_of_mem _ q
theorem On.crash {s : SS} {g d : Nat} {D : Dk} {B : Bs} {ps : PL} {j z : Nat} {kb : Option Addr} {kn kc : Nat} {zs : List Int} (h : On s g d D B ps j z) (hk : RdI s kb kn zs) : CallW pr n_disk_Disk_Crash [.pointer (some ⟨d, 0, none⟩), .slice kb kn kc] s fun v s' => v = .int .i64 0 ∧ ∃ B', DAt s' d (D.crashed zs) B' ∧ Ev s' ∧ Chg s s' (g :: foot d B) ∧ (∀ id ∈ whole d B', id ∈ whole d B ∨ s.next ≤ id) := by
  refine (crash_w h.dk h.ev.fine hk).mono fun v s' q => ?_
  obtain ⟨rfl, B', k, st, -⟩ := q
  exact ⟨rfl, B', k, h.ev.chg st.chg (h.ev.off h.dk), foot_g st.chg, st.al⟩
end Go.Vf.S

import Derived.Test.YtioildcpkcijkaaDoorLgE
import Derived.Test.YtioildcpkcijkaaDoorFnK25
/- A log recovered. -/
namespace Go.Vf.S
open Go Go.Vf Go.Vf.Fr
attribute [local irreducible] wSeq wRow wp wG
set_option linter.unusedVariables false
set_option linter.unusedSimpArgs false
set_option maxRecDepth 10000

abbrev tPl : TypeId := 31
abbrev tPb : TypeId := 54

/-- The log behind frames. -/
def after (fs : List Fm) : Lg := fs.foldl (fun A f => A.took f.n f.x) ⟨0#32, 0#32, 0#32, 0⟩
def total (fs : List Fm) : Nat := (fs.map (·.n)).sum

theorem after_snoc (fs : List Fm) (f : Fm) : after (fs ++ [f]) = (after fs).took f.n f.x := by simp [after]
theorem after_size (fs : List Fm) : (after fs).size = total fs := by
  have : ∀ (fs : List Fm) (A : Lg), (fs.foldl (fun A f => A.took f.n f.x) A).size = A.size + total fs := by
    intro fs
    induction fs with
    | nil => intro A; rfl
    | cons f fs ih => intro A; rw [List.foldl_cons, ih]; show A.size + f.n + total fs = A.size + (f.n + total fs); omega
  have h := this fs ⟨0#32, 0#32, 0#32, 0⟩
  simpa [after] using h
theorem after_sure (fs : List Fm) : (after fs).sure = 0#32 := by
  have : ∀ (fs : List Fm) (A : Lg), (fs.foldl (fun A f => A.took f.n f.x) A).sure = A.sure := by
    intro fs
    induction fs with
    | nil => intro A; rfl
    | cons f fs ih => intro A; rw [List.foldl_cons, ih]; rfl
  exact this fs _
theorem frs_total : ∀ (m : Nat) (a k : BitVec 32) (l : List UInt8), total (frs m a k l) ≤ l.length
  | 0, _, _, _ => Nat.zero_le _
  | m + 1, a, k, l => by
    by_cases h : openE a k l = 0
    · rw [frs_more h]
      have := frs_total m (oS a k l) (k + 1#32) (l.drop (oN a k l))
      obtain ⟨q1, q2, q3, q4⟩ := open_short h
      rw [List.length_drop] at this
      simp only [total, List.map_cons, List.sum_cons, opF] at this ⊢
      omega
    · rw [frs_stop h]; exact Nat.zero_le _
theorem frs_len : ∀ (m : Nat) (a k : BitVec 32) (l : List UInt8), (frs m a k l).length * 10 ≤ l.length
  | 0, _, _, _ => by simp [frs]
  | m + 1, a, k, l => by
    by_cases h : openE a k l = 0
    · rw [frs_more h]
      have := frs_len m (oS a k l) (k + 1#32) (l.drop (oN a k l))
      obtain ⟨q1, q2, q3, q4⟩ := open_short h
      rw [List.length_drop] at this
      rw [List.length_cons]
      omega
    · rw [frs_stop h]; exact Nat.zero_le _
theorem total_app (a b : List Fm) : total (a ++ b) = total a + total b := by simp [total]

theorem frames_w (s : SS) (base : Option Addr) (n c : Nat) : CallW pr n_log_frames [.slice base n c] s fun v s' => v = .func (.func n_log_frames_1) #[] #[.pointer (some ⟨s.next, 0, none⟩)] ∧ lookH s'.heap s.next = some (.cells [.slice base n c] tSl false false) ∧ Chg s s' [] ∧ s'.next = s.next + 1 := by
  refine CallW.run good ok_log_frames (by simp) rfl ?_
  (repeat(first|refine pSeq ?_|refine pReg ?_|refine sCons ?_|refine sNil ?_|refine pRet ?_|refine gNone ?_))
  refine ⟨.val (.func (.func n_log_frames_1) #[] #[.pointer (some ⟨s.next, 0, none⟩)]), rfl, ?_⟩
  (repeat(first|refine pSeq ?_|refine pReg ?_|refine sCons ?_|refine sNil ?_|refine pRet ?_|refine gNone ?_))
  exact ⟨rfl, lkH, .new _, rfl⟩

/-- A slice of bytes that was told: where it lies, its room, its bytes. -/
abbrev Py := Option Addr × Nat × List UInt8
def pyCells (ps : List Py) : List Value := ps.map fun q => .slice q.1 q.2.2.length q.2.1

/-- Payloads that were told: in a row of one's own, all of it new. -/
structure Pys (s : SS) (s0 : Nat) (W : Option Addr) (cw : Nat) (ps : List Py) : Prop where
  row : OwnR tSl s W cw ps.length (pyCells ps)
  new : ∀ id ∈ blkOf W, s0 ≤ id
  each : ∀ q ∈ ps, Rdb s q.1 q.2.2.length q.2.2 ∧ ∀ id ∈ blkOf q.1, s0 ≤ id ∧ id ∉ blkOf W

theorem Pys.none (s : SS) (s0 : Nat) : Pys s s0 none 0 [] := ⟨⟨rfl, rfl, rfl⟩, by simp [blkOf], by simp⟩
theorem _root_.Go.Vf.Rdb.no_loop {s : SS} {x : Option Addr} {n lo : Nat} {l : List UInt8} {r : ALoop} (h : Rdb s x n l) (hl : lookH s.heap lo = some (.loop r)) : ∀ id ∈ blkOf x, id ≠ lo := by
  cases x with
  | none => simp [blkOf]
  | some a =>
    obtain ⟨b, off, sp⟩ := a
    intro id hid e
    simp only [blkOf, List.mem_singleton] at hid
    subst hid
    subst e
    obtain ⟨h1, h2, h3, cc, t, g, r, h4, h5, h6⟩ := h
    rw [hl] at h4; cases h4
theorem New.le {s : SS} {b : Option Addr} (h : New s b) : ∀ id ∈ blkOf b, s.next ≤ id := by
  cases b with
  | none => simp [blkOf]
  | some a =>
    obtain ⟨b, off, sp⟩ := a
    intro id hid
    simp only [blkOf, List.mem_singleton] at hid
    subst hid
    exact h
theorem Pys.chg {s s' : SS} {s0 : Nat} {W : Option Addr} {cw : Nat} {ps : List Py} {Z : List Nat} (h : Pys s s0 W cw ps) (c : Chg s s' Z) (hZ : ∀ id ∈ Z, id < s0) : Pys s' s0 W cw ps :=
  ⟨h.row.chg c (fun id q r => absurd (h.new id q) (Nat.not_le.2 (hZ id r))), h.new, fun q hq => ⟨(h.each q hq).1.chg c (fun id r t => absurd ((h.each q hq).2 id r).1 (Nat.not_le.2 (hZ id t))), (h.each q hq).2⟩⟩
/-- A payload's block, or the row's. -/
def PyIn (W : Option Addr) (ps : List Py) (id : Nat) : Prop := id ∈ blkOf W ∨ ∃ q ∈ ps, id ∈ blkOf q.1
theorem Pys.chg' {s s' : SS} {s0 : Nat} {W : Option Addr} {cw : Nat} {ps : List Py} {Z : List Nat} (h : Pys s s0 W cw ps) (c : Chg s s' Z) (hZ : ∀ id, PyIn W ps id → id ∉ Z) : Pys s' s0 W cw ps :=
  ⟨h.row.chg c (fun id q => hZ id (.inl q)), h.new, fun q hq => ⟨(h.each q hq).1.chg c (fun id r => hZ id (.inr ⟨q, hq, r⟩)), (h.each q hq).2⟩⟩
theorem Pys.ge {s : SS} {s0 : Nat} {W : Option Addr} {cw : Nat} {ps : List Py} (h : Pys s s0 W cw ps) {id : Nat} (hi : PyIn W ps id) : s0 ≤ id ∧ id < s.next := by
  rcases hi with q | ⟨q, hq, r⟩
  · exact ⟨h.new id q, h.row.lt id q⟩
  · exact ⟨((h.each q hq).2 id r).1, (h.each q hq).1.lt id r⟩
theorem Pys.le {s : SS} {s0 s1 : Nat} {W : Option Addr} {cw : Nat} {ps : List Py} (h : Pys s s0 W cw ps) (hl : s1 ≤ s0) : Pys s s1 W cw ps :=
  ⟨h.row, fun id q => Nat.le_trans hl (h.new id q), fun q hq => ⟨(h.each q hq).1, fun id r => ⟨Nat.le_trans hl ((h.each q hq).2 id r).1, ((h.each q hq).2 id r).2⟩⟩⟩

theorem Pys.loop {s s' : SS} {s0 lo : Nat} {W : Option Addr} {cw : Nat} {ps : List Py} {r : ALoop} (h : Pys s s0 W cw ps) (hl : lookH s.heap lo = some (.loop r)) (c : Chg s s' [lo]) : Pys s' s0 W cw ps :=
  ⟨h.row.chg c (fun id q e => by
    obtain rfl : id = lo := by simpa using e
    obtain ⟨gg, hgg⟩ := h.row.at _ q
    rw [hl] at hgg; cases hgg), h.new, fun q hq => ⟨(h.each q hq).1.chg c (fun id r t => (h.each q hq).1.no_loop hl id r (by simpa using t)), (h.each q hq).2⟩⟩

/-- What holds between the rounds. -/
structure Rv (d g pb lo bx : Nat) (r : ALoop) (s0 : SS) (dn : List Fm) (s : SS) : Prop where
  chg : Chg s0 s [g, pb, bx]
  la : LAt s g d (after dn)
  py : ∃ W cw ps, lookH s.heap pb = some (.cells [.slice W ps.length cw] tPb false false) ∧ Pys s s0.next W cw ps ∧ ps.map (·.2.2) = dn.map (·.p)
  lp : lookH s.heap lo = some (.loop r)
  lt : lo < s.next

theorem Rv.stay {d g pb lo bx : Nat} {r : ALoop} {s0 : SS} {dn : List Fm} {s s' : SS} (h : Rv d g pb lo bx r s0 dn s) (c : Chg s s' [bx]) (hg : g ≠ bx) (hp : pb ≠ bx) (hb : bx < s0.next) (hl : lo ≠ bx) (hpl : pb < s0.next) : Rv d g pb lo bx r s0 dn s' := by
  obtain ⟨W, cw, ps, p1, p2, p3⟩ := h.py
  exact ⟨h.chg.trans' c (fun id q _ => q) (fun id q _ => by simp at q; simp [q]), h.la.chg c (by simpa using hg), ⟨W, cw, ps, c.blk _ _ (Nat.lt_of_lt_of_le hpl h.chg.next) (by simpa using hp) p1, p2.chg c (by simpa using hb), p3⟩, c.blk _ _ h.lt (by simpa using hl) h.lp, Nat.lt_of_lt_of_le h.lt c.next⟩

theorem loop_chg {s : SS} {l : Nat} {r : ALoop} (h : l < s.next) : Chg s (s.loop l r) [l] := .turn h

/-- A round of the loop. -/
theorem round_w {d g pb pl lo bx : Nat} {T : TL} {s0 s s1 : SS} {dn : List Fm} {f : Fm} {b : Option Addr} {c : Nat} (hT5 : look T 5 = some (.pointer (some ⟨pl, 0, none⟩))) (hT6 : look T 6 = some (.pointer (some ⟨pb, 0, none⟩)))
    (h : Rv d g pb lo bx (loop0 44 T #[20] code_K25_A6 (.block 1 (.seq code_K25_R7 code_K25_R8))) s0 dn s) (c1 : Chg s s1 []) (hR : Rdb s1 b f.p.length f.p) (hN : New s b) (hlo : lo = s0.next) (hpl : lookH s0.heap pl = some (.cells [.pointer (some ⟨g, 0, none⟩)] tPl false false))
    (l0 : pl < s0.next) (l1 : g < s0.next) (l2 : pb < s0.next) (l3 : bx < s0.next) (ne : g ≠ pb ∧ g ≠ pl ∧ pb ≠ pl ∧ bx ≠ g ∧ bx ≠ pb ∧ bx ≠ pl) (hz : total dn + f.n ≤ 1048576) (hln : dn.length < 1048576) :
    YieldW pr lo [fmV b c f] s1 fun v s' => v = .bool true ∧ Rv d g pb lo bx (loop0 44 T #[20] code_K25_A6 (.block 1 (.seq code_K25_R7 code_K25_R8))) s0 (dn ++ [f]) s' ∧ ∃ Z, Chg s1 s' Z ∧ ∀ id ∈ Z, id = g ∨ id = pb ∨ s0.next ≤ id := by
  obtain ⟨n1, n2, n3, n4, n5, n6⟩ := ne
  have hs1 : Rv d g pb lo bx (loop0 44 T #[20] code_K25_A6 (.block 1 (.seq code_K25_R7 code_K25_R8))) s0 dn s1 := h.stay (c1.sub (by simp)) n4.symm n5.symm l3 (by omega) l2
  refine YieldW.round (k := s.next) hs1.lp rfl rfl rfl (by simp [loop0]) ?_
  refine comp_ok good ok_K25_A6 (Box.out (p := wp pr 44 s.next _ _ _ _) ?_)
  (repeat(first|refine pReg ?_|refine sCons ?_|refine sNil ?_|refine gNone ?_))
  refine st_abs rfl rfl lkH (Nat.lt_succ_self _) rfl rfl fun s2 e2 c2 n2 => ?_
  have c12 : Chg s1 s2 [] := (Chg.new []).fresh c2 (by simp)
  have h2 := hs1.stay (c12.sub (by simp)) n4.symm n5.symm l3 (by omega) l2
  have hlt1 : s1.next < s2.next := by rw [n2]; exact Nat.lt_succ_self _
  have lo1 := hs1.lt
  (repeat(first|refine pReg ?_|refine sCons ?_|refine sNil ?_|refine gNone ?_))
  refine ⟨rfl, h2.lp, ?_⟩
  have c3 : Chg s2 (s2.loop lo { loop0 44 T #[20] code_K25_A6 (.block 1 (.seq code_K25_R7 code_K25_R8)) with state := .busy }) [lo] := loop_chg h2.lt
  have lp3 : lookH (s2.loop lo { loop0 44 T #[20] code_K25_A6 (.block 1 (.seq code_K25_R7 code_K25_R8)) with state := .busy }).heap lo = some (.loop { loop0 44 T #[20] code_K25_A6 (.block 1 (.seq code_K25_R7 code_K25_R8)) with state := .busy }) := lkH
  generalize s2.loop lo { loop0 44 T #[20] code_K25_A6 (.block 1 (.seq code_K25_R7 code_K25_R8)) with state := .busy } = s3 at c3 lp3 ⊢
  have e3 := c3.blk _ _ hlt1 (by simp; omega) e2
  have la3 := h2.la.chg c3 (by simp; omega)
  obtain ⟨Wa, cw, ps, p1, p2, p3⟩ := h.py
  have ltW := p2.row.lt
  have ltb := hN.le
  replace p1 := (c1.trans c12).blk _ _ (Nat.lt_of_lt_of_le l2 h.chg.next) (by simp) p1
  replace p2 := p2.chg (c1.trans c12) (by simp)
  have lps : ps.length = dn.length := by have := congrArg List.length p3; simpa using this
  have p1' := c3.blk _ _ (Nat.lt_of_lt_of_le l2 h2.chg.next) (by simp; omega) p1
  have p2' := p2.chg (s0 := s0.next) (Z := []) (.refl _ _) (by simp)
  have hpl3 := c3.blk _ _ (Nat.lt_of_lt_of_le l0 h2.chg.next) (by simp; omega) (h2.chg.blk _ _ l0 (by simp; omega) hpl)
  refine W.block (W.seq (comp_ok good ok_K25_R7 (Box.out (p := wp pr 44 s.next _ _ _ _) ?_)))
  (repeat(first|refine pReg ?_|refine sCons ?_|refine sNil ?_|refine gNone ?_))
  refine ld1_is hT5 hpl3 rfl ?_
  (repeat(first|refine pReg ?_|refine sCons ?_|refine sNil ?_|refine gNone ?_))
  refine ldI_is rfl e3 rfl ?_
  (repeat(first|refine pReg ?_|refine sCons ?_|refine sNil ?_|refine gNone ?_))
  refine ldI_is rfl e3 rfl ?_
  (repeat(first|refine pReg ?_|refine sCons ?_|refine sNil ?_|refine gNone ?_))
  refine (take_w (n := f.n) (x := f.x) la3 (by rw [after_size]; omega)).mono fun v s4 q => ?_
  obtain ⟨la4, c4, n4'⟩ := q
  (repeat(first|refine pReg ?_|refine sCons ?_|refine sNil ?_|refine gNone ?_))
  have h0n := h.chg.next
  have h01 := c1.next
  have h12 := c12.next
  have h23 := c3.next
  have h34 := c4.next
  have e4 := c4.blk _ _ (by omega) (by simp; omega) e3
  have p1'' := c4.blk _ _ (by omega) (by simp; omega) p1'
  have row4 := (p2.row.chg c3 (fun id q r => by
    have hlt := p2.row.lt id q
    simp only [List.mem_singleton] at r
    subst r
    obtain ⟨gg, hgg⟩ := p2.row.at _ q
    rw [h2.lp] at hgg; cases hgg)).chg c4 (fun id q r => by
    have := p2.new id q
    simp only [List.mem_singleton] at r
    omega)
  refine comp_ok good ok_K25_R8 (Box.out (p := wp pr 44 s.next _ _ _ _) ?_)
  (repeat(first|refine pReg ?_|refine sCons ?_|refine sNil ?_|refine gNone ?_))
  refine ld1_is hT6 p1'' rfl ?_
  (repeat(first|refine pReg ?_|refine sCons ?_|refine sNil ?_|refine gNone ?_))
  refine ld1_is rfl e4 rfl ?_
  (repeat(first|refine pReg ?_|refine sCons ?_|refine sNil ?_|refine gNone ?_))
  refine appR (row4.chg (.new []) (by simp)) (by simp [pyCells]) (by omega) rfl rfl lkH rfl rfl fun s5 r5 c5 n5' => ?_
  have c45 : Chg s4 s5 (blkOf Wa) := (Chg.new (b := .cells [.slice b f.p.length c] 37 false false) []).trans' c5 (fun id q _ => by simp at q) (fun id q _ => q)
  have hpW : pb ∉ blkOf Wa := fun q => by have := p2.new _ q; omega
  have p15 := c45.blk _ _ (by omega) hpW p1''
  have h45 := c45.next
  (repeat(first|refine pReg ?_|refine sCons ?_|refine sNil ?_|refine gNone ?_))
  refine st_abs hT6 rfl p15 (by omega) rfl rfl fun s6 e6 c6 n6 => ?_
  have c56 : Chg s4 s6 (pb :: blkOf Wa) := c45.trans' c6 (fun id q _ => List.mem_cons_of_mem _ q) (fun id q _ => by simp at q; simp [q])
  have h56 := c6.next
  have nW : ∀ x, x < s0.next → x ∉ blkOf Wa := fun x hx q => by have := p2.new _ q; omega
  have loW : lo ∉ blkOf Wa := fun q => by
    obtain ⟨gg, hgg⟩ := p2.row.at _ q
    rw [h2.lp] at hgg; cases hgg
  have lp6 := c56.blk _ _ (by omega) (by simp only [List.mem_cons, not_or]; exact ⟨by omega, loW⟩) (c4.blk _ _ (by omega) (by simp; omega) lp3)
  have la6 := la4.chg c56 (by simp only [List.mem_cons, not_or]; exact ⟨n1, nW _ l1⟩)
  have each : ∀ q ∈ ps ++ [(b, c, f.p)], Rdb s6 q.1 q.2.2.length q.2.2 ∧ ∀ id ∈ blkOf q.1, s0.next ≤ id ∧ id ∉ blkOf (some ⟨s4.next + 1, 0, none⟩) := by
    have bW : ∀ (x : Option Addr) (l : List UInt8), Rdb s2 x l.length l → (∀ id ∈ blkOf x, s0.next ≤ id ∧ id ≠ lo ∧ id ∉ blkOf Wa) → Rdb s6 x l.length l := fun x l hx hb =>
      ((hx.chg c3 (fun id q => by simpa using (hb id q).2.1)).chg c4 (fun id q => by have := (hb id q).1; simp; omega)).chg c56 (fun id q => by
        have h1 := hb id q
        simp only [List.mem_cons, not_or]; exact ⟨by omega, h1.2.2⟩)
    intro q hq
    rcases List.mem_append.1 hq with r | r
    · obtain ⟨e1, e2⟩ := p2.each q r
      exact ⟨bW _ _ e1 fun id t => ⟨(e2 id t).1, e1.no_loop h2.lp id t, (e2 id t).2⟩, fun id t => ⟨(e2 id t).1, by have := e1.lt id t; simp only [blkOf, List.mem_singleton]; omega⟩⟩
    · obtain rfl : q = (b, c, f.p) := by simpa using r
      have e1 : Rdb s2 b f.p.length f.p := hR.chg c12 (by simp)
      have hlt := h.lt
      exact ⟨bW _ _ e1 fun id t => ⟨by have := ltb id t; omega, e1.no_loop h2.lp id t, fun u => by have := ltb id t; have := ltW id u; omega⟩, fun id t => ⟨by have := ltb id t; omega, by have := e1.lt id t; simp only [blkOf, List.mem_singleton]; omega⟩⟩
  (repeat(first|refine pReg ?_|refine sCons ?_|refine sNil ?_|refine gNone ?_))
  have c7 := loop_chg (l := lo) (r := loop0 44 T #[20] code_K25_A6 (.block 1 (.seq code_K25_R7 code_K25_R8))) (s := s6) (by omega)
  have lp7 : lookH (s6.loop lo (loop0 44 T #[20] code_K25_A6 (.block 1 (.seq code_K25_R7 code_K25_R8)))).heap lo = some (.loop (loop0 44 T #[20] code_K25_A6 (.block 1 (.seq code_K25_R7 code_K25_R8)))) := lkH
  show lookH s6.heap lo = _ ∧ Value.bool true = _ ∧ Rv d g pb lo bx _ s0 (dn ++ [f]) (s6.loop lo (loop0 44 T #[20] code_K25_A6 (.block 1 (.seq code_K25_R7 code_K25_R8)))) ∧ ∃ Z, Chg s1 (s6.loop lo (loop0 44 T #[20] code_K25_A6 (.block 1 (.seq code_K25_R7 code_K25_R8)))) Z ∧ _
  generalize s6.loop lo (loop0 44 T #[20] code_K25_A6 (.block 1 (.seq code_K25_R7 code_K25_R8))) = s7 at c7 lp7 ⊢
  have h67 := c7.next
  have cAll : Chg s1 s7 (lo :: g :: pb :: blkOf Wa) := ((((c12.trans c3).trans c4).trans c56).trans c7).sub (fun id q _ => by
    simp only [List.mem_append, List.mem_cons, List.not_mem_nil, or_false, false_or] at q ⊢
    rcases q with ((rfl | rfl) | rfl | q) | rfl <;> simp_all)
  refine ⟨lp6, rfl, ⟨?_, ?_, ⟨some ⟨s4.next + 1, 0, none⟩, 0, ps ++ [(b, c, f.p)], ?_, ⟨?_, ?_, ?_⟩, ?_⟩, lp7, by omega⟩, _, cAll, fun id q => ?_⟩
  · refine (h.chg.trans c1).trans' cAll (fun id q _ => by simpa using q) (fun id q hid => ?_)
    simp only [List.mem_cons] at q
    rcases q with rfl | rfl | rfl | q
    · omega
    · simp
    · simp
    · exact absurd q (nW _ hid)
  · rw [after_snoc]; exact la6.chg c7 (by simp; omega)
  · have := c7.blk _ _ (by omega) (by simp; omega) e6
    rw [List.length_append]
    exact this
  · have := (r5.chg c6 (fun id q => by
      have q' : id = s4.next + 1 := by simpa [blkOf] using q
      simp; omega)).chg c7 (fun id q => by
      have q' : id = s4.next + 1 := by simpa [blkOf] using q
      simp; omega)
    simpa [pyCells] using this
  · simp only [blkOf, List.mem_singleton]; omega
  · intro q hq
    obtain ⟨e1, e2⟩ := each q hq
    exact ⟨e1.chg c7 (fun id r => by simpa using e1.no_loop lp6 id r), e2⟩
  · rw [List.map_append, List.map_append, p3]; rfl
  · simp only [List.mem_cons] at q
    rcases q with rfl | rfl | rfl | q
    · omega
    · simp
    · simp
    · exact .inr (.inr (p2.new _ q))


/-- The frames on a disk. -/
def recF (D : Dk) : List Fm := frs D.now.length 0#32 1#32 D.now
/-- What is told, and what the disk is then. -/
def rcv (D : Dk) : Int × Dk :=
  if ((after (recF D)).wiped D).1 ≠ 0 then (after (recF D)).wiped D else (0, ((after (recF D)).wiped D).2.synced)

theorem DAt.many {s : SS} {d : Nat} {D : Dk} {B : Bs} (k : DAt s d D B) : B.wl.length = D.ws.length := by rw [← k.ews, List.length_map]

theorem read_all (D : Dk) : D.read 0 D.now.length = D.now := by
  unfold Dk.read
  rw [if_neg (by omega)]
  simp

set_option maxHeartbeats 1000000 in
theorem recover_w {s : SS} {d : Nat} {D : Dk} {B : Bs} (k : DAt s d D B) (hf : Fine s) (hg : s.gl = 1) (hst : lookH s.heap 0 = some gB) (hnx : 1 ≤ s.next) (hw : D.ws.length < 9998) :
    CallW pr n_log_Recover [.pointer (some ⟨d, 0, none⟩)] s fun v s' => ∃ B', DAt s' d (rcv D).2 B' ∧ Chg s s' (foot d B) ∧ (∀ id ∈ whole d B', id ∈ whole d B ∨ s.next ≤ id) ∧
      (((rcv D).1 ≠ 0 ∧ v = .tuple ⟨[.pointer none, .slice none 0 0, .int .i64 (rcv D).1]⟩) ∨
       ((rcv D).1 = 0 ∧ ∃ g W cw ps, v = .tuple ⟨[.pointer (some ⟨g, 0, none⟩), .slice W ps.length cw, .int .i64 0]⟩ ∧ LAt s' g d (after (recF D)).synced ∧ s.next ≤ g ∧ Pys s' s.next W cw ps ∧ ps.map (·.2.2) = (recF D).map (·.p) ∧ ∀ id, PyIn W ps id → id ∉ whole d B' ∧ id ≠ g)) := by
  refine CallW.pieces0 (nt := 44) (res := [.tmp 2, .tmp 3, .tmp 4]) (c := .seq code_K25_R0 (.seq code_K25_R1 (.seq code_K25_R3 (.seq code_K25_R4 (.seq (.seq code_K25_R5 (.block 0 (.rangeFunc (.tmp 19) #[20] code_K25_A6 (.block 1 (.seq code_K25_R7 code_K25_R8))))) code_K25_TL))))) (by kernel_rfl) (by kernel_rfl) (by kernel_rfl) (by kernel_rfl) (by simp) ?_
  refine W0.seq (W0.of (comp_ok good ok_K25_R0 (Box.out (p := wp pr 44 s.next _ _ _ _) ?_)))
  (repeat(first|refine pSeq ?_|refine pReg ?_|refine sCons ?_|refine sNil ?_|refine rCons ?_|refine rNil ?_|refine kNo ?_|refine pRow ?_|refine pSkip ?_|refine pRet ?_|refine pCond ?_|refine gNone ?_))
  refine W0.seq (W0.of (comp_ok good ok_K25_R1 (Box.out (p := wp pr 44 s.next _ _ _ _) ?_)))
  (repeat(first|refine pSeq ?_|refine pReg ?_|refine sCons ?_|refine sNil ?_|refine rCons ?_|refine rNil ?_|refine kNo ?_|refine pRow ?_|refine pSkip ?_|refine pRet ?_|refine pCond ?_|refine gNone ?_))
  refine (isDisk_w k hf (by rw [k.many]; omega)).mono fun v s1 q => ?_
  obtain ⟨rfl, B1, k1, st1, -⟩ := q
  have c1 := st1.chg
  have f1 := c1.fine hf
  have hst1 : lookH s1.heap 0 = some gB := c1.blk _ _ hnx (fun q => by
    simp only [foot, List.mem_cons, List.mem_append] at q
    rcases q with e0 | (q | q) | q
    · exact type_ne hst k.obj (by decide) e0
    · obtain ⟨z, hz⟩ := k.sure.at _ q
      exact type_ne hst hz (by decide) rfl
    · obtain ⟨z, hz⟩ := k.now.at _ q
      exact type_ne hst hz (by decide) rfl
    · obtain ⟨z, hz⟩ := k.row.at _ q
      exact type_ne hst hz (by decide) rfl) hst
  have n1 := c1.next
  (repeat(first|refine pSeq ?_|refine pReg ?_|refine sCons ?_|refine sNil ?_|refine rCons ?_|refine rNil ?_|refine kNo ?_|refine pRow ?_|refine pSkip ?_|refine pRet ?_|refine pCond ?_|refine gNone ?_))
  refine W0.seq (W0.of (comp_ok good ok_K25_R3 (Box.out (p := wp pr 44 s.next _ _ _ _) ?_)))
  (repeat(first|refine pSeq ?_|refine pReg ?_|refine sCons ?_|refine sNil ?_|refine rCons ?_|refine rNil ?_|refine kNo ?_|refine pRow ?_|refine pSkip ?_|refine pRet ?_|refine pCond ?_|refine gNone ?_))
  refine st_abs rfl rfl lkH (Nat.lt_succ_self _) rfl rfl fun s2 e2 c2 n2 => ?_
  have c12 : Chg s1 s2 [] := ((Chg.new (b := .cells (lgCells d ⟨0#32, 0#32, 0#32, 0⟩) tL false false) []).nil (Chg.new (b := .cells [.pointer none] tPl false false) [])).fresh c2 (by simp)
  have la2 : LAt s2 s1.next d (after []) := ⟨by rw [n2]; exact Nat.lt_succ_of_lt (Nat.lt_succ_self _), c2.blk _ _ (Nat.lt_succ_of_lt (Nat.lt_succ_self _)) (by simp) (lkT (by simp) lkH)⟩
  have n2' : s2.next = s1.next + 2 := n2
  have hst2 := c12.blk _ _ (by omega) (by simp) hst1
  have k2 := k1.chg c12 (by simp)
  have f2 := c12.fine f1
  (repeat(first|refine pSeq ?_|refine pReg ?_|refine sCons ?_|refine sNil ?_|refine rCons ?_|refine rNil ?_|refine kNo ?_|refine pRow ?_|refine pSkip ?_|refine pRet ?_|refine pCond ?_|refine gNone ?_))
  refine W0.seq (W0.of (comp_ok good ok_K25_R4 (Box.out (p := wp pr 44 s.next _ _ _ _) ?_)))
  (repeat(first|refine pSeq ?_|refine pReg ?_|refine sCons ?_|refine sNil ?_|refine rCons ?_|refine rNil ?_|refine kNo ?_|refine pRow ?_|refine pSkip ?_|refine pRet ?_|refine pCond ?_|refine gNone ?_))
  have c23 : Chg s2 ({ s2 with heap := (s2.next, some (.cells [.slice none 0 0] tPb false false)) :: s2.heap, next := s2.next + 1 } : SS) [] := .new []
  have e3 : lookH ({ s2 with heap := (s2.next, some (.cells [.slice none 0 0] tPb false false)) :: s2.heap, next := s2.next + 1 } : SS).heap s2.next = some (.cells [.slice none 0 0] tPb false false) := lkH
  have n3 : ({ s2 with heap := (s2.next, some (.cells [.slice none 0 0] tPb false false)) :: s2.heap, next := s2.next + 1 } : SS).next = s2.next + 1 := rfl
  generalize ({ s2 with heap := (s2.next, some (.cells [.slice none 0 0] tPb false false)) :: s2.heap, next := s2.next + 1 } : SS) = s3 at c23 e3 n3 ⊢
  have k3 := k2.chg c23 (by simp)
  have cap3 := k3.cap
  have now3 := k3.lnow
  refine W0.seq (W0.seq (W0.of (comp_ok good ok_K25_R5 (Box.out (p := wp pr 44 s.next _ _ _ _) ?_))))
  (repeat(first|refine pSeq ?_|refine pReg ?_|refine sCons ?_|refine sNil ?_|refine rCons ?_|refine rNil ?_|refine kNo ?_|refine pRow ?_|refine pSkip ?_|refine pRet ?_|refine pCond ?_|refine gNone ?_))
  refine (end_w k3).mono fun v s3 q => ?_
  obtain ⟨rfl, rfl⟩ := q
  (repeat(first|refine pSeq ?_|refine pReg ?_|refine sCons ?_|refine sNil ?_|refine rCons ?_|refine rNil ?_|refine kNo ?_|refine pRow ?_|refine pSkip ?_|refine pRet ?_|refine pCond ?_|refine gNone ?_))
  refine (read_w (k := 0) (m := D.now.length) k3 (by omega)).mono fun v s4 q => ?_
  obtain ⟨b4, hv4, own4, new4, c34⟩ := q
  rw [read_all] at hv4 own4
  subst hv4
  (repeat(first|refine pSeq ?_|refine pReg ?_|refine sCons ?_|refine sNil ?_|refine rCons ?_|refine rNil ?_|refine kNo ?_|refine pRow ?_|refine pSkip ?_|refine pRet ?_|refine pCond ?_|refine gNone ?_))
  refine (frames_w s4 b4 _ 0).mono fun v s5 q => ?_
  obtain ⟨rfl, e5, c45, n5⟩ := q
  (repeat(first|refine pSeq ?_|refine pReg ?_|refine sCons ?_|refine sNil ?_|refine rCons ?_|refine rNil ?_|refine kNo ?_|refine pRow ?_|refine pSkip ?_|refine pRet ?_|refine pCond ?_|refine gNone ?_))
  have h34 := c34.next
  have h45 := c45.next
  have c25 : Chg s2 s5 [] := (c23.trans c34).trans c45
  refine W0.block (W0.weak (k := s.next) (T' := [(5, .pointer (some ⟨s1.next + 1, 0, none⟩)), (6, .pointer (some ⟨s2.next, 0, none⟩)), (19, .func (.func n_log_frames_1) #[] #[.pointer (some ⟨s4.next, 0, none⟩)])]) (s' := s5) (Wk.same ⟨rfl, rfl, rfl, trivial⟩) (W0.range good (f := n_log_frames_1) (first := #[]) (captured := #[.pointer (some ⟨s4.next, 0, none⟩)]) rfl (by kernel_rfl) ?_))
  have c56 : Chg s5 ({ s5 with heap := (s5.next, some (.loop (loop0 44 [(5, .pointer (some ⟨s1.next + 1, 0, none⟩)), (6, .pointer (some ⟨s2.next, 0, none⟩)), (19, .func (.func n_log_frames_1) #[] #[.pointer (some ⟨s4.next, 0, none⟩)])] #[20] code_K25_A6 (.block 1 (.seq code_K25_R7 code_K25_R8))))) :: s5.heap, next := s5.next + 1 } : SS) [] := .new []
  have e6 : lookH ({ s5 with heap := (s5.next, some (.loop (loop0 44 [(5, .pointer (some ⟨s1.next + 1, 0, none⟩)), (6, .pointer (some ⟨s2.next, 0, none⟩)), (19, .func (.func n_log_frames_1) #[] #[.pointer (some ⟨s4.next, 0, none⟩)])] #[20] code_K25_A6 (.block 1 (.seq code_K25_R7 code_K25_R8))))) :: s5.heap, next := s5.next + 1 } : SS).heap s5.next = some (.loop (loop0 44 [(5, .pointer (some ⟨s1.next + 1, 0, none⟩)), (6, .pointer (some ⟨s2.next, 0, none⟩)), (19, .func (.func n_log_frames_1) #[] #[.pointer (some ⟨s4.next, 0, none⟩)])] #[20] code_K25_A6 (.block 1 (.seq code_K25_R7 code_K25_R8)))) := lkH
  have n6 : ({ s5 with heap := (s5.next, some (.loop (loop0 44 [(5, .pointer (some ⟨s1.next + 1, 0, none⟩)), (6, .pointer (some ⟨s2.next, 0, none⟩)), (19, .func (.func n_log_frames_1) #[] #[.pointer (some ⟨s4.next, 0, none⟩)])] #[20] code_K25_A6 (.block 1 (.seq code_K25_R7 code_K25_R8))))) :: s5.heap, next := s5.next + 1 } : SS).next = s5.next + 1 := rfl
  generalize ({ s5 with heap := (s5.next, some (.loop (loop0 44 [(5, .pointer (some ⟨s1.next + 1, 0, none⟩)), (6, .pointer (some ⟨s2.next, 0, none⟩)), (19, .func (.func n_log_frames_1) #[] #[.pointer (some ⟨s4.next, 0, none⟩)])] #[20] code_K25_A6 (.block 1 (.seq code_K25_R7 code_K25_R8))))) :: s5.heap, next := s5.next + 1 } : SS) = s6 at c56 e6 n6 ⊢
  have c26 : Chg s2 s6 [] := c25.trans c56
  have lt4 := own4.lt
  have hlen : (recF D).length * 10 ≤ D.now.length := frs_len _ _ _ _
  have htot : total (recF D) ≤ D.now.length := frs_total _ _ _ _
  have ne1 : s1.next ≠ s2.next := by omega
  refine (frames1_w (Inv := Rv d s1.next s2.next s5.next s4.next (loop0 44 [(5, .pointer (some ⟨s1.next + 1, 0, none⟩)), (6, .pointer (some ⟨s2.next, 0, none⟩)), (19, .func (.func n_log_frames_1) #[] #[.pointer (some ⟨s4.next, 0, none⟩)])] #[20] code_K25_A6 (.block 1 (.seq code_K25_R7 code_K25_R8))) s5) (lo := s5.next) (bx := s4.next) (l0 := D.now) (s := s6) (base := b4) (n := D.now.length) (c := 0)
    ⟨by rw [c26.gl, c12.gl, c1.gl, hg], c26.blk _ _ (by omega) (by simp) hst2, by omega, by omega, c56.blk _ _ (by omega) (by simp) e5, (own4.slc (by kernel_rfl)).chg (c45.trans c56) (by simp)⟩ (by omega) (fun id q => by have := lt4 id q; omega) ?_ ?_ ?_).mono fun v s7 hV => ⟨_, .normal, hV.lp, by simp [loop0], rfl, ?_⟩
  · exact ⟨c56.sub (by simp), la2.chg c26 (by simp), ⟨none, 0, [], ((c34.trans c45).trans c56).blk _ _ (by omega) (by simp) e3, Pys.none _ _, rfl⟩, e6, by omega⟩
  · intro dn s s' hV c
    exact hV.stay c (by omega) (by omega) (by omega) (by omega) (by omega)
  · rintro dn f s s' b c hV hlt c01 hR hN ⟨r, hr⟩
    have ht : total (recF D) = total dn + (f.n + total r) := by unfold recF; rw [← hr, total_app]; rfl
    have hl : (recF D).length = dn.length + (r.length + 1) := by unfold recF; rw [← hr, List.length_append]; rfl
    refine (round_w (pl := s1.next + 1) rfl rfl hV c01 hR hN rfl (c25.blk _ _ (by omega) (by simp) e2) (by omega) (by omega) (by omega) (by omega) ⟨by omega, by omega, by omega, by omega, by omega, by omega⟩ (by omega) (by omega)).mono fun v s' q => ?_
    obtain ⟨rfl, q1, Z, q2, q3⟩ := q
    refine ⟨rfl, q1, Z, q2, fun q => ?_, fun q => ?_, fun id h q => ?_⟩
    · have := q3 _ q; omega
    · have := q3 _ q; omega
    · have := q3 _ q; have := lt4 _ h; have := new4 _ h; omega
  have c7 := loop_chg (s := s7) (r := { loop0 44 [(5, .pointer (some ⟨s1.next + 1, 0, none⟩)), (6, .pointer (some ⟨s2.next, 0, none⟩)), (19, .func (.func n_log_frames_1) #[] #[.pointer (some ⟨s4.next, 0, none⟩)])] #[20] code_K25_A6 (.block 1 (.seq code_K25_R7 code_K25_R8)) with state := .exhausted }) hV.lt
  generalize s7.loop s5.next { loop0 44 [(5, .pointer (some ⟨s1.next + 1, 0, none⟩)), (6, .pointer (some ⟨s2.next, 0, none⟩)), (19, .func (.func n_log_frames_1) #[] #[.pointer (some ⟨s4.next, 0, none⟩)])] #[20] code_K25_A6 (.block 1 (.seq code_K25_R7 code_K25_R8)) with state := .exhausted } = s8 at c7 ⊢
  have h57 := hV.chg.next
  have h78 := c7.next
  have c58 : Chg s5 s8 [s1.next, s2.next, s4.next] := hV.chg.trans' c7 (fun id q _ => q) (fun id q h => by simp at q; omega)
  have k8 : DAt s8 d D B1 := by
    refine (k3.chg (c34.trans c45) (by simp)).chg c58 fun id q => ?_
    have := k1.blt id q
    simp only [List.mem_cons, List.not_mem_nil, or_false]
    omega
  have la8 : LAt s8 s1.next d (after (recF D)) := hV.la.chg c7 (by simp; omega)
  obtain ⟨Wa, cw, ps, p1, p2, p3⟩ := hV.py
  have p1' := c7.blk _ _ (by omega) (by simp; omega) p1
  have p2' : Pys s8 s5.next Wa cw ps := p2.loop hV.lp c7
  have f8 := c58.fine (c25.fine f2)
  have e2' : lookH s2.heap (s1.next + 1) = some (.cells [.pointer (some ⟨s1.next, 0, none⟩)] tPl false false) := e2
  have hpl8 := c58.blk _ _ (by omega) (by simp; omega) (c25.blk _ _ (by omega) (by simp) e2')
  have lF1 : ∀ id ∈ foot d B1, id < s1.next := fun id q => k1.blt id (List.mem_append_left _ q)
  have cS : Chg s s8 (foot d B) := c1.trans' ((c12.trans c25).trans c58) (fun id q _ => q) (fun id q h => by
    simp only [List.mem_append, List.mem_cons, List.not_mem_nil, or_false, false_or] at q
    omega)
  refine W0.of (comp_ok good ok_K25_TL (Box.out (p := wp pr 44 s.next _ _ _ _) ?_))
  (repeat(first|refine pSeq ?_|refine pReg ?_|refine sCons ?_|refine sNil ?_|refine rCons ?_|refine rNil ?_|refine kNo ?_|refine pRow ?_|refine pSkip ?_|refine pRet ?_|refine pCond ?_|refine gNone ?_))
  refine ld1_is rfl hpl8 rfl ?_
  (repeat(first|refine pSeq ?_|refine pReg ?_|refine sCons ?_|refine sNil ?_|refine rCons ?_|refine rNil ?_|refine kNo ?_|refine pRow ?_|refine pSkip ?_|refine pRet ?_|refine pCond ?_|refine gNone ?_))
  refine (wipe_w la8 k8 f8 (by rw [k8.many]; omega) (by rw [after_size]; exact htot)).mono fun v s9 q => ?_
  obtain ⟨rfl, B9, k9, st9, -⟩ := q
  have la9 := la8.chg st9.chg (la8.off k8)
  have c9 : Chg s s9 (foot d B) := cS.trans' st9.chg (fun id q _ => q) (fun id q h => (st1.ft id q).resolve_right (by omega))
  have al9 : ∀ id ∈ whole d B9, id ∈ whole d B ∨ s.next ≤ id := fun id q => (st9.al id q).elim (fun q => st1.al id q) (fun q => .inr (by omega))
  have lt8 : ∀ id ∈ foot d B1, id < s5.next := fun id q => by have := lF1 id q; omega
  (repeat(first|refine pSeq ?_|refine pReg ?_|refine sCons ?_|refine sNil ?_|refine rCons ?_|refine rNil ?_|refine kNo ?_|refine pRow ?_|refine pSkip ?_|refine pRet ?_|refine pCond ?_|refine gNone ?_))
  intro q hq
  by_cases he : ((after (recF D)).wiped D).1 = 0
  · obtain rfl : q = false := by rw [hq, he]; rfl
    have e : rcv D = (0, ((after (recF D)).wiped D).2.synced) := by unfold rcv; rw [if_neg (by simpa using he)]
    rw [e]
    (repeat(first|refine pSeq ?_|refine pReg ?_|refine sCons ?_|refine sNil ?_|refine rCons ?_|refine rNil ?_|refine kNo ?_|refine pRow ?_|refine pSkip ?_|refine pRet ?_|refine pCond ?_|refine gNone ?_))
    have hpl9 := st9.chg.blk _ _ (by omega) (fun q => by have := lF1 _ q; omega) hpl8
    refine ld1_is rfl hpl9 rfl ?_
    (repeat(first|refine pSeq ?_|refine pReg ?_|refine sCons ?_|refine sNil ?_|refine rCons ?_|refine rNil ?_|refine kNo ?_|refine pRow ?_|refine pSkip ?_|refine pRet ?_|refine pCond ?_|refine gNone ?_))
    refine (lsync_w la9 k9).mono fun v s10 q => ?_
    obtain ⟨rfl, la10, B10, k10, c10, -, al10⟩ := q
    have c810 : Chg s8 s10 (s1.next :: foot d B1) := st9.chg.trans' c10 (fun id q _ => List.mem_cons_of_mem _ q) (fun id q h => by
      rcases List.mem_cons.1 q with rfl | q
      · exact List.mem_cons_self ..
      · exact List.mem_cons_of_mem _ ((st9.ft id q).resolve_right (by omega)))
    have l5 : ∀ id ∈ s1.next :: foot d B1, id < s5.next := fun id q => by
      rcases List.mem_cons.1 q with rfl | q
      · omega
      · exact lt8 id q
    have hpl10 := c810.blk _ _ (by omega) (fun q => by
      rcases List.mem_cons.1 q with e | q
      · omega
      · have := lF1 _ q; omega) hpl8
    have pb10 := c810.blk _ _ (by omega) (fun q => by
      rcases List.mem_cons.1 q with e | q
      · omega
      · have := lF1 _ q; omega) p1'
    (repeat(first|refine pSeq ?_|refine pReg ?_|refine sCons ?_|refine sNil ?_|refine rCons ?_|refine rNil ?_|refine kNo ?_|refine pRow ?_|refine pSkip ?_|refine pRet ?_|refine pCond ?_|refine gNone ?_))
    intro q hq
    obtain rfl : q = false := by rw [hq]; rfl
    (repeat(first|refine pSeq ?_|refine pReg ?_|refine sCons ?_|refine sNil ?_|refine rCons ?_|refine rNil ?_|refine kNo ?_|refine pRow ?_|refine pSkip ?_|refine pRet ?_|refine pCond ?_|refine gNone ?_))
    refine ld1_is rfl hpl10 rfl ?_
    (repeat(first|refine pSeq ?_|refine pReg ?_|refine sCons ?_|refine sNil ?_|refine rCons ?_|refine rNil ?_|refine kNo ?_|refine pRow ?_|refine pSkip ?_|refine pRet ?_|refine pCond ?_|refine gNone ?_))
    refine ld1_is rfl pb10 rfl ?_
    (repeat(first|refine pSeq ?_|refine pReg ?_|refine sCons ?_|refine sNil ?_|refine rCons ?_|refine rNil ?_|refine kNo ?_|refine pRow ?_|refine pSkip ?_|refine pRet ?_|refine pCond ?_|refine gNone ?_))
    refine ⟨B10, k10, cS.trans' c810 (fun id q _ => q) (fun id q h => ?_), fun id q => ?_, .inr ⟨rfl, s1.next, Wa, cw, ps, rfl, la10, n1, (p2'.chg c810 l5).le (by omega), p3, fun id q => ?_⟩⟩
    · rcases List.mem_cons.1 q with rfl | q
      · omega
      · exact (st1.ft id q).resolve_right (by omega)
    · rcases al10 id q with q | q
      · exact al9 id q
      · exact .inr (by have := st9.chg.next; omega)
    · obtain ⟨q1, q2⟩ := p2'.ge q
      refine ⟨fun r => ?_, by omega⟩
      rcases al10 id r with r | r
      · rcases st9.al id r with r | r
        · have := k1.blt id r; omega
        · omega
      · have := st9.chg.next; omega
  · obtain rfl : q = true := by rw [hq]; simp [he]
    have e : rcv D = (after (recF D)).wiped D := by unfold rcv; rw [if_pos he]
    rw [e]
    (repeat(first|refine pSeq ?_|refine pReg ?_|refine sCons ?_|refine sNil ?_|refine rCons ?_|refine rNil ?_|refine kNo ?_|refine pRow ?_|refine pSkip ?_|refine pRet ?_|refine pCond ?_|refine gNone ?_))
    exact ⟨B9, k9, c9, al9, .inl ⟨he, rfl⟩⟩
end Go.Vf.S

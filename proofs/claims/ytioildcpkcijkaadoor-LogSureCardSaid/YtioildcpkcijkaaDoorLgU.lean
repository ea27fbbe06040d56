import Derived.Test.YtioildcpkcijkaaDoorLgS
/- What the law LogSure says: its calls. -/
namespace Go.Vf.S
open Go Go.Vf Go.Vf.Fr
attribute [local irreducible] wSeq wRow wp wG
set_option linter.unusedVariables false
set_option linter.unusedSimpArgs false
set_option maxRecDepth 10000

def svT (d mb : Nat) (ob : Option Addr) (n i g : Nat) : TL := [(2, .bool false), (3, .pointer (some ⟨d, 0, none⟩)), (5, .pointer (some ⟨g, 0, none⟩)), (7, .pointer (some ⟨mb, 0, none⟩)), (37, .slice ob n 0), (38, .int .i64 n), (39, .int .i64 i)]
/-- A call's end: on with the next one, or the answer. -/
def SwQ (k : Nat) (s0 : SS) (d mb : Nat) (ob : Option Addr) (fw : List AV) (i : Nat) (ex : AExit) (T' : TL) (s' : SS) : Prop :=
  (ex = .normal ∧ ∃ y, SvI s0 d mb ob fw y ∧ y.i = i + 1 ∧ Wk pr 183 k T' s' (svT d mb ob fw.length i y.g) y.s) ∨ (ex = .ret ∧ look T' 2 = some (.bool true))

theorem pys_snoc {T : TL} {s0 : Nat} {s : SS} {W : Option Addr} {cw : Nat} {qs : List Py} {q : Py} {x y : Operand} {K : RR → Prop} (h : PysT s s0 W cw qs) (hq : Rdb s q.1 q.2.2.length q.2.2 ∧ ∀ id ∈ blkOf q.1, s0 ≤ id ∧ id ∉ blkOf W) (hs : s0 ≤ s.next) (hl : qs.length < 1000000) (hx : opd T s.gl x = some (.slice W qs.length cw)) (hy : opd T s.gl y = some (.slice (some ⟨s.next, 0, none⟩) 1 1))
    (hK : ∀ s' : SS, PysT s' s0 (some ⟨s.next + 1, 0, none⟩) 0 (qs ++ [q]) → Chg s s' (blkOf W) → K (.eff (.slice (some ⟨s.next + 1, 0, none⟩) (qs.length + 1) 0) s')) :
    wN pr (.app tSl 1 24 x y) T { s with heap := (s.next, some (.cells [.slice q.1 q.2.2.length q.2.1] tSl false false)) :: s.heap, next := s.next + 1 } K := by
  refine appT (h.row.chg (.new []) (by simp)) hl hx hy lkH fun s5 r5 c5 n5 => ?_
  have c : Chg s s5 (blkOf W) := (Chg.new (b := .cells [.slice q.1 q.2.2.length q.2.1] tSl false false) []).trans' c5 (fun id q _ => by simp at q) (fun id q _ => q)
  refine hK s5 ⟨r5, ?_, ?_⟩ c
  · intro id r
    obtain rfl : id = s.next + 1 := by simpa [blkOf] using r
    omega
  · have keep : ∀ q : Py, (Rdb s q.1 q.2.2.length q.2.2 ∧ ∀ id ∈ blkOf q.1, s0 ≤ id ∧ id ∉ blkOf W) → Rdb s5 q.1 q.2.2.length q.2.2 ∧ ∀ id ∈ blkOf q.1, s0 ≤ id ∧ id ∉ blkOf (some ⟨s.next + 1, 0, none⟩ : Option Addr) := fun q hq => ⟨hq.1.chg c (fun id r w => (hq.2 id r).2 w), fun id r => ⟨(hq.2 id r).1, by have := hq.1.lt id r; simp only [blkOf, List.mem_singleton]; omega⟩⟩
    intro a ha
    rcases List.mem_append.1 ha with r | r
    · exact keep a (h.each a r)
    · obtain rfl : a = q := by simpa using r
      exact keep a hq

/-- Where a call lies while it is gone through. -/
structure Ab (s : SS) (d mb ab : Nat) (x : Sv) (a : AV) : Prop where
  cell : lookH s.heap ab = some (.cells (aCell a) tA false false)
  lt : ab < s.next
  offD : ab ∉ whole d x.B
  offG : ab ≠ x.g
  offM : ab ≠ mb

set_option maxHeartbeats 1000000 in
theorem sure_append {s0 : SS} {k d mb ab : Nat} {ob : Option Addr} {fw : List AV} {x : Sv} {a : AV} (h : SvI s0 d mb ob fw x) (hi : x.i < 40) (hA : Ab x.s d mb ab x a) (ha : a ∈ fw) (h60 : a.bl.length ≤ 60) :
    W pr 183 k code_K04_AP ((9, .pointer (some ⟨ab, 0, none⟩)) :: svT d mb ob fw.length x.i x.g) x.s (SwQ k s0 d mb ob fw x.i) := by
  have hin := (h.acts.ok a ha).1
  have hfew := h.few
  have hmany := h.many
  have hlen := h.len
  have hx : ∀ id ∈ blkOf a.bb, id ∉ foot d x.B := fun id q r => by
    obtain ⟨c, t, g, e⟩ := hin.2 id q
    obtain ⟨c', t', g', e', -⟩ := loose_dk h.on.dk id r (hin.lt id q)
    exact ro_ne e e' rfl
  have habg : ab ∉ x.g :: foot d x.B := by
    simp only [List.mem_cons, not_or]
    exact ⟨hA.offG, fun q => hA.offD (List.mem_append_left _ q)⟩
  refine comp_ok good ok_K04_AP (Box.out (p := wp pr 183 k _ _ _ _) ?_)
  unfold svT
  (repeat(first|refine pSeq ?_|refine pReg ?_|refine sCons ?_|refine sNil ?_|refine rCons ?_|refine rNil ?_|refine kNo ?_|refine pRow ?_|refine pSkip ?_|refine pRet ?_|refine pCond ?_|refine gNone ?_|refine gOn rfl ?_|refine gOff rfl rfl ?_|refine gTup rfl ?_))
  refine ld1_is rfl hA.cell rfl ?_
  (repeat(first|refine pSeq ?_|refine pReg ?_|refine sCons ?_|refine sNil ?_|refine rCons ?_|refine rNil ?_|refine kNo ?_|refine pRow ?_|refine pSkip ?_|refine pRet ?_|refine pCond ?_|refine gNone ?_|refine gOn rfl ?_|refine gOff rfl rfl ?_|refine gTup rfl ?_))
  by_cases hroom : (ch 0#32 1#32 x.all).length + 10 + a.bl.length ≤ 3000
  · refine (h.on.append hin.1.1 (by omega) h.full (by rw [h.cap]; omega) (by omega) hx).mono fun v s1 q => ?_
    obtain ⟨rfl, D1, B1, z1, o1, e1, e2, e3, e4, e5, c1, a1⟩ := q
    have hmb : mb ∉ x.g :: foot d x.B := by
      simp only [List.mem_cons, not_or]
      exact ⟨h.mg.1, fun q => h.mg.2 (List.mem_append_left _ q)⟩
    have mod1 := c1.blk _ _ h.mlt hmb h.mod
    have ab1 := c1.blk _ _ hA.lt habg hA.cell
    have py1 := h.py.chg' c1 (fun id q r => by
      obtain ⟨p1, p2, p3⟩ := h.off id q
      rcases List.mem_cons.1 r with r | r
      · exact p2 r
      · exact p1 (List.mem_append_left _ r))
    have acts1 := h.acts.chg c1 (loose_on h.on)
    have hn1 := c1.next
    have in1 : ∀ id, PyIn x.W x.qs id → id ∉ whole d B1 := fun id q r => (a1 id r).elim (fun r => (h.off id q).1 r) (fun r => by have := (h.py.ge q).2; omega)
    (repeat(first|refine pSeq ?_|refine pReg ?_|refine sCons ?_|refine sNil ?_|refine rCons ?_|refine rNil ?_|refine kNo ?_|refine pRow ?_|refine pSkip ?_|refine pRet ?_|refine pCond ?_|refine gNone ?_|refine gOn rfl ?_|refine gOff rfl rfl ?_|refine gTup rfl ?_))
    intro q hq
    obtain rfl : q = true := by rw [hq]; rfl
    (repeat(first|refine pSeq ?_|refine pReg ?_|refine sCons ?_|refine sNil ?_|refine rCons ?_|refine rNil ?_|refine kNo ?_|refine pRow ?_|refine pSkip ?_|refine pRet ?_|refine pCond ?_|refine gNone ?_|refine gOn rfl ?_|refine gOff rfl rfl ?_|refine gTup rfl ?_))
    refine ld1_is rfl mod1 rfl ?_
    (repeat(first|refine pSeq ?_|refine pReg ?_|refine sCons ?_|refine sNil ?_|refine rCons ?_|refine rNil ?_|refine kNo ?_|refine pRow ?_|refine pSkip ?_|refine pRet ?_|refine pCond ?_|refine gNone ?_|refine gOn rfl ?_|refine gOff rfl rfl ?_|refine gTup rfl ?_))
    refine ld1_is rfl ab1 rfl ?_
    (repeat(first|refine pSeq ?_|refine pReg ?_|refine sCons ?_|refine sNil ?_|refine rCons ?_|refine rNil ?_|refine kNo ?_|refine pRow ?_|refine pSkip ?_|refine pRet ?_|refine pCond ?_|refine gNone ?_|refine gOn rfl ?_|refine gOff rfl rfl ?_|refine gTup rfl ?_))
    have in1r := hin.1.1.chg c1 (fun id q r => by
      rcases List.mem_cons.1 r with r | r
      · obtain ⟨c, t, g, e⟩ := hin.2 id q
        exact ro_ne e h.on.la.blk r
      · exact hx id q r)
    refine (clone_w in1r (by omega)).mono fun v s2 q => ?_
    obtain ⟨b2, rfl, own2, new2, c2⟩ := q
    refine kAll (c2.keep o1.ev.fine) ?_
    have o2 := o1.same c2
    have mod2 := c2.blk _ _ (Nat.lt_of_lt_of_le h.mlt hn1) (by simp) mod1
    have py2 := py1.chg' c2 (by simp)
    have acts2 := acts1.chg c2 (.nil _)
    have hn2 := c2.next
    have hs2 : s0.next ≤ s2.next := Nat.le_trans h.next (Nat.le_trans hn1 hn2)
    (repeat(first|refine pSeq ?_|refine pReg ?_|refine sCons ?_|refine sNil ?_|refine rCons ?_|refine rNil ?_|refine kNo ?_|refine pRow ?_|refine pSkip ?_|refine pRet ?_|refine pCond ?_|refine gNone ?_|refine gOn rfl ?_|refine gOff rfl rfl ?_|refine gTup rfl ?_))
    refine mkS_is rfl rfl (rNew o2.ev.fine.at ?_)
    (repeat(first|refine pSeq ?_|refine pReg ?_|refine sCons ?_|refine sNil ?_|refine rCons ?_|refine rNil ?_|refine kNo ?_|refine pRow ?_|refine pSkip ?_|refine pRet ?_|refine pCond ?_|refine gNone ?_|refine gOn rfl ?_|refine gOff rfl rfl ?_|refine gTup rfl ?_))
    have offW1 : ∀ id ∈ blkOf x.W, id < x.s.next := fun id q => (h.py.ge (.inl q)).2
    refine pys_snoc (q := (b2, 0, a.bl)) py2 ⟨own2.rdb, fun id q => ⟨by have := new2 id q; have := h.next; omega, fun r => by have := new2 id q; have := offW1 id r; omega⟩⟩ hs2 (by omega) rfl rfl fun s3 py3 c3 => ?_
    have o3 : On s3 x.g d D1 B1 (x.all ++ [a.bl]) x.j z1 := o2.rowT py2.row c3
    have mod3 := c3.blk _ _ (Nat.lt_of_lt_of_le h.mlt (Nat.le_trans hn1 hn2)) (fun q => (h.off _ (.inl q)).2.2 rfl) mod2
    have acts3 := acts2.chg c3 (loose_T py2.row)
    have hn3 := c3.next
    (repeat(first|refine pSeq ?_|refine pReg ?_|refine sCons ?_|refine sNil ?_|refine rCons ?_|refine rNil ?_|refine kNo ?_|refine pRow ?_|refine pSkip ?_|refine pRet ?_|refine pCond ?_|refine gNone ?_|refine gOn rfl ?_|refine gOff rfl rfl ?_|refine gTup rfl ?_))
    refine st_abs rfl rfl mod3 (Nat.lt_of_lt_of_le h.mlt (Nat.le_trans hn1 (Nat.le_trans hn2 hn3))) rfl rfl fun s4 m4 c4 n4 => ?_
    have lt2 := own2.lt
    have inew : ∀ id, PyIn (some ⟨s2.next + 1, 0, none⟩) (x.qs ++ [(b2, 0, a.bl)]) id → PyIn x.W x.qs id ∨ s1.next ≤ id := fun id q => by
      rcases q with q | ⟨p, hp, q⟩
      · simp only [blkOf, List.mem_singleton] at q
        exact .inr (by omega)
      · rcases List.mem_append.1 hp with r | r
        · exact .inl (.inr ⟨p, r, q⟩)
        · obtain rfl : p = (b2, 0, a.bl) := by simpa using r
          exact .inr (new2 id q)
    have hlt1 := o1.dk.blt
    have hgl := h.on.la.lt
    have hml := h.mlt
    have offN : ∀ id, PyIn (some ⟨s2.next + 1, 0, none⟩) (x.qs ++ [(b2, 0, a.bl)]) id → id ∉ whole d B1 ∧ id ≠ x.g ∧ id ≠ mb := fun id q => by
      rcases inew id q with r | r
      · exact ⟨in1 id r, (h.off id r).2.1, (h.off id r).2.2⟩
      · exact ⟨fun t => by have := hlt1 id t; omega, by omega, by omega⟩
    have mbg1 : mb ∉ whole d B1 := fun q => (a1 mb q).elim h.mg.2 (fun q => by omega)
    have hY : SvI s0 d mb ob fw { i := x.i + 1, g := x.g, all := x.all ++ [a.bl], j := x.j, W := some ⟨s2.next + 1, 0, none⟩, cw := 0, qs := x.qs ++ [(b2, 0, a.bl)], D := D1, B := B1, z := z1, s := s4 } := by
      refine ⟨?_, h.newD.al a1 h.next, h.newG, by have := h.next; have := c4.next; show s0.next ≤ s4.next; omega, e1.trans h.cap, e2.trans h.full, ?_, ?_, ?_, ?_, ?_, ?_, h.mge, ?_, ?_, offN, ?_, ⟨h.mg.1, mbg1⟩⟩
      · exact o3.chg c4 (by simp only [List.mem_singleton]; intro e; exact type_ne o3.ev.steps mod3 (by decide) e) (by simpa using h.mg.1.symm) (fun id q r => mbg1 (by simp only [List.mem_singleton] at r; rw [← r]; exact q))
      · obtain ⟨zs, hz⟩ := h.sure
        refine ⟨zs, ?_⟩
        show D1.sure = _
        rw [e3, hz, List.take_append_of_le_length h.ws.le]
      · show Ws x.j (x.all ++ [a.bl]) D1.ws
        rw [e4]
        exact h.ws.snoc a.bl x.j
      · intro p hp
        rcases List.mem_append.1 hp with r | r
        · exact h.h60 p r
        · obtain rfl : p = a.bl := by simpa using r
          exact h60
      · show (x.all ++ [a.bl]).length ≤ x.i + 1
        rw [List.length_append, List.length_singleton]; omega
      · rw [List.length_append]; exact m4
      · show mb < s4.next
        have := c4.next; omega
      · exact py3.chg' c4 (fun id q r => (offN id q).2.2 (by simpa using r))
      · show (x.qs ++ [(b2, 0, a.bl)]).map (fun q : Py => q.2.2) = x.all ++ [a.bl]
        rw [List.map_append, h.pq]; rfl
      · exact acts3.chg c4 (.cons mod3 (by decide) (.nil _))
    (repeat(first|refine pSeq ?_|refine pReg ?_|refine sCons ?_|refine sNil ?_|refine rCons ?_|refine rNil ?_|refine kNo ?_|refine pRow ?_|refine pSkip ?_|refine pRet ?_|refine pCond ?_|refine gNone ?_|refine gOn rfl ?_|refine gOff rfl rfl ?_|refine gTup rfl ?_))
    intro q hq
    obtain rfl : q = true := by rw [hq]; rfl
    (repeat(first|refine pSeq ?_|refine pReg ?_|refine sCons ?_|refine sNil ?_|refine rCons ?_|refine rNil ?_|refine kNo ?_|refine pRow ?_|refine pSkip ?_|refine pRet ?_|refine pCond ?_|refine gNone ?_|refine gOn rfl ?_|refine gOff rfl rfl ?_|refine gTup rfl ?_))
    intro z5 hz5
    have hz5' : z5 = ((x.all.length + 1 : Nat) : Int) := by
      have e : (BitVec.ofNat 32 (x.all.length + 1)).toNat = x.all.length + 1 := by simp; omega
      rw [hz5]
      show IntKind.i64.wrap ((BitVec.ofNat 32 (x.all.length + 1)).toNat : Int) = _
      rw [e, i64_id (by omega)]
    subst hz5'
    (repeat(first|refine pSeq ?_|refine pReg ?_|refine sCons ?_|refine sNil ?_|refine rCons ?_|refine rNil ?_|refine kNo ?_|refine pRow ?_|refine pSkip ?_|refine pRet ?_|refine pCond ?_|refine gNone ?_|refine gOn rfl ?_|refine gOff rfl rfl ?_|refine gTup rfl ?_))
    refine ld1_is rfl m4 rfl ?_
    (repeat(first|refine pSeq ?_|refine pReg ?_|refine sCons ?_|refine sNil ?_|refine rCons ?_|refine rNil ?_|refine kNo ?_|refine pRow ?_|refine pSkip ?_|refine pRet ?_|refine pCond ?_|refine gNone ?_|refine gOn rfl ?_|refine gOff rfl rfl ?_|refine gTup rfl ?_))
    intro q hq
    obtain rfl : q = false := by rw [hq, hlen]; simp
    (repeat(first|refine pSeq ?_|refine pReg ?_|refine sCons ?_|refine sNil ?_|refine rCons ?_|refine rNil ?_|refine kNo ?_|refine pRow ?_|refine pSkip ?_|refine pRet ?_|refine pCond ?_|refine gNone ?_|refine gOn rfl ?_|refine gOff rfl rfl ?_|refine gTup rfl ?_))
    intro q hq
    obtain rfl : q = false := by rw [hq]; rfl
    (repeat(first|refine pSeq ?_|refine pReg ?_|refine sCons ?_|refine sNil ?_|refine rCons ?_|refine rNil ?_|refine kNo ?_|refine pRow ?_|refine pSkip ?_|refine pRet ?_|refine pCond ?_|refine gNone ?_|refine gOn rfl ?_|refine gOff rfl rfl ?_|refine gTup rfl ?_))
    exact .inl ⟨rfl, _, hY, rfl, Wk.same ⟨rfl, rfl, rfl, rfl, rfl, rfl, rfl, trivial⟩⟩
  · refine (h.on.refused hin.1.1 (by omega) (.inr (by rw [h.cap]; omega)) (by omega) hx).mono fun v s1 q => ?_
    obtain ⟨rfl, B1, o1, c1, a1⟩ := q
    have hmb : mb ∉ x.g :: foot d x.B := by
      simp only [List.mem_cons, not_or]
      exact ⟨h.mg.1, fun q => h.mg.2 (List.mem_append_left _ q)⟩
    have in1 : ∀ id, PyIn x.W x.qs id → id ∉ whole d B1 := fun id q r => (a1 id r).elim (fun r => (h.off id q).1 r) (fun r => by have := (h.py.ge q).2; omega)
    have hn1 := c1.next
    have hml := h.mlt
    have hY : SvI s0 d mb ob fw { x with i := x.i + 1, B := B1, s := s1 } :=
      ⟨o1, h.newD.al a1 h.next, h.newG, Nat.le_trans h.next hn1, h.cap, h.full, h.sure, h.ws, h.h60, Nat.le_succ_of_le h.many, c1.blk _ _ h.mlt hmb h.mod, Nat.lt_of_lt_of_le h.mlt hn1, h.mge, h.py.chg' c1 (fun id q r => by
        obtain ⟨p1, p2, p3⟩ := h.off id q
        rcases List.mem_cons.1 r with r | r
        · exact p2 r
        · exact p1 (List.mem_append_left _ r)), h.pq, fun id q => ⟨in1 id q, (h.off id q).2⟩, h.acts.chg c1 (loose_on h.on), ⟨h.mg.1, fun q => (a1 mb q).elim h.mg.2 (fun q => by omega)⟩⟩
    (repeat(first|refine pSeq ?_|refine pReg ?_|refine sCons ?_|refine sNil ?_|refine rCons ?_|refine rNil ?_|refine kNo ?_|refine pRow ?_|refine pSkip ?_|refine pRet ?_|refine pCond ?_|refine gNone ?_|refine gOn rfl ?_|refine gOff rfl rfl ?_|refine gTup rfl ?_))
    intro q hq
    obtain rfl : q = false := by rw [hq]; rfl
    (repeat(first|refine pSeq ?_|refine pReg ?_|refine sCons ?_|refine sNil ?_|refine rCons ?_|refine rNil ?_|refine kNo ?_|refine pRow ?_|refine pSkip ?_|refine pRet ?_|refine pCond ?_|refine gNone ?_|refine gOn rfl ?_|refine gOff rfl rfl ?_|refine gTup rfl ?_))
    intro q hq
    obtain rfl : q = false := by rw [hq]; rfl
    (repeat(first|refine pSeq ?_|refine pReg ?_|refine sCons ?_|refine sNil ?_|refine rCons ?_|refine rNil ?_|refine kNo ?_|refine pRow ?_|refine pSkip ?_|refine pRet ?_|refine pCond ?_|refine gNone ?_|refine gOn rfl ?_|refine gOff rfl rfl ?_|refine gTup rfl ?_))
    intro q hq
    obtain rfl : q = true := by rw [hq]; rfl
    (repeat(first|refine pSeq ?_|refine pReg ?_|refine sCons ?_|refine sNil ?_|refine rCons ?_|refine rNil ?_|refine kNo ?_|refine pRow ?_|refine pSkip ?_|refine pRet ?_|refine pCond ?_|refine gNone ?_|refine gOn rfl ?_|refine gOff rfl rfl ?_|refine gTup rfl ?_))
    intro q hq
    obtain rfl : q = false := by rw [hq]; rfl
    (repeat(first|refine pSeq ?_|refine pReg ?_|refine sCons ?_|refine sNil ?_|refine rCons ?_|refine rNil ?_|refine kNo ?_|refine pRow ?_|refine pSkip ?_|refine pRet ?_|refine pCond ?_|refine gNone ?_|refine gOn rfl ?_|refine gOff rfl rfl ?_|refine gTup rfl ?_))
    intro q hq
    obtain rfl : q = false := by rw [hq]; rfl
    (repeat(first|refine pSeq ?_|refine pReg ?_|refine sCons ?_|refine sNil ?_|refine rCons ?_|refine rNil ?_|refine kNo ?_|refine pRow ?_|refine pSkip ?_|refine pRet ?_|refine pCond ?_|refine gNone ?_|refine gOn rfl ?_|refine gOff rfl rfl ?_|refine gTup rfl ?_))
    exact .inl ⟨rfl, _, hY, rfl, Wk.same ⟨rfl, rfl, rfl, rfl, rfl, rfl, rfl, trivial⟩⟩
end Go.Vf.S

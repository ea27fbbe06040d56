import Derived.Test.YtnafoonbjhoolaaDkR
/- A call with both. -/
namespace Go.Vf.S
open Go Go.Vf
attribute [local irreducible] wSeq wRow wp
set_option linter.unusedVariables false
set_option linter.unusedSimpArgs false
set_option maxRecDepth 10000

def Dk.one (A : Dk) (a : AV) : Dk :=
  if 0 ≤ a.what ∧ a.what ≤ 4 then (A.wrote a.pos a.bl).2 else if a.what = 5 then A.synced else if a.what = 6 then A.crashed a.kl else if a.what = 7 then { A with full := decide (a.pos.tmod 2 ≠ 0) } else A
theorem inv_crashed (A : Dk) (zs : List Int) : (A.crashed zs).Inv := rfl
theorem inv_one {A : Dk} (h : A.Inv) (a : AV) : (A.one a).Inv := by
  unfold Dk.one
  split
  · exact inv_wrote h _ _
  · split
    · exact inv_synced h
    · split
      · exact inv_crashed _ _
      · split
        · exact h
        · exact h

/-- Both disks, apart. -/
structure Both (s : SS) (d r : Nat) (A : Dk) (B : Bs) (R : RB) : Prop where
  disk : DAt s d A B
  ref : RAt s r A R
  inv : A.Inv
  sep : ∀ id ∈ rbytes R, id ∉ whole d B

theorem Both.rd {s : SS} {d r : Nat} {A : Dk} {B : Bs} {R : RB} (h : Both s d r A B R) : ∀ id ∈ rwhole r R, id ∉ whole d B := by
  intro id q
  simp only [rwhole, rfoot, List.mem_append, List.mem_cons] at q
  rcases q with (rfl | q) | q
  · exact h.disk.foot3 h.ref.obj ⟨by decide, by decide, by decide⟩
  · obtain ⟨_, e⟩ := h.ref.row.at _ q; exact h.disk.foot3 e ⟨by decide, by decide, by decide⟩
  · exact h.sep id q
theorem Both.dr {s : SS} {d r : Nat} {A : Dk} {B : Bs} {R : RB} (h : Both s d r A B R) : ∀ id ∈ whole d B, id ∉ rwhole r R := fun id q r => h.rd id r q

/-- What a call with both does to their places. -/
structure Two (d r : Nat) (s : SS) (B : Bs) (R : RB) (s' : SS) (B' : Bs) (R' : RB) : Prop where
  chg : Chg s s' (foot d B ++ rfoot r R)
  al : ∀ id ∈ whole d B', id ∈ whole d B ∨ s.next ≤ id
  rl : ∀ id ∈ rwhole r R', id ∈ rwhole r R ∨ s.next ≤ id

theorem Two.refl (d r : Nat) (s : SS) (B : Bs) (R : RB) : Two d r s B R s B R := ⟨.refl _ _, fun id q => .inl q, fun id q => .inl q⟩
theorem RStep.whole {r : Nat} {s s' : SS} {R R' : RB} (h : RStep r s R s' R') : ∀ id ∈ rwhole r R', id ∈ rwhole r R ∨ s.next ≤ id := by
  intro id q
  simp only [rwhole, List.mem_append] at q ⊢
  rcases q with q | q
  · exact (h.ft id q).imp .inl (fun q => q)
  · exact (h.al id q).imp .inr (fun q => q)

/-- First the one, then the other. -/
theorem Both.both {s s1 s2 : SS} {d r : Nat} {A A' : Dk} {B B' : Bs} {R R' : RB} (h : Both s d r A B R) (hi : A'.Inv) (h1 : DAt s1 d A' B') (st1 : Step d s B s1 B') (h2 : RAt s2 r A' R') (st2 : RStep r s1 R s2 R') : Both s2 d r A' B' R' ∧ Two d r s B R s2 B' R' := by
  have n1 := st1.chg.next
  have lt1 := h1.blt
  have d1 : ∀ id ∈ whole d B', id ∉ rfoot r R := fun id q q2 => by
    rcases st1.al id q with q | q
    · exact h.dr id q (List.mem_append_left _ q2)
    · have := h.ref.blt id (List.mem_append_left _ q2); omega
  refine ⟨⟨h1.chg st2.chg d1, h2, hi, fun id q q2 => ?_⟩, ?_, st1.al, fun id q => ?_⟩
  · rcases st2.al id q with q | q
    · rcases st1.al id q2 with q3 | q3
      · exact h.sep id q q3
      · have := h.ref.blt id (List.mem_append_right _ q); omega
    · have := lt1 id q2; omega
  · exact st1.chg.trans' st2.chg (fun id q _ => List.mem_append_left _ q) (fun id q _ => List.mem_append_right _ q)
  · rcases st2.whole id q with q | q
    · exact .inl q
    · exact .inr (by omega)
/-- The other way round. -/
theorem Both.both' {s s1 s2 : SS} {d r : Nat} {A A' : Dk} {B B' : Bs} {R R' : RB} (h : Both s d r A B R) (hi : A'.Inv) (h1 : RAt s1 r A' R') (st1 : RStep r s R s1 R') (h2 : DAt s2 d A' B') (st2 : Step d s1 B s2 B') : Both s2 d r A' B' R' ∧ Two d r s B R s2 B' R' := by
  have n1 := st1.chg.next
  have lt1 := h1.blt
  have d1 : ∀ id ∈ rwhole r R', id ∉ foot d B := fun id q q2 => by
    rcases st1.whole id q with q | q
    · exact h.rd id q (foot_whole q2)
    · have := h.disk.blt id (foot_whole q2); omega
  refine ⟨⟨h2, h1.chg st2.chg d1, hi, fun id q q2 => ?_⟩, ?_, fun id q => ?_, st1.whole⟩
  · have q' : id ∈ rwhole r R' := List.mem_append_right _ q
    rcases st2.al id q2 with q3 | q3
    · rcases st1.al id q with q | q
      · exact h.sep id q q3
      · have := h.disk.blt id q3; omega
    · have := lt1 id q'; omega
  · exact st1.chg.trans' st2.chg (fun id q _ => List.mem_append_right _ q) (fun id q _ => List.mem_append_left _ q)
  · rcases st2.al id q with q | q
    · exact .inl q
    · exact .inr (by omega)
theorem Both.chg0 {s s' : SS} {d r : Nat} {A : Dk} {B : Bs} {R : RB} (h : Both s d r A B R) (c : Chg s s' []) : Both s' d r A B R := ⟨h.disk.chg c (fun _ _ => by simp), h.ref.chg c (fun _ _ => by simp), h.inv, h.sep⟩
theorem Two.pre {d r : Nat} {s s1 s2 : SS} {B B' : Bs} {R R' : RB} (c : Chg s s1 []) (t : Two d r s1 B R s2 B' R') : Two d r s B R s2 B' R' := by
  have := c.next
  exact ⟨c.nil t.chg, fun id q => (t.al id q).imp (fun q => q) (fun q => by omega), fun id q => (t.rl id q).imp (fun q => q) (fun q => by omega)⟩
theorem Two.post {d r : Nat} {s s1 s2 : SS} {B B' : Bs} {R R' : RB} {Z : List Nat} (t : Two d r s B R s1 B' R') (c : Chg s1 s2 Z) (hz : ∀ id ∈ Z, s.next ≤ id) : Two d r s B R s2 B' R' := ⟨t.chg.fresh c hz, t.al, t.rl⟩

structure OwnS where
  j : Nat
  s : SS
  l : List UInt8

set_option maxHeartbeats 4000000 in
theorem one_w {s : SS} {d r : Nat} {A : Dk} {B : Bs} {R : RB} {a : AV} (h : Both s d r A B R) (hf : Fine s) (ha : ActOk s a) (hb : a.bl.length ≤ 40) (hw : B.wl.length < 1000 ∧ R.wl.length < 1000) :
    CallW pr n_law01_one [.pointer (some ⟨d, 0, none⟩), .pointer (some ⟨r, 0, none⟩), .agg ⟨aCell a⟩] s fun v s' => v = .bool true ∧ ∃ B' R', Both s' d r (A.one a) B' R' ∧ Two d r s B R s' B' R' ∧ B'.wl.length ≤ B.wl.length + 1 ∧ R'.wl.length ≤ R.wl.length + 1 := by
  have hcap := h.disk.cap
  have hnow := h.disk.lnow
  refine CallW.run good ok_law01_one (by simp) rfl ?_
  have cA := Chg.new (s := s) (b := .cells (flat (.agg ⟨aCell a⟩)) tA false false) []
  have h1 := h.chg0 cA
  have ha1 := ha.chg cA (fun _ _ => by simp)
  have f1 := cA.fine hf
  have hbx1 : lookH ({ s with heap := (s.next, some (.cells (flat (.agg ⟨aCell a⟩)) tA false false)) :: s.heap, next := s.next + 1 } : SS).heap s.next = some (.cells (aCell a) tA false false) := lkH
  have hlt1 : s.next < ({ s with heap := (s.next, some (.cells (flat (.agg ⟨aCell a⟩)) tA false false)) :: s.heap, next := s.next + 1 } : SS).next := Nat.lt_succ_self _
  (repeat (first | refine pSeq ?_ | refine pReg ?_ | refine sRaw ?_ | refine sCons ?_ | refine sNil ?_ | refine rCons ?_ | refine rNil ?_ | refine kNo ?_ | refine pRow ?_ | refine pBlock ?_ | refine pSkip ?_ | refine pExit ?_ | refine pRet ?_ | refine pCond ?_ | refine gNone ?_ | refine gOn rfl ?_ | refine gOff rfl rfl ?_))
  generalize ({ s with heap := (s.next, some (.cells (flat (.agg ⟨aCell a⟩)) tA false false)) :: s.heap, next := s.next + 1 } : SS) = s1 at *
  have np1 := cA.next
  obtain ⟨what, hwhat⟩ : ∃ w, w = a.what := ⟨_, rfl⟩
  refine ldI_is (z := what) rfl hbx1 (by rw [hwhat]; rfl) ?_
  by_cases hw4 : 0 ≤ what ∧ what ≤ 4
  · have eo : A.one a = (A.wrote a.pos a.bl).2 := by unfold Dk.one; rw [if_pos (by rw [← hwhat]; exact hw4)]
    rw [eo]
    have hcases : what = 0 ∨ what = 1 ∨ what = 2 ∨ what = 3 ∨ what = 4 := by omega
    rcases hcases with rfl | rfl | rfl | rfl | rfl
    all_goals
      (repeat (first | refine pSeq ?_ | refine pReg ?_ | refine sRaw ?_ | refine sCons ?_ | refine sNil ?_ | refine rCons ?_ | refine rNil ?_ | refine kNo ?_ | refine pRow ?_ | refine pBlock ?_ | refine pSkip ?_ | refine pExit ?_ | refine pRet ?_ | refine pCond ?_ | refine gNone ?_ | refine gOn rfl ?_ | refine gOff rfl rfl ?_))
      repeat (
        intro q hq
        simp at hq
        subst hq
        (repeat (first | refine pSeq ?_ | refine pReg ?_ | refine sRaw ?_ | refine sCons ?_ | refine sNil ?_ | refine rCons ?_ | refine rNil ?_ | refine kNo ?_ | refine pRow ?_ | refine pBlock ?_ | refine pSkip ?_ | refine pExit ?_ | refine pRet ?_ | refine pCond ?_ | refine gNone ?_ | refine gOn rfl ?_ | refine gOff rfl rfl ?_)))
      refine ld1_is (v := .slice a.bb a.bl.length 0) rfl hbx1 rfl ?_
      (repeat (first | refine pSeq ?_ | refine pReg ?_ | refine sRaw ?_ | refine sCons ?_ | refine sNil ?_ | refine rCons ?_ | refine rNil ?_ | refine kNo ?_ | refine pRow ?_ | refine pBlock ?_ | refine pSkip ?_ | refine pExit ?_ | refine pRet ?_ | refine pCond ?_ | refine gNone ?_ | refine gOn rfl ?_ | refine gOff rfl rfl ?_))
      refine (clone_w ha1.1.1.1 (by omega)).mono fun v s2 q => ?_
      obtain ⟨X, rfl, oX, nX, c2⟩ := q
      have h2 := h1.chg0 c2
      have ha2 := ha1.chg c2 (fun _ _ => by simp)
      have f2 := c2.fine f1
      have hbx2 := c2.blk _ _ hlt1 (by simp) hbx1
      have np2 := c2.next
      (repeat (first | refine pSeq ?_ | refine pReg ?_ | refine sRaw ?_ | refine sCons ?_ | refine sNil ?_ | refine rCons ?_ | refine rNil ?_ | refine kNo ?_ | refine pRow ?_ | refine pBlock ?_ | refine pSkip ?_ | refine pExit ?_ | refine pRet ?_ | refine pCond ?_ | refine gNone ?_ | refine gOn rfl ?_ | refine gOff rfl rfl ?_))
      refine ldI_is (z := a.pos) rfl hbx2 rfl ?_
      (repeat (first | refine pSeq ?_ | refine pReg ?_ | refine sRaw ?_ | refine sCons ?_ | refine sNil ?_ | refine rCons ?_ | refine rNil ?_ | refine kNo ?_ | refine pRow ?_ | refine pBlock ?_ | refine pSkip ?_ | refine pExit ?_ | refine pRet ?_ | refine pCond ?_ | refine gNone ?_ | refine gOn rfl ?_ | refine gOff rfl rfl ?_))
      refine ldI_is (z := a.pos) rfl hbx2 rfl ?_
      (repeat (first | refine pSeq ?_ | refine pReg ?_ | refine sRaw ?_ | refine sCons ?_ | refine sNil ?_ | refine rCons ?_ | refine rNil ?_ | refine kNo ?_ | refine pRow ?_ | refine pBlock ?_ | refine pSkip ?_ | refine pExit ?_ | refine pRet ?_ | refine pCond ?_ | refine gNone ?_ | refine gOn rfl ?_ | refine gOff rfl rfl ?_))
      refine ld1_is (v := .slice a.bb a.bl.length 0) rfl hbx2 rfl ?_
      (repeat (first | refine pSeq ?_ | refine pReg ?_ | refine sRaw ?_ | refine sCons ?_ | refine sNil ?_ | refine rCons ?_ | refine rNil ?_ | refine kNo ?_ | refine pRow ?_ | refine pBlock ?_ | refine pSkip ?_ | refine pExit ?_ | refine pRet ?_ | refine pCond ?_ | refine gNone ?_ | refine gOn rfl ?_ | refine gOff rfl rfl ?_))
      refine (write_w h2.disk f2 oX.rdb (by omega) (by omega) ha2.2.2.1.2).mono fun v s3 q => ?_
      obtain ⟨rfl, B3, h3, st3, l3⟩ := q
      have r3 := h2.ref.chg st3.chg (fun id q r => h2.rd id q (foot_whole r))
      have ha3 := ha2.chg st3.chg (fun id q r => let ⟨_, _, _, e⟩ := ha2.ro id q; h2.disk.footR e (foot_whole r))
      have oX3 := oX.chg st3.chg (fun id q r => by have := nX id q; have := h1.disk.blt id (foot_whole r); omega)
      have hbx3 := st3.chg.blk _ _ (by omega) (fun r => h2.disk.foot3 hbx2 ⟨by decide, by decide, by decide⟩ (foot_whole r)) hbx2
      refine kEach ⟨fun _ => ld1_is rfl hbx3 rfl rfl, fun _ => ldI_is rfl hbx3 rfl rfl, trivial⟩ ?_
      (repeat (first | refine pSeq ?_ | refine pReg ?_ | refine sRaw ?_ | refine sCons ?_ | refine sNil ?_ | refine rCons ?_ | refine rNil ?_ | refine kNo ?_ | refine pRow ?_ | refine pBlock ?_ | refine pSkip ?_ | refine pExit ?_ | refine pRet ?_ | refine pCond ?_ | refine gNone ?_ | refine gOn rfl ?_ | refine gOff rfl rfl ?_))
      refine (rwrite_w r3 h2.inv ha3.1.1.1 (by omega) (by omega) hnow).mono fun v s4 q => ?_
      obtain ⟨rfl, R4, r4, st4, l4⟩ := q
      obtain ⟨h4, t4⟩ := h2.both (inv_wrote h2.inv _ _) h3 st3 r4 st4
      have oX4 := oX3.chg st4.chg (fun id q r => by have := nX id q; have := h1.ref.blt id (List.mem_append_left _ r); omega)
      have np4 := t4.chg.next
      have nX4 : ∀ id ∈ blkOf X, id ∉ whole d B3 ∧ id ∉ rwhole r R4 := fun id q => by
        have := nX id q
        have lt := oX.lt id q
        refine ⟨fun r => ?_, fun r => ?_⟩
        · rcases t4.al id r with r | r
          · have := h1.disk.blt id r; omega
          · omega
        · rcases t4.rl id r with r | r
          · have := h1.ref.blt id r; omega
          · omega
      (repeat (first | refine pSeq ?_ | refine pReg ?_ | refine sRaw ?_ | refine sCons ?_ | refine sNil ?_ | refine rCons ?_ | refine rNil ?_ | refine kNo ?_ | refine pRow ?_ | refine pBlock ?_ | refine pSkip ?_ | refine pExit ?_ | refine pRet ?_ | refine pCond ?_ | refine gNone ?_ | refine gOn rfl ?_ | refine gOff rfl rfl ?_))
      intro q hq
      obtain rfl : q = true := by rw [hq]; simp
      (repeat (first | refine pSeq ?_ | refine pReg ?_ | refine sRaw ?_ | refine sCons ?_ | refine sNil ?_ | refine rCons ?_ | refine rNil ?_ | refine kNo ?_ | refine pRow ?_ | refine pBlock ?_ | refine pSkip ?_ | refine pExit ?_ | refine pRet ?_ | refine pCond ?_ | refine gNone ?_ | refine gOn rfl ?_ | refine gOff rfl rfl ?_))
      refine pLoop (MW.head good (fun x : OwnS => a.bl.length - x.j) (fun x => x.j ≤ a.bl.length ∧ x.l.length = a.bl.length ∧ Own tB x.s X x.l ∧ Chg s4 x.s (blkOf X))
        (fun x => [(7, .slice X a.bl.length 0), (8, .bool true), (34, .int .i64 a.bl.length), (35, .int .i64 x.j)]) (fun x => x.s) ⟨0, s4, a.bl⟩ ⟨Nat.zero_le _, rfl, oX4, .refl _ _⟩ (Wk.same ⟨rfl, rfl, rfl, rfl, trivial⟩) ?_)
      intro ⟨j, s5, l5⟩ ⟨hj, hl5, o5, c5⟩
      dsimp only at hj hl5 o5 c5 ⊢
      (repeat (first | refine pSeq ?_ | refine pReg ?_ | refine sRaw ?_ | refine sCons ?_ | refine sNil ?_ | refine rCons ?_ | refine rNil ?_ | refine kNo ?_ | refine pRow ?_ | refine pBlock ?_ | refine pSkip ?_ | refine pExit ?_ | refine pRet ?_ | refine pCond ?_ | refine gNone ?_ | refine gOn rfl ?_ | refine gOff rfl rfl ?_))
      intro q hq
      by_cases hjl : j < a.bl.length
      · obtain rfl : q = true := by rw [hq]; simp; omega
        obtain ⟨bx, gx, hX, hbx⟩ := o5.some_at (show j < l5.length by omega)
        subst hX
        have hbl := o5.2.2.1
        (repeat (first | refine pSeq ?_ | refine pReg ?_ | refine sRaw ?_ | refine sCons ?_ | refine sNil ?_ | refine rCons ?_ | refine rNil ?_ | refine kNo ?_ | refine pRow ?_ | refine pBlock ?_ | refine pSkip ?_ | refine pExit ?_ | refine pRet ?_ | refine pCond ?_ | refine gNone ?_ | refine gOn rfl ?_ | refine gOff rfl rfl ?_))
        refine ⟨⟨by omega, Int.ofNat_lt.2 hjl⟩, ?_⟩
        intro m hm o ho
        obtain rfl : m = j := by omega
        rw [Nat.zero_add, Nat.mul_one] at ho
        subst ho
        (repeat (first | refine pSeq ?_ | refine pReg ?_ | refine sRaw ?_ | refine sCons ?_ | refine sNil ?_ | refine rCons ?_ | refine rNil ?_ | refine kNo ?_ | refine pRow ?_ | refine pBlock ?_ | refine pSkip ?_ | refine pExit ?_ | refine pRet ?_ | refine pCond ?_ | refine gNone ?_ | refine gOn rfl ?_ | refine gOff rfl rfl ?_))
        refine ldI_is rfl hbx (bytesV_get (by omega)) ?_
        (repeat (first | refine pSeq ?_ | refine pReg ?_ | refine sRaw ?_ | refine sCons ?_ | refine sNil ?_ | refine rCons ?_ | refine rNil ?_ | refine kNo ?_ | refine pRow ?_ | refine pBlock ?_ | refine pSkip ?_ | refine pExit ?_ | refine pRet ?_ | refine pCond ?_ | refine gNone ?_ | refine gOn rfl ?_ | refine gOff rfl rfl ?_))
        intro z hz
        obtain ⟨y, hy⟩ := rng_u8 (((l5.getD o 0).toNat : Int) + 1)
        rw [hy] at hz
        subst hz
        (repeat (first | refine pSeq ?_ | refine pReg ?_ | refine sRaw ?_ | refine sCons ?_ | refine sNil ?_ | refine rCons ?_ | refine rNil ?_ | refine kNo ?_ | refine pRow ?_ | refine pBlock ?_ | refine pSkip ?_ | refine pExit ?_ | refine pRet ?_ | refine pCond ?_ | refine gNone ?_ | refine gOn rfl ?_ | refine gOff rfl rfl ?_))
        refine ⟨⟨by omega, Int.ofNat_lt.2 hjl⟩, ?_⟩
        intro m hm o2 ho
        obtain rfl : m = o := by omega
        rw [Nat.zero_add, Nat.mul_one] at ho
        subst ho
        (repeat (first | refine pSeq ?_ | refine pReg ?_ | refine sRaw ?_ | refine sCons ?_ | refine sNil ?_ | refine rCons ?_ | refine rNil ?_ | refine kNo ?_ | refine pRow ?_ | refine pBlock ?_ | refine pSkip ?_ | refine pExit ?_ | refine pRet ?_ | refine pCond ?_ | refine gNone ?_ | refine gOn rfl ?_ | refine gOff rfl rfl ?_))
        have hset := setRow_bytes l5 [y] o2 (by simp; omega)
        refine st_abs rfl rfl hbx hbl rfl hset fun s6 hb6 c6 n6 => ?_
        (repeat (first | refine pSeq ?_ | refine pReg ?_ | refine sRaw ?_ | refine sCons ?_ | refine sNil ?_ | refine rCons ?_ | refine rNil ?_ | refine kNo ?_ | refine pRow ?_ | refine pBlock ?_ | refine pSkip ?_ | refine pExit ?_ | refine pRet ?_ | refine pCond ?_ | refine gNone ?_ | refine gOn rfl ?_ | refine gOff rfl rfl ?_))
        intro z3 hz3
        rw [i64_id (by omega)] at hz3
        (repeat (first | refine pSeq ?_ | refine pReg ?_ | refine sRaw ?_ | refine sCons ?_ | refine sNil ?_ | refine rCons ?_ | refine rNil ?_ | refine kNo ?_ | refine pRow ?_ | refine pBlock ?_ | refine pSkip ?_ | refine pExit ?_ | refine pRet ?_ | refine pCond ?_ | refine gNone ?_ | refine gOn rfl ?_ | refine gOff rfl rfl ?_))
        refine ⟨⟨o2 + 1, s6, l5.take o2 ++ [y] ++ l5.drop (o2 + 1)⟩, ⟨hjl, by dsimp only; simp; omega, ⟨rfl, rfl, by have := c6.next; show bx < s6.next; omega, gx, hb6, fun q => ?_⟩, c5.trans' c6 (fun id q _ => q) (fun id q _ => by simpa [blkOf] using q)⟩, by dsimp only; omega, Wk.same ⟨rfl, rfl, rfl, ?_, trivial⟩⟩
        · exfalso
          obtain ⟨_, _, _, g', e4, e5⟩ := o5
          rw [hbx] at e4
          cases e4
          have := congrArg List.length (e5 q)
          rw [List.length_nil] at this
          omega
        · subst hz3
          rfl
      · obtain rfl : q = false := by rw [hq]; simp; omega
        (repeat (first | refine pSeq ?_ | refine pReg ?_ | refine sRaw ?_ | refine sCons ?_ | refine sNil ?_ | refine rCons ?_ | refine rNil ?_ | refine kNo ?_ | refine pRow ?_ | refine pBlock ?_ | refine pSkip ?_ | refine pExit ?_ | refine pRet ?_ | refine pCond ?_ | refine gNone ?_ | refine gOn rfl ?_ | refine gOff rfl rfl ?_))
        have h5 : Both s5 d r (A.wrote a.pos a.bl).2 B3 R4 := ⟨h4.disk.chg c5 (fun id q r => (nX4 id r).1 q), h4.ref.chg c5 (fun id q r => (nX4 id r).2 q), h4.inv, h4.sep⟩
        exact ⟨rfl, B3, R4, h5, (Two.pre (cA.nil c2) t4).post c5 (fun id q => Nat.le_trans np1 (nX id q)), l3, l4⟩
  have hno : ¬ (0 ≤ a.what ∧ a.what ≤ 4) := by rw [← hwhat]; exact hw4
  by_cases h5 : what = 5
  · have eo : A.one a = A.synced := by unfold Dk.one; rw [if_neg hno, if_pos (by rw [← hwhat]; exact h5)]
    rw [eo]
    subst h5
    (repeat (first | refine pSeq ?_ | refine pReg ?_ | refine sRaw ?_ | refine sCons ?_ | refine sNil ?_ | refine rCons ?_ | refine rNil ?_ | refine kNo ?_ | refine pRow ?_ | refine pBlock ?_ | refine pSkip ?_ | refine pExit ?_ | refine pRet ?_ | refine pCond ?_ | refine gNone ?_ | refine gOn rfl ?_ | refine gOff rfl rfl ?_))
    repeat (
      intro q hq
      simp at hq
      subst hq
      (repeat (first | refine pSeq ?_ | refine pReg ?_ | refine sRaw ?_ | refine sCons ?_ | refine sNil ?_ | refine rCons ?_ | refine rNil ?_ | refine kNo ?_ | refine pRow ?_ | refine pBlock ?_ | refine pSkip ?_ | refine pExit ?_ | refine pRet ?_ | refine pCond ?_ | refine gNone ?_ | refine gOn rfl ?_ | refine gOff rfl rfl ?_)))
    refine (rsync_w h1.ref).mono fun v s2 q => ?_
    obtain ⟨R2, r2, st2, l2⟩ := q
    have d2 := h1.disk.chg st2.chg (fun id q r => h1.dr id q (List.mem_append_left _ r))
    (repeat (first | refine pSeq ?_ | refine pReg ?_ | refine sRaw ?_ | refine sCons ?_ | refine sNil ?_ | refine rCons ?_ | refine rNil ?_ | refine kNo ?_ | refine pRow ?_ | refine pBlock ?_ | refine pSkip ?_ | refine pExit ?_ | refine pRet ?_ | refine pCond ?_ | refine gNone ?_ | refine gOn rfl ?_ | refine gOff rfl rfl ?_))
    refine (sync_w d2).mono fun v s3 q => ?_
    obtain ⟨rfl, B3, h3, st3, l3⟩ := q
    obtain ⟨h4, t4⟩ := h1.both' (inv_synced h1.inv) r2 st2 h3 st3
    (repeat (first | refine pSeq ?_ | refine pReg ?_ | refine sRaw ?_ | refine sCons ?_ | refine sNil ?_ | refine rCons ?_ | refine rNil ?_ | refine kNo ?_ | refine pRow ?_ | refine pBlock ?_ | refine pSkip ?_ | refine pExit ?_ | refine pRet ?_ | refine pCond ?_ | refine gNone ?_ | refine gOn rfl ?_ | refine gOff rfl rfl ?_))
    intro q hq
    obtain rfl : q = true := by rw [hq]; simp
    (repeat (first | refine pSeq ?_ | refine pReg ?_ | refine sRaw ?_ | refine sCons ?_ | refine sNil ?_ | refine rCons ?_ | refine rNil ?_ | refine kNo ?_ | refine pRow ?_ | refine pBlock ?_ | refine pSkip ?_ | refine pExit ?_ | refine pRet ?_ | refine pCond ?_ | refine gNone ?_ | refine gOn rfl ?_ | refine gOff rfl rfl ?_))
    exact ⟨rfl, B3, R2, h4, t4.pre cA, by rw [l3]; exact Nat.zero_le _, by rw [l2]; exact Nat.zero_le _⟩
  by_cases h6 : what = 6
  · have eo : A.one a = A.crashed a.kl := by unfold Dk.one; rw [if_neg hno, if_neg (by rw [← hwhat]; exact h5), if_pos (by rw [← hwhat]; exact h6)]
    rw [eo]
    subst h6
    (repeat (first | refine pSeq ?_ | refine pReg ?_ | refine sRaw ?_ | refine sCons ?_ | refine sNil ?_ | refine rCons ?_ | refine rNil ?_ | refine kNo ?_ | refine pRow ?_ | refine pBlock ?_ | refine pSkip ?_ | refine pExit ?_ | refine pRet ?_ | refine pCond ?_ | refine gNone ?_ | refine gOn rfl ?_ | refine gOff rfl rfl ?_))
    repeat (
      intro q hq
      simp at hq
      subst hq
      (repeat (first | refine pSeq ?_ | refine pReg ?_ | refine sRaw ?_ | refine sCons ?_ | refine sNil ?_ | refine rCons ?_ | refine rNil ?_ | refine kNo ?_ | refine pRow ?_ | refine pBlock ?_ | refine pSkip ?_ | refine pExit ?_ | refine pRet ?_ | refine pCond ?_ | refine gNone ?_ | refine gOn rfl ?_ | refine gOff rfl rfl ?_)))
    refine ld1_is (v := .slice a.kb a.kl.length 0) rfl hbx1 rfl ?_
    (repeat (first | refine pSeq ?_ | refine pReg ?_ | refine sRaw ?_ | refine sCons ?_ | refine sNil ?_ | refine rCons ?_ | refine rNil ?_ | refine kNo ?_ | refine pRow ?_ | refine pBlock ?_ | refine pSkip ?_ | refine pExit ?_ | refine pRet ?_ | refine pCond ?_ | refine gNone ?_ | refine gOn rfl ?_ | refine gOff rfl rfl ?_))
    refine (rcrash_w h1.ref ha1.2.1.1).mono fun v s2 q => ?_
    obtain ⟨R2, r2, st2, l2⟩ := q
    have d2 := h1.disk.chg st2.chg (fun id q r => h1.dr id q (List.mem_append_left _ r))
    have hbx2 := st2.chg.blk _ _ hlt1 (h1.ref.foot3 hbx1 ⟨by decide, by decide⟩) hbx1
    have ha2 := ha1.chg st2.chg (fun id q r => let ⟨_, _, _, e⟩ := ha1.ro id q; h1.ref.footR e (List.mem_append_left _ r))
    (repeat (first | refine pSeq ?_ | refine pReg ?_ | refine sRaw ?_ | refine sCons ?_ | refine sNil ?_ | refine rCons ?_ | refine rNil ?_ | refine kNo ?_ | refine pRow ?_ | refine pBlock ?_ | refine pSkip ?_ | refine pExit ?_ | refine pRet ?_ | refine pCond ?_ | refine gNone ?_ | refine gOn rfl ?_ | refine gOff rfl rfl ?_))
    refine ld1_is (v := .slice a.kb a.kl.length 0) rfl hbx2 rfl ?_
    (repeat (first | refine pSeq ?_ | refine pReg ?_ | refine sRaw ?_ | refine sCons ?_ | refine sNil ?_ | refine rCons ?_ | refine rNil ?_ | refine kNo ?_ | refine pRow ?_ | refine pBlock ?_ | refine pSkip ?_ | refine pExit ?_ | refine pRet ?_ | refine pCond ?_ | refine gNone ?_ | refine gOn rfl ?_ | refine gOff rfl rfl ?_))
    refine (crash_w d2 (st2.chg.fine f1) ha2.2.1.1).mono fun v s3 q => ?_
    obtain ⟨rfl, B3, h3, st3, l3⟩ := q
    obtain ⟨h4, t4⟩ := h1.both' (inv_crashed _ _) r2 st2 h3 st3
    (repeat (first | refine pSeq ?_ | refine pReg ?_ | refine sRaw ?_ | refine sCons ?_ | refine sNil ?_ | refine rCons ?_ | refine rNil ?_ | refine kNo ?_ | refine pRow ?_ | refine pBlock ?_ | refine pSkip ?_ | refine pExit ?_ | refine pRet ?_ | refine pCond ?_ | refine gNone ?_ | refine gOn rfl ?_ | refine gOff rfl rfl ?_))
    intro q hq
    obtain rfl : q = true := by rw [hq]; simp
    (repeat (first | refine pSeq ?_ | refine pReg ?_ | refine sRaw ?_ | refine sCons ?_ | refine sNil ?_ | refine rCons ?_ | refine rNil ?_ | refine kNo ?_ | refine pRow ?_ | refine pBlock ?_ | refine pSkip ?_ | refine pExit ?_ | refine pRet ?_ | refine pCond ?_ | refine gNone ?_ | refine gOn rfl ?_ | refine gOff rfl rfl ?_))
    exact ⟨rfl, B3, R2, h4, t4.pre cA, by rw [l3]; exact Nat.zero_le _, by rw [l2]; exact Nat.zero_le _⟩
  by_cases h7 : what = 7
  · have eo : A.one a = { A with full := decide (a.pos.tmod 2 ≠ 0) } := by unfold Dk.one; rw [if_neg hno, if_neg (by rw [← hwhat]; exact h5), if_neg (by rw [← hwhat]; exact h6), if_pos (by rw [← hwhat]; exact h7)]
    rw [eo]
    subst h7
    (repeat (first | refine pSeq ?_ | refine pReg ?_ | refine sRaw ?_ | refine sCons ?_ | refine sNil ?_ | refine rCons ?_ | refine rNil ?_ | refine kNo ?_ | refine pRow ?_ | refine pBlock ?_ | refine pSkip ?_ | refine pExit ?_ | refine pRet ?_ | refine pCond ?_ | refine gNone ?_ | refine gOn rfl ?_ | refine gOff rfl rfl ?_))
    repeat (
      intro q hq
      simp at hq
      subst hq
      (repeat (first | refine pSeq ?_ | refine pReg ?_ | refine sRaw ?_ | refine sCons ?_ | refine sNil ?_ | refine rCons ?_ | refine rNil ?_ | refine kNo ?_ | refine pRow ?_ | refine pBlock ?_ | refine pSkip ?_ | refine pExit ?_ | refine pRet ?_ | refine pCond ?_ | refine gNone ?_ | refine gOn rfl ?_ | refine gOff rfl rfl ?_)))
    refine ldI_is (z := a.pos) rfl hbx1 rfl ?_
    (repeat (first | refine pSeq ?_ | refine pReg ?_ | refine sRaw ?_ | refine sCons ?_ | refine sNil ?_ | refine rCons ?_ | refine rNil ?_ | refine kNo ?_ | refine pRow ?_ | refine pBlock ?_ | refine pSkip ?_ | refine pExit ?_ | refine pRet ?_ | refine pCond ?_ | refine gNone ?_ | refine gOn rfl ?_ | refine gOff rfl rfl ?_))
    refine ⟨by decide, ?_⟩
    intro z hz
    (repeat (first | refine pSeq ?_ | refine pReg ?_ | refine sRaw ?_ | refine sCons ?_ | refine sNil ?_ | refine rCons ?_ | refine rNil ?_ | refine kNo ?_ | refine pRow ?_ | refine pBlock ?_ | refine pSkip ?_ | refine pExit ?_ | refine pRet ?_ | refine pCond ?_ | refine gNone ?_ | refine gOn rfl ?_ | refine gOff rfl rfl ?_))
    intro q hq
    subst hz; subst hq
    (repeat (first | refine pSeq ?_ | refine pReg ?_ | refine sRaw ?_ | refine sCons ?_ | refine sNil ?_ | refine rCons ?_ | refine rNil ?_ | refine kNo ?_ | refine pRow ?_ | refine pBlock ?_ | refine pSkip ?_ | refine pExit ?_ | refine pRet ?_ | refine pCond ?_ | refine gNone ?_ | refine gOn rfl ?_ | refine gOff rfl rfl ?_))
    refine st_abs (cs' := rCells { A with full := decide (a.pos.tmod 2 ≠ 0) } R) rfl rfl h1.ref.obj h1.ref.lt rfl rfl fun s2 obj2 c2 n2 => ?_
    obtain ⟨a1, a2, a3, a4⟩ := h1.ref.apart
    obtain ⟨r2, st2⟩ := h1.ref.turn (A' := { A with full := decide (a.pos.tmod 2 ≠ 0) }) (R' := R) (.refl _ _) c2 obj2 (h1.ref.sure.chg c2 (fun id q1 q2 => a1 id q1 (List.mem_singleton.1 q2).symm)) (h1.ref.row.chg c2 (fun id q1 q2 => a2 id q1 (List.mem_singleton.1 q2).symm))
      (fun w hw => .inl hw) rfl h1.ref.lsure h1.ref.lws h1.ref.ews (fun id q => .inl q) (fun id q => .inl q)
    have d2 := h1.disk.chg st2.chg (fun id q r => h1.dr id q (List.mem_append_left _ r))
    (repeat (first | refine pSeq ?_ | refine pReg ?_ | refine sRaw ?_ | refine sCons ?_ | refine sNil ?_ | refine rCons ?_ | refine rNil ?_ | refine kNo ?_ | refine pRow ?_ | refine pBlock ?_ | refine pSkip ?_ | refine pExit ?_ | refine pRet ?_ | refine pCond ?_ | refine gNone ?_ | refine gOn rfl ?_ | refine gOff rfl rfl ?_))
    refine ldB_is rfl r2.obj rfl ?_
    (repeat (first | refine pSeq ?_ | refine pReg ?_ | refine sRaw ?_ | refine sCons ?_ | refine sNil ?_ | refine rCons ?_ | refine rNil ?_ | refine kNo ?_ | refine pRow ?_ | refine pBlock ?_ | refine pSkip ?_ | refine pExit ?_ | refine pRet ?_ | refine pCond ?_ | refine gNone ?_ | refine gOn rfl ?_ | refine gOff rfl rfl ?_))
    refine (fill_w d2 _).mono fun v s3 q => ?_
    obtain ⟨rfl, h3, st3⟩ := q
    obtain ⟨h4, t4⟩ := h1.both' (A' := { A with full := decide (a.pos.tmod 2 ≠ 0) }) h1.inv r2 st2 h3 st3
    (repeat (first | refine pSeq ?_ | refine pReg ?_ | refine sRaw ?_ | refine sCons ?_ | refine sNil ?_ | refine rCons ?_ | refine rNil ?_ | refine kNo ?_ | refine pRow ?_ | refine pBlock ?_ | refine pSkip ?_ | refine pExit ?_ | refine pRet ?_ | refine pCond ?_ | refine gNone ?_ | refine gOn rfl ?_ | refine gOff rfl rfl ?_))
    intro q hq
    obtain rfl : q = true := by rw [hq]; simp
    (repeat (first | refine pSeq ?_ | refine pReg ?_ | refine sRaw ?_ | refine sCons ?_ | refine sNil ?_ | refine rCons ?_ | refine rNil ?_ | refine kNo ?_ | refine pRow ?_ | refine pBlock ?_ | refine pSkip ?_ | refine pExit ?_ | refine pRet ?_ | refine pCond ?_ | refine gNone ?_ | refine gOn rfl ?_ | refine gOff rfl rfl ?_))
    exact ⟨rfl, B, R, h4, t4.pre cA, Nat.le_succ _, Nat.le_succ _⟩
  have eo : A.one a = A := by unfold Dk.one; rw [if_neg hno, if_neg (by rw [← hwhat]; exact h5), if_neg (by rw [← hwhat]; exact h6), if_neg (by rw [← hwhat]; exact h7)]
  rw [eo]
  by_cases h8 : what = 8
  · subst h8
    (repeat (first | refine pSeq ?_ | refine pReg ?_ | refine sRaw ?_ | refine sCons ?_ | refine sNil ?_ | refine rCons ?_ | refine rNil ?_ | refine kNo ?_ | refine pRow ?_ | refine pBlock ?_ | refine pSkip ?_ | refine pExit ?_ | refine pRet ?_ | refine pCond ?_ | refine gNone ?_ | refine gOn rfl ?_ | refine gOff rfl rfl ?_))
    repeat (
      intro q hq
      simp at hq
      subst hq
      (repeat (first | refine pSeq ?_ | refine pReg ?_ | refine sRaw ?_ | refine sCons ?_ | refine sNil ?_ | refine rCons ?_ | refine rNil ?_ | refine kNo ?_ | refine pRow ?_ | refine pBlock ?_ | refine pSkip ?_ | refine pExit ?_ | refine pRet ?_ | refine pCond ?_ | refine gNone ?_ | refine gOn rfl ?_ | refine gOff rfl rfl ?_)))
    refine ldI_is (z := a.pos) rfl hbx1 rfl ?_
    (repeat (first | refine pSeq ?_ | refine pReg ?_ | refine sRaw ?_ | refine sCons ?_ | refine sNil ?_ | refine rCons ?_ | refine rNil ?_ | refine kNo ?_ | refine pRow ?_ | refine pBlock ?_ | refine pSkip ?_ | refine pExit ?_ | refine pRet ?_ | refine pCond ?_ | refine gNone ?_ | refine gOn rfl ?_ | refine gOff rfl rfl ?_))
    refine ldI_is (z := a.many) rfl hbx1 rfl ?_
    (repeat (first | refine pSeq ?_ | refine pReg ?_ | refine sRaw ?_ | refine sCons ?_ | refine sNil ?_ | refine rCons ?_ | refine rNil ?_ | refine kNo ?_ | refine pRow ?_ | refine pBlock ?_ | refine pSkip ?_ | refine pExit ?_ | refine pRet ?_ | refine pCond ?_ | refine gNone ?_ | refine gOn rfl ?_ | refine gOff rfl rfl ?_))
    refine ldI_is (z := a.pos) rfl hbx1 rfl ?_
    (repeat (first | refine pSeq ?_ | refine pReg ?_ | refine sRaw ?_ | refine sCons ?_ | refine sNil ?_ | refine rCons ?_ | refine rNil ?_ | refine kNo ?_ | refine pRow ?_ | refine pBlock ?_ | refine pSkip ?_ | refine pExit ?_ | refine pRet ?_ | refine pCond ?_ | refine gNone ?_ | refine gOn rfl ?_ | refine gOff rfl rfl ?_))
    refine ldI_is (z := a.many) rfl hbx1 rfl ?_
    (repeat (first | refine pSeq ?_ | refine pReg ?_ | refine sRaw ?_ | refine sCons ?_ | refine sNil ?_ | refine rCons ?_ | refine rNil ?_ | refine kNo ?_ | refine pRow ?_ | refine pBlock ?_ | refine pSkip ?_ | refine pExit ?_ | refine pRet ?_ | refine pCond ?_ | refine gNone ?_ | refine gOn rfl ?_ | refine gOff rfl rfl ?_))
    refine (read_w h1.disk ha1.2.2.2.2).mono fun v s2 q => ?_
    obtain ⟨T1, rfl, o2, n2, c2⟩ := q
    have h2 := h1.chg0 c2
    refine kAll (c2.keep f1) ?_
    (repeat (first | refine pSeq ?_ | refine pReg ?_ | refine sRaw ?_ | refine sCons ?_ | refine sNil ?_ | refine rCons ?_ | refine rNil ?_ | refine kNo ?_ | refine pRow ?_ | refine pBlock ?_ | refine pSkip ?_ | refine pExit ?_ | refine pRet ?_ | refine pCond ?_ | refine gNone ?_ | refine gOn rfl ?_ | refine gOff rfl rfl ?_))
    refine (rread_w h2.ref h2.inv (by omega) ha1.2.2.1).mono fun v s3 q => ?_
    obtain ⟨T2, rfl, o3, n3, c3⟩ := q
    have h3 := h2.chg0 c3
    have o23 := o2.chg c3 (fun _ _ => by simp)
    (repeat (first | refine pSeq ?_ | refine pReg ?_ | refine sRaw ?_ | refine sCons ?_ | refine sNil ?_ | refine rCons ?_ | refine rNil ?_ | refine kNo ?_ | refine pRow ?_ | refine pBlock ?_ | refine pSkip ?_ | refine pExit ?_ | refine pRet ?_ | refine pCond ?_ | refine gNone ?_ | refine gOn rfl ?_ | refine gOff rfl rfl ?_))
    refine (equal_w o23.rdb o3.rdb).mono fun v s4 q => ?_
    obtain ⟨rfl, rfl⟩ := q
    rw [decide_eq_true rfl]
    (repeat (first | refine pSeq ?_ | refine pReg ?_ | refine sRaw ?_ | refine sCons ?_ | refine sNil ?_ | refine rCons ?_ | refine rNil ?_ | refine kNo ?_ | refine pRow ?_ | refine pBlock ?_ | refine pSkip ?_ | refine pExit ?_ | refine pRet ?_ | refine pCond ?_ | refine gNone ?_ | refine gOn rfl ?_ | refine gOff rfl rfl ?_))
    exact ⟨rfl, B, R, h3, (Two.refl d r _ B R).pre ((cA.nil c2).nil c3), Nat.le_succ _, Nat.le_succ _⟩
  (repeat (first | refine pSeq ?_ | refine pReg ?_ | refine sRaw ?_ | refine sCons ?_ | refine sNil ?_ | refine rCons ?_ | refine rNil ?_ | refine kNo ?_ | refine pRow ?_ | refine pBlock ?_ | refine pSkip ?_ | refine pExit ?_ | refine pRet ?_ | refine pCond ?_ | refine gNone ?_ | refine gOn rfl ?_ | refine gOff rfl rfl ?_))
  repeat (
    intro q hq
    obtain rfl : q = false := by rw [hq]; simp; omega
    (repeat (first | refine pSeq ?_ | refine pReg ?_ | refine sRaw ?_ | refine sCons ?_ | refine sNil ?_ | refine rCons ?_ | refine rNil ?_ | refine kNo ?_ | refine pRow ?_ | refine pBlock ?_ | refine pSkip ?_ | refine pExit ?_ | refine pRet ?_ | refine pCond ?_ | refine gNone ?_ | refine gOn rfl ?_ | refine gOff rfl rfl ?_)))
  exact ⟨rfl, B, R, h1, (Two.refl d r _ B R).pre cA, Nat.le_succ _, Nat.le_succ _⟩
end Go.Vf.S

import Derived.Test.YtioildcpkcijkaaDoorLgC
/- A log: a payload appended. -/
namespace Go.Vf.S
open Go Go.Vf Go.Vf.Fr
attribute [local irreducible] wSeq wRow wp wG
set_option linter.unusedVariables false
set_option linter.unusedSimpArgs false
set_option maxRecDepth 10000

theorem Old.chg {s s' : SS} (o : Old s s') : Chg s s' [] := ⟨o.gl, o.next, fun id x hid _ hx => o.blk id x hid hx, o.fine⟩

/-- A payload's frame behind what there is. -/
def Lg.form (A : Lg) (l : List UInt8) : List UInt8 := sealS A.ahead (A.many + 1#32) l.length l
/-- What is told, and what is then. -/
def Lg.appended (A : Lg) (D : Dk) (l : List UInt8) : (BitVec 32 × Int) × Lg × Dk :=
  if 16384 < l.length then ((0#32, 3), A, D)
  else if (D.wrote A.size (A.form l)).1 ≠ 0 then ((0#32, (D.wrote A.size (A.form l)).1), A, (D.wrote A.size (A.form l)).2)
  else ((A.many + 1#32, 0), A.took (10 + l.length) (sumS A.ahead (A.many + 1#32) l.length l), (D.wrote A.size (A.form l)).2)

theorem wrote_cases (D : Dk) (k : Int) (l : List UInt8) : (D.wrote k l).1 = 0 ∨ (D.wrote k l).1 = 1 ∨ (D.wrote k l).1 = 7 := by
  unfold Dk.wrote
  split
  · exact .inr (.inl rfl)
  · split
    · exact .inr (.inr rfl)
    · exact .inl rfl

set_option maxHeartbeats 1000000 in
theorem append_w {s : SS} {g d n c : Nat} {base : Option Addr} {l : List UInt8} {A : Lg} {D : Dk} {B : Bs} (h : LAt s g d A) (k : DAt s d D B) (hf : Fine s) (hw : B.wl.length < 10000) (hp : Pre s base n l) (hz : A.size ≤ 1048576) (hx : ∀ id ∈ blkOf base, id ∉ foot d B) :
    CallW pr n_log_Log_Append [.pointer (some ⟨g, 0, none⟩), .slice base n c] s fun v s' =>
      v = .tuple ⟨[.int .u32 (A.appended D l).1.1.toNat, .int .i64 (A.appended D l).1.2]⟩ ∧ LAt s' g d (A.appended D l).2.1 ∧ ∃ B', DAt s' d (A.appended D l).2.2 B' ∧ Chg s s' (g :: foot d B) ∧ B'.wl.length ≤ B.wl.length + 1 ∧ (∀ id ∈ whole d B', id ∈ whole d B ∨ s.next ≤ id) := by
  have hnl : n = l.length := hp.rd.1
  refine CallW.run good ok_log_Log_Append (by simp) rfl ?_
  (repeat(first|refine pSeq ?_|refine pReg ?_|refine sCons ?_|refine sNil ?_|refine rCons ?_|refine rNil ?_|refine kNo ?_|refine pRow ?_|refine pSkip ?_|refine pRet ?_|refine pCond ?_|refine gNone ?_))
  refine (lnone_w h).mono fun v s q => ?_
  obtain ⟨rfl, rfl⟩ := q
  (repeat(first|refine pSeq ?_|refine pReg ?_|refine sCons ?_|refine sNil ?_|refine rCons ?_|refine rNil ?_|refine kNo ?_|refine pRow ?_|refine pSkip ?_|refine pRet ?_|refine pCond ?_|refine gNone ?_))
  refine ldI_is rfl h.blk rfl ?_
  (repeat(first|refine pSeq ?_|refine pReg ?_|refine sCons ?_|refine sNil ?_|refine rCons ?_|refine rNil ?_|refine kNo ?_|refine pRow ?_|refine pSkip ?_|refine pRet ?_|refine pCond ?_|refine gNone ?_))
  refine (next_w h).mono fun v s q => ?_
  obtain ⟨rfl, rfl⟩ := q
  refine kAll .refl ?_
  (repeat(first|refine pSeq ?_|refine pReg ?_|refine sCons ?_|refine sNil ?_|refine rCons ?_|refine rNil ?_|refine kNo ?_|refine pRow ?_|refine pSkip ?_|refine pRet ?_|refine pCond ?_|refine gNone ?_))
  by_cases hl : 16384 < n
  · have e : A.appended D l = ((0#32, 3), A, D) := by unfold Lg.appended; rw [if_pos (by omega)]
    rw [e]
    refine (seal_long hp.rd hl A.ahead (A.many + 1#32)).mono fun v s q => ?_
    obtain ⟨rfl, rfl⟩ := q
    (repeat(first|refine pSeq ?_|refine pReg ?_|refine sCons ?_|refine sNil ?_|refine rCons ?_|refine rNil ?_|refine kNo ?_|refine pRow ?_|refine pSkip ?_|refine pRet ?_|refine pCond ?_|refine gNone ?_))
    intro q hq
    obtain rfl : q = true := by rw [hq]; rfl
    (repeat(first|refine pSeq ?_|refine pReg ?_|refine sCons ?_|refine sNil ?_|refine rCons ?_|refine rNil ?_|refine kNo ?_|refine pRow ?_|refine pSkip ?_|refine pRet ?_|refine pCond ?_|refine gNone ?_))
    exact ⟨rfl, h, B, k, .refl _ _, by omega, fun id q => .inl q⟩
  refine (seal_w hp (by omega) A.ahead (A.many + 1#32)).mono fun v s1 q => ?_
  obtain ⟨b1, c1, rfl, hR, o1⟩ := q
  have h1 := h.chg o1.chg (by simp)
  have k1 := k.chg o1.chg (by simp)
  have p1 := hp.old o1
  (repeat(first|refine pSeq ?_|refine pReg ?_|refine sCons ?_|refine sNil ?_|refine rCons ?_|refine rNil ?_|refine kNo ?_|refine pRow ?_|refine pSkip ?_|refine pRet ?_|refine pCond ?_|refine gNone ?_))
  intro q hq
  obtain rfl : q = false := by rw [hq]; rfl
  (repeat(first|refine pSeq ?_|refine pReg ?_|refine sCons ?_|refine sNil ?_|refine rCons ?_|refine rNil ?_|refine kNo ?_|refine pRow ?_|refine pSkip ?_|refine pRet ?_|refine pCond ?_|refine gNone ?_))
  refine ld1_is rfl h1.blk rfl ?_
  (repeat(first|refine pSeq ?_|refine pReg ?_|refine sCons ?_|refine sNil ?_|refine rCons ?_|refine rNil ?_|refine kNo ?_|refine pRow ?_|refine pSkip ?_|refine pRet ?_|refine pCond ?_|refine gNone ?_))
  refine ldI_is rfl h1.blk rfl ?_
  (repeat(first|refine pSeq ?_|refine pReg ?_|refine sCons ?_|refine sNil ?_|refine rCons ?_|refine rNil ?_|refine kNo ?_|refine pRow ?_|refine pSkip ?_|refine pRet ?_|refine pCond ?_|refine gNone ?_))
  refine (write_w (k := A.size) k1 (o1.fine hf) hR (by omega) hw (by omega)).mono fun v s2 q => ?_
  obtain ⟨rfl, B2, k2, st, hl2⟩ := q
  have ef : sealS A.ahead (A.many + 1#32) n l = A.form l := by unfold Lg.form; rw [hnl]
  rw [ef] at k2 ⊢
  have h2 := h1.chg st.chg (h1.off k1)
  have c2 : Chg s s2 (g :: foot d B) := o1.chg.trans' st.chg (fun id q => by simp at q) (fun id q _ => List.mem_cons_of_mem _ q)
  have al2 : ∀ id ∈ whole d B2, id ∈ whole d B ∨ s.next ≤ id := fun id q => (st.al id q).imp (fun q => q) (fun q => Nat.le_trans o1.next q)
  have fin2 := wrote_cases D A.size (A.form l)
  (repeat(first|refine pSeq ?_|refine pReg ?_|refine sCons ?_|refine sNil ?_|refine rCons ?_|refine rNil ?_|refine kNo ?_|refine pRow ?_|refine pSkip ?_|refine pRet ?_|refine pCond ?_|refine gNone ?_))
  intro q hq
  by_cases hr : (D.wrote A.size (A.form l)).1 = 0
  · obtain rfl : q = false := by rw [hq, hr]; rfl
    have e : A.appended D l = ((A.many + 1#32, 0), A.took (10 + l.length) (sumS A.ahead (A.many + 1#32) l.length l), (D.wrote A.size (A.form l)).2) := by unfold Lg.appended; rw [if_neg (by omega), if_neg (by simp [hr])]
    rw [e]
    (repeat(first|refine pSeq ?_|refine pReg ?_|refine sCons ?_|refine sNil ?_|refine rCons ?_|refine rNil ?_|refine kNo ?_|refine pRow ?_|refine pSkip ?_|refine pRet ?_|refine pCond ?_|refine gNone ?_))
    refine ldI_is rfl h2.blk rfl ?_
    (repeat(first|refine pSeq ?_|refine pReg ?_|refine sCons ?_|refine sNil ?_|refine rCons ?_|refine rNil ?_|refine kNo ?_|refine pRow ?_|refine pSkip ?_|refine pRet ?_|refine pCond ?_|refine gNone ?_))
    refine (next_w h2).mono fun v s2 q => ?_
    obtain ⟨rfl, rfl⟩ := q
    refine kAll .refl ?_
    (repeat(first|refine pSeq ?_|refine pReg ?_|refine sCons ?_|refine sNil ?_|refine rCons ?_|refine rNil ?_|refine kNo ?_|refine pRow ?_|refine pSkip ?_|refine pRet ?_|refine pCond ?_|refine gNone ?_))
    have p2 : Pre s2 base n l := ⟨st.chg.gl.trans p1.gl, st.chg.blk 0 _ (by have := p1.next; omega) (fun q => by
      simp only [foot, List.mem_cons, List.mem_append] at q
      rcases q with e0 | (q | q) | q
      · exact type_ne p1.steps k1.obj (by decide) e0
      · obtain ⟨z, hz⟩ := k1.sure.at _ q
        exact type_ne p1.steps hz (by decide) rfl
      · obtain ⟨z, hz⟩ := k1.now.at _ q
        exact type_ne p1.steps hz (by decide) rfl
      · obtain ⟨z, hz⟩ := k1.row.at _ q
        exact type_ne p1.steps hz (by decide) rfl) p1.steps, Nat.le_trans p1.next st.chg.next, p1.rd.chg st.chg hx⟩
    refine (CallW.of_ok (sum_ok p2 (by omega) A.ahead (A.many + 1#32)) ⟨rfl, rfl⟩ : CallW pr n_frame_Sum _ s2 fun v s' => v = _ ∧ s' = s2).mono fun v s2 q => ?_
    obtain ⟨rfl, rfl⟩ := q
    refine kAll .refl ?_
    (repeat(first|refine pSeq ?_|refine pReg ?_|refine sCons ?_|refine sNil ?_|refine rCons ?_|refine rNil ?_|refine kNo ?_|refine pRow ?_|refine pSkip ?_|refine pRet ?_|refine pCond ?_|refine gNone ?_))
    refine (take_w (n := 10 + n) (x := sumS A.ahead (A.many + 1#32) n l) h2 (by omega)).mono fun v s3 q => ?_
    obtain ⟨h3, c3, n3⟩ := q
    have off2 := h2.offW k2
    (repeat(first|refine pSeq ?_|refine pReg ?_|refine sCons ?_|refine sNil ?_|refine rCons ?_|refine rNil ?_|refine kNo ?_|refine pRow ?_|refine pSkip ?_|refine pRet ?_|refine pCond ?_|refine gNone ?_))
    refine ldI_is rfl h3.blk rfl ?_
    (repeat(first|refine pSeq ?_|refine pReg ?_|refine sCons ?_|refine sNil ?_|refine rCons ?_|refine rNil ?_|refine kNo ?_|refine pRow ?_|refine pSkip ?_|refine pRet ?_|refine pCond ?_|refine gNone ?_))
    subst hnl
    exact ⟨rfl, h3, B2, k2.chg c3 (fun id hid q => by
      obtain rfl : id = g := by simpa using q
      exact off2 hid), c2.trans' c3 (fun id q _ => q) (fun id q _ => by
      obtain rfl : id = g := by simpa using q
      exact List.mem_cons_self ..), hl2, al2⟩
  · obtain rfl : q = true := by rw [hq]; simp [hr]
    have e : A.appended D l = ((0#32, (D.wrote A.size (A.form l)).1), A, (D.wrote A.size (A.form l)).2) := by unfold Lg.appended; rw [if_neg (by omega), if_pos hr]
    rw [e]
    (repeat(first|refine pSeq ?_|refine pReg ?_|refine sCons ?_|refine sNil ?_|refine rCons ?_|refine rNil ?_|refine kNo ?_|refine pRow ?_|refine pSkip ?_|refine pRet ?_|refine pCond ?_|refine gNone ?_))
    exact ⟨rfl, h2, B2, k2, c2, hl2, al2⟩
end Go.Vf.S

import Derived.Test.YtioildcpkcijkaaDoorLgX
/- The document's own log, and both side by side. -/

section
/- The document's own log. -/
namespace Go.Vf.S
open Go Go.Vf Go.Vf.Fr
attribute [local irreducible] wSeq wRow wp wG
set_option linter.unusedVariables false
set_option linter.unusedSimpArgs false
set_option maxRecDepth 10000

/-! ### None -/
theorem lnone_nil (s : SS) : CallW pr n_log_Log_none [.pointer none] s fun v s' => v = .bool true ∧ s' = s := by
  refine CallW.run good ok_log_Log_none (by simp) rfl ?_
  (repeat(first|refine pSeq ?_|refine pReg ?_|refine sCons ?_|refine sNil ?_|refine pRet ?_|refine gNone ?_|refine gOn rfl ?_|refine gOff rfl rfl ?_|refine gTup rfl ?_))
  intro q hq
  obtain rfl : q = true := hq
  (repeat(first|refine pSeq ?_|refine pReg ?_|refine sCons ?_|refine sNil ?_|refine pRet ?_|refine gNone ?_|refine gOn rfl ?_|refine gOff rfl rfl ?_|refine gTup rfl ?_))
  exact ⟨rfl, rfl⟩
def NoLog (s : SS) (x : Value) : Prop := CallW pr n_log_Log_none [x] s fun v s' => v = .bool true ∧ s' = s

theorem append_no {s : SS} {x y : Value} (h : NoLog s x) : CallW pr n_log_Log_Append [x, y] s fun v s' => v = .tuple ⟨[.int .u32 0, .int .i64 2]⟩ ∧ s' = s := by
  refine CallW.run good ok_log_Log_Append (by simp) rfl ?_
  (repeat(first|refine pSeq ?_|refine pReg ?_|refine sCons ?_|refine sNil ?_|refine rCons ?_|refine rNil ?_|refine kNo ?_|refine pRow ?_|refine pSkip ?_|refine pRet ?_|refine pCond ?_|refine gNone ?_))
  refine CallW.mono h fun v s q => ?_
  obtain ⟨rfl, rfl⟩ := q
  (repeat(first|refine pSeq ?_|refine pReg ?_|refine sCons ?_|refine sNil ?_|refine rCons ?_|refine rNil ?_|refine kNo ?_|refine pRow ?_|refine pSkip ?_|refine pRet ?_|refine pCond ?_|refine gNone ?_))
  exact ⟨rfl, rfl⟩
theorem sync_no {s : SS} {x : Value} (h : NoLog s x) : CallW pr n_log_Log_Sync [x] s fun v s' => v = .int .i64 2 ∧ s' = s := by
  refine CallW.run good ok_log_Log_Sync (by simp) rfl ?_
  (repeat(first|refine pSeq ?_|refine pReg ?_|refine sCons ?_|refine sNil ?_|refine pSkip ?_|refine pRet ?_|refine pCond ?_|refine gNone ?_))
  refine CallW.mono h fun v s q => ?_
  obtain ⟨rfl, rfl⟩ := q
  (repeat(first|refine pSeq ?_|refine pReg ?_|refine sCons ?_|refine sNil ?_|refine pSkip ?_|refine pRet ?_|refine pCond ?_|refine gNone ?_))
  exact ⟨rfl, rfl⟩

abbrev tRl : TypeId := 52
def rlCells (r : Nat) (A : Lg) : List Value := [.pointer (some ⟨r, 0, none⟩), .int .i64 A.size, .int .u32 A.ahead.toNat, .int .u32 (A.many + 1#32).toNat, .int .u32 A.sure.toNat]
/-- Where it lies. -/
structure Rl (s : SS) (m r : Nat) (A : Lg) : Prop where
  lt : m < s.next
  blk : lookH s.heap m = some (.cells (rlCells r A) tRl false false)
theorem Rl.chg {s s' : SS} {m r : Nat} {A : Lg} {Z : List Nat} (h : Rl s m r A) (c : Chg s s' Z) (hZ : m ∉ Z) : Rl s' m r A := ⟨Nat.lt_of_lt_of_le h.lt c.next, c.blk _ _ h.lt hZ h.blk⟩

theorem sub1_u32 (x : BitVec 32) : IntKind.u32.wrap (((x + 1#32).toNat : Int) - 1) = (x.toNat : Int) := by
  have h := x.isLt
  rw [wrap_u32]
  by_cases q : x.toNat + 1 = 4294967296
  · have e : (x + 1#32).toNat = 0 := by rw [BitVec.toNat_add]; simp; omega
    rw [e]; omega
  · have e : (x + 1#32).toNat = x.toNat + 1 := by rw [BitVec.toNat_add]; simp; omega
    rw [e]; omega

theorem RAt.offM {s : SS} {r m : Nat} {D : Dk} {R : RB} {A : Lg} (k : RAt s r D R) (h : Rl s m r A) : m ∉ rwhole r R := by
  intro q
  simp only [rwhole, rfoot, rbytes, List.mem_append, List.mem_cons, List.mem_flatMap] at q
  rcases q with (e | q) | (q | ⟨w, hw, q⟩)
  · exact type_ne h.blk k.obj (by decide) e
  · obtain ⟨_, e⟩ := k.row.at _ q; exact type_ne h.blk e (by decide) rfl
  · obtain ⟨_, e⟩ := k.sure.at _ q; exact type_ne h.blk e (by decide) rfl
  · obtain ⟨_, e⟩ := (k.each w hw).1.at _ q; exact type_ne h.blk e (by decide) rfl
theorem RAt.off0 {s : SS} {r : Nat} {D : Dk} {R : RB} (k : RAt s r D R) (ev : Ev s) : 0 ∉ rwhole r R := by
  intro q
  have hst := ev.steps
  simp only [rwhole, rfoot, rbytes, List.mem_append, List.mem_cons, List.mem_flatMap] at q
  rcases q with (e | q) | (q | ⟨w, hw, q⟩)
  · exact type_ne hst k.obj (by decide) e
  · obtain ⟨_, e⟩ := k.row.at _ q; exact type_ne hst e (by decide) rfl
  · obtain ⟨_, e⟩ := k.sure.at _ q; exact type_ne hst e (by decide) rfl
  · obtain ⟨_, e⟩ := (k.each w hw).1.at _ q; exact type_ne hst e (by decide) rfl
theorem rfoot_whole {r : Nat} {R : RB} {id : Nat} (q : id ∈ rfoot r R) : id ∈ rwhole r R := List.mem_append_left _ q

/-- What a call of the document's log does to its places. -/
structure MStep (m r : Nat) (s : SS) (R : RB) (s' : SS) (R' : RB) : Prop where
  chg : Chg s s' (m :: rfoot r R)
  ft : ∀ id ∈ rfoot r R', id ∈ rfoot r R ∨ s.next ≤ id
  al : ∀ id ∈ rbytes R', id ∈ rbytes R ∨ s.next ≤ id

theorem rlsync_w {s : SS} {m r : Nat} {D : Dk} {R : RB} {A : Lg} (h : Rl s m r A) (k : RAt s r D R) : CallW pr n_ref03_Log_Sync [.pointer (some ⟨m, 0, none⟩)] s fun v s' => ∃ R', Rl s' m r A.synced ∧ RAt s' r D.synced R' ∧ MStep m r s R s' R' ∧ R'.wl = [] := by
  have hm := k.offM h
  refine CallW.run good ok_ref03_Log_Sync (by simp) rfl ?_
  (repeat(first|refine pSeq ?_|refine pReg ?_|refine sCons ?_|refine sNil ?_|refine gNone ?_))
  refine ld1_is rfl h.blk rfl ?_
  (repeat(first|refine pSeq ?_|refine pReg ?_|refine sCons ?_|refine sNil ?_|refine gNone ?_))
  refine (rsync_w k).mono fun v s1 q => ?_
  obtain ⟨R1, k1, st, hw⟩ := q
  have h1 := h.chg st.chg (fun q => hm (rfoot_whole q))
  have hm1 := k1.offM h1
  (repeat(first|refine pSeq ?_|refine pReg ?_|refine sCons ?_|refine sNil ?_|refine gNone ?_))
  refine ldI_is rfl h1.blk rfl ?_
  (repeat(first|refine pSeq ?_|refine pReg ?_|refine sCons ?_|refine sNil ?_|refine gNone ?_))
  intro z hz
  rw [sub1_u32] at hz
  subst hz
  (repeat(first|refine pSeq ?_|refine pReg ?_|refine sCons ?_|refine sNil ?_|refine gNone ?_))
  refine st_abs rfl rfl h1.blk h1.lt rfl rfl fun s2 e2 c2 n2 => ?_
  (repeat(first|refine pSeq ?_|refine pReg ?_|refine sCons ?_|refine sNil ?_|refine gNone ?_))
  exact ⟨R1, ⟨by rw [n2]; exact h1.lt, e2⟩, k1.chg c2 (fun id q r => hm1 (by simp only [List.mem_singleton] at r; rw [← r]; exact q)), ⟨st.chg.trans' c2 (fun id q _ => List.mem_cons_of_mem _ q) (fun id q _ => by simp only [List.mem_singleton] at q; rw [q]; exact List.mem_cons_self ..), st.ft, st.al⟩, hw⟩

set_option maxHeartbeats 1000000 in
theorem rlappend_w {s : SS} {m r n c : Nat} {base : Option Addr} {l : List UInt8} {D : Dk} {R : RB} {A : Lg} (h : Rl s m r A) (k : RAt s r D R) (ev : Ev s) (hi : D.Inv) (hw : R.wl.length < 10000) (hnow : D.now.length ≤ D.cap) (hp : Rdb s base n l) (hz : A.size ≤ 1048576) (hx : ∀ id ∈ blkOf base, id ∉ rfoot r R ∧ id ≠ m) :
    CallW pr n_ref03_Log_Append [.pointer (some ⟨m, 0, none⟩), .slice base n c] s fun v s' =>
      v = .tuple ⟨[.int .u32 (A.appended D l).1.1.toNat, .int .i64 (A.appended D l).1.2]⟩ ∧ Rl s' m r (A.appended D l).2.1 ∧ ∃ R', RAt s' r (A.appended D l).2.2 R' ∧ MStep m r s R s' R' ∧ R'.wl.length ≤ R.wl.length + 1 := by
  have hnl : n = l.length := hp.1
  have hm := k.offM h
  have h0 := k.off0 ev
  refine CallW.run good ok_ref03_Log_Append (by simp) rfl ?_
  (repeat(first|refine pSeq ?_|refine pReg ?_|refine sCons ?_|refine sNil ?_|refine rCons ?_|refine rNil ?_|refine kNo ?_|refine pRow ?_|refine pSkip ?_|refine pRet ?_|refine pCond ?_|refine gNone ?_))
  refine ldI_is rfl h.blk rfl ?_
  (repeat(first|refine pSeq ?_|refine pReg ?_|refine sCons ?_|refine sNil ?_|refine rCons ?_|refine rNil ?_|refine kNo ?_|refine pRow ?_|refine pSkip ?_|refine pRet ?_|refine pCond ?_|refine gNone ?_))
  refine ldI_is rfl h.blk rfl ?_
  (repeat(first|refine pSeq ?_|refine pReg ?_|refine sCons ?_|refine sNil ?_|refine rCons ?_|refine rNil ?_|refine kNo ?_|refine pRow ?_|refine pSkip ?_|refine pRet ?_|refine pCond ?_|refine gNone ?_))
  by_cases hl : 16384 < n
  · have e : A.appended D l = ((0#32, 3), A, D) := by unfold Lg.appended; rw [if_pos (by omega)]
    rw [e]
    refine (refSeal_long hl A.ahead (A.many + 1#32)).mono fun v s q => ?_
    obtain ⟨rfl, rfl⟩ := q
    (repeat(first|refine pSeq ?_|refine pReg ?_|refine sCons ?_|refine sNil ?_|refine rCons ?_|refine rNil ?_|refine kNo ?_|refine pRow ?_|refine pSkip ?_|refine pRet ?_|refine pCond ?_|refine gNone ?_))
    intro q hq
    obtain rfl : q = true := by rw [hq]; rfl
    (repeat(first|refine pSeq ?_|refine pReg ?_|refine sCons ?_|refine sNil ?_|refine rCons ?_|refine rNil ?_|refine kNo ?_|refine pRow ?_|refine pSkip ?_|refine pRet ?_|refine pCond ?_|refine gNone ?_))
    exact ⟨rfl, h, R, k, ⟨.refl _ _, fun id q => .inl q, fun id q => .inl q⟩, by omega⟩
  refine (refSeal_w ⟨ev.gl, ev.steps, ev.next, hp⟩ (by omega) A.ahead (A.many + 1#32)).mono fun v s1 q => ?_
  obtain ⟨b1, c1, rfl, hR, o1⟩ := q
  have h1 := h.chg o1.chg (by simp)
  have k1 := k.chg o1.chg (by simp)
  have ev1 := ev.chg o1.chg (by simp)
  have p1 := hp.chg o1.chg (by simp)
  (repeat(first|refine pSeq ?_|refine pReg ?_|refine sCons ?_|refine sNil ?_|refine rCons ?_|refine rNil ?_|refine kNo ?_|refine pRow ?_|refine pSkip ?_|refine pRet ?_|refine pCond ?_|refine gNone ?_))
  intro q hq
  obtain rfl : q = false := by rw [hq]; rfl
  (repeat(first|refine pSeq ?_|refine pReg ?_|refine sCons ?_|refine sNil ?_|refine rCons ?_|refine rNil ?_|refine kNo ?_|refine pRow ?_|refine pSkip ?_|refine pRet ?_|refine pCond ?_|refine gNone ?_))
  refine ld1_is rfl h1.blk rfl ?_
  (repeat(first|refine pSeq ?_|refine pReg ?_|refine sCons ?_|refine sNil ?_|refine rCons ?_|refine rNil ?_|refine kNo ?_|refine pRow ?_|refine pSkip ?_|refine pRet ?_|refine pCond ?_|refine gNone ?_))
  refine ldI_is rfl h1.blk rfl ?_
  (repeat(first|refine pSeq ?_|refine pReg ?_|refine sCons ?_|refine sNil ?_|refine rCons ?_|refine rNil ?_|refine kNo ?_|refine pRow ?_|refine pSkip ?_|refine pRet ?_|refine pCond ?_|refine gNone ?_))
  refine (rwrite_w (k := A.size) k1 hi hR (by omega) hw hnow).mono fun v s2 q => ?_
  obtain ⟨rfl, R2, k2, st, hl2⟩ := q
  have ef : sealS A.ahead (A.many + 1#32) n l = A.form l := by unfold Lg.form; rw [hnl]
  rw [ef] at k2 ⊢
  have h2 := h1.chg st.chg (fun q => hm (rfoot_whole q))
  have hm2 := k2.offM h2
  have fin2 := wrote_cases D A.size (A.form l)
  (repeat(first|refine pSeq ?_|refine pReg ?_|refine sCons ?_|refine sNil ?_|refine rCons ?_|refine rNil ?_|refine kNo ?_|refine pRow ?_|refine pSkip ?_|refine pRet ?_|refine pCond ?_|refine gNone ?_))
  intro q hq
  by_cases hr : (D.wrote A.size (A.form l)).1 = 0
  · obtain rfl : q = false := by rw [hq, hr]; rfl
    have e : A.appended D l = ((A.many + 1#32, 0), A.took (10 + l.length) (sumS A.ahead (A.many + 1#32) l.length l), (D.wrote A.size (A.form l)).2) := by unfold Lg.appended; rw [if_neg (by omega), if_neg (by simp [hr])]
    rw [e]
    have ev2 := ev1.chg st.chg (fun q => h0 (rfoot_whole q))
    have p2 := p1.chg st.chg (fun id q => (hx id q).1)
    (repeat(first|refine pSeq ?_|refine pReg ?_|refine sCons ?_|refine sNil ?_|refine rCons ?_|refine rNil ?_|refine kNo ?_|refine pRow ?_|refine pSkip ?_|refine pRet ?_|refine pCond ?_|refine gNone ?_))
    refine ldI_is rfl h2.blk rfl ?_
    (repeat(first|refine pSeq ?_|refine pReg ?_|refine sCons ?_|refine sNil ?_|refine rCons ?_|refine rNil ?_|refine kNo ?_|refine pRow ?_|refine pSkip ?_|refine pRet ?_|refine pCond ?_|refine gNone ?_))
    refine ldI_is rfl h2.blk rfl ?_
    (repeat(first|refine pSeq ?_|refine pReg ?_|refine sCons ?_|refine sNil ?_|refine rCons ?_|refine rNil ?_|refine kNo ?_|refine pRow ?_|refine pSkip ?_|refine pRet ?_|refine pCond ?_|refine gNone ?_))
    refine (refSum_w ⟨ev2.gl, ev2.steps, ev2.next, p2⟩ (by omega) A.ahead (A.many + 1#32)).mono fun v s3 q => ?_
    obtain ⟨rfl, o3⟩ := q
    have h3 := h2.chg o3.chg (by simp)
    (repeat(first|refine pSeq ?_|refine pReg ?_|refine sCons ?_|refine sNil ?_|refine rCons ?_|refine rNil ?_|refine kNo ?_|refine pRow ?_|refine pSkip ?_|refine pRet ?_|refine pCond ?_|refine gNone ?_))
    refine st_abs rfl rfl h3.blk h3.lt rfl rfl fun s4 e4 c4 n4 => ?_
    (repeat(first|refine pSeq ?_|refine pReg ?_|refine sCons ?_|refine sNil ?_|refine rCons ?_|refine rNil ?_|refine kNo ?_|refine pRow ?_|refine pSkip ?_|refine pRet ?_|refine pCond ?_|refine gNone ?_))
    refine ldI_is rfl e4 rfl ?_
    (repeat(first|refine pSeq ?_|refine pReg ?_|refine sCons ?_|refine sNil ?_|refine rCons ?_|refine rNil ?_|refine kNo ?_|refine pRow ?_|refine pSkip ?_|refine pRet ?_|refine pCond ?_|refine gNone ?_))
    intro z hz1
    obtain rfl : z = ((A.size + (10 + n) : Nat) : Int) := by rw [hz1, i64_id (by omega)]; omega
    (repeat(first|refine pSeq ?_|refine pReg ?_|refine sCons ?_|refine sNil ?_|refine rCons ?_|refine rNil ?_|refine kNo ?_|refine pRow ?_|refine pSkip ?_|refine pRet ?_|refine pCond ?_|refine gNone ?_))
    refine st_abs rfl rfl e4 (by rw [n4]; exact h3.lt) rfl rfl fun s5 e5 c5 n5 => ?_
    (repeat(first|refine pSeq ?_|refine pReg ?_|refine sCons ?_|refine sNil ?_|refine rCons ?_|refine rNil ?_|refine kNo ?_|refine pRow ?_|refine pSkip ?_|refine pRet ?_|refine pCond ?_|refine gNone ?_))
    refine ldI_is rfl e5 rfl ?_
    (repeat(first|refine pSeq ?_|refine pReg ?_|refine sCons ?_|refine sNil ?_|refine rCons ?_|refine rNil ?_|refine kNo ?_|refine pRow ?_|refine pSkip ?_|refine pRet ?_|refine pCond ?_|refine gNone ?_))
    intro z hz2
    rw [add1_u32] at hz2
    subst hz2
    (repeat(first|refine pSeq ?_|refine pReg ?_|refine sCons ?_|refine sNil ?_|refine rCons ?_|refine rNil ?_|refine kNo ?_|refine pRow ?_|refine pSkip ?_|refine pRet ?_|refine pCond ?_|refine gNone ?_))
    refine st_abs rfl rfl e5 (by rw [n5, n4]; exact h3.lt) rfl rfl fun s6 e6 c6 n6 => ?_
    (repeat(first|refine pSeq ?_|refine pReg ?_|refine sCons ?_|refine sNil ?_|refine rCons ?_|refine rNil ?_|refine kNo ?_|refine pRow ?_|refine pSkip ?_|refine pRet ?_|refine pCond ?_|refine gNone ?_))
    refine ldI_is rfl e6 rfl ?_
    (repeat(first|refine pSeq ?_|refine pReg ?_|refine sCons ?_|refine sNil ?_|refine rCons ?_|refine rNil ?_|refine kNo ?_|refine pRow ?_|refine pSkip ?_|refine pRet ?_|refine pCond ?_|refine gNone ?_))
    intro z hz3
    rw [sub1_u32] at hz3
    subst hz3
    (repeat(first|refine pSeq ?_|refine pReg ?_|refine sCons ?_|refine sNil ?_|refine rCons ?_|refine rNil ?_|refine kNo ?_|refine pRow ?_|refine pSkip ?_|refine pRet ?_|refine pCond ?_|refine gNone ?_))
    subst hnl
    have c26 : Chg s2 s6 [m] := o3.chg.trans' ((c4.trans' c5 (fun _ q _ => q) (fun _ q _ => q)).trans' c6 (fun _ q _ => q) (fun _ q _ => q)) (fun id q _ => by simp at q) (fun id q _ => q)
    refine ⟨rfl, ⟨by rw [n6, n5, n4]; exact h3.lt, e6⟩, R2, k2.chg c26 (fun id q r => hm2 (by simp only [List.mem_singleton] at r; rw [← r]; exact q)), ⟨(o1.chg.nil st.chg).trans' c26 (fun id q _ => List.mem_cons_of_mem _ q) (fun id q _ => by simp only [List.mem_singleton] at q; rw [q]; exact List.mem_cons_self ..), fun id q => (st.ft id q).imp (fun q => q) (fun q => Nat.le_trans o1.next q), fun id q => (st.al id q).imp (fun q => q) (fun q => Nat.le_trans o1.next q)⟩, hl2⟩
  · obtain rfl : q = true := by rw [hq]; simp [hr]
    have e : A.appended D l = ((0#32, (D.wrote A.size (A.form l)).1), A, (D.wrote A.size (A.form l)).2) := by unfold Lg.appended; rw [if_neg (by omega), if_pos hr]
    rw [e]
    (repeat(first|refine pSeq ?_|refine pReg ?_|refine sCons ?_|refine sNil ?_|refine rCons ?_|refine rNil ?_|refine kNo ?_|refine pRow ?_|refine pSkip ?_|refine pRet ?_|refine pCond ?_|refine gNone ?_))
    exact ⟨rfl, h2, R2, k2, ⟨(o1.chg.nil st.chg).sub (fun id q _ => List.mem_cons_of_mem _ q), fun id q => (st.ft id q).imp (fun q => q) (fun q => Nat.le_trans o1.next q), fun id q => (st.al id q).imp (fun q => q) (fun q => Nat.le_trans o1.next q)⟩, hl2⟩
end Go.Vf.S
end

section
/- Frames opened the document's way, told as cuts. -/
namespace Go.Vf.S
open Go Go.Vf Go.Vf.Fr
attribute [local irreducible] wSeq wRow wp wG
set_option linter.unusedVariables false
set_option linter.unusedSimpArgs false
set_option maxRecDepth 10000

/-- What is told is a cut of what was handed in. -/
theorem refOpenC_w {s : SS} {base : Option Addr} {n c : Nat} {l : List UInt8} (h : Pre s base n l) (hc : Slc pr s base n c l) (hb : n < 2 ^ 40) (a k : BitVec 32) :
    CallW pr n_ref02_Open [.int .u32 a.toNat, .int .u32 k.toNat, .slice base n c] s fun v s' => ∃ b' c', Told a k l s v s' b' c' ∧ ∀ id ∈ blkOf b', id ∈ blkOf base := by
  have hnl := h.rd.1
  refine CallW.run good ok_ref02_Open (by simp) rfl ?_
  (repeat(first|refine pSeq ?_|refine pReg ?_|refine sCons ?_|refine sNil ?_|refine pSkip ?_|refine pRet ?_|refine pCond ?_|refine gNone ?_))
  intro q hq
  by_cases h10 : n < 10
  · obtain rfl : q = true := by rw [hq]; simp; omega
    (repeat(first|refine pSeq ?_|refine pReg ?_|refine sCons ?_|refine sNil ?_|refine pSkip ?_|refine pRet ?_|refine pCond ?_|refine gNone ?_))
    exact ⟨none, 0, told_err 3 (by unfold openE; rw [if_pos (by omega)]) (.refl s), by simp [blkOf]⟩
  obtain rfl : q = false := by rw [hq]; simp; omega
  (repeat(first|refine pSeq ?_|refine pReg ?_|refine sCons ?_|refine sNil ?_|refine pSkip ?_|refine pRet ?_|refine pCond ?_|refine gNone ?_))
  refine slL_any 0 2 rfl rfl rfl hc rfl rfl (by omega) fun b1 c1 hc1 => ?_
  (repeat(first|refine pSeq ?_|refine pReg ?_|refine sCons ?_|refine sNil ?_|refine pSkip ?_|refine pRet ?_|refine pCond ?_|refine gNone ?_))
  refine (number_w _ _ _ _ _ hc1.1 (by omega)).mono fun v s1 q => ?_
  obtain ⟨rfl, rfl⟩ := q
  (repeat(first|refine pSeq ?_|refine pReg ?_|refine sCons ?_|refine sNil ?_|refine pSkip ?_|refine pRet ?_|refine pCond ?_|refine gNone ?_))
  intro z hz
  have hsz := sz_lt l
  have l0 := (l.getD 0 0).toNat_lt
  have l1 := (l.getD 1 0).toNat_lt
  rw [two (by omega), num2, i64_id (by omega)] at hz
  obtain rfl : z = (sz l : Int) := hz
  (repeat(first|refine pSeq ?_|refine pReg ?_|refine sCons ?_|refine sNil ?_|refine pSkip ?_|refine pRet ?_|refine pCond ?_|refine gNone ?_))
  intro q hq
  by_cases hlong : 16384 < sz l
  · obtain rfl : q = true := by rw [hq]; simp; omega
    (repeat(first|refine pSeq ?_|refine pReg ?_|refine sCons ?_|refine sNil ?_|refine pSkip ?_|refine pRet ?_|refine pCond ?_|refine gNone ?_))
    exact ⟨none, 0, told_err 2 (by unfold openE; rw [if_neg (by omega), if_pos hlong]) (.refl _), by simp [blkOf]⟩
  obtain rfl : q = false := by rw [hq]; simp; omega
  (repeat(first|refine pSeq ?_|refine pReg ?_|refine sCons ?_|refine sNil ?_|refine pSkip ?_|refine pRet ?_|refine pCond ?_|refine gNone ?_))
  intro z hz
  rw [i64_id (by omega)] at hz
  obtain rfl : z = ((10 + sz l : Nat) : Int) := by rw [hz]; omega
  (repeat(first|refine pSeq ?_|refine pReg ?_|refine sCons ?_|refine sNil ?_|refine pSkip ?_|refine pRet ?_|refine pCond ?_|refine gNone ?_))
  intro q hq
  by_cases hsh : n < 10 + sz l
  · obtain rfl : q = true := by rw [hq]; simp; omega
    (repeat(first|refine pSeq ?_|refine pReg ?_|refine sCons ?_|refine sNil ?_|refine pSkip ?_|refine pRet ?_|refine pCond ?_|refine gNone ?_))
    exact ⟨none, 0, told_err 3 (by unfold openE; rw [if_neg (by omega), if_neg hlong, if_pos (by omega)]) (.refl _), by simp [blkOf]⟩
  obtain rfl : q = false := by rw [hq]; simp; omega
  (repeat(first|refine pSeq ?_|refine pReg ?_|refine sCons ?_|refine sNil ?_|refine pSkip ?_|refine pRet ?_|refine pCond ?_|refine gNone ?_))
  intro z hz
  rw [i64_id (by omega)] at hz
  obtain rfl : z = ((10 + sz l : Nat) : Int) := by rw [hz]; omega
  (repeat(first|refine pSeq ?_|refine pReg ?_|refine sCons ?_|refine sNil ?_|refine pSkip ?_|refine pRet ?_|refine pCond ?_|refine gNone ?_))
  refine slL_any 10 (sz l) rfl rfl rfl hc rfl rfl (by omega) fun b2 c2 hc2 => ?_
  (repeat(first|refine pSeq ?_|refine pReg ?_|refine sCons ?_|refine sNil ?_|refine pSkip ?_|refine pRet ?_|refine pCond ?_|refine gNone ?_))
  refine (refSum_w ⟨h.gl, h.steps, h.next, hc2.1⟩ (by omega) a k).mono fun v s2 q => ?_
  obtain ⟨rfl, o2⟩ := q
  (repeat(first|refine pSeq ?_|refine pReg ?_|refine sCons ?_|refine sNil ?_|refine pSkip ?_|refine pRet ?_|refine pCond ?_|refine gNone ?_))
  refine slL_any 2 4 rfl rfl rfl (Slc_old hc o2) rfl rfl (by omega) fun b3 c3 hc3 => ?_
  (repeat(first|refine pSeq ?_|refine pReg ?_|refine sCons ?_|refine sNil ?_|refine pSkip ?_|refine pRet ?_|refine pCond ?_|refine gNone ?_))
  refine (number_w _ _ _ _ _ hc3.1 (by omega)).mono fun v s3 q => ?_
  obtain ⟨rfl, rfl⟩ := q
  rw [num4 (by omega)]
  (repeat(first|refine pSeq ?_|refine pReg ?_|refine sCons ?_|refine sNil ?_|refine pSkip ?_|refine pRet ?_|refine pCond ?_|refine gNone ?_))
  intro q hq
  by_cases hk : rd4 l 2 = k
  · obtain rfl : q = false := by rw [hq]; simp [hk]
    (repeat(first|refine pSeq ?_|refine pReg ?_|refine sCons ?_|refine sNil ?_|refine pSkip ?_|refine pRet ?_|refine pCond ?_|refine gNone ?_|refine gOn rfl ?_|refine gOff rfl rfl ?_|refine gTup rfl ?_))
    refine slL_any 6 4 rfl rfl rfl (Slc_old hc o2) rfl rfl (by omega) fun b4 c4 hc4 => ?_
    (repeat(first|refine pSeq ?_|refine pReg ?_|refine sCons ?_|refine sNil ?_|refine pSkip ?_|refine pRet ?_|refine pCond ?_|refine gNone ?_|refine gOn rfl ?_|refine gOff rfl rfl ?_|refine gTup rfl ?_))
    refine (number_w _ _ _ _ _ hc4.1 (by omega)).mono fun v s4 q => ?_
    obtain ⟨rfl, rfl⟩ := q
    rw [num4 (by omega)]
    (repeat(first|refine pSeq ?_|refine pReg ?_|refine sCons ?_|refine sNil ?_|refine pSkip ?_|refine pRet ?_|refine pCond ?_|refine gNone ?_|refine gOn rfl ?_|refine gOff rfl rfl ?_|refine gTup rfl ?_))
    intro q hq
    by_cases hs : rd4 l 6 = sumS a k (sz l) ((l.drop 10).take (sz l))
    · obtain rfl : q = false := by rw [hq]; simp [hs]
      (repeat(first|refine pSeq ?_|refine pReg ?_|refine sCons ?_|refine sNil ?_|refine pSkip ?_|refine pRet ?_|refine pCond ?_|refine gNone ?_|refine gOn rfl ?_|refine gOff rfl rfl ?_|refine gTup rfl ?_))
      intro z hz
      rw [i64_id (by omega)] at hz
      obtain rfl : z = ((10 + sz l : Nat) : Int) := by rw [hz]; omega
      (repeat(first|refine pSeq ?_|refine pReg ?_|refine sCons ?_|refine sNil ?_|refine pSkip ?_|refine pRet ?_|refine pCond ?_|refine gNone ?_|refine gOn rfl ?_|refine gOff rfl rfl ?_|refine gTup rfl ?_))
      refine slL_same 10 (sz l) rfl rfl rfl (Slc_old hc o2) rfl rfl (by omega) fun b5 c5 hc5 hs5 => ?_
      (repeat(first|refine pSeq ?_|refine pReg ?_|refine sCons ?_|refine sNil ?_|refine pSkip ?_|refine pRet ?_|refine pCond ?_|refine gNone ?_|refine gOn rfl ?_|refine gOff rfl rfl ?_|refine gTup rfl ?_))
      intro z hz
      rw [i64_id (by omega)] at hz
      obtain rfl : z = ((10 + sz l : Nat) : Int) := by rw [hz]; omega
      (repeat(first|refine pSeq ?_|refine pReg ?_|refine sCons ?_|refine sNil ?_|refine pSkip ?_|refine pRet ?_|refine pCond ?_|refine gNone ?_|refine gOn rfl ?_|refine gOff rfl rfl ?_|refine gTup rfl ?_))
      exact ⟨b5, c5, told_ok (by unfold openE; rw [if_neg (by omega), if_neg hlong, if_neg (by omega), if_neg (by simp [hk, hs])]) (by omega) hc5.1 o2, hs5⟩
    · obtain rfl : q = true := hq.trans (ne_u32 hs).symm
      (repeat(first|refine pSeq ?_|refine pReg ?_|refine sCons ?_|refine sNil ?_|refine pSkip ?_|refine pRet ?_|refine pCond ?_|refine gNone ?_|refine gOn rfl ?_|refine gOff rfl rfl ?_|refine gTup rfl ?_))
      exact ⟨none, 0, told_err 10 (by unfold openE; rw [if_neg (by omega), if_neg hlong, if_neg (by omega), if_pos (.inr hs)]) o2, by simp [blkOf]⟩
  · obtain rfl : q = true := hq.trans (ne_u32 hk).symm
    (repeat(first|refine pSeq ?_|refine pReg ?_|refine sCons ?_|refine sNil ?_|refine pSkip ?_|refine pRet ?_|refine pCond ?_|refine gNone ?_|refine gOn rfl ?_|refine gOff rfl rfl ?_|refine gTup rfl ?_))
    exact ⟨none, 0, told_err 10 (by unfold openE; rw [if_neg (by omega), if_neg hlong, if_neg (by omega), if_pos (.inl hk)]) o2, by simp [blkOf]⟩
end Go.Vf.S
end

section
/- The document's own log recovered. -/
namespace Go.Vf.S
open Go Go.Vf Go.Vf.Fr
attribute [local irreducible] wSeq wRow wp wG
set_option linter.unusedVariables false
set_option linter.unusedSimpArgs false
set_option maxRecDepth 10000

structure Rx where
  M : Nat
  dn : List Fm
  s : SS
  W : Option Addr
  cw : Nat
  ps : List Py

theorem rowAt_of {s : SS} {W : Option Addr} {cw : Nat} {qs : List Py} (h : OwnR tSl s W cw qs.length (pyCells qs)) (he : ∀ q ∈ qs, Rdb s q.1 q.2.2.length q.2.2) : RowAt s W qs := by
  refine ⟨?_, he⟩
  cases W with
  | none => exact List.eq_nil_of_length_eq_zero h.2.1
  | some a =>
    obtain ⟨b, off, sp⟩ := a
    obtain ⟨rfl, rfl, h3, g, h4, h5⟩ := h
    exact ⟨rfl, rfl, h3, _, _, _, _, h4, List.take_of_length_le (by simp [pyCells])⟩

/-- Payloads as cuts of what lies in a block of its own, in a row. -/
def PyC (s : SS) (W : Option Addr) (cw : Nat) (ps : List Py) : Prop :=
  OwnR tSl s W cw ps.length (pyCells ps) ∧ ∃ O l, Own tB s O l ∧ ∀ q ∈ ps, Rdb s q.1 q.2.2.length q.2.2 ∧ ∀ id ∈ blkOf q.1, id ∈ blkOf O
theorem PyC.row {s : SS} {W : Option Addr} {cw : Nat} {ps : List Py} (h : PyC s W cw ps) : RowAt s W ps := by
  obtain ⟨h1, O, l, h2, h3⟩ := h
  exact rowAt_of h1 fun q hq => (h3 q hq).1
theorem PyC.chg {s s' : SS} {W : Option Addr} {cw : Nat} {ps : List Py} {Z : List Nat} (h : PyC s W cw ps) (c : Chg s s' Z) (hZ : ∀ id ∈ Z, ∃ cc t g r, lookH s.heap id = some (.cells cc t g r) ∧ t ≠ tB ∧ t ≠ tSl) : PyC s' W cw ps := by
  obtain ⟨h1, O, l, h2, h3⟩ := h
  have offO : ∀ id ∈ blkOf O, id ∉ Z := fun id q h => by
    obtain ⟨_, e⟩ := h2.at _ q
    obtain ⟨_, _, _, _, e', t1, -⟩ := hZ id h
    exact type_ne e' e t1 rfl
  refine ⟨h1.chg c (fun id q h => ?_), O, l, h2.chg c offO, fun q hq => ⟨(h3 q hq).1.chg c (fun id h => offO id ((h3 q hq).2 id h)), (h3 q hq).2⟩⟩
  obtain ⟨_, e⟩ := h1.at _ q
  obtain ⟨_, _, _, _, e', -, t2⟩ := hZ id h
  exact type_ne e' e t2 rfl

/-- What holds between the rounds. -/
structure RxI (m r : Nat) (O : Option Addr) (D : Dk) (s0 : SS) (x : Rx) : Prop where
  chg : Chg s0 x.s [m]
  la : Rl x.s m r (after x.dn)
  own : Own tB x.s O D.now
  row : OwnR tSl x.s x.W x.cw x.ps.length (pyCells x.ps)
  new : ∀ id ∈ blkOf x.W, s0.next ≤ id
  each : ∀ q ∈ x.ps, Rdb x.s q.1 q.2.2.length q.2.2 ∧ ∀ id ∈ blkOf q.1, id ∈ blkOf O
  map : x.ps.map (·.2.2) = x.dn.map (·.p)
  all : x.dn ++ frs x.M (after x.dn).ahead ((after x.dn).many + 1#32) (D.now.drop (total x.dn)) = recF D
  le : D.now.length - total x.dn ≤ x.M
  tot : total x.dn ≤ D.now.length

theorem offs {s : SS} {m r : Nat} {D : Dk} {R : RB} {A : Lg} {O W : Option Addr} {l : List UInt8} {cw n : Nat} {cs : List Value} (k : RAt s r D R) (la : Rl s m r A) (o : Own tB s O l) (w : OwnR tSl s W cw n cs) :
    (∀ id ∈ blkOf O, id ∉ m :: rfoot r R) ∧ ∀ id ∈ blkOf W, id ∉ m :: rfoot r R := by
  refine ⟨fun id q h => ?_, fun id q h => ?_⟩
  · obtain ⟨_, e⟩ := o.at _ q
    rcases List.mem_cons.1 h with rfl | h
    · exact type_ne la.blk e (by decide) rfl
    · exact k.foot3 e ⟨by decide, by decide⟩ h
  · obtain ⟨_, e⟩ := w.at _ q
    rcases List.mem_cons.1 h with rfl | h
    · exact type_ne la.blk e (by decide) rfl
    · exact k.foot3 e ⟨by decide, by decide⟩ h

set_option maxHeartbeats 2000000 in
theorem rlrecover_w {s : SS} {r : Nat} {D : Dk} {R : RB} (k : RAt s r D R) (hI : D.Inv) (ev : Ev s) (hnow : D.now.length ≤ D.cap) (hw : D.ws.length < 9998) :
    CallW pr n_ref03_Recover [.pointer (some ⟨r, 0, none⟩)] s fun v s' => ∃ R', RAt s' r (rcv D).2 R' ∧ RStep r s R s' R' ∧
      (((rcv D).1 ≠ 0 ∧ v = .tuple ⟨[.pointer none, .slice none 0 0, .int .i64 (rcv D).1]⟩) ∨
       ((rcv D).1 = 0 ∧ ∃ m W cw ps, v = .tuple ⟨[.pointer (some ⟨m, 0, none⟩), .slice W ps.length cw, .int .i64 0]⟩ ∧ Rl s' m r (after (recF D)).synced ∧ s.next ≤ m ∧ PyC s' W cw ps ∧ ps.map (·.2.2) = (recF D).map (·.p))) := by
  have hcap := k.cap
  refine CallW.run good ok_ref03_Recover (by simp) rfl ?_
  (repeat(first|refine pSeq ?_|refine pReg ?_|refine sCons ?_|refine sNil ?_|refine rCons ?_|refine rNil ?_|refine kNo ?_|refine pRow ?_|refine pBlock ?_|refine pSkip ?_|refine pExit ?_|refine pRet ?_|refine pCond ?_|refine gNone ?_))
  have c1 : Chg s ({ s with heap := (s.next, some (.cells (flat (.agg ⟨[.pointer (some ⟨r, 0, none⟩), .int .i64 0, .int .u32 0, .int .u32 1, .int .u32 0]⟩)) tRl false false)) :: s.heap, next := s.next + 1 } : SS) [] := .new []
  have e1 : lookH ({ s with heap := (s.next, some (.cells (flat (.agg ⟨[.pointer (some ⟨r, 0, none⟩), .int .i64 0, .int .u32 0, .int .u32 1, .int .u32 0]⟩)) tRl false false)) :: s.heap, next := s.next + 1 } : SS).heap s.next = some (.cells (rlCells r (after [])) tRl false false) := lkH
  have n1 : ({ s with heap := (s.next, some (.cells (flat (.agg ⟨[.pointer (some ⟨r, 0, none⟩), .int .i64 0, .int .u32 0, .int .u32 1, .int .u32 0]⟩)) tRl false false)) :: s.heap, next := s.next + 1 } : SS).next = s.next + 1 := rfl
  generalize ({ s with heap := (s.next, some (.cells (flat (.agg ⟨[.pointer (some ⟨r, 0, none⟩), .int .i64 0, .int .u32 0, .int .u32 1, .int .u32 0]⟩)) tRl false false)) :: s.heap, next := s.next + 1 } : SS) = s1 at c1 e1 n1 ⊢
  have k1 := k.chg c1 (by simp)
  have hI' : lays D.ws D.sure = D.now := hI.symm
  refine (seen_w k1).mono fun v s2 q => ?_
  obtain ⟨O, rfl, oO, nO, c2⟩ := q
  rw [hI'] at oO ⊢
  have n2 := c2.next
  have e2 := c2.blk _ _ (by omega) (by simp) e1
  have k2 := k1.chg c2 (by simp)
  have ev2 := (ev.chg c1 (by simp)).chg c2 (by simp)
  have hlt := k.blt
  have hm : s.next ∉ rwhole r R := fun q => Nat.lt_irrefl _ (hlt _ q)
  have h0 := k.off0 ev
  (repeat(first|refine pSeq ?_|refine pReg ?_|refine sCons ?_|refine sNil ?_|refine rCons ?_|refine rNil ?_|refine kNo ?_|refine pRow ?_|refine pBlock ?_|refine pSkip ?_|refine pExit ?_|refine pRet ?_|refine pCond ?_|refine gNone ?_))
  refine pLoop (MW.head good (fun x : Rx => x.M) (fun x => RxI s.next r O D s2 x)
    (fun x => [(0, .pointer (some ⟨r, 0, none⟩)), (5, .pointer (some ⟨s.next, 0, none⟩)), (6, .slice x.W x.ps.length x.cw), (7, .slice O D.now.length 0)]) (fun x => x.s) ⟨D.now.length, [], s2, none, 0, []⟩
    ⟨.refl _ _, ⟨by show _ < s2.next; omega, e2⟩, oO, ⟨rfl, rfl, rfl⟩, by simp [blkOf], by simp, rfl, rfl, by simp, by simp [total]⟩ ?_ ?_)
  · exact Wk.same ⟨rfl, rfl, rfl, rfl, trivial⟩
  rintro ⟨M, dn, s3, W, cw, ps⟩ hx
  dsimp only at hx ⊢
  obtain ⟨c3, la3, own3, row3, new3, each3, map3, all3, le3, tot3⟩ := hx
  dsimp only at c3 la3 own3 row3 new3 each3 map3 all3 le3 tot3
  have n3 := c3.next
  have k3 := k2.chg c3 (fun id q r => hm (by simp only [List.mem_singleton] at r; rw [← r]; exact q))
  have ev3 := ev2.chg c3 (by simp; have := ev.next; omega)
  have hsz := after_size dn
  have hlen : ps.length = dn.length := by have := congrArg List.length map3; simpa using this
  (repeat(first|refine pSeq ?_|refine pReg ?_|refine sCons ?_|refine sNil ?_|refine rCons ?_|refine rNil ?_|refine kNo ?_|refine pRow ?_|refine pBlock ?_|refine pSkip ?_|refine pExit ?_|refine pRet ?_|refine pCond ?_|refine gNone ?_))
  refine ldI_is rfl la3.blk rfl ?_
  (repeat(first|refine pSeq ?_|refine pReg ?_|refine sCons ?_|refine sNil ?_|refine rCons ?_|refine rNil ?_|refine kNo ?_|refine pRow ?_|refine pBlock ?_|refine pSkip ?_|refine pExit ?_|refine pRet ?_|refine pCond ?_|refine gNone ?_))
  refine ldI_is rfl la3.blk rfl ?_
  (repeat(first|refine pSeq ?_|refine pReg ?_|refine sCons ?_|refine sNil ?_|refine rCons ?_|refine rNil ?_|refine kNo ?_|refine pRow ?_|refine pBlock ?_|refine pSkip ?_|refine pExit ?_|refine pRet ?_|refine pCond ?_|refine gNone ?_))
  refine ldI_is rfl la3.blk rfl ?_
  (repeat(first|refine pSeq ?_|refine pReg ?_|refine sCons ?_|refine sNil ?_|refine rCons ?_|refine rNil ?_|refine kNo ?_|refine pRow ?_|refine pBlock ?_|refine pSkip ?_|refine pExit ?_|refine pRet ?_|refine pCond ?_|refine gNone ?_))
  refine slL_same (total dn) (D.now.length - total dn) rfl rfl rfl (own3.slc (by kernel_rfl)) (by rw [← hsz]; rfl) (show total dn + (D.now.length - total dn) = D.now.length by omega) (by omega) fun b4 c4 hc4 hs4 => ?_
  rw [List.take_of_length_le (by rw [List.length_drop]; omega)] at hc4
  (repeat(first|refine pSeq ?_|refine pReg ?_|refine sCons ?_|refine sNil ?_|refine rCons ?_|refine rNil ?_|refine kNo ?_|refine pRow ?_|refine pBlock ?_|refine pSkip ?_|refine pExit ?_|refine pRet ?_|refine pCond ?_|refine gNone ?_))
  refine (refOpenC_w ⟨ev3.gl, ev3.steps, ev3.next, hc4.1⟩ hc4 (by omega) (after dn).ahead ((after dn).many + 1#32)).mono fun v s5 q => ?_
  obtain ⟨b5, c5, ⟨rfl, hR, o5⟩, hb5⟩ := q
  have c35 := o5.chg
  have n5 := c35.next
  have la5 := la3.chg c35 (by simp)
  have own5 := own3.chg c35 (by simp)
  have row5 := row3.chg c35 (by simp)
  have k5 := k3.chg c35 (by simp)
  have ev5 := ev3.chg c35 (by simp)
  (repeat(first|refine pSeq ?_|refine pReg ?_|refine sCons ?_|refine sNil ?_|refine rCons ?_|refine rNil ?_|refine kNo ?_|refine pRow ?_|refine pBlock ?_|refine pSkip ?_|refine pExit ?_|refine pRet ?_|refine pCond ?_|refine gNone ?_))
  intro q hq
  by_cases he : openE (after dn).ahead ((after dn).many + 1#32) (D.now.drop (total dn)) = 0
  · obtain rfl : q = false := by rw [hq, he]; rfl
    obtain ⟨q1, q2, q3, q4⟩ := open_short he
    have hd : (D.now.drop (total dn)).length = D.now.length - total dn := List.length_drop
    have hex : ∃ m', M = m' + 1 := ⟨M - 1, by omega⟩
    obtain ⟨M, rfl⟩ := hex
    rw [frs_more he] at all3
    (repeat(first|refine pSeq ?_|refine pReg ?_|refine sCons ?_|refine sNil ?_|refine rCons ?_|refine rNil ?_|refine kNo ?_|refine pRow ?_|refine pBlock ?_|refine pSkip ?_|refine pExit ?_|refine pRet ?_|refine pCond ?_|refine gNone ?_))
    have hdl : dn.length * 10 ≤ D.now.length := by
      have h1 : (recF D).length * 10 ≤ D.now.length := frs_len _ _ _ _
      have h2 := congrArg List.length all3
      rw [List.length_append] at h2
      omega
    refine appR (row5.chg (.new []) (by simp)) (by simp [pyCells]) (by omega) rfl rfl lkH rfl rfl fun s6 r6 c6 n6 => ?_
    have c56 : Chg s5 s6 (blkOf W) := (Chg.new (b := .cells [.slice b5 (oP (after dn).ahead ((after dn).many + 1#32) (D.now.drop (total dn))).length c5] tSl false false) []).trans' c6 (fun id q _ => by simp at q) (fun id q _ => q)
    obtain ⟨offO, offW⟩ := offs k5 la5 own5 row5
    have n56 := c56.next
    have mW : s.next ∉ blkOf W := fun q => offW _ q (List.mem_cons_self ..)
    have OW : ∀ id ∈ blkOf O, id ∉ blkOf W := fun id q q2 => by
      obtain ⟨_, e⟩ := own5.at _ q
      obtain ⟨_, e'⟩ := row5.at _ q2
      exact type_ne e e' (by decide) rfl
    have la6 := la5.chg c56 mW
    (repeat(first|refine pSeq ?_|refine pReg ?_|refine sCons ?_|refine sNil ?_|refine rCons ?_|refine rNil ?_|refine kNo ?_|refine pRow ?_|refine pBlock ?_|refine pSkip ?_|refine pExit ?_|refine pRet ?_|refine pCond ?_|refine gNone ?_))
    refine ldI_is rfl la6.blk rfl ?_
    (repeat(first|refine pSeq ?_|refine pReg ?_|refine sCons ?_|refine sNil ?_|refine rCons ?_|refine rNil ?_|refine kNo ?_|refine pRow ?_|refine pBlock ?_|refine pSkip ?_|refine pExit ?_|refine pRet ?_|refine pCond ?_|refine gNone ?_))
    intro z hz
    obtain rfl : z = (((after dn).size + oN (after dn).ahead ((after dn).many + 1#32) (D.now.drop (total dn)) : Nat) : Int) := by rw [hz, i64_id (by omega)]; omega
    (repeat(first|refine pSeq ?_|refine pReg ?_|refine sCons ?_|refine sNil ?_|refine rCons ?_|refine rNil ?_|refine kNo ?_|refine pRow ?_|refine pBlock ?_|refine pSkip ?_|refine pExit ?_|refine pRet ?_|refine pCond ?_|refine gNone ?_))
    refine st_abs rfl rfl la6.blk la6.lt rfl rfl fun s7 e7 c7 n7 => ?_
    (repeat(first|refine pSeq ?_|refine pReg ?_|refine sCons ?_|refine sNil ?_|refine rCons ?_|refine rNil ?_|refine kNo ?_|refine pRow ?_|refine pBlock ?_|refine pSkip ?_|refine pExit ?_|refine pRet ?_|refine pCond ?_|refine gNone ?_))
    refine st_abs rfl rfl e7 (by rw [n7]; exact la6.lt) rfl rfl fun s8 e8 c8 n8 => ?_
    (repeat(first|refine pSeq ?_|refine pReg ?_|refine sCons ?_|refine sNil ?_|refine rCons ?_|refine rNil ?_|refine kNo ?_|refine pRow ?_|refine pBlock ?_|refine pSkip ?_|refine pExit ?_|refine pRet ?_|refine pCond ?_|refine gNone ?_))
    refine ldI_is rfl e8 rfl ?_
    (repeat(first|refine pSeq ?_|refine pReg ?_|refine sCons ?_|refine sNil ?_|refine rCons ?_|refine rNil ?_|refine kNo ?_|refine pRow ?_|refine pBlock ?_|refine pSkip ?_|refine pExit ?_|refine pRet ?_|refine pCond ?_|refine gNone ?_))
    intro z hz
    rw [add1_u32] at hz
    subst hz
    (repeat(first|refine pSeq ?_|refine pReg ?_|refine sCons ?_|refine sNil ?_|refine rCons ?_|refine rNil ?_|refine kNo ?_|refine pRow ?_|refine pBlock ?_|refine pSkip ?_|refine pExit ?_|refine pRet ?_|refine pCond ?_|refine gNone ?_))
    refine st_abs rfl rfl e8 (by rw [n8, n7]; exact la6.lt) rfl rfl fun s9 e9 c9 n9 => ?_
    (repeat(first|refine pSeq ?_|refine pReg ?_|refine sCons ?_|refine sNil ?_|refine rCons ?_|refine rNil ?_|refine kNo ?_|refine pRow ?_|refine pBlock ?_|refine pSkip ?_|refine pExit ?_|refine pRet ?_|refine pCond ?_|refine gNone ?_))
    have c69 : Chg s6 s9 [s.next] := (c7.trans' c8 (fun _ q _ => q) (fun _ q _ => q)).trans' c9 (fun _ q _ => q) (fun _ q _ => q)
    have c59 : Chg s5 s9 (s.next :: blkOf W) := c56.trans' c69 (fun id q _ => List.mem_cons_of_mem _ q) (fun id q _ => by simp only [List.mem_singleton] at q; rw [q]; exact List.mem_cons_self ..)
    have n69 := c69.next
    have offO' : ∀ id ∈ blkOf O, id ∉ s.next :: blkOf W := fun id q h => by
      rcases List.mem_cons.1 h with h | h
      · exact offO id q (by rw [h]; exact List.mem_cons_self ..)
      · exact OW id q h
    have hb5' : ∀ id ∈ blkOf b5, id ∈ blkOf O := fun id q => hs4 id (hb5 id q)
    refine ⟨⟨M, dn ++ [opF (after dn).ahead ((after dn).many + 1#32) (D.now.drop (total dn))], s9, some ⟨s5.next + 1, 0, none⟩, 0, ps ++ [(b5, c5, oP (after dn).ahead ((after dn).many + 1#32) (D.now.drop (total dn)))]⟩, ⟨?_, ⟨?_, ?_⟩, own5.chg c59 offO', ?_, ?_, ?_, ?_, ?_, ?_, ?_⟩, Nat.lt_succ_self _, Wk.same ⟨rfl, rfl, ?_, rfl, trivial⟩⟩ <;> dsimp only
    · exact (c3.trans c35).trans' c59 (fun id q _ => by simpa using q) (fun id q h => by
        rcases List.mem_cons.1 q with h2 | h2
        · rw [h2]; simp
        · have := new3 id h2; omega)
    · rw [n9, n8, n7]; exact la6.lt
    · rw [after_snoc]; exact e9
    · have := r6.chg c69 (fun id q => by
        have h1 := la5.lt
        have q' : id = s5.next + 1 := by simpa [blkOf] using q
        simp; omega)
      simpa [pyCells] using this
    · simp only [blkOf, List.mem_singleton]; intro id q; omega
    · intro q hq
      rcases List.mem_append.1 hq with h | h
      · exact ⟨(each3 q h).1.chg (c35.nil c59) (fun id h2 => offO' id ((each3 q h).2 id h2)), (each3 q h).2⟩
      · obtain rfl := List.mem_singleton.1 h
        exact ⟨hR.chg c59 (fun id h2 => offO' id (hb5' id h2)), hb5'⟩
    · rw [List.map_append, List.map_append, map3]; rfl
    · rw [← all3, after_snoc, total_app, List.append_assoc, ← List.drop_drop]; rfl
    · rw [total_app]; show _ - (total dn + (oN _ _ _ + 0)) ≤ M; omega
    · rw [total_app]; show (total dn + (oN _ _ _ + 0)) ≤ _; omega
    · rw [List.length_append]; rfl
  · obtain rfl : q = true := by rw [hq]; simp; omega
    rw [frs_stop he, List.append_nil] at all3
    subst all3
    have c05 : Chg s s5 [] := ((c1.trans c2).fresh c3 (by simp)).trans c35
    have each5 : ∀ q ∈ ps, Rdb s5 q.1 q.2.2.length q.2.2 ∧ ∀ id ∈ blkOf q.1, id ∈ blkOf O := fun q hq => ⟨(each3 q hq).1.chg c35 (by simp), (each3 q hq).2⟩
    (repeat(first|refine pSeq ?_|refine pReg ?_|refine sCons ?_|refine sNil ?_|refine rCons ?_|refine rNil ?_|refine kNo ?_|refine pRow ?_|refine pBlock ?_|refine pSkip ?_|refine pExit ?_|refine pRet ?_|refine pCond ?_|refine gNone ?_))
    refine ldI_is rfl la5.blk rfl ?_
    (repeat(first|refine pSeq ?_|refine pReg ?_|refine sCons ?_|refine sNil ?_|refine rCons ?_|refine rNil ?_|refine kNo ?_|refine pRow ?_|refine pBlock ?_|refine pSkip ?_|refine pExit ?_|refine pRet ?_|refine pCond ?_|refine gNone ?_))
    intro q hq
    by_cases hgt : (after (recF D)).size < D.now.length
    · obtain rfl : q = true := by rw [hq]; simp; omega
      (repeat(first|refine pSeq ?_|refine pReg ?_|refine sCons ?_|refine sNil ?_|refine rCons ?_|refine rNil ?_|refine kNo ?_|refine pRow ?_|refine pBlock ?_|refine pSkip ?_|refine pExit ?_|refine pRet ?_|refine pCond ?_|refine gNone ?_))
      refine ldI_is rfl la5.blk rfl ?_
      (repeat(first|refine pSeq ?_|refine pReg ?_|refine sCons ?_|refine sNil ?_|refine rCons ?_|refine rNil ?_|refine kNo ?_|refine pRow ?_|refine pBlock ?_|refine pSkip ?_|refine pExit ?_|refine pRet ?_|refine pCond ?_|refine gNone ?_))
      refine ldI_is rfl la5.blk rfl ?_
      (repeat(first|refine pSeq ?_|refine pReg ?_|refine sCons ?_|refine sNil ?_|refine rCons ?_|refine rNil ?_|refine kNo ?_|refine pRow ?_|refine pBlock ?_|refine pSkip ?_|refine pExit ?_|refine pRet ?_|refine pCond ?_|refine gNone ?_))
      intro z hz
      obtain rfl : z = ((D.now.length - (after (recF D)).size : Nat) : Int) := by rw [hz, i64_id (by omega)]; omega
      (repeat(first|refine pSeq ?_|refine pReg ?_|refine sCons ?_|refine sNil ?_|refine rCons ?_|refine rNil ?_|refine kNo ?_|refine pRow ?_|refine pBlock ?_|refine pSkip ?_|refine pExit ?_|refine pRet ?_|refine pCond ?_|refine gNone ?_))
      refine ⟨by omega, ?_⟩
      intro m n hm' hn cs hcs
      obtain rfl : m = D.now.length - (after (recF D)).size := by omega
      obtain rfl : n = D.now.length - (after (recF D)).size := by omega
      rw [zeros] at hcs
      subst hcs
      refine rNew ev5.fine.at ?_
      have c56 : Chg s5 ({ s5 with heap := (s5.next, some (.cells (bytesV (List.replicate (D.now.length - (after (recF D)).size) 0)) 5 false false)) :: s5.heap, next := s5.next + 1 } : SS) [] := .new _
      have hZ : Rdb ({ s5 with heap := (s5.next, some (.cells (bytesV (List.replicate (D.now.length - (after (recF D)).size) 0)) 5 false false)) :: s5.heap, next := s5.next + 1 } : SS) (some ⟨s5.next, 0, none⟩) (D.now.length - (after (recF D)).size) (List.replicate (D.now.length - (after (recF D)).size) 0) := Rdb.head s5.heap 5 false (by simp)
      generalize ({ s5 with heap := (s5.next, some (.cells (bytesV (List.replicate (D.now.length - (after (recF D)).size) 0)) 5 false false)) :: s5.heap, next := s5.next + 1 } : SS) = s6 at c56 hZ ⊢
      have k6 := k5.chg c56 (by simp)
      have la6 := la5.chg c56 (by simp)
      have own6 := own5.chg c56 (by simp)
      have row6 := row5.chg c56 (by simp)
      have ewl : R.wl.length = D.ws.length := by rw [← k.ews, List.length_map]
      (repeat(first|refine pSeq ?_|refine pReg ?_|refine sCons ?_|refine sNil ?_|refine rCons ?_|refine rNil ?_|refine kNo ?_|refine pRow ?_|refine pBlock ?_|refine pSkip ?_|refine pExit ?_|refine pRet ?_|refine pCond ?_|refine gNone ?_))
      refine (rwrite_w (k := (after (recF D)).size) k6 hI hZ (by omega) (by omega) hnow).mono fun v s7 q => ?_
      obtain ⟨rfl, R7, k7, st7, -⟩ := q
      have ew : (after (recF D)).wiped D = D.wrote (after (recF D)).size (List.replicate (D.now.length - (after (recF D)).size) 0) := by unfold Lg.wiped; rw [if_neg (by omega)]
      rw [← ew] at k7 ⊢
      have hmf : s.next ∉ rfoot r R := fun q => hm (rfoot_whole q)
      obtain ⟨offO, offW⟩ := offs k6 la6 own6 row6
      have la7 := la6.chg st7.chg hmf
      have own7 := own6.chg st7.chg (fun id q h => offO id q (List.mem_cons_of_mem _ h))
      have row7 := row6.chg st7.chg (fun id q h => offW id q (List.mem_cons_of_mem _ h))
      have each7 : ∀ q ∈ ps, Rdb s7 q.1 q.2.2.length q.2.2 ∧ ∀ id ∈ blkOf q.1, id ∈ blkOf O := fun q hq => ⟨((each5 q hq).1.chg c56 (by simp)).chg st7.chg (fun id h h2 => offO id ((each5 q hq).2 id h) (List.mem_cons_of_mem _ h2)), (each5 q hq).2⟩
      have st07 : RStep r s R s7 R7 := (RStep.of (R := R) (c05.trans c56)).trans st7
      clear offO offW
      (repeat(first|refine pSeq ?_|refine pReg ?_|refine sCons ?_|refine sNil ?_|refine rCons ?_|refine rNil ?_|refine kNo ?_|refine pRow ?_|refine pBlock ?_|refine pSkip ?_|refine pExit ?_|refine pRet ?_|refine pCond ?_|refine gNone ?_))
      intro q hq
      by_cases hr : ((after (recF D)).wiped D).1 = 0
      · obtain rfl : q = false := by rw [hq, hr]; rfl
        have e : rcv D = (0, ((after (recF D)).wiped D).2.synced) := by unfold rcv; rw [if_neg (by simpa using hr)]
        rw [e]
        (repeat(first|refine pSeq ?_|refine pReg ?_|refine sCons ?_|refine sNil ?_|refine rCons ?_|refine rNil ?_|refine kNo ?_|refine pRow ?_|refine pBlock ?_|refine pSkip ?_|refine pExit ?_|refine pRet ?_|refine pCond ?_|refine gNone ?_))
        refine (rsync_w k7).mono fun v sB q => ?_
        obtain ⟨RB, kB, stB, hwB⟩ := q
        obtain ⟨offO, offW⟩ := offs k7 la7 own7 row7
        have laB := la7.chg stB.chg (fun q => (k7.offM la7) (rfoot_whole q))
        (repeat(first|refine pSeq ?_|refine pReg ?_|refine sCons ?_|refine sNil ?_|refine rCons ?_|refine rNil ?_|refine kNo ?_|refine pRow ?_|refine pBlock ?_|refine pSkip ?_|refine pExit ?_|refine pRet ?_|refine pCond ?_|refine gNone ?_))
        refine ldI_is rfl laB.blk rfl ?_
        (repeat(first|refine pSeq ?_|refine pReg ?_|refine sCons ?_|refine sNil ?_|refine rCons ?_|refine rNil ?_|refine kNo ?_|refine pRow ?_|refine pBlock ?_|refine pSkip ?_|refine pExit ?_|refine pRet ?_|refine pCond ?_|refine gNone ?_))
        intro z hz
        rw [sub1_u32] at hz
        subst hz
        (repeat(first|refine pSeq ?_|refine pReg ?_|refine sCons ?_|refine sNil ?_|refine rCons ?_|refine rNil ?_|refine kNo ?_|refine pRow ?_|refine pBlock ?_|refine pSkip ?_|refine pExit ?_|refine pRet ?_|refine pCond ?_|refine gNone ?_))
        refine st_abs rfl rfl laB.blk laB.lt rfl rfl fun sC eC cC nC => ?_
        (repeat(first|refine pSeq ?_|refine pReg ?_|refine sCons ?_|refine sNil ?_|refine rCons ?_|refine rNil ?_|refine kNo ?_|refine pRow ?_|refine pBlock ?_|refine pSkip ?_|refine pExit ?_|refine pRet ?_|refine pCond ?_|refine gNone ?_))
        have cAC : Chg s7 sC (s.next :: rfoot r R7) := stB.chg.trans' cC (fun id q _ => List.mem_cons_of_mem _ q) (fun id q _ => by simp only [List.mem_singleton] at q; rw [q]; exact List.mem_cons_self ..)
        have nAC := cAC.next
        have hsC : Chg s sC (rfoot r R) := (st07.trans stB).chg.fresh cC (by simp)
        refine ⟨RB, kB.chg cC (fun id q h => kB.offM laB (by simp only [List.mem_singleton] at h; rw [← h]; exact q)), ⟨hsC, (st07.trans stB).ft, (st07.trans stB).al⟩, .inr ⟨rfl, s.next, W, cw, ps, rfl, ⟨by rw [nC]; exact laB.lt, eC⟩, Nat.le_refl _, ⟨row7.chg cAC offW, O, D.now, own7.chg cAC offO, fun q hq => ⟨(each7 q hq).1.chg cAC (fun id h => offO id ((each7 q hq).2 id h)), (each7 q hq).2⟩⟩, map3⟩⟩
      · obtain rfl : q = true := by rw [hq]; simp [hr]
        have e : rcv D = (after (recF D)).wiped D := by unfold rcv; rw [if_pos hr]
        rw [e]
        (repeat(first|refine pSeq ?_|refine pReg ?_|refine sCons ?_|refine sNil ?_|refine rCons ?_|refine rNil ?_|refine kNo ?_|refine pRow ?_|refine pBlock ?_|refine pSkip ?_|refine pExit ?_|refine pRet ?_|refine pCond ?_|refine gNone ?_))
        exact ⟨R7, k7, st07, .inl ⟨hr, rfl⟩⟩
    · obtain rfl : q = false := by rw [hq]; simp; omega
      have ew : (after (recF D)).wiped D = (0, D) := by unfold Lg.wiped; rw [if_pos (by omega)]
      have e : rcv D = (0, D.synced) := by unfold rcv; rw [ew, if_neg (by simp)]
      rw [e]
      (repeat(first|refine pSeq ?_|refine pReg ?_|refine sCons ?_|refine sNil ?_|refine rCons ?_|refine rNil ?_|refine kNo ?_|refine pRow ?_|refine pBlock ?_|refine pSkip ?_|refine pExit ?_|refine pRet ?_|refine pCond ?_|refine gNone ?_))
      refine (rsync_w k5).mono fun v sB q => ?_
      obtain ⟨RB, kB, stB, hwB⟩ := q
      obtain ⟨offO, offW⟩ := offs k5 la5 own5 row5
      have laB := la5.chg stB.chg (fun q => (k5.offM la5) (rfoot_whole q))
      (repeat(first|refine pSeq ?_|refine pReg ?_|refine sCons ?_|refine sNil ?_|refine rCons ?_|refine rNil ?_|refine kNo ?_|refine pRow ?_|refine pBlock ?_|refine pSkip ?_|refine pExit ?_|refine pRet ?_|refine pCond ?_|refine gNone ?_))
      refine ldI_is rfl laB.blk rfl ?_
      (repeat(first|refine pSeq ?_|refine pReg ?_|refine sCons ?_|refine sNil ?_|refine rCons ?_|refine rNil ?_|refine kNo ?_|refine pRow ?_|refine pBlock ?_|refine pSkip ?_|refine pExit ?_|refine pRet ?_|refine pCond ?_|refine gNone ?_))
      intro z hz
      rw [sub1_u32] at hz
      subst hz
      (repeat(first|refine pSeq ?_|refine pReg ?_|refine sCons ?_|refine sNil ?_|refine rCons ?_|refine rNil ?_|refine kNo ?_|refine pRow ?_|refine pBlock ?_|refine pSkip ?_|refine pExit ?_|refine pRet ?_|refine pCond ?_|refine gNone ?_))
      refine st_abs rfl rfl laB.blk laB.lt rfl rfl fun sC eC cC nC => ?_
      (repeat(first|refine pSeq ?_|refine pReg ?_|refine sCons ?_|refine sNil ?_|refine rCons ?_|refine rNil ?_|refine kNo ?_|refine pRow ?_|refine pBlock ?_|refine pSkip ?_|refine pExit ?_|refine pRet ?_|refine pCond ?_|refine gNone ?_))
      have cAC : Chg s5 sC (s.next :: rfoot r R) := stB.chg.trans' cC (fun id q _ => List.mem_cons_of_mem _ q) (fun id q _ => by simp only [List.mem_singleton] at q; rw [q]; exact List.mem_cons_self ..)
      have nAC := cAC.next
      have hsC : Chg s sC (rfoot r R) := ((RStep.of (R := R) c05).trans stB).chg.fresh cC (by simp)
      refine ⟨RB, kB.chg cC (fun id q h => kB.offM laB (by simp only [List.mem_singleton] at h; rw [← h]; exact q)), ⟨hsC, ((RStep.of (R := R) c05).trans stB).ft, ((RStep.of (R := R) c05).trans stB).al⟩, .inr ⟨rfl, s.next, W, cw, ps, rfl, ⟨by rw [nC]; exact laB.lt, eC⟩, Nat.le_refl _, ⟨row5.chg cAC offW, O, D.now, own5.chg cAC offO, fun q hq => ⟨(each5 q hq).1.chg cAC (fun id h => offO id ((each5 q hq).2 id h)), (each5 q hq).2⟩⟩, map3⟩⟩
end Go.Vf.S
end

section
/- The program's log and the document's, side by side: the ground. -/
namespace Go.Vf.S
open Go Go.Vf Go.Vf.Fr
attribute [local irreducible] wSeq wRow wp wG
set_option linter.unusedVariables false
set_option linter.unusedSimpArgs false
set_option maxRecDepth 10000

theorem inv_wrote {A : Dk} (h : A.Inv) (k : Int) (l : List UInt8) : (A.wrote k l).2.Inv := DInv.wrote (D := A) h k l
theorem inv_synced {A : Dk} (h : A.Inv) : A.synced.Inv := h
theorem inv_crashed (A : Dk) (zs : List Int) : (A.crashed zs).Inv := rfl

/-- What a call of the program's disk does. -/
structure DMove (d : Nat) (s : SS) (B : Bs) (s' : SS) (B' : Bs) : Prop where
  chg : Chg s s' (foot d B)
  al : ∀ id ∈ whole d B', id ∈ whole d B ∨ s.next ≤ id
theorem _root_.Go.Vf.S.Step.move {d : Nat} {s s' : SS} {B B' : Bs} (h : Step d s B s' B') : DMove d s B s' B' := ⟨h.chg, h.al⟩

/-- Both disks, apart. -/
structure Both (s : SS) (d r : Nat) (A : Dk) (B : Bs) (R : RB) : Prop where
  disk : DAt s d A B
  ref : RAt s r A R
  inv : A.Inv
  sep : ∀ id ∈ rbytes R, id ∉ whole d B

theorem Both.rd {s : SS} {d r : Nat} {A : Dk} {B : Bs} {R : RB} (h : Both s d r A B R) : ∀ id ∈ rwhole r R, id ∉ whole d B := by
  intro id q
  simp only [rwhole, rfoot, List.mem_append, List.mem_cons] at q
  rcases q with (rfl | q) | q
  · exact h.disk.foot3 h.ref.obj ⟨by decide, by decide, by decide⟩
  · obtain ⟨_, e⟩ := h.ref.row.at _ q; exact h.disk.foot3 e ⟨by decide, by decide, by decide⟩
  · exact h.sep id q
theorem Both.dr {s : SS} {d r : Nat} {A : Dk} {B : Bs} {R : RB} (h : Both s d r A B R) : ∀ id ∈ whole d B, id ∉ rwhole r R := fun id q r => h.rd id r q

/-- What a call with both does to their places. -/
structure Two (d r : Nat) (s : SS) (B : Bs) (R : RB) (s' : SS) (B' : Bs) (R' : RB) : Prop where
  chg : Chg s s' (foot d B ++ rfoot r R)
  al : ∀ id ∈ whole d B', id ∈ whole d B ∨ s.next ≤ id
  rl : ∀ id ∈ rwhole r R', id ∈ rwhole r R ∨ s.next ≤ id

theorem Two.refl (d r : Nat) (s : SS) (B : Bs) (R : RB) : Two d r s B R s B R := ⟨.refl _ _, fun id q => .inl q, fun id q => .inl q⟩
theorem RStep.whole {r : Nat} {s s' : SS} {R R' : RB} (h : RStep r s R s' R') : ∀ id ∈ rwhole r R', id ∈ rwhole r R ∨ s.next ≤ id := by
  intro id q
  simp only [rwhole, List.mem_append] at q ⊢
  rcases q with q | q
  · exact (h.ft id q).imp .inl (fun q => q)
  · exact (h.al id q).imp .inr (fun q => q)

/-- First the one, then the other. -/
theorem Both.both {s s1 s2 : SS} {d r : Nat} {A A' : Dk} {B B' : Bs} {R R' : RB} (h : Both s d r A B R) (hi : A'.Inv) (h1 : DAt s1 d A' B') (st1 : DMove d s B s1 B') (h2 : RAt s2 r A' R') (st2 : RStep r s1 R s2 R') : Both s2 d r A' B' R' ∧ Two d r s B R s2 B' R' := by
  have n1 := st1.chg.next
  have lt1 := h1.blt
  have d1 : ∀ id ∈ whole d B', id ∉ rfoot r R := fun id q q2 => by
    rcases st1.al id q with q | q
    · exact h.dr id q (List.mem_append_left _ q2)
    · have := h.ref.blt id (List.mem_append_left _ q2); omega
  refine ⟨⟨h1.chg st2.chg d1, h2, hi, fun id q q2 => ?_⟩, ?_, st1.al, fun id q => ?_⟩
  · rcases st2.al id q with q | q
    · rcases st1.al id q2 with q3 | q3
      · exact h.sep id q q3
      · have := h.ref.blt id (List.mem_append_right _ q); omega
    · have := lt1 id q2; omega
  · exact st1.chg.trans' st2.chg (fun id q _ => List.mem_append_left _ q) (fun id q _ => List.mem_append_right _ q)
  · rcases st2.whole id q with q | q
    · exact .inl q
    · exact .inr (by omega)
/-- The other way round. -/
theorem Both.both' {s s1 s2 : SS} {d r : Nat} {A A' : Dk} {B B' : Bs} {R R' : RB} (h : Both s d r A B R) (hi : A'.Inv) (h1 : RAt s1 r A' R') (st1 : RStep r s R s1 R') (h2 : DAt s2 d A' B') (st2 : DMove d s1 B s2 B') : Both s2 d r A' B' R' ∧ Two d r s B R s2 B' R' := by
  have n1 := st1.chg.next
  have lt1 := h1.blt
  have d1 : ∀ id ∈ rwhole r R', id ∉ foot d B := fun id q q2 => by
    rcases st1.whole id q with q | q
    · exact h.rd id q (foot_whole q2)
    · have := h.disk.blt id (foot_whole q2); omega
  refine ⟨⟨h2, h1.chg st2.chg d1, hi, fun id q q2 => ?_⟩, ?_, fun id q => ?_, st1.whole⟩
  · have q' : id ∈ rwhole r R' := List.mem_append_right _ q
    rcases st2.al id q2 with q3 | q3
    · rcases st1.al id q with q | q
      · exact h.sep id q q3
      · have := h.disk.blt id q3; omega
    · have := lt1 id q'; omega
  · exact st1.chg.trans' st2.chg (fun id q _ => List.mem_append_right _ q) (fun id q _ => List.mem_append_left _ q)
  · rcases st2.al id q with q | q
    · exact .inl q
    · exact .inr (by omega)
theorem Both.chg0 {s s' : SS} {d r : Nat} {A : Dk} {B : Bs} {R : RB} (h : Both s d r A B R) (c : Chg s s' []) : Both s' d r A B R := ⟨h.disk.chg c (fun _ _ => by simp), h.ref.chg c (fun _ _ => by simp), h.inv, h.sep⟩
theorem Two.pre {d r : Nat} {s s1 s2 : SS} {B B' : Bs} {R R' : RB} (c : Chg s s1 []) (t : Two d r s1 B R s2 B' R') : Two d r s B R s2 B' R' := by
  have := c.next
  exact ⟨c.nil t.chg, fun id q => (t.al id q).imp (fun q => q) (fun q => by omega), fun id q => (t.rl id q).imp (fun q => q) (fun q => by omega)⟩
theorem Two.post {d r : Nat} {s s1 s2 : SS} {B B' : Bs} {R R' : RB} {Z : List Nat} (t : Two d r s B R s1 B' R') (c : Chg s1 s2 Z) (hz : ∀ id ∈ Z, s.next ≤ id) : Two d r s B R s2 B' R' := ⟨t.chg.fresh c hz, t.al, t.rl⟩


/-! ### What is kept of the calls handed in -/

def Mild (s s' : SS) : Prop := ∃ Z, Chg s s' Z ∧ ∀ id ∈ Z, id < s.next → ∀ c t g r, lookH s.heap id = some (.cells c t g r) → t ≠ tA ∧ r = false
theorem Mild.of {s s' : SS} {Z : List Nat} (c : Chg s s' Z) (h : ∀ id ∈ Z, id < s.next → ∃ c t g, lookH s.heap id = some (.cells c t g false) ∧ t ≠ tA) : Mild s s' := ⟨Z, c, fun id q hl c t g r e => by
  obtain ⟨c', t', g', e', ht⟩ := h id q hl
  rw [e] at e'
  cases e'
  exact ⟨ht, rfl⟩⟩
theorem Mild.none {s s' : SS} (c : Chg s s' []) : Mild s s' := ⟨[], c, by simp⟩
theorem Mild.next {s s' : SS} (h : Mild s s') : s.next ≤ s'.next := let ⟨_, c, _⟩ := h; c.next
theorem Mild.trans {s s1 s2 : SS} (h : Mild s s1) (k : Mild s1 s2) : Mild s s2 := by
  obtain ⟨Z, c, hz⟩ := h
  obtain ⟨Y, c', hy⟩ := k
  refine ⟨Z ++ Y, c.trans c', fun id q hl cc t g r e => ?_⟩
  by_cases hq : id ∈ Z
  · exact hz id hq hl _ _ _ _ e
  · exact hy id ((List.mem_append.1 q).resolve_left hq) (Nat.lt_of_lt_of_le hl c.next) _ _ _ _ (c.blk _ _ hl hq e)

/-- The calls, as they lie. -/
structure Acts (s : SS) (ob : Option Addr) (fw : List AV) : Prop where
  row : OwnR tA s ob 0 fw.length (aCells fw)
  ok : ∀ a ∈ fw, ActOk s a
theorem ActOk.lt {s : SS} {a : AV} (h : ActOk s a) : ∀ id ∈ actIds a, id < s.next := fun id q => by
  rcases List.mem_append.1 q with q | q
  · exact h.1.lt id q
  · exact h.2.1.lt id q
theorem ActOk.mild {s s' : SS} {a : AV} (h : ActOk s a) (m : Mild s s') : ActOk s' a := by
  obtain ⟨Z, c, hz⟩ := m
  refine h.chg c fun id q r => ?_
  obtain ⟨c1, t1, g1, e1⟩ := h.ro id q
  have := (hz id r (h.lt id q) _ _ _ _ e1).2
  cases this
theorem Acts.mild {s s' : SS} {ob : Option Addr} {fw : List AV} (h : Acts s ob fw) (m : Mild s s') : Acts s' ob fw := by
  refine ⟨?_, fun a ha => (h.ok a ha).mild m⟩
  obtain ⟨Z, c, hz⟩ := m
  refine h.row.chg c fun id q r => ?_
  obtain ⟨g', e'⟩ := h.row.at id q
  exact (hz id r (h.row.lt id q) _ _ _ _ e').1 rfl
theorem Mild.box {s s' : SS} {b : Nat} {cs : List Value} {g r : Bool} (m : Mild s s') (hb : b < s.next) (h : lookH s.heap b = some (.cells cs tA g r)) : lookH s'.heap b = some (.cells cs tA g r) := by
  obtain ⟨Z, c, hz⟩ := m
  exact c.blk _ _ hb (fun q => (hz b q hb _ _ _ _ h).1 rfl) h

theorem mild_dk {s s' : SS} {d : Nat} {D : Dk} {B : Bs} (k : DAt s d D B) (c : Chg s s' (foot d B)) : Mild s s' := .of c fun id q hl => by
  simp only [foot, List.mem_cons, List.mem_append] at q
  rcases q with rfl | (q | q) | q
  · exact ⟨_, _, _, k.obj, by decide⟩
  · obtain ⟨z, hz⟩ := k.sure.at _ q
    exact ⟨_, _, _, hz, by decide⟩
  · obtain ⟨z, hz⟩ := k.now.at _ q
    exact ⟨_, _, _, hz, by decide⟩
  · obtain ⟨z, hz⟩ := k.row.at _ q
    exact ⟨_, _, _, hz, by decide⟩
theorem mild_ref {s s' : SS} {r : Nat} {D : Dk} {R : RB} (k : RAt s r D R) (c : Chg s s' (rfoot r R)) : Mild s s' := .of c fun id q hl => by
  rcases List.mem_cons.1 q with rfl | q
  · exact ⟨_, _, _, k.obj, by decide⟩
  · obtain ⟨z, hz⟩ := k.row.at _ q
    exact ⟨_, _, _, hz, by decide⟩
theorem mild_one {s s' : SS} {b : Nat} {cs : List Value} {t : TypeId} {g : Bool} (h : lookH s.heap b = some (.cells cs t g false)) (ht : t ≠ tA) (c : Chg s s' [b]) : Mild s s' := .of c fun id q hl => by
  obtain rfl := List.mem_singleton.1 q
  exact ⟨_, _, _, h, ht⟩

/-! ### Two logs -/

abbrev tX : TypeId := 34
abbrev Pr := Option (Nat × Nat × Lg)
def prG : Pr → Value
  | none => .pointer none
  | some (g, _, _) => .pointer (some ⟨g, 0, none⟩)
def prM : Pr → Value
  | none => .pointer none
  | some (_, m, _) => .pointer (some ⟨m, 0, none⟩)
def plCells (d r : Nat) (o : Pr) : List Value := [.pointer (some ⟨d, 0, none⟩), prG o, .pointer (some ⟨r, 0, none⟩), prM o]

structure Pl (s : SS) (xb d r : Nat) (D : Dk) (B : Bs) (R : RB) (o : Pr) : Prop where
  both : Both s d r D B R
  ev : Ev s
  lt : xb < s.next
  blk : lookH s.heap xb = some (.cells (plCells d r o) tX false false)
  logs : ∀ g m A, o = some (g, m, A) → LAt s g d A ∧ Rl s m r A ∧ A.size ≤ D.cap

theorem Pl.offD {s : SS} {xb d r : Nat} {D : Dk} {B : Bs} {R : RB} {o : Pr} (h : Pl s xb d r D B R o) : xb ∉ whole d B := h.both.disk.foot3 h.blk ⟨by decide, by decide, by decide⟩
theorem Pl.offR {s : SS} {xb d r : Nat} {D : Dk} {B : Bs} {R : RB} {o : Pr} (h : Pl s xb d r D B R o) : xb ∉ rfoot r R := h.both.ref.foot3 h.blk ⟨by decide, by decide⟩
theorem Pl.chg0 {s s' : SS} {xb d r : Nat} {D : Dk} {B : Bs} {R : RB} {o : Pr} (h : Pl s xb d r D B R o) (c : Chg s s' []) : Pl s' xb d r D B R o :=
  ⟨h.both.chg0 c, h.ev.chg c (by simp), Nat.lt_of_lt_of_le h.lt c.next, c.blk _ _ h.lt (by simp) h.blk, fun g m A e => let ⟨a, b, q⟩ := h.logs g m A e; ⟨a.chg c (by simp), b.chg c (by simp), q⟩⟩

theorem rcv_inv {D : Dk} (h : D.Inv) : (rcv D).2.Inv ∧ (rcv D).2.cap = D.cap ∧ (rcv D).2.ws.length ≤ D.ws.length + 1 := by
  have hw : ((after (recF D)).wiped D).2.Inv ∧ ((after (recF D)).wiped D).2.cap = D.cap ∧ ((after (recF D)).wiped D).2.ws.length ≤ D.ws.length + 1 := by
    unfold Lg.wiped
    split
    · exact ⟨h, rfl, Nat.le_succ _⟩
    · refine ⟨inv_wrote h _ _, ?_, ?_⟩
      · unfold Dk.wrote; split
        · rfl
        · split <;> rfl
      · unfold Dk.wrote; split
        · exact Nat.le_succ _
        · split
          · exact Nat.le_succ _
          · simp
  unfold rcv
  split
  · exact hw
  · exact ⟨inv_synced hw.1, hw.2.1, Nat.zero_le _⟩
theorem rcv_size (D : Dk) (h : D.now.length ≤ D.cap) : (after (recF D)).synced.size ≤ D.cap := by
  show (after (recF D)).size ≤ D.cap
  rw [after_size]
  exact Nat.le_trans (frs_total _ _ _ _) h
end Go.Vf.S
end

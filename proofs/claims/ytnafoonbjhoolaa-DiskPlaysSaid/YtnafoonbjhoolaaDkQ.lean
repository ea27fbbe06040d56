import Derived.Test.YtnafoonbjhoolaaDkP
/- The document's own disk. -/
namespace Go.Vf.S
open Go Go.Vf
attribute [local irreducible] wSeq wRow wp
set_option linter.unusedVariables false
set_option linter.unusedSimpArgs false
set_option maxRecDepth 10000

structure RB where
  S : Option Addr
  W : Option Addr
  cw : Nat
  wl : List WB

def rCells (A : Dk) (R : RB) : List Value := [.int .i64 A.cap, .bool A.full, .slice R.S A.sure.length 0, .slice R.W R.wl.length R.cw]
def rbytes (R : RB) : List Nat := blkOf R.S ++ R.wl.flatMap fun w => blkOf w.2.2
def rfoot (r : Nat) (R : RB) : List Nat := r :: blkOf R.W
def rwhole (r : Nat) (R : RB) : List Nat := rfoot r R ++ rbytes R

structure RAt (s : SS) (r : Nat) (A : Dk) (R : RB) : Prop where
  obj : lookH s.heap r = some (.cells (rCells A R) tR false false)
  lt : r < s.next
  sure : Own tB s R.S A.sure
  row : OwnR tV s R.W R.cw R.wl.length (wCells R.wl)
  each : ∀ w ∈ R.wl, Own tB s w.2.2 w.2.1 ∧ w.1 + w.2.1.length ≤ A.cap
  cap : A.cap ≤ 1048576
  lsure : A.sure.length ≤ A.cap
  lws : R.wl.length ≤ 10000
  ews : R.wl.map bare = A.ws

theorem RAt.chg {s s' : SS} {r : Nat} {A : Dk} {R : RB} {Z : List Nat} (h : RAt s r A R) (c : Chg s s' Z) (hZ : ∀ id ∈ rwhole r R, id ∉ Z) : RAt s' r A R := by
  refine ⟨c.blk _ _ h.lt (hZ r (by simp [rwhole, rfoot])) h.obj, Nat.lt_of_lt_of_le h.lt c.next, h.sure.chg c (fun id q => hZ id (by simp [rwhole, rbytes, q])), h.row.chg c (fun id q => hZ id (by simp [rwhole, rfoot, q])),
    fun w hw => ⟨(h.each w hw).1.chg c (fun id q => hZ id ?_), (h.each w hw).2⟩, h.cap, h.lsure, h.lws, h.ews⟩
  simp only [rwhole, rbytes, List.mem_append, List.mem_flatMap]
  exact .inr (.inr ⟨w, hw, q⟩)

theorem RAt.blt {s : SS} {r : Nat} {A : Dk} {R : RB} (h : RAt s r A R) : ∀ id ∈ rwhole r R, id < s.next := by
  intro id q
  simp only [rwhole, rfoot, rbytes, List.mem_append, List.mem_cons, List.mem_flatMap] at q
  rcases q with (rfl | q) | (q | ⟨w, hw, q⟩)
  · exact h.lt
  · exact h.row.lt _ q
  · exact h.sure.lt _ q
  · exact (h.each w hw).1.lt _ q

structure RStep (r : Nat) (s : SS) (R : RB) (s' : SS) (R' : RB) : Prop where
  chg : Chg s s' (rfoot r R)
  ft : ∀ id ∈ rfoot r R', id ∈ rfoot r R ∨ s.next ≤ id
  al : ∀ id ∈ rbytes R', id ∈ rbytes R ∨ s.next ≤ id

theorem RAt.apart {s : SS} {r : Nat} {A : Dk} {R : RB} (h : RAt s r A R) : (∀ id ∈ blkOf R.S, r ≠ id) ∧ (∀ id ∈ blkOf R.W, r ≠ id) ∧ (∀ w ∈ R.wl, ∀ id ∈ blkOf w.2.2, r ≠ id) ∧ ∀ i ∈ blkOf R.W, (∀ id ∈ blkOf R.S, i ≠ id) ∧ ∀ w ∈ R.wl, ∀ id ∈ blkOf w.2.2, i ≠ id :=
  ⟨fun id q => let ⟨_, e⟩ := h.sure.at id q; type_ne h.obj e (by decide), fun id q => let ⟨_, e⟩ := h.row.at id q; type_ne h.obj e (by decide), fun w hw id q => let ⟨_, e⟩ := (h.each w hw).1.at id q; type_ne h.obj e (by decide),
    fun i hi => let ⟨_, e0⟩ := h.row.at i hi
      ⟨fun id q => let ⟨_, e⟩ := h.sure.at id q; type_ne e0 e (by decide), fun w hw id q => let ⟨_, e⟩ := (h.each w hw).1.at id q; type_ne e0 e (by decide)⟩⟩

theorem RAt.wsAt {s : SS} {r : Nat} {A : Dk} {R : RB} (h : RAt s r A R) {i : Nat} (hi : i < R.wl.length) : A.ws.length = R.wl.length ∧ ∃ hi' : i < A.ws.length, (A.ws[i]).1 = (R.wl[i]).1 ∧ (A.ws[i]).2 = (R.wl[i]).2.1 := by
  have e := h.ews
  have l : A.ws.length = R.wl.length := by rw [← e, List.length_map]
  have hi' : i < A.ws.length := by omega
  have e3 : A.ws[i]? = some ((R.wl[i]).1, (R.wl[i]).2.1) := by rw [← e, List.getElem?_map, List.getElem?_eq_getElem hi]; rfl
  rw [List.getElem?_eq_getElem hi'] at e3
  have e4 := Option.some.inj e3
  exact ⟨l, hi', by rw [e4], by rw [e4]⟩
theorem RAt.rowAt {s : SS} {r : Nat} {A : Dk} {R : RB} (h : RAt s r A R) {i : Nat} (hi : i < R.wl.length) : ∃ bw g, lookH s.heap bw = some (.cells (wCells R.wl) tV g false) ∧
    lookH s.heap r = some (.cells [.int .i64 A.cap, .bool A.full, .slice R.S A.sure.length 0, .slice (some ⟨bw, 0, none⟩) R.wl.length R.cw] tR false false) := by
  obtain ⟨b, g, e, h4⟩ := h.row.pos (by omega)
  have ho := h.obj
  unfold rCells at ho
  rw [e] at ho
  exact ⟨b, g, h4, ho⟩
theorem RAt.wsle {s : SS} {r : Nat} {A : Dk} {R : RB} (h : RAt s r A R) : ∀ w ∈ A.ws, w.1 + w.2.length ≤ A.cap := by
  intro w hw
  rw [← h.ews] at hw
  obtain ⟨x, hx, rfl⟩ := List.mem_map.1 hw
  exact (h.each x hx).2

theorem rnew_bad {s : SS} {c : Int} (h : c < 0 ∨ 1048576 < c) : CallW pr n_ref01_New [.int .i64 c] s fun v s' => v = .tuple ⟨[.pointer none, .int .i64 1]⟩ ∧ s' = s := by
  refine CallW.run good ok_ref01_New (by simp) rfl ?_
  (repeat (first | refine pSeq ?_ | refine pReg ?_ | refine sRaw ?_ | refine sCons ?_ | refine sNil ?_ | refine rCons ?_ | refine rNil ?_ | refine kNo ?_ | refine pRow ?_ | refine pBlock ?_ | refine pSkip ?_ | refine pExit ?_ | refine pRet ?_ | refine pCond ?_ | refine gNone ?_ | refine gOn rfl ?_ | refine gOff rfl rfl ?_))
  intro q hq
  by_cases h0 : c < 0
  · obtain rfl : q = true := by rw [hq]; simp; omega
    (repeat (first | refine pSeq ?_ | refine pReg ?_ | refine sRaw ?_ | refine sCons ?_ | refine sNil ?_ | refine rCons ?_ | refine rNil ?_ | refine kNo ?_ | refine pRow ?_ | refine pBlock ?_ | refine pSkip ?_ | refine pExit ?_ | refine pRet ?_ | refine pCond ?_ | refine gNone ?_ | refine gOn rfl ?_ | refine gOff rfl rfl ?_))
    exact ⟨rfl, rfl⟩
  obtain rfl : q = false := by rw [hq]; simp; omega
  (repeat (first | refine pSeq ?_ | refine pReg ?_ | refine sRaw ?_ | refine sCons ?_ | refine sNil ?_ | refine rCons ?_ | refine rNil ?_ | refine kNo ?_ | refine pRow ?_ | refine pBlock ?_ | refine pSkip ?_ | refine pExit ?_ | refine pRet ?_ | refine pCond ?_ | refine gNone ?_ | refine gOn rfl ?_ | refine gOff rfl rfl ?_))
  intro q hq
  obtain rfl : q = true := by rw [hq]; simp; omega
  (repeat (first | refine pSeq ?_ | refine pReg ?_ | refine sRaw ?_ | refine sCons ?_ | refine sNil ?_ | refine rCons ?_ | refine rNil ?_ | refine kNo ?_ | refine pRow ?_ | refine pBlock ?_ | refine pSkip ?_ | refine pExit ?_ | refine pRet ?_ | refine pCond ?_ | refine gNone ?_ | refine gOn rfl ?_ | refine gOff rfl rfl ?_))
  exact ⟨rfl, rfl⟩
theorem rnew_w {s : SS} {c : Nat} (h : c ≤ 1048576) : CallW pr n_ref01_New [.int .i64 c] s fun v s' =>
    ∃ r, s.next ≤ r ∧ v = .tuple ⟨[.pointer (some ⟨r, 0, none⟩), .int .i64 0]⟩ ∧ RAt s' r (Dk.made c) ⟨none, none, 0, []⟩ ∧ Chg s s' [] := by
  refine CallW.run good ok_ref01_New (by simp) rfl ?_
  (repeat (first | refine pSeq ?_ | refine pReg ?_ | refine sRaw ?_ | refine sCons ?_ | refine sNil ?_ | refine rCons ?_ | refine rNil ?_ | refine kNo ?_ | refine pRow ?_ | refine pBlock ?_ | refine pSkip ?_ | refine pExit ?_ | refine pRet ?_ | refine pCond ?_ | refine gNone ?_ | refine gOn rfl ?_ | refine gOff rfl rfl ?_))
  intro q hq
  obtain rfl : q = false := by rw [hq]; simp
  (repeat (first | refine pSeq ?_ | refine pReg ?_ | refine sRaw ?_ | refine sCons ?_ | refine sNil ?_ | refine rCons ?_ | refine rNil ?_ | refine kNo ?_ | refine pRow ?_ | refine pBlock ?_ | refine pSkip ?_ | refine pExit ?_ | refine pRet ?_ | refine pCond ?_ | refine gNone ?_ | refine gOn rfl ?_ | refine gOff rfl rfl ?_))
  intro q hq
  obtain rfl : q = false := by rw [hq]; simp; omega
  (repeat (first | refine pSeq ?_ | refine pReg ?_ | refine sRaw ?_ | refine sCons ?_ | refine sNil ?_ | refine rCons ?_ | refine rNil ?_ | refine kNo ?_ | refine pRow ?_ | refine pBlock ?_ | refine pSkip ?_ | refine pExit ?_ | refine pRet ?_ | refine pCond ?_ | refine gNone ?_ | refine gOn rfl ?_ | refine gOff rfl rfl ?_))
  exact ⟨s.next, Nat.le_refl _, rfl, ⟨lkH, Nat.lt_succ_self _, rfl, ⟨rfl, rfl, rfl⟩, fun w hw => by simp at hw, h, Nat.zero_le _, Nat.zero_le _, rfl⟩, .new _⟩

set_option maxHeartbeats 1000000 in
theorem seen_w {s : SS} {r : Nat} {A : Dk} {R : RB} (h : RAt s r A R) : CallW pr n_ref01_Disk_Seen [.pointer (some ⟨r, 0, none⟩)] s fun v s' => ∃ O, v = .slice O (lays A.ws A.sure).length 0 ∧ Own tB s' O (lays A.ws A.sure) ∧ (∀ id ∈ blkOf O, id ∈ blkOf R.S ∨ s.next ≤ id) ∧ Chg s s' [] := by
  have hcap := h.cap
  have hlws := h.lws
  have hws := h.wsle
  have lw : A.ws.length = R.wl.length := by rw [← h.ews, List.length_map]
  refine CallW.run good ok_ref01_Disk_Seen (by simp) rfl ?_
  (repeat (first | refine pSeq ?_ | refine pReg ?_ | refine sRaw ?_ | refine sCons ?_ | refine sNil ?_ | refine rCons ?_ | refine rNil ?_ | refine kNo ?_ | refine pRow ?_ | refine pBlock ?_ | refine pSkip ?_ | refine pExit ?_ | refine pRet ?_ | refine pCond ?_ | refine gNone ?_ | refine gOn rfl ?_ | refine gOff rfl rfl ?_))
  refine ld1_is rfl h.obj rfl ?_
  (repeat (first | refine pSeq ?_ | refine pReg ?_ | refine sRaw ?_ | refine sCons ?_ | refine sNil ?_ | refine rCons ?_ | refine rNil ?_ | refine kNo ?_ | refine pRow ?_ | refine pBlock ?_ | refine pSkip ?_ | refine pExit ?_ | refine pRet ?_ | refine pCond ?_ | refine gNone ?_ | refine gOn rfl ?_ | refine gOff rfl rfl ?_))
  refine pLoop (MW.head good (fun x : LayS => R.wl.length - x.i) (fun x => x.i ≤ R.wl.length ∧ Own tB x.s x.O (lays (A.ws.take x.i) A.sure) ∧ (∀ id ∈ blkOf x.O, id ∈ blkOf R.S ∨ s.next ≤ id) ∧ Chg s x.s [])
    (fun x => [(0, .pointer (some ⟨r, 0, none⟩)), (3, .slice x.O (lays (A.ws.take x.i) A.sure).length 0), (4, .int .i64 x.i)]) (fun x => x.s) ⟨0, s, R.S⟩ ⟨Nat.zero_le _, by simp only [List.take_zero]; exact h.sure, fun id q => .inl q, .refl _ _⟩ ?_ ?_)
  · exact Wk.same ⟨rfl, rfl, rfl, trivial⟩
  intro ⟨i, s1, O1⟩ ⟨hi, o1, n1, c1⟩
  dsimp only at hi o1 n1 c1 ⊢
  have h1 := h.chg c1 (fun _ _ => by simp)
  have lb := lays_len (cap := A.cap) (ws := A.ws.take i) h.lsure (fun w hw => hws w (List.mem_of_mem_take hw))
  (repeat (first | refine pSeq ?_ | refine pReg ?_ | refine sRaw ?_ | refine sCons ?_ | refine sNil ?_ | refine rCons ?_ | refine rNil ?_ | refine kNo ?_ | refine pRow ?_ | refine pBlock ?_ | refine pSkip ?_ | refine pExit ?_ | refine pRet ?_ | refine pCond ?_ | refine gNone ?_ | refine gOn rfl ?_ | refine gOff rfl rfl ?_))
  refine ld1_is rfl h1.obj rfl ?_
  (repeat (first | refine pSeq ?_ | refine pReg ?_ | refine sRaw ?_ | refine sCons ?_ | refine sNil ?_ | refine rCons ?_ | refine rNil ?_ | refine kNo ?_ | refine pRow ?_ | refine pBlock ?_ | refine pSkip ?_ | refine pExit ?_ | refine pRet ?_ | refine pCond ?_ | refine gNone ?_ | refine gOn rfl ?_ | refine gOff rfl rfl ?_))
  intro q hq
  by_cases hlt : i < R.wl.length
  · obtain rfl : q = true := by rw [hq]; simp; omega
    obtain ⟨hl, hi', e1, e2⟩ := h.wsAt hlt
    obtain ⟨bw, g, hrow, obj1⟩ := h1.rowAt hlt
    have hw := h1.each _ (List.getElem_mem hlt)
    have lw1 : (R.wl[i]).1 + (R.wl[i]).2.1.length ≤ A.cap := hw.2
    have ltk := lays_take hi' (b := A.sure)
    rw [e1, e2] at ltk
    (repeat (first | refine pSeq ?_ | refine pReg ?_ | refine sRaw ?_ | refine sCons ?_ | refine sNil ?_ | refine rCons ?_ | refine rNil ?_ | refine kNo ?_ | refine pRow ?_ | refine pBlock ?_ | refine pSkip ?_ | refine pExit ?_ | refine pRet ?_ | refine pCond ?_ | refine gNone ?_ | refine gOn rfl ?_ | refine gOff rfl rfl ?_))
    refine ld1_is rfl obj1 rfl ?_
    (repeat (first | refine pSeq ?_ | refine pReg ?_ | refine sRaw ?_ | refine sCons ?_ | refine sNil ?_ | refine rCons ?_ | refine rNil ?_ | refine kNo ?_ | refine pRow ?_ | refine pBlock ?_ | refine pSkip ?_ | refine pExit ?_ | refine pRet ?_ | refine pCond ?_ | refine gNone ?_ | refine gOn rfl ?_ | refine gOff rfl rfl ?_))
    refine ⟨⟨by omega, Int.ofNat_lt.2 hlt⟩, ?_⟩
    intro m hm o ho
    obtain rfl : m = i := by omega
    rw [Nat.zero_add, Nat.mul_comm] at ho
    subst ho
    (repeat (first | refine pSeq ?_ | refine pReg ?_ | refine sRaw ?_ | refine sCons ?_ | refine sNil ?_ | refine rCons ?_ | refine rNil ?_ | refine kNo ?_ | refine pRow ?_ | refine pBlock ?_ | refine pSkip ?_ | refine pExit ?_ | refine pRet ?_ | refine pCond ?_ | refine gNone ?_ | refine gOn rfl ?_ | refine gOff rfl rfl ?_))
    refine ldN_is rfl hrow (wCells_at hlt) ?_
    (repeat (first | refine pSeq ?_ | refine pReg ?_ | refine sRaw ?_ | refine sCons ?_ | refine sNil ?_ | refine rCons ?_ | refine rNil ?_ | refine kNo ?_ | refine pRow ?_ | refine pBlock ?_ | refine pSkip ?_ | refine pExit ?_ | refine pRet ?_ | refine pCond ?_ | refine gNone ?_ | refine gOn rfl ?_ | refine gOff rfl rfl ?_))
    refine ld1_is rfl obj1 rfl ?_
    (repeat (first | refine pSeq ?_ | refine pReg ?_ | refine sRaw ?_ | refine sCons ?_ | refine sNil ?_ | refine rCons ?_ | refine rNil ?_ | refine kNo ?_ | refine pRow ?_ | refine pBlock ?_ | refine pSkip ?_ | refine pExit ?_ | refine pRet ?_ | refine pCond ?_ | refine gNone ?_ | refine gOn rfl ?_ | refine gOff rfl rfl ?_))
    refine ⟨⟨by omega, Int.ofNat_lt.2 hlt⟩, ?_⟩
    intro m' hm o ho
    obtain rfl : m' = m := by omega
    rw [Nat.zero_add, Nat.mul_comm] at ho
    subst ho
    (repeat (first | refine pSeq ?_ | refine pReg ?_ | refine sRaw ?_ | refine sCons ?_ | refine sNil ?_ | refine rCons ?_ | refine rNil ?_ | refine kNo ?_ | refine pRow ?_ | refine pBlock ?_ | refine pSkip ?_ | refine pExit ?_ | refine pRet ?_ | refine pCond ?_ | refine gNone ?_ | refine gOn rfl ?_ | refine gOff rfl rfl ?_))
    refine ld1_is rfl hrow (wCells_get hlt).1 ?_
    (repeat (first | refine pSeq ?_ | refine pReg ?_ | refine sRaw ?_ | refine sCons ?_ | refine sNil ?_ | refine rCons ?_ | refine rNil ?_ | refine kNo ?_ | refine pRow ?_ | refine pBlock ?_ | refine pSkip ?_ | refine pExit ?_ | refine pRet ?_ | refine pCond ?_ | refine gNone ?_ | refine gOn rfl ?_ | refine gOff rfl rfl ?_))
    refine (rlay_w (X := (R.wl[m']).2.2) (xl := (R.wl[m']).2.1) (cx := 0) (k := (R.wl[m']).1) (many := ((R.wl[m']).2.1.length : Int)) o1.rdb hw.1.rdb (by omega) (by omega) (by omega)).mono fun v s6 q => ?_
    obtain ⟨O6, rfl, o6, n6, c6⟩ := q
    rw [Int.toNat_natCast, List.take_of_length_le (Nat.le_refl _), ← ltk] at *
    (repeat (first | refine pSeq ?_ | refine pReg ?_ | refine sRaw ?_ | refine sCons ?_ | refine sNil ?_ | refine rCons ?_ | refine rNil ?_ | refine kNo ?_ | refine pRow ?_ | refine pBlock ?_ | refine pSkip ?_ | refine pExit ?_ | refine pRet ?_ | refine pCond ?_ | refine gNone ?_ | refine gOn rfl ?_ | refine gOff rfl rfl ?_))
    intro z hz
    rw [i64_id (by omega)] at hz
    (repeat (first | refine pSeq ?_ | refine pReg ?_ | refine sRaw ?_ | refine sCons ?_ | refine sNil ?_ | refine rCons ?_ | refine rNil ?_ | refine kNo ?_ | refine pRow ?_ | refine pBlock ?_ | refine pSkip ?_ | refine pExit ?_ | refine pRet ?_ | refine pCond ?_ | refine gNone ?_ | refine gOn rfl ?_ | refine gOff rfl rfl ?_))
    refine ⟨⟨m' + 1, s6, O6⟩, ⟨hlt, o6, fun id q => .inr (Nat.le_trans c1.next (n6 id q)), c1.nil c6⟩, by dsimp only; omega, Wk.same ⟨rfl, rfl, ?_, trivial⟩⟩
    subst hz
    rfl
  · obtain rfl : q = false := by rw [hq]; simp; omega
    rw [List.take_of_length_le (by omega)] at o1 ⊢
    (repeat (first | refine pSeq ?_ | refine pReg ?_ | refine sRaw ?_ | refine sCons ?_ | refine sNil ?_ | refine rCons ?_ | refine rNil ?_ | refine kNo ?_ | refine pRow ?_ | refine pBlock ?_ | refine pSkip ?_ | refine pExit ?_ | refine pRet ?_ | refine pCond ?_ | refine gNone ?_ | refine gOn rfl ?_ | refine gOff rfl rfl ?_))
    exact ⟨O1, rfl, o1, n1, c1⟩

/-- The object turned, its row perhaps. -/
theorem RAt.turn {s s6 s7 : SS} {r : Nat} {A A' : Dk} {R R' : RB} (h : RAt s r A R) (c6 : Chg s s6 (blkOf R.W)) (c7 : Chg s6 s7 [r]) (hobj : lookH s7.heap r = some (.cells (rCells A' R') tR false false)) (hs : Own tB s7 R'.S A'.sure) (hw : OwnR tV s7 R'.W R'.cw R'.wl.length (wCells R'.wl))
    (he : ∀ w ∈ R'.wl, w ∈ R.wl ∨ Own tB s7 w.2.2 w.2.1 ∧ w.1 + w.2.1.length ≤ A.cap ∧ ∀ id ∈ blkOf w.2.2, s.next ≤ id) (hc : A'.cap = A.cap) (hl : A'.sure.length ≤ A.cap) (hn : R'.wl.length ≤ 10000) (hew : R'.wl.map bare = A'.ws)
    (ft : ∀ id ∈ blkOf R'.W, id ∈ blkOf R.W ∨ s.next ≤ id) (al : ∀ id ∈ blkOf R'.S, id ∈ blkOf R.S ∨ s.next ≤ id) : RAt s7 r A' R' ∧ RStep r s R s7 R' := by
  obtain ⟨a1, a2, a3, a4⟩ := h.apart
  have n6 := c6.next
  have n7 := c7.next
  have hlt := h.lt
  refine ⟨⟨hobj, by omega, hs, hw, fun w hw => ?_, by rw [hc]; exact h.cap, by rw [hc]; exact hl, hn, hew⟩, ?_, ?_, ?_⟩
  · rcases he w hw with q | ⟨q1, q2, q3⟩
    · have e := h.each w q
      exact ⟨(e.1.chg c6 (fun id q1 q2 => (a4 id q2).2 w q id q1 rfl)).chg c7 (fun id q1 q2 => a3 w q id q1 (List.mem_singleton.1 q2).symm), by rw [hc]; exact e.2⟩
    · exact ⟨q1, by rw [hc]; exact q2⟩
  · have t1 : Chg s s6 (rfoot r R) := c6.sub (fun id q _ => by simp [rfoot, q])
    exact t1.trans' (C := rfoot r R) c7 (fun id q _ => q) (fun id q _ => by simp at q; simp [rfoot, q])
  · intro id q
    simp only [rfoot, List.mem_cons] at q ⊢
    rcases q with q | q
    · exact .inl (.inl q)
    · rcases ft id q with q | q
      · exact .inl (.inr q)
      · exact .inr q
  · intro id q
    simp only [rbytes, List.mem_append, List.mem_flatMap] at q ⊢
    rcases q with q | ⟨w, hw, q⟩
    · rcases al id q with q | q
      · exact .inl (.inl q)
      · exact .inr q
    · rcases he w hw with e | ⟨_, _, e⟩
      · exact .inl (.inr ⟨w, e, q⟩)
      · exact .inr (e id q)

set_option maxHeartbeats 1000000 in
theorem rwrite_w {s : SS} {r : Nat} {A : Dk} {R : RB} {X : Option Addr} {cx n : Nat} {l : List UInt8} {k : Int} (h : RAt s r A R) (hi : A.Inv) (hx : Rdb s X n l) (hn : n ≤ 1073741824) (hw : R.wl.length < 10000) (hnow : A.now.length ≤ A.cap) :
    CallW pr n_ref01_Disk_Write [.pointer (some ⟨r, 0, none⟩), .int .i64 k, .slice X n cx] s fun v s' => v = .int .i64 (A.wrote k l).1 ∧ ∃ R', RAt s' r (A.wrote k l).2 R' ∧ RStep r s R s' R' ∧ R'.wl.length ≤ R.wl.length + 1 := by
  have hnl := hx.1
  have hcap := h.cap
  have hI : lays A.ws A.sure = A.now := hi.symm
  have same : RStep r s R s R := ⟨.refl _ _, fun id q => .inl q, fun id q => .inl q⟩
  refine CallW.run good ok_ref01_Disk_Write (by simp) rfl ?_
  (repeat (first | refine pSeq ?_ | refine pReg ?_ | refine sRaw ?_ | refine sCons ?_ | refine sNil ?_ | refine rCons ?_ | refine rNil ?_ | refine kNo ?_ | refine pRow ?_ | refine pBlock ?_ | refine pSkip ?_ | refine pExit ?_ | refine pRet ?_ | refine pCond ?_ | refine gNone ?_ | refine gOn rfl ?_ | refine gOff rfl rfl ?_))
  intro q hq
  by_cases h0 : k < 0
  · obtain rfl : q = true := by rw [hq]; simp; omega
    have e : A.wrote k l = (1, A) := by unfold Dk.wrote; rw [if_pos (.inl h0)]
    rw [e]
    (repeat (first | refine pSeq ?_ | refine pReg ?_ | refine sRaw ?_ | refine sCons ?_ | refine sNil ?_ | refine rCons ?_ | refine rNil ?_ | refine kNo ?_ | refine pRow ?_ | refine pBlock ?_ | refine pSkip ?_ | refine pExit ?_ | refine pRet ?_ | refine pCond ?_ | refine gNone ?_ | refine gOn rfl ?_ | refine gOff rfl rfl ?_))
    exact ⟨rfl, R, h, same, by omega⟩
  obtain rfl : q = false := by rw [hq]; simp; omega
  (repeat (first | refine pSeq ?_ | refine pReg ?_ | refine sRaw ?_ | refine sCons ?_ | refine sNil ?_ | refine rCons ?_ | refine rNil ?_ | refine kNo ?_ | refine pRow ?_ | refine pBlock ?_ | refine pSkip ?_ | refine pExit ?_ | refine pRet ?_ | refine pCond ?_ | refine gNone ?_ | refine gOn rfl ?_ | refine gOff rfl rfl ?_))
  refine (seen_w h).mono fun v s1 q => ?_
  obtain ⟨O1, rfl, o1, n1, c1⟩ := q
  rw [hI]
  have h1 := h.chg c1 (fun _ _ => by simp)
  have hx1 := hx.chg c1 (fun _ _ => by simp)
  have same1 : RStep r s R s1 R := ⟨c1.sub (by simp), fun id q => .inl q, fun id q => .inl q⟩
  (repeat (first | refine pSeq ?_ | refine pReg ?_ | refine sRaw ?_ | refine sCons ?_ | refine sNil ?_ | refine rCons ?_ | refine rNil ?_ | refine kNo ?_ | refine pRow ?_ | refine pBlock ?_ | refine pSkip ?_ | refine pExit ?_ | refine pRet ?_ | refine pCond ?_ | refine gNone ?_ | refine gOn rfl ?_ | refine gOff rfl rfl ?_))
  intro q hq
  by_cases h2 : (A.now.length : Int) < k
  · obtain rfl : q = true := by rw [hq]; simp; omega
    have e : A.wrote k l = (1, A) := by unfold Dk.wrote; rw [if_pos (.inr h2)]
    rw [e]
    (repeat (first | refine pSeq ?_ | refine pReg ?_ | refine sRaw ?_ | refine sCons ?_ | refine sNil ?_ | refine rCons ?_ | refine rNil ?_ | refine kNo ?_ | refine pRow ?_ | refine pBlock ?_ | refine pSkip ?_ | refine pExit ?_ | refine pRet ?_ | refine pCond ?_ | refine gNone ?_ | refine gOn rfl ?_ | refine gOff rfl rfl ?_))
    exact ⟨rfl, R, h1, same1, by omega⟩
  obtain rfl : q = false := by rw [hq]; simp; omega
  (repeat (first | refine pSeq ?_ | refine pReg ?_ | refine sRaw ?_ | refine sCons ?_ | refine sNil ?_ | refine rCons ?_ | refine rNil ?_ | refine kNo ?_ | refine pRow ?_ | refine pBlock ?_ | refine pSkip ?_ | refine pExit ?_ | refine pRet ?_ | refine pCond ?_ | refine gNone ?_ | refine gOn rfl ?_ | refine gOff rfl rfl ?_))
  refine ldB_is rfl h1.obj rfl ?_
  cases hfull : A.full with
  | true =>
    have e : A.wrote k l = (7, A) := by unfold Dk.wrote; rw [if_neg (by omega), if_pos (.inl hfull)]
    rw [e]
    (repeat (first | refine pSeq ?_ | refine pReg ?_ | refine sRaw ?_ | refine sCons ?_ | refine sNil ?_ | refine rCons ?_ | refine rNil ?_ | refine kNo ?_ | refine pRow ?_ | refine pBlock ?_ | refine pSkip ?_ | refine pExit ?_ | refine pRet ?_ | refine pCond ?_ | refine gNone ?_ | refine gOn rfl ?_ | refine gOff rfl rfl ?_))
    exact ⟨rfl, R, h1, same1, by omega⟩
  | false =>
  (repeat (first | refine pSeq ?_ | refine pReg ?_ | refine sRaw ?_ | refine sCons ?_ | refine sNil ?_ | refine rCons ?_ | refine rNil ?_ | refine kNo ?_ | refine pRow ?_ | refine pBlock ?_ | refine pSkip ?_ | refine pExit ?_ | refine pRet ?_ | refine pCond ?_ | refine gNone ?_ | refine gOn rfl ?_ | refine gOff rfl rfl ?_))
  intro z hz
  rw [i64_id (by omega)] at hz
  (repeat (first | refine pSeq ?_ | refine pReg ?_ | refine sRaw ?_ | refine sCons ?_ | refine sNil ?_ | refine rCons ?_ | refine rNil ?_ | refine kNo ?_ | refine pRow ?_ | refine pBlock ?_ | refine pSkip ?_ | refine pExit ?_ | refine pRet ?_ | refine pCond ?_ | refine gNone ?_ | refine gOn rfl ?_ | refine gOff rfl rfl ?_))
  refine ldI_is rfl h1.obj rfl ?_
  (repeat (first | refine pSeq ?_ | refine pReg ?_ | refine sRaw ?_ | refine sCons ?_ | refine sNil ?_ | refine rCons ?_ | refine rNil ?_ | refine kNo ?_ | refine pRow ?_ | refine pBlock ?_ | refine pSkip ?_ | refine pExit ?_ | refine pRet ?_ | refine pCond ?_ | refine gNone ?_ | refine gOn rfl ?_ | refine gOff rfl rfl ?_))
  intro q hq
  by_cases h3 : (A.cap : Int) - k < l.length
  · obtain rfl : q = true := by rw [hq]; simp; omega
    have e : A.wrote k l = (7, A) := by unfold Dk.wrote; rw [if_neg (by omega), if_pos (.inr h3)]
    rw [e]
    (repeat (first | refine pSeq ?_ | refine pReg ?_ | refine sRaw ?_ | refine sCons ?_ | refine sNil ?_ | refine rCons ?_ | refine rNil ?_ | refine kNo ?_ | refine pRow ?_ | refine pBlock ?_ | refine pSkip ?_ | refine pExit ?_ | refine pRet ?_ | refine pCond ?_ | refine gNone ?_ | refine gOn rfl ?_ | refine gOff rfl rfl ?_))
    exact ⟨rfl, R, h1, same1, by omega⟩
  obtain rfl : q = false := by rw [hq]; simp; omega
  have e : A.wrote k l = (0, { A with now := layF A.now k.toNat l, ws := A.ws ++ [(k.toNat, l)] }) := by unfold Dk.wrote; rw [if_neg (by omega), if_neg (by rw [hfull]; simp; omega)]
  rw [e]
  obtain ⟨k, rfl⟩ := Int.eq_ofNat_of_zero_le (show 0 ≤ k by omega)
  simp only [Int.toNat_natCast] at *
  subst hnl
  (repeat (first | refine pSeq ?_ | refine pReg ?_ | refine sRaw ?_ | refine sCons ?_ | refine sNil ?_ | refine rCons ?_ | refine rNil ?_ | refine kNo ?_ | refine pRow ?_ | refine pBlock ?_ | refine pSkip ?_ | refine pExit ?_ | refine pRet ?_ | refine pCond ?_ | refine gNone ?_ | refine gOn rfl ?_ | refine gOff rfl rfl ?_))
  refine app_none rfl rfl hx1 hn (fun _ h => h) fun s2 X2 o2 nX2 c2 => ?_
  have h2' := h1.chg c2 (fun _ _ => by simp)
  (repeat (first | refine pSeq ?_ | refine pReg ?_ | refine sRaw ?_ | refine sCons ?_ | refine sNil ?_ | refine rCons ?_ | refine rNil ?_ | refine kNo ?_ | refine pRow ?_ | refine pBlock ?_ | refine pSkip ?_ | refine pExit ?_ | refine pRet ?_ | refine pCond ?_ | refine gNone ?_ | refine gOn rfl ?_ | refine gOff rfl rfl ?_))
  refine ld1_is rfl h2'.obj rfl ?_
  (repeat (first | refine pSeq ?_ | refine pReg ?_ | refine sRaw ?_ | refine sCons ?_ | refine sNil ?_ | refine rCons ?_ | refine rNil ?_ | refine kNo ?_ | refine pRow ?_ | refine pBlock ?_ | refine pSkip ?_ | refine pExit ?_ | refine pRet ?_ | refine pCond ?_ | refine gNone ?_ | refine gOn rfl ?_ | refine gOff rfl rfl ?_))
  have cN := Chg.new (s := s2) (b := .cells (wCell (k, l, X2)) tV false false) []
  have h3' := h2'.chg cN (fun _ _ => by simp)
  refine appR (new := wCell (k, l, X2)) h3'.row (by rw [wCells_len]; omega) ⟨by omega, by omega⟩ rfl rfl lkH rfl rfl fun s4 hrow c4 n4 => ?_
  have n4 : s4.next = s2.next + 1 + 1 := n4
  obtain ⟨a1, a2, a3, a4⟩ := h3'.apart
  have obj4 := c4.blk r _ h3'.lt (fun q => a2 r q rfl) h3'.obj
  (repeat (first | refine pSeq ?_ | refine pReg ?_ | refine sRaw ?_ | refine sCons ?_ | refine sNil ?_ | refine rCons ?_ | refine rNil ?_ | refine kNo ?_ | refine pRow ?_ | refine pBlock ?_ | refine pSkip ?_ | refine pExit ?_ | refine pRet ?_ | refine pCond ?_ | refine gNone ?_ | refine gOn rfl ?_ | refine gOff rfl rfl ?_))
  refine st_abs (cs' := rCells { A with now := layF A.now k l, ws := A.ws ++ [(k, l)] } { R with W := some ⟨s2.next + 1, 0, none⟩, cw := 0, wl := R.wl ++ [(k, l, X2)] }) rfl rfl obj4 (Nat.lt_of_lt_of_le h3'.lt c4.next) rfl (by simp only [rCells, List.length_append]; rfl) fun s5 obj5 c5 n5 => ?_
  have ltr := h.lt
  have ltW := h.row.lt
  have x1 := c1.next
  have x2 := c2.next
  have hX2 : ∀ id ∈ blkOf X2, s1.next ≤ id ∧ id < s2.next := fun id q => ⟨nX2 id q, o2.lt id q⟩
  obtain ⟨f1, f2⟩ := h.turn (A' := { A with now := layF A.now k l, ws := A.ws ++ [(k, l)] }) (R' := { R with W := some ⟨s2.next + 1, 0, none⟩, cw := 0, wl := R.wl ++ [(k, l, X2)] }) (((c1.nil c2).nil cN).nil c4) c5 obj5
    ((h3'.sure.chg c4 (fun id q1 q2 => (a4 id q2).1 id q1 rfl)).chg c5 (fun id q1 q2 => a1 id q1 (List.mem_singleton.1 q2).symm))
    (by
      have := hrow.chg c5 (fun id q1 q2 => by simp only [blkOf, List.mem_singleton] at q1 q2; omega)
      simp only [List.length_append, List.length_cons, List.length_nil, wCells_app]
      have e : wCells [(k, l, X2)] = wCell (k, l, X2) := by simp [wCells]
      rw [e]
      exact this)
    (fun w hw => by
      rcases List.mem_append.1 hw with q | q
      · exact .inl q
      · obtain rfl := List.mem_singleton.1 q
        refine .inr ⟨((o2.chg cN (fun _ _ => by simp)).chg c4 (fun id q1 q2 => ?_)).chg c5 (fun id q1 q2 => ?_), ?_, fun id q => ?_⟩
        · have := hX2 id q1; have := ltW id q2; omega
        · have := hX2 id q1; simp only [List.mem_singleton] at q2; omega
        · show k + l.length ≤ A.cap
          omega
        · have := hX2 id q; omega)
    rfl h.lsure (by simp; omega) (by rw [List.map_append, h.ews]; rfl) (fun id q => by simp only [blkOf, List.mem_singleton] at q; right; omega) (fun id q => .inl q)
  (repeat (first | refine pSeq ?_ | refine pReg ?_ | refine sRaw ?_ | refine sCons ?_ | refine sNil ?_ | refine rCons ?_ | refine rNil ?_ | refine kNo ?_ | refine pRow ?_ | refine pBlock ?_ | refine pSkip ?_ | refine pExit ?_ | refine pRet ?_ | refine pCond ?_ | refine gNone ?_ | refine gOn rfl ?_ | refine gOff rfl rfl ?_))
  exact ⟨rfl, _, f1, f2, by simp⟩
end Go.Vf.S

import Derived.Test.YtioildcpkcijkaaDoorLgV
import Derived.Test.YtioildcpkcijkaaDoorLgJ
/- What the law LogSure says, from any state. -/
namespace Go.Vf.S
open Go Go.Vf Go.Vf.Fr
attribute [local irreducible] wSeq wRow wp wG
set_option linter.unusedVariables false
set_option linter.unusedSimpArgs false
set_option maxRecDepth 10000

theorem slot {T : TL} {s : SS} {t : Tmp} {v : Value} (h : look T t = some v) : operand (toTr T) s.st (.tmp t) = some v := opd_ok (x := .tmp t) rfl h

theorem sw_w {s0 : SS} {k d mb ab : Nat} {ob : Option Addr} {fw : List AV} {x : Sv} {a : AV} {z : Int} (h : SvI s0 d mb ob fw x) (hi : x.i < 40) (hA : Ab x.s d mb ab x a) (ha : a ∈ fw) (h60 : a.bl.length ≤ 60) (h20 : a.kl.length ≤ 20) :
    W pr 183 k (.seq code_K04_SA (.cond (.tmp 45) code_K04_AP (.seq code_K04_RC (.cond (.tmp 90) code_K04_SY (.seq code_K04_SB (.cond (.tmp 99) code_K04_CR .skip)))))) ((44, .int .i64 z) :: (9, .pointer (some ⟨ab, 0, none⟩)) :: svT d mb ob fw.length x.i x.g) x.s (SwQ k s0 d mb ob fw x.i) := by
  have hY : SvI s0 d mb ob fw { x with i := x.i + 1 } := { h with many := Nat.le_succ_of_le h.many }
  have r3 : ∀ b : Bool, W pr 183 k (.cond (.tmp 99) code_K04_CR .skip) ((99, .bool b) :: (44, .int .i64 z) :: (9, .pointer (some ⟨ab, 0, none⟩)) :: svT d mb ob fw.length x.i x.g) x.s (SwQ k s0 d mb ob fw x.i) := by
    intro b
    cases b with
    | true => exact W.condT (slot rfl) (W.weak (T' := (9, .pointer (some ⟨ab, 0, none⟩)) :: svT d mb ob fw.length x.i x.g) (s' := x.s) (Wk.same ⟨rfl, rfl, rfl, rfl, rfl, rfl, rfl, rfl, trivial⟩) (sure_crash h hi hA ha h20))
    | false => exact W.condF (slot rfl) (W.skip (.inl ⟨rfl, _, hY, rfl, Wk.same ⟨rfl, rfl, rfl, rfl, rfl, rfl, rfl, trivial⟩⟩))
  have r2 : ∀ b : Bool, W pr 183 k (.cond (.tmp 90) code_K04_SY (.seq code_K04_SB (.cond (.tmp 99) code_K04_CR .skip))) ((90, .bool b) :: (44, .int .i64 z) :: (9, .pointer (some ⟨ab, 0, none⟩)) :: svT d mb ob fw.length x.i x.g) x.s (SwQ k s0 d mb ob fw x.i) := by
    intro b
    cases b with
    | true => exact W.condT (slot rfl) (W.weak (T' := (9, .pointer (some ⟨ab, 0, none⟩)) :: svT d mb ob fw.length x.i x.g) (s' := x.s) (Wk.same ⟨rfl, rfl, rfl, rfl, rfl, rfl, rfl, rfl, trivial⟩) (sure_sync h))
    | false =>
      refine W.condF (slot rfl) (W.seq (comp_ok good ok_K04_SB (Box.out (p := wp pr 183 k _ _ _ _) ?_)))
      unfold svT
      (repeat' (first | refine pSeq ?_ | refine pReg ?_ | refine sRaw ?_ | refine sCons ?_ | refine sNil ?_ | refine rCons ?_ | refine rNil ?_ | refine kNo ?_ | refine pRow ?_ | refine pBlock ?_ | refine pSkip ?_ | refine pExit ?_ | refine pRet ?_ | refine pCond ?_ | refine gNone ?_ | refine gOn rfl ?_ | refine gOff rfl rfl ?_ | refine gTup rfl ?_ | (intro q hq; cases q <;> simp only [true_eq_decide_iff, false_eq_decide_iff, Bool.not_true, Bool.not_false, Bool.true_eq, Bool.false_eq, decide_eq_true_eq, decide_eq_false_iff_not, reduceCtorEq] at hq)))
      all_goals exact W.weak (T' := (99, .bool _) :: (44, .int .i64 z) :: (9, .pointer (some ⟨ab, 0, none⟩)) :: svT d mb ob fw.length x.i x.g) (s' := x.s) (Wk.same ⟨rfl, rfl, rfl, rfl, rfl, rfl, rfl, rfl, rfl, rfl, trivial⟩) (r3 _)
  have r1 : ∀ b : Bool, W pr 183 k (.cond (.tmp 45) code_K04_AP (.seq code_K04_RC (.cond (.tmp 90) code_K04_SY (.seq code_K04_SB (.cond (.tmp 99) code_K04_CR .skip))))) ((45, .bool b) :: (44, .int .i64 z) :: (9, .pointer (some ⟨ab, 0, none⟩)) :: svT d mb ob fw.length x.i x.g) x.s (SwQ k s0 d mb ob fw x.i) := by
    intro b
    cases b with
    | true => exact W.condT (slot rfl) (W.weak (T' := (9, .pointer (some ⟨ab, 0, none⟩)) :: svT d mb ob fw.length x.i x.g) (s' := x.s) (Wk.same ⟨rfl, rfl, rfl, rfl, rfl, rfl, rfl, rfl, trivial⟩) (sure_append h hi hA ha h60))
    | false =>
      refine W.condF (slot rfl) (W.seq (comp_ok good ok_K04_RC (Box.out (p := wp pr 183 k _ _ _ _) ?_)))
      unfold svT
      (repeat' (first | refine pSeq ?_ | refine pReg ?_ | refine sRaw ?_ | refine sCons ?_ | refine sNil ?_ | refine rCons ?_ | refine rNil ?_ | refine kNo ?_ | refine pRow ?_ | refine pBlock ?_ | refine pSkip ?_ | refine pExit ?_ | refine pRet ?_ | refine pCond ?_ | refine gNone ?_ | refine gOn rfl ?_ | refine gOff rfl rfl ?_ | refine gTup rfl ?_ | (intro q hq; cases q <;> simp only [true_eq_decide_iff, false_eq_decide_iff, Bool.not_true, Bool.not_false, Bool.true_eq, Bool.false_eq, decide_eq_true_eq, decide_eq_false_iff_not, reduceCtorEq] at hq)))
      all_goals exact W.weak (T' := (90, .bool _) :: (44, .int .i64 z) :: (9, .pointer (some ⟨ab, 0, none⟩)) :: svT d mb ob fw.length x.i x.g) (s' := x.s) (Wk.same ⟨rfl, rfl, rfl, rfl, rfl, rfl, rfl, rfl, rfl, rfl, trivial⟩) (r2 _)
  refine W.seq (comp_ok good ok_K04_SA (Box.out (p := wp pr 183 k _ _ _ _) ?_))
  unfold svT
  (repeat' (first | refine pSeq ?_ | refine pReg ?_ | refine sRaw ?_ | refine sCons ?_ | refine sNil ?_ | refine rCons ?_ | refine rNil ?_ | refine kNo ?_ | refine pRow ?_ | refine pBlock ?_ | refine pSkip ?_ | refine pExit ?_ | refine pRet ?_ | refine pCond ?_ | refine gNone ?_ | refine gOn rfl ?_ | refine gOff rfl rfl ?_ | refine gTup rfl ?_ | (intro q hq; cases q <;> simp only [true_eq_decide_iff, false_eq_decide_iff, Bool.not_true, Bool.not_false, Bool.true_eq, Bool.false_eq, decide_eq_true_eq, decide_eq_false_iff_not, reduceCtorEq] at hq)))
  all_goals exact W.weak (T' := (45, .bool _) :: (44, .int .i64 z) :: (9, .pointer (some ⟨ab, 0, none⟩)) :: svT d mb ob fw.length x.i x.g) (s' := x.s) (Wk.same ⟨rfl, rfl, rfl, rfl, rfl, rfl, rfl, rfl, rfl, rfl, trivial⟩) (r1 _)

theorem ck_w {s0 : SS} {k d mb : Nat} {ob : Option Addr} {fw : List AV} {i : Nat} {y : Sv} (h : SvI s0 d mb ob fw y) (hi : y.i ≤ 41) : W pr 183 k code_K04_CK (svT d mb ob fw.length i y.g) y.s fun ex T' s' => ex = .normal ∧ Wk pr 183 k T' s' (svT d mb ob fw.length i y.g) y.s := by
  have hmany := h.many
  have hlen := h.len
  have hj := h.ws.le
  refine comp_ok good ok_K04_CK (Box.out (p := wp pr 183 k _ _ _ _) ?_)
  unfold svT
  (repeat(first|refine pSeq ?_|refine pReg ?_|refine sCons ?_|refine sNil ?_|refine rCons ?_|refine rNil ?_|refine kNo ?_|refine pRow ?_|refine pSkip ?_|refine pRet ?_|refine pCond ?_|refine gNone ?_|refine gOn rfl ?_|refine gOff rfl rfl ?_|refine gTup rfl ?_))
  refine ld1_is rfl h.mod rfl ?_
  (repeat(first|refine pSeq ?_|refine pReg ?_|refine sCons ?_|refine sNil ?_|refine rCons ?_|refine rNil ?_|refine kNo ?_|refine pRow ?_|refine pSkip ?_|refine pRet ?_|refine pCond ?_|refine gNone ?_|refine gOn rfl ?_|refine gOff rfl rfl ?_|refine gTup rfl ?_))
  intro z1 hz1
  rw [i64_id (by omega)] at hz1
  (repeat(first|refine pSeq ?_|refine pReg ?_|refine sCons ?_|refine sNil ?_|refine rCons ?_|refine rNil ?_|refine kNo ?_|refine pRow ?_|refine pSkip ?_|refine pRet ?_|refine pCond ?_|refine gNone ?_|refine gOn rfl ?_|refine gOff rfl rfl ?_|refine gTup rfl ?_))
  refine (next_w h.on.la).mono fun v s1 q => ?_
  obtain ⟨rfl, rfl⟩ := q
  refine kAll .refl ?_
  (repeat(first|refine pSeq ?_|refine pReg ?_|refine sCons ?_|refine sNil ?_|refine rCons ?_|refine rNil ?_|refine kNo ?_|refine pRow ?_|refine pSkip ?_|refine pRet ?_|refine pCond ?_|refine gNone ?_|refine gOn rfl ?_|refine gOff rfl rfl ?_|refine gTup rfl ?_))
  intro z2 hz2
  have e2 : z2 = ((y.all.length + 1 : Nat) : Int) := by
    have e : (BitVec.ofNat 32 y.all.length + 1#32).toNat = y.all.length + 1 := by
      rw [← ofNat_succ]; simp; omega
    rw [hz2]
    show IntKind.i64.wrap ((BitVec.ofNat 32 y.all.length + 1#32).toNat : Int) = _
    rw [e, i64_id (by omega)]
  (repeat(first|refine pSeq ?_|refine pReg ?_|refine sCons ?_|refine sNil ?_|refine rCons ?_|refine rNil ?_|refine kNo ?_|refine pRow ?_|refine pSkip ?_|refine pRet ?_|refine pCond ?_|refine gNone ?_|refine gOn rfl ?_|refine gOff rfl rfl ?_|refine gTup rfl ?_))
  intro q hq
  obtain rfl : q = false := by rw [hq, e2, hz1, hlen]; simp
  (repeat(first|refine pSeq ?_|refine pReg ?_|refine sCons ?_|refine sNil ?_|refine rCons ?_|refine rNil ?_|refine kNo ?_|refine pRow ?_|refine pSkip ?_|refine pRet ?_|refine pCond ?_|refine gNone ?_|refine gOn rfl ?_|refine gOff rfl rfl ?_|refine gTup rfl ?_))
  refine ldI_is rfl h.mod rfl ?_
  (repeat(first|refine pSeq ?_|refine pReg ?_|refine sCons ?_|refine sNil ?_|refine rCons ?_|refine rNil ?_|refine kNo ?_|refine pRow ?_|refine pSkip ?_|refine pRet ?_|refine pCond ?_|refine gNone ?_|refine gOn rfl ?_|refine gOff rfl rfl ?_|refine gTup rfl ?_))
  refine (sure_w h.on.la).mono fun v s1 q => ?_
  obtain ⟨rfl, rfl⟩ := q
  refine kAll .refl ?_
  (repeat(first|refine pSeq ?_|refine pReg ?_|refine sCons ?_|refine sNil ?_|refine rCons ?_|refine rNil ?_|refine kNo ?_|refine pRow ?_|refine pSkip ?_|refine pRet ?_|refine pCond ?_|refine gNone ?_|refine gOn rfl ?_|refine gOff rfl rfl ?_|refine gTup rfl ?_))
  intro z3 hz3
  have e3 : z3 = (y.j : Int) := by
    have e : (BitVec.ofNat 32 y.j).toNat = y.j := by simp; omega
    rw [hz3]
    show IntKind.i64.wrap ((BitVec.ofNat 32 y.j).toNat : Int) = _
    rw [e, i64_id (by omega)]
  (repeat(first|refine pSeq ?_|refine pReg ?_|refine sCons ?_|refine sNil ?_|refine rCons ?_|refine rNil ?_|refine kNo ?_|refine pRow ?_|refine pSkip ?_|refine pRet ?_|refine pCond ?_|refine gNone ?_|refine gOn rfl ?_|refine gOff rfl rfl ?_|refine gTup rfl ?_))
  intro q hq
  obtain rfl : q = false := by rw [hq, e3]; simp
  (repeat(first|refine pSeq ?_|refine pReg ?_|refine sCons ?_|refine sNil ?_|refine rCons ?_|refine rNil ?_|refine kNo ?_|refine pRow ?_|refine pSkip ?_|refine pRet ?_|refine pCond ?_|refine gNone ?_|refine gOn rfl ?_|refine gOff rfl rfl ?_|refine gTup rfl ?_))
  exact ⟨rfl, Wk.same ⟨rfl, rfl, rfl, rfl, rfl, rfl, rfl, trivial⟩⟩

noncomputable abbrev switchS : Code := .seq code_K04_SA (.cond (.tmp 45) code_K04_AP (.seq code_K04_RC (.cond (.tmp 90) code_K04_SY (.seq code_K04_SB (.cond (.tmp 99) code_K04_CR .skip)))))
noncomputable abbrev bodyS : Code := .seq code_K04_HB (.seq code_K04_HC (.seq (.block 1 (.seq code_K04_RA (.seq (.seq code_K04_RB (.block 2 switchS)) code_K04_CK))) code_K04_IN))

set_option maxHeartbeats 1000000 in
theorem logsure_w {s : SS} {lb : Option Addr} {l : List AV} (hl : InA s lb l) (ev : Ev s) : CallW pr n_law03_LogSure [.slice lb l.length 0] s fun v s' => v = .bool true := by
  refine CallW.pieces (nt := 183) (res := [.tmp 2]) (c := .seq code_K04_P0 (.seq code_K04_P1 (.seq code_K04_P2 (.seq code_K04_P3 (.seq code_K04_P4 (.seq code_K04_P5 (.seq (.seq code_K04_P6 (.block 0 (.loop bodyS))) code_K04_TL))))))) (by kernel_rfl) (by kernel_rfl) (by kernel_rfl) (by kernel_rfl) (by simp) ?_
  refine W.seq (comp_ok good ok_K04_P0 (Box.out (p := wp pr 183 s.next _ _ _ _) ?_))
  (repeat(first|refine pSeq ?_|refine pReg ?_|refine sCons ?_|refine sNil ?_|refine pSkip ?_|refine pExit ?_|refine pRet ?_|refine pCond ?_|refine gNone ?_|refine gOn rfl ?_|refine gOff rfl rfl ?_|refine gTup rfl ?_))
  refine W.seq (comp_ok good ok_K04_P1 (Box.out (p := wp pr 183 s.next _ _ _ _) ?_))
  (repeat(first|refine pSeq ?_|refine pReg ?_|refine sCons ?_|refine sNil ?_|refine pSkip ?_|refine pExit ?_|refine pRet ?_|refine pCond ?_|refine gNone ?_|refine gOn rfl ?_|refine gOff rfl rfl ?_|refine gTup rfl ?_))
  refine (new_w (c := 3000) (by omega)).mono fun v s1 q => ?_
  obtain ⟨d, hd, rfl, k1, c1⟩ := q
  have ev1 := ev.chg c1 (by simp)
  (repeat(first|refine pSeq ?_|refine pReg ?_|refine sCons ?_|refine sNil ?_|refine pSkip ?_|refine pExit ?_|refine pRet ?_|refine pCond ?_|refine gNone ?_|refine gOn rfl ?_|refine gOff rfl rfl ?_|refine gTup rfl ?_))
  refine W.seq (comp_ok good ok_K04_P2 (Box.out (p := wp pr 183 s.next _ _ _ _) ?_))
  (repeat(first|refine pSeq ?_|refine pReg ?_|refine sCons ?_|refine sNil ?_|refine pSkip ?_|refine pExit ?_|refine pRet ?_|refine pCond ?_|refine gNone ?_|refine gOn rfl ?_|refine gOff rfl rfl ?_|refine gTup rfl ?_))
  intro q hq
  obtain rfl : q = false := by rw [hq]; rfl
  (repeat(first|refine pSeq ?_|refine pReg ?_|refine sCons ?_|refine sNil ?_|refine pSkip ?_|refine pExit ?_|refine pRet ?_|refine pCond ?_|refine gNone ?_|refine gOn rfl ?_|refine gOff rfl rfl ?_|refine gTup rfl ?_))
  refine W.seq (comp_ok good ok_K04_P3 (Box.out (p := wp pr 183 s.next _ _ _ _) ?_))
  (repeat(first|refine pSeq ?_|refine pReg ?_|refine sCons ?_|refine sNil ?_|refine pSkip ?_|refine pExit ?_|refine pRet ?_|refine pCond ?_|refine gNone ?_|refine gOn rfl ?_|refine gOff rfl rfl ?_|refine gTup rfl ?_))
  refine (recovered_on (ps := []) (r := []) k1 ev1 (by simp [Dk.made]) (by simp) rfl made_stop rfl (.inr rfl)).mono fun v s2 q => ?_
  obtain ⟨B2, g, W0, cw0, qs0, X, rfl, rfl, o2, hg, py0, hq0, c2, al2, -⟩ := q
  have hn1 : NewD s.next d B0 := fun id q => by
    obtain rfl : id = d := by simpa [whole, foot, bytesOfW, B0, blkOf] using q
    exact hd
  have hs1 := c1.next
  have hs2 := Nat.le_trans hs1 c2.next
  have hn2 := hn1.al al2 hs1
  have hg0 := Nat.le_trans hs1 hg
  have c12 : Chg s s2 [] := c1.fresh c2 (fun id q => hn1 id (List.mem_append_left _ q))
  (repeat(first|refine pSeq ?_|refine pReg ?_|refine sCons ?_|refine sNil ?_|refine pSkip ?_|refine pExit ?_|refine pRet ?_|refine pCond ?_|refine gNone ?_|refine gOn rfl ?_|refine gOff rfl rfl ?_|refine gTup rfl ?_))
  refine W.seq (comp_ok good ok_K04_P4 (Box.out (p := wp pr 183 s.next _ _ _ _) ?_))
  (repeat(first|refine pSeq ?_|refine pReg ?_|refine sCons ?_|refine sNil ?_|refine pSkip ?_|refine pExit ?_|refine pRet ?_|refine pCond ?_|refine gNone ?_|refine gOn rfl ?_|refine gOff rfl rfl ?_|refine gTup rfl ?_))
  intro q hq
  obtain rfl : q = false := by rw [hq]; rfl
  (repeat(first|refine pSeq ?_|refine pReg ?_|refine sCons ?_|refine sNil ?_|refine pSkip ?_|refine pExit ?_|refine pRet ?_|refine pCond ?_|refine gNone ?_|refine gOn rfl ?_|refine gOff rfl rfl ?_|refine gTup rfl ?_))
  intro q hq
  obtain rfl : q = false := by rw [hq] <;> rfl
  (repeat(first|refine pSeq ?_|refine pReg ?_|refine sCons ?_|refine sNil ?_|refine pSkip ?_|refine pExit ?_|refine pRet ?_|refine pCond ?_|refine gNone ?_|refine gOn rfl ?_|refine gOff rfl rfl ?_|refine gTup rfl ?_))
  refine W.seq (comp_ok good ok_K04_P5 (Box.out (p := wp pr 183 s.next _ _ _ _) ?_))
  (repeat(first|refine pSeq ?_|refine pReg ?_|refine sCons ?_|refine sNil ?_|refine pSkip ?_|refine pExit ?_|refine pRet ?_|refine pCond ?_|refine gNone ?_|refine gOn rfl ?_|refine gOff rfl rfl ?_|refine gTup rfl ?_))
  have c3 : Chg s2 ({ s2 with heap := (s2.next, some (.cells [.slice none 0 0, .int .i64 0] tMd false false)) :: s2.heap, next := s2.next + 1 } : SS) [] := .new []
  have m3 : lookH ({ s2 with heap := (s2.next, some (.cells [.slice none 0 0, .int .i64 0] tMd false false)) :: s2.heap, next := s2.next + 1 } : SS).heap s2.next = some (.cells [.slice none 0 0, .int .i64 0] tMd false false) := lkH
  have n3 : s2.next < ({ s2 with heap := (s2.next, some (.cells [.slice none 0 0, .int .i64 0] tMd false false)) :: s2.heap, next := s2.next + 1 } : SS).next := Nat.lt_succ_self _
  generalize ({ s2 with heap := (s2.next, some (.cells [.slice none 0 0, .int .i64 0] tMd false false)) :: s2.heap, next := s2.next + 1 } : SS) = s3 at c3 m3 n3 ⊢
  have o3 := o2.same c3
  refine W.seq (W.seq (comp_ok good ok_K04_P6 (Box.out (p := wp pr 183 s.next _ _ _ _) ?_)))
  (repeat(first|refine pSeq ?_|refine pReg ?_|refine sCons ?_|refine sNil ?_|refine pSkip ?_|refine pExit ?_|refine pRet ?_|refine pCond ?_|refine gNone ?_|refine gOn rfl ?_|refine gOff rfl rfl ?_|refine gTup rfl ?_))
  refine (few_w (m := 40) (hl.chg0 (c12.trans c3)) o3.ev.fine (by omega)).mono fun v s4 q => ?_
  obtain ⟨ob, rfl, row4, new4, c4⟩ := q
  have o4 := o3.same c4
  have hl4 := (hl.chg0 (c12.trans c3)).chg0 c4
  (repeat(first|refine pSeq ?_|refine pReg ?_|refine sCons ?_|refine sNil ?_|refine pSkip ?_|refine pExit ?_|refine pRet ?_|refine pCond ?_|refine gNone ?_|refine gOn rfl ?_|refine gOff rfl rfl ?_|refine gTup rfl ?_))
  generalize hfw : fewV 40 l = fw at row4 ⊢
  have lfw : fw.length ≤ 40 := by rw [← hfw]; simp [fewV]; omega
  have okf : ∀ a ∈ fw, ActOk s4 a ∧ a.bl.length ≤ 60 ∧ a.kl.length ≤ 20 := fun a ha => by
    rw [← hfw] at ha
    obtain ⟨b, hb, rfl⟩ := List.mem_map.1 ha
    have := hl4.2.1 b (List.mem_of_mem_take hb)
    exact ⟨this.cut, by simp [cutA, List.length_take]; omega, by simp [cutA, List.length_take]; omega⟩
  have hI0 : SvI s d s2.next ob fw { i := 0, g := g, all := [], j := 0, W := none, cw := 0, qs := [], D := _, B := B2, z := 0, s := s4 } :=
    ⟨o4, hn2, hg0, Nat.le_trans hs2 (Nat.le_trans (Nat.le_of_lt n3) c4.next), rfl, rfl, ⟨0, rfl⟩, .none [], by simp, Nat.le_refl _, c4.blk _ _ n3 (by simp) m3, Nat.lt_of_lt_of_le n3 c4.next, hs2, .no _ _, rfl, fun id q => by
      rcases q with q | ⟨p, hp, -⟩
      · simp [blkOf] at q
      · simp at hp, ⟨row4, fun a ha => (okf a ha).1⟩, ⟨by have := o2.la.lt; show s2.next ≠ g; omega, new_off o2.dk (Nat.le_refl _)⟩⟩
  refine W.block (W.loop (k := s.next) (fun x : Sv => fw.length - x.i) (fun x => SvI s d s2.next ob fw x ∧ x.i ≤ fw.length) (fun x => svT d s2.next ob fw.length x.i x.g) (fun x => x.s) _ ⟨hI0, Nat.zero_le _⟩ (Wk.same ⟨rfl, rfl, rfl, rfl, rfl, rfl, rfl, trivial⟩) ?_)
  rintro x ⟨hI, hi⟩
  refine W.seq (comp_ok good ok_K04_HB (Box.out (p := wp pr 183 s.next _ _ _ _) ?_))
  unfold svT
  (repeat(first|refine pSeq ?_|refine pReg ?_|refine sCons ?_|refine sNil ?_|refine pSkip ?_|refine pExit ?_|refine pRet ?_|refine pCond ?_|refine gNone ?_|refine gOn rfl ?_|refine gOff rfl rfl ?_|refine gTup rfl ?_))
  intro q hq
  by_cases hlt : x.i < fw.length
  · obtain rfl : q = true := by rw [hq]; simp [hlt]
    (repeat(first|refine pSeq ?_|refine pReg ?_|refine sCons ?_|refine sNil ?_|refine pSkip ?_|refine pExit ?_|refine pRet ?_|refine pCond ?_|refine gNone ?_|refine gOn rfl ?_|refine gOff rfl rfl ?_|refine gTup rfl ?_))
    refine W.seq (comp_ok good ok_K04_HC (Box.out (p := wp pr 183 s.next _ _ _ _) ?_))
    (repeat(first|refine pSeq ?_|refine pReg ?_|refine sCons ?_|refine sNil ?_|refine pSkip ?_|refine pExit ?_|refine pRet ?_|refine pCond ?_|refine gNone ?_|refine gOn rfl ?_|refine gOff rfl rfl ?_|refine gTup rfl ?_))
    obtain ⟨b0, g0, rfl, hb0⟩ : ∃ b0 g0, ob = some ⟨b0, 0, none⟩ ∧ lookH x.s.heap b0 = some (.cells (aCells fw) tA g0 false) := hI.acts.row.pos (by omega)
    refine W.seq (W.block (W.seq (comp_ok good ok_K04_RA (Box.out (p := wp pr 183 s.next _ _ _ _) ?_))))
    (repeat(first|refine pSeq ?_|refine pReg ?_|refine sCons ?_|refine sNil ?_|refine pSkip ?_|refine pExit ?_|refine pRet ?_|refine pCond ?_|refine gNone ?_|refine gOn rfl ?_|refine gOff rfl rfl ?_|refine gTup rfl ?_))
    refine ⟨⟨by omega, Int.ofNat_lt.2 hlt⟩, ?_⟩
    intro m hm o hof
    obtain rfl : m = x.i := by omega
    rw [Nat.zero_add] at hof
    subst hof
    (repeat(first|refine pSeq ?_|refine pReg ?_|refine sCons ?_|refine sNil ?_|refine pSkip ?_|refine pExit ?_|refine pRet ?_|refine pCond ?_|refine gNone ?_|refine gOn rfl ?_|refine gOff rfl rfl ?_|refine gTup rfl ?_))
    refine ldN_is rfl hb0 (aCells_at hlt) ?_
    (repeat(first|refine pSeq ?_|refine pReg ?_|refine sCons ?_|refine sNil ?_|refine pSkip ?_|refine pExit ?_|refine pRet ?_|refine pCond ?_|refine gNone ?_|refine gOn rfl ?_|refine gOff rfl rfl ?_|refine gTup rfl ?_))
    have cA := Chg.new (s := x.s) (b := .cells [.int .i64 0, .int .i64 0, .slice none 0 0, .slice none 0 0] tA false false) []
    refine st_abs (cs' := aCell fw[x.i]) rfl rfl lkH (Nat.lt_succ_self _) rfl rfl fun s5 hbox c5 hn5 => ?_
    have c6 : Chg x.s s5 [] := cA.fresh c5 (fun id q => by simp at q; omega)
    have hI5 := hI.same c6
    have hlt5 : x.s.next < s5.next := by rw [hn5]; exact Nat.lt_succ_self _
    (repeat(first|refine pSeq ?_|refine pReg ?_|refine sCons ?_|refine sNil ?_|refine pSkip ?_|refine pExit ?_|refine pRet ?_|refine pCond ?_|refine gNone ?_|refine gOn rfl ?_|refine gOff rfl rfl ?_|refine gTup rfl ?_))
    refine W.seq (W.seq (comp_ok good ok_K04_RB (Box.out (p := wp pr 183 s.next _ _ _ _) ?_)))
    (repeat(first|refine pSeq ?_|refine pReg ?_|refine sCons ?_|refine sNil ?_|refine pSkip ?_|refine pExit ?_|refine pRet ?_|refine pCond ?_|refine gNone ?_|refine gOn rfl ?_|refine gOff rfl rfl ?_|refine gTup rfl ?_))
    refine ldI_is rfl hbox rfl ?_
    (repeat(first|refine pSeq ?_|refine pReg ?_|refine sCons ?_|refine sNil ?_|refine pSkip ?_|refine pExit ?_|refine pRet ?_|refine pCond ?_|refine gNone ?_|refine gOn rfl ?_|refine gOff rfl rfl ?_|refine gTup rfl ?_))
    have hmem : fw[x.i] ∈ fw := List.getElem_mem hlt
    have hab : Ab s5 d s2.next x.s.next { x with s := s5 } fw[x.i] := ⟨hbox, hlt5, fun q => new_off hI.on.dk (Nat.le_refl _) q, by have := hI.on.la.lt; show x.s.next ≠ x.g; omega, by have := hI.mlt; omega⟩
    refine W.block (k := s.next) (W.weak (k := s.next) (T' := (44, .int .i64 fw[x.i].what) :: (9, .pointer (some ⟨x.s.next, 0, none⟩)) :: svT d s2.next (some ⟨b0, 0, none⟩) fw.length x.i x.g) (s' := s5) (Wk.same ⟨rfl, rfl, rfl, rfl, rfl, rfl, rfl, rfl, rfl, trivial⟩) ((sw_w (k := s.next) (x := { x with s := s5 }) hI5 (by show x.i < 40; omega) hab hmem (okf _ hmem).2.1 (okf _ hmem).2.2).mono fun ex T' s' hq => ?_))
    rcases hq with ⟨rfl, y, hy, hyi, hwk⟩ | ⟨rfl, h2⟩
    · have hyi' : y.i = x.i + 1 := hyi
      refine W.weak (k := s.next) hwk ((ck_w (k := s.next) (i := x.i) hy (by omega)).mono fun ex T3 s6 hq2 => ?_)
      obtain ⟨rfl, hwk2⟩ := hq2
      refine W.weak (k := s.next) hwk2 (comp_ok good ok_K04_IN (Box.out (p := wp pr 183 s.next _ _ _ _) ?_))
      unfold svT
      (repeat(first|refine pSeq ?_|refine pReg ?_|refine sCons ?_|refine sNil ?_|refine pSkip ?_|refine pExit ?_|refine pRet ?_|refine pCond ?_|refine gNone ?_|refine gOn rfl ?_|refine gOff rfl rfl ?_|refine gTup rfl ?_))
      intro z hz
      rw [i64_id (by omega)] at hz
      (repeat(first|refine pSeq ?_|refine pReg ?_|refine sCons ?_|refine sNil ?_|refine pSkip ?_|refine pExit ?_|refine pRet ?_|refine pCond ?_|refine gNone ?_|refine gOn rfl ?_|refine gOff rfl rfl ?_|refine gTup rfl ?_))
      exact ⟨y, ⟨hy, by omega⟩, by show fw.length - y.i < fw.length - x.i; omega, Wk.same ⟨rfl, rfl, rfl, rfl, rfl, rfl, by rw [hz, hyi']; rfl, trivial⟩⟩
    · show runQ pr [.tmp 2] (fun v s' => v = .bool true) .ret T' s'
      unfold runQ
      simp only [resS, h2]
      rfl
  · obtain rfl : q = false := by rw [hq]; simp; omega
    (repeat(first|refine pSeq ?_|refine pReg ?_|refine sCons ?_|refine sNil ?_|refine pSkip ?_|refine pExit ?_|refine pRet ?_|refine pCond ?_|refine gNone ?_|refine gOn rfl ?_|refine gOff rfl rfl ?_|refine gTup rfl ?_))
    refine W.seq (comp_ok good ok_K04_HC (Box.out (p := wp pr 183 s.next _ _ _ _) ?_))
    (repeat(first|refine pSeq ?_|refine pReg ?_|refine sCons ?_|refine sNil ?_|refine pSkip ?_|refine pExit ?_|refine pRet ?_|refine pCond ?_|refine gNone ?_|refine gOn rfl ?_|refine gOff rfl rfl ?_|refine gTup rfl ?_))
    show W pr 183 s.next code_K04_TL _ x.s (runQ pr [.tmp 2] fun v s' => v = .bool true)
    refine comp_ok good ok_K04_TL (Box.out (p := wp pr 183 s.next _ _ _ _) ?_)
    (repeat(first|refine pSeq ?_|refine pReg ?_|refine sCons ?_|refine sNil ?_|refine pSkip ?_|refine pExit ?_|refine pRet ?_|refine pCond ?_|refine gNone ?_|refine gOn rfl ?_|refine gOff rfl rfl ?_|refine gTup rfl ?_))
    refine (wakes_w hI.on.ev).mono fun v s7 q => ?_
    subst q
    (repeat(first|refine pSeq ?_|refine pReg ?_|refine sCons ?_|refine sNil ?_|refine pSkip ?_|refine pExit ?_|refine pRet ?_|refine pCond ?_|refine gNone ?_|refine gOn rfl ?_|refine gOff rfl rfl ?_|refine gTup rfl ?_))
    rfl
end Go.Vf.S

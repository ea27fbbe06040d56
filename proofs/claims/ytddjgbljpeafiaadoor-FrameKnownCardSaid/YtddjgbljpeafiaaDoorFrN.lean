import Derived.Test.YtddjgbljpeafiaaDoorFrM
/- What the law FrameOpens says, from any state. -/
namespace Go.Vf.S
open Go Go.Vf Go.Vf.Fr
attribute [local irreducible] wSeq wRow wp
set_option linter.unusedVariables false
set_option linter.unusedSimpArgs false
set_option maxRecDepth 10000

theorem Rdb_skip {s : SS} {base : Option Addr} {n id : Nat} {l : List UInt8} {x : Option ABlk} (h : Rdb s base n l) (hne : ∀ b off sp, base = some ⟨b, off, sp⟩ → id ≠ b) : Rdb ⟨(id, x) :: s.heap, s.next, s.gl⟩ base n l := by
  cases base with
  | none => exact h
  | some q =>
    obtain ⟨b, off, sp⟩ := q
    obtain ⟨q1, q2, q3, c, t, g, r, q4, q5, q6⟩ := h
    exact ⟨q1, q2, q3, c, t, g, r, look_tail' (hne _ _ _ rfl) q4, q5, q6⟩

theorem opens_w {s : SS} {b1 : Option Addr} {n1 : Nat} {l1 : List UInt8} (h1 : Arg pr s b1 n1 l1) (hg : s.gl = 1) (hs : lookH s.heap 0 = some gB) (hn : 1 ≤ s.next) (a k : BitVec 32) :
    CallW pr n_law02_FrameOpens [.slice b1 n1 0, .int .u32 a.toNat, .int .u32 k.toNat] s fun v _ => v = .bool true := by
  obtain ⟨heap, next, gl⟩ := s
  obtain rfl : gl = 1 := hg
  refine CallW.run good ok_law02_FrameOpens (by simp) rfl ?_
  (repeat (first | refine pSeq ?_ | refine pReg ?_ | refine sRaw ?_ | refine sCons ?_ | refine sNil ?_ | refine rCons ?_ | refine rNil ?_ | refine pRow ?_ | refine pBlock ?_ | refine pSkip ?_ | refine pExit ?_ | refine pRet ?_ | refine pCond ?_ | refine gNone ?_))
  intro z hz
  (repeat (first | refine pSeq ?_ | refine pReg ?_ | refine sRaw ?_ | refine sCons ?_ | refine sNil ?_ | refine rCons ?_ | refine rNil ?_ | refine pRow ?_ | refine pBlock ?_ | refine pSkip ?_ | refine pExit ?_ | refine pRet ?_ | refine pCond ?_ | refine gNone ?_))
  refine sl_arg rfl rfl h1 (by omega) fun b3 m1 e1 r1 => ?_
  have p1 : Pre ⟨heap, next, 1⟩ b3 m1 (l1.take m1) := ⟨rfl, hs, hn, r1.1⟩
  have hl := r1.1.1
  (repeat (first | refine pSeq ?_ | refine pReg ?_ | refine sRaw ?_ | refine sCons ?_ | refine sNil ?_ | refine rCons ?_ | refine rNil ?_ | refine pRow ?_ | refine pBlock ?_ | refine pSkip ?_ | refine pExit ?_ | refine pRet ?_ | refine pCond ?_ | refine gNone ?_))
  by_cases h0 : m1 = 0
  · subst h0
    refine appB_zero rfl rfl r1.1 ?_
    (repeat (first | refine pSeq ?_ | refine pReg ?_ | refine sRaw ?_ | refine sCons ?_ | refine sNil ?_ | refine rCons ?_ | refine rNil ?_ | refine pRow ?_ | refine pBlock ?_ | refine pSkip ?_ | refine pExit ?_ | refine pRet ?_ | refine pCond ?_ | refine gNone ?_))
    refine (open_w (l := l1.take 0) (base := none) ⟨rfl, hs, hn, ⟨rfl, rfl⟩⟩ ⟨⟨rfl, rfl⟩, trivial⟩ (by omega) a k).mono fun v s2 q => ?_
    obtain ⟨b4, c4, ⟨rfl, r4, o4⟩, n4⟩ := q
    (repeat (first | refine pSeq ?_ | refine pReg ?_ | refine sRaw ?_ | refine sCons ?_ | refine sNil ?_ | refine rCons ?_ | refine rNil ?_ | refine pRow ?_ | refine pBlock ?_ | refine pSkip ?_ | refine pExit ?_ | refine pRet ?_ | refine pCond ?_ | refine gNone ?_))
    refine pLoop (MW.head good (fun _ : Nat => 0) (fun _ => True) (fun _ => [(0, .slice b3 0 0), (1, .int .u32 a.toNat), (2, .int .u32 k.toNat), (7, .slice none 0 0), (8, .slice b4 (oP a k (l1.take 0)).length c4), (9, .int .i64 (oN a k (l1.take 0))), (10, .int .u32 (oS a k (l1.take 0)).toNat), (11, .int .i64 (openE a k (l1.take 0))), (12, .int .i64 0)]) (fun _ => s2) 0 trivial ?_ ?_)
    · exact Wk.same ⟨rfl, rfl, rfl, rfl, rfl, rfl, rfl, rfl, rfl, trivial⟩
    intro i _
    (repeat (first | refine pSeq ?_ | refine pReg ?_ | refine sRaw ?_ | refine sCons ?_ | refine sNil ?_ | refine rCons ?_ | refine rNil ?_ | refine pRow ?_ | refine pBlock ?_ | refine pSkip ?_ | refine pExit ?_ | refine pRet ?_ | refine pCond ?_ | refine gNone ?_))
    intro q hq
    obtain rfl : q = false := hq
    (repeat (first | refine pSeq ?_ | refine pReg ?_ | refine sRaw ?_ | refine sCons ?_ | refine sNil ?_ | refine rCons ?_ | refine rNil ?_ | refine pRow ?_ | refine pBlock ?_ | refine pSkip ?_ | refine pExit ?_ | refine pRet ?_ | refine pCond ?_ | refine gNone ?_))
    refine (refOpen_w (p1.old o4) (Slc_old (c := 0) r1.slc o4) (by omega) a k).mono fun v s6 q => ?_
    obtain ⟨b6, c6, rfl, r6, o6⟩ := q
    (repeat (first | refine pSeq ?_ | refine pReg ?_ | refine sRaw ?_ | refine sCons ?_ | refine sNil ?_ | refine rCons ?_ | refine rNil ?_ | refine pRow ?_ | refine pBlock ?_ | refine pSkip ?_ | refine pExit ?_ | refine pRet ?_ | refine pCond ?_ | refine gNone ?_ | refine gOn rfl ?_ | refine gOff rfl rfl ?_))
    refine toStr_Rdb rfl (Rdb_old r4 o6) ?_
    (repeat (first | refine pSeq ?_ | refine pReg ?_ | refine sRaw ?_ | refine sCons ?_ | refine sNil ?_ | refine rCons ?_ | refine rNil ?_ | refine pRow ?_ | refine pBlock ?_ | refine pSkip ?_ | refine pExit ?_ | refine pRet ?_ | refine pCond ?_ | refine gNone ?_ | refine gOn rfl ?_ | refine gOff rfl rfl ?_))
    refine toStr_Rdb rfl r6 ?_
    (repeat (first | refine pSeq ?_ | refine pReg ?_ | refine sRaw ?_ | refine sCons ?_ | refine sNil ?_ | refine rCons ?_ | refine rNil ?_ | refine pRow ?_ | refine pBlock ?_ | refine pSkip ?_ | refine pExit ?_ | refine pRet ?_ | refine pCond ?_ | refine gNone ?_ | refine gOn rfl ?_ | refine gOff rfl rfl ?_))
    intro q hq
    obtain rfl : q = true := by rw [hq]; simp
    (repeat (first | refine pSeq ?_ | refine pReg ?_ | refine sRaw ?_ | refine sCons ?_ | refine sNil ?_ | refine rCons ?_ | refine rNil ?_ | refine pRow ?_ | refine pBlock ?_ | refine pSkip ?_ | refine pExit ?_ | refine pRet ?_ | refine pCond ?_ | refine gNone ?_ | refine gOn rfl ?_ | refine gOff rfl rfl ?_))
    intro q hq
    obtain rfl : q = true := by rw [hq]; simp
    (repeat (first | refine pSeq ?_ | refine pReg ?_ | refine sRaw ?_ | refine sCons ?_ | refine sNil ?_ | refine rCons ?_ | refine rNil ?_ | refine pRow ?_ | refine pBlock ?_ | refine pSkip ?_ | refine pExit ?_ | refine pRet ?_ | refine pCond ?_ | refine gNone ?_ | refine gOn rfl ?_ | refine gOff rfl rfl ?_))
    intro q hq
    obtain rfl : q = true := by rw [hq]; simp
    (repeat (first | refine pSeq ?_ | refine pReg ?_ | refine sRaw ?_ | refine sCons ?_ | refine sNil ?_ | refine rCons ?_ | refine rNil ?_ | refine pRow ?_ | refine pBlock ?_ | refine pSkip ?_ | refine pExit ?_ | refine pRet ?_ | refine pCond ?_ | refine gNone ?_ | refine gOn rfl ?_ | refine gOff rfl rfl ?_))
    intro q hq
    obtain rfl : q = true := by rw [hq]; simp
    (repeat (first | refine pSeq ?_ | refine pReg ?_ | refine sRaw ?_ | refine sCons ?_ | refine sNil ?_ | refine rCons ?_ | refine rNil ?_ | refine pRow ?_ | refine pBlock ?_ | refine pSkip ?_ | refine pExit ?_ | refine pRet ?_ | refine pCond ?_ | refine gNone ?_ | refine gOn rfl ?_ | refine gOff rfl rfl ?_))
    have o9 := o4.trans o6
    refine (CallW.of_ok (tells_ok (o9.gl.trans rfl) (o9.blk _ _ hn hs) (Nat.le_trans hn o9.next)) ⟨rfl, rfl⟩ : CallW pr n_law02_tells _ _ fun v s' => v = _ ∧ s' = _).mono fun v s7 q => ?_
    obtain ⟨rfl, rfl⟩ := q
    (repeat (first | refine pSeq ?_ | refine pReg ?_ | refine sRaw ?_ | refine sCons ?_ | refine sNil ?_ | refine rCons ?_ | refine rNil ?_ | refine pRow ?_ | refine pBlock ?_ | refine pSkip ?_ | refine pExit ?_ | refine pRet ?_ | refine pCond ?_ | refine gNone ?_ | refine gOn rfl ?_ | refine gOff rfl rfl ?_))
    rfl
  · refine appB_nil rfl rfl r1.1 (by omega) (by omega) ?_
    have ob : Old ⟨heap, next, 1⟩ ⟨(next, some (.cells (bytesV (l1.take m1)) 5 true false)) :: heap, next + 1, 1⟩ := old_cons (.refl _)
    have rb : Rdb ⟨(next, some (.cells (bytesV (l1.take m1)) 5 true false)) :: heap, next + 1, 1⟩ (some ⟨next, 0, none⟩) m1 (l1.take m1) := Rdb.head (s := ⟨heap, next, 1⟩) heap 5 true hl
    (repeat (first | refine pSeq ?_ | refine pReg ?_ | refine sRaw ?_ | refine sCons ?_ | refine sNil ?_ | refine rCons ?_ | refine rNil ?_ | refine pRow ?_ | refine pBlock ?_ | refine pSkip ?_ | refine pExit ?_ | refine pRet ?_ | refine pCond ?_ | refine gNone ?_))
    refine (open_w (l := l1.take m1) (base := some ⟨next, 0, none⟩) ⟨rfl, ob.blk _ _ hn hs, Nat.le_succ_of_le hn, rb⟩ ⟨rb, _, _, _, _, look_head, fun _ => (by kernel_rfl), fun q => by cases q⟩ (by omega) a k).mono fun v s2 q => ?_
    obtain ⟨b4, c4, ⟨rfl, r4, o4⟩, n4⟩ := q
    (repeat (first | refine pSeq ?_ | refine pReg ?_ | refine sRaw ?_ | refine sCons ?_ | refine sNil ?_ | refine rCons ?_ | refine rNil ?_ | refine pRow ?_ | refine pBlock ?_ | refine pSkip ?_ | refine pExit ?_ | refine pRet ?_ | refine pCond ?_ | refine gNone ?_))
    refine pLoop (MW.head good (fun i : Nat × List UInt8 => m1 - i.1) (fun i => i.1 ≤ m1 ∧ i.2.length = m1) (fun i => [(0, .slice b3 m1 0), (1, .int .u32 a.toNat), (2, .int .u32 k.toNat), (7, .slice (some ⟨next, 0, none⟩) m1 0), (8, .slice b4 (oP a k (l1.take m1)).length c4), (9, .int .i64 (oN a k (l1.take m1))), (10, .int .u32 (oS a k (l1.take m1)).toNat), (11, .int .i64 (openE a k (l1.take m1))), (12, .int .i64 i.1)])
      (fun i => ⟨(next, some (.cells (bytesV i.2) 5 true false)) :: s2.heap, s2.next, s2.gl⟩) (0, l1.take m1) ⟨Nat.zero_le _, hl.symm⟩ ?_ ?_)
    · refine Wk.less ⟨rfl, rfl, rfl, rfl, rfl, rfl, rfl, rfl, rfl, trivial⟩ (fun id b hb => ?_) (Nat.le_refl _) rfl
      by_cases hid : next = id
      · subst hid
        rw [look_head] at hb
        rw [o4.blk _ _ (Nat.lt_succ_self _) look_head]
        exact hb
      · rwa [look_tail' hid rfl] at hb
    intro ⟨i, L⟩ ⟨hi, hL⟩
    dsimp only at hi hL ⊢
    (repeat (first | refine pSeq ?_ | refine pReg ?_ | refine sRaw ?_ | refine sCons ?_ | refine sNil ?_ | refine rCons ?_ | refine rNil ?_ | refine pRow ?_ | refine pBlock ?_ | refine pSkip ?_ | refine pExit ?_ | refine pRet ?_ | refine pCond ?_ | refine gNone ?_))
    intro q hq
    by_cases hlt : i < m1
    · obtain rfl : q = true := by rw [hq]; simp; omega
      (repeat (first | refine pSeq ?_ | refine pReg ?_ | refine sRaw ?_ | refine sCons ?_ | refine sNil ?_ | refine rCons ?_ | refine rNil ?_ | refine pRow ?_ | refine pBlock ?_ | refine pSkip ?_ | refine pExit ?_ | refine pRet ?_ | refine pCond ?_ | refine gNone ?_))
      refine ⟨by omega, ?_⟩
      intro m hm o ho
      obtain rfl : m = i := by omega
      (repeat (first | refine pSeq ?_ | refine pReg ?_ | refine sRaw ?_ | refine sCons ?_ | refine sNil ?_ | refine rCons ?_ | refine rNil ?_ | refine pRow ?_ | refine pBlock ?_ | refine pSkip ?_ | refine pExit ?_ | refine pRet ?_ | refine pCond ?_ | refine gNone ?_))
      refine ldI_at rfl look_head (by rw [ho, Nat.mul_one, Nat.zero_add]; exact bytesV_get (by omega)) ?_
      (repeat (first | refine pSeq ?_ | refine pReg ?_ | refine sRaw ?_ | refine sCons ?_ | refine sNil ?_ | refine rCons ?_ | refine rNil ?_ | refine pRow ?_ | refine pBlock ?_ | refine pSkip ?_ | refine pExit ?_ | refine pRet ?_ | refine pCond ?_ | refine gNone ?_))
      intro z hz
      obtain ⟨y, hy⟩ := rng_u8 (BitVec.ofInt IntKind.u8.bits ((L.getD m 0).toNat : Int) ^^^ BitVec.ofInt IntKind.u8.bits 255).toNat
      obtain rfl : z = (y.toNat : Int) := hz.trans hy
      (repeat (first | refine pSeq ?_ | refine pReg ?_ | refine sRaw ?_ | refine sCons ?_ | refine sNil ?_ | refine rCons ?_ | refine rNil ?_ | refine pRow ?_ | refine pBlock ?_ | refine pSkip ?_ | refine pExit ?_ | refine pRet ?_ | refine pCond ?_ | refine gNone ?_))
      refine ⟨by omega, ?_⟩
      intro m' hm' o' ho'
      obtain rfl : m' = m := by omega
      (repeat (first | refine pSeq ?_ | refine pReg ?_ | refine sRaw ?_ | refine sCons ?_ | refine sNil ?_ | refine rCons ?_ | refine rNil ?_ | refine pRow ?_ | refine pBlock ?_ | refine pSkip ?_ | refine pExit ?_ | refine pRet ?_ | refine pCond ?_ | refine gNone ?_))
      have hset := setRow_bytes L [y] m' (by simp; omega)
      refine st_at rfl rfl look_head (by rw [ho', Nat.mul_one, Nat.zero_add]; exact hset) ?_
      (repeat (first | refine pSeq ?_ | refine pReg ?_ | refine sRaw ?_ | refine sCons ?_ | refine sNil ?_ | refine rCons ?_ | refine rNil ?_ | refine pRow ?_ | refine pBlock ?_ | refine pSkip ?_ | refine pExit ?_ | refine pRet ?_ | refine pCond ?_ | refine gNone ?_))
      intro z4 hz4
      (repeat (first | refine pSeq ?_ | refine pReg ?_ | refine sRaw ?_ | refine sCons ?_ | refine sNil ?_ | refine rCons ?_ | refine rNil ?_ | refine pRow ?_ | refine pBlock ?_ | refine pSkip ?_ | refine pExit ?_ | refine pRet ?_ | refine pCond ?_ | refine gNone ?_))
      refine ⟨(m' + 1, List.take m' L ++ [y] ++ List.drop (m' + [y].length) L), ⟨by dsimp only; omega, by simp; omega⟩, by dsimp only; omega, Wk.less ⟨rfl, rfl, rfl, rfl, rfl, rfl, rfl, rfl, ?_, trivial⟩ look_shadow (Nat.le_refl _) rfl⟩
      rw [hz4, i64_id (by omega)]
      rfl
    · obtain rfl : q = false := by rw [hq]; simp; omega
      (repeat (first | refine pSeq ?_ | refine pReg ?_ | refine sRaw ?_ | refine sCons ?_ | refine sNil ?_ | refine rCons ?_ | refine rNil ?_ | refine pRow ?_ | refine pBlock ?_ | refine pSkip ?_ | refine pExit ?_ | refine pRet ?_ | refine pCond ?_ | refine gNone ?_))
      have o4' := o4.next
      have o5 : Old ⟨heap, next, 1⟩ ⟨(next, some (.cells (bytesV L) 5 true false)) :: s2.heap, s2.next, s2.gl⟩ :=
        ⟨o4.gl, by show next ≤ s2.next; have : next + 1 ≤ s2.next := o4'; omega, fun id x hid hx => look_tail' (by have : id < next := hid; omega) (o4.blk _ _ (Nat.lt_succ_of_lt hid) (ob.blk _ _ hid hx))⟩
      have r5 := Rdb_skip (id := next) (x := some (.cells (bytesV L) 5 true false)) r4 (fun b off sp e => by subst e; have : next + 1 ≤ b := n4; omega)
      refine (refOpen_w (p1.old o5) (Slc_old (c := 0) r1.slc o5) (by omega) a k).mono fun v s6 q => ?_
      obtain ⟨b6, c6, rfl, r6, o6⟩ := q
      (repeat (first | refine pSeq ?_ | refine pReg ?_ | refine sRaw ?_ | refine sCons ?_ | refine sNil ?_ | refine rCons ?_ | refine rNil ?_ | refine pRow ?_ | refine pBlock ?_ | refine pSkip ?_ | refine pExit ?_ | refine pRet ?_ | refine pCond ?_ | refine gNone ?_ | refine gOn rfl ?_ | refine gOff rfl rfl ?_))
      refine toStr_Rdb rfl (Rdb_old r5 o6) ?_
      (repeat (first | refine pSeq ?_ | refine pReg ?_ | refine sRaw ?_ | refine sCons ?_ | refine sNil ?_ | refine rCons ?_ | refine rNil ?_ | refine pRow ?_ | refine pBlock ?_ | refine pSkip ?_ | refine pExit ?_ | refine pRet ?_ | refine pCond ?_ | refine gNone ?_ | refine gOn rfl ?_ | refine gOff rfl rfl ?_))
      refine toStr_Rdb rfl r6 ?_
      (repeat (first | refine pSeq ?_ | refine pReg ?_ | refine sRaw ?_ | refine sCons ?_ | refine sNil ?_ | refine rCons ?_ | refine rNil ?_ | refine pRow ?_ | refine pBlock ?_ | refine pSkip ?_ | refine pExit ?_ | refine pRet ?_ | refine pCond ?_ | refine gNone ?_ | refine gOn rfl ?_ | refine gOff rfl rfl ?_))
      intro q hq
      obtain rfl : q = true := by rw [hq]; simp
      (repeat (first | refine pSeq ?_ | refine pReg ?_ | refine sRaw ?_ | refine sCons ?_ | refine sNil ?_ | refine rCons ?_ | refine rNil ?_ | refine pRow ?_ | refine pBlock ?_ | refine pSkip ?_ | refine pExit ?_ | refine pRet ?_ | refine pCond ?_ | refine gNone ?_ | refine gOn rfl ?_ | refine gOff rfl rfl ?_))
      intro q hq
      obtain rfl : q = true := by rw [hq]; simp
      (repeat (first | refine pSeq ?_ | refine pReg ?_ | refine sRaw ?_ | refine sCons ?_ | refine sNil ?_ | refine rCons ?_ | refine rNil ?_ | refine pRow ?_ | refine pBlock ?_ | refine pSkip ?_ | refine pExit ?_ | refine pRet ?_ | refine pCond ?_ | refine gNone ?_ | refine gOn rfl ?_ | refine gOff rfl rfl ?_))
      intro q hq
      obtain rfl : q = true := by rw [hq]; simp
      (repeat (first | refine pSeq ?_ | refine pReg ?_ | refine sRaw ?_ | refine sCons ?_ | refine sNil ?_ | refine rCons ?_ | refine rNil ?_ | refine pRow ?_ | refine pBlock ?_ | refine pSkip ?_ | refine pExit ?_ | refine pRet ?_ | refine pCond ?_ | refine gNone ?_ | refine gOn rfl ?_ | refine gOff rfl rfl ?_))
      intro q hq
      obtain rfl : q = true := by rw [hq]; simp
      (repeat (first | refine pSeq ?_ | refine pReg ?_ | refine sRaw ?_ | refine sCons ?_ | refine sNil ?_ | refine rCons ?_ | refine rNil ?_ | refine pRow ?_ | refine pBlock ?_ | refine pSkip ?_ | refine pExit ?_ | refine pRet ?_ | refine pCond ?_ | refine gNone ?_ | refine gOn rfl ?_ | refine gOff rfl rfl ?_))
      have o9 := o5.trans o6
      refine (CallW.of_ok (tells_ok (o9.gl.trans rfl) (o9.blk _ _ hn hs) (Nat.le_trans hn o9.next)) ⟨rfl, rfl⟩ : CallW pr n_law02_tells _ _ fun v s' => v = _ ∧ s' = _).mono fun v s7 q => ?_
      obtain ⟨rfl, rfl⟩ := q
      (repeat (first | refine pSeq ?_ | refine pReg ?_ | refine sRaw ?_ | refine sCons ?_ | refine sNil ?_ | refine rCons ?_ | refine rNil ?_ | refine pRow ?_ | refine pBlock ?_ | refine pSkip ?_ | refine pExit ?_ | refine pRet ?_ | refine pCond ?_ | refine gNone ?_ | refine gOn rfl ?_ | refine gOff rfl rfl ?_))
      rfl
end Go.Vf.S

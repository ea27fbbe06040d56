import Derived.Test.YthhcngkblihliaaDoorHdMb
/- The document's own: a field laid ahead of all others. -/
namespace Go.Vf.S
open Go Go.Vf Go.Proofs Go.RowKit
attribute [local irreducible] wSeq wRow wp wG
set_option linter.unusedVariables false
set_option linter.unusedSimpArgs false
set_option maxRecDepth 10000

theorem layR_len {nm v : List UInt8} {f : Fld} (h : layR nm v = some f) : f.r.length ≤ 3 * (nm.length + 2 + v.length) + 2 := by
  unfold layR at h
  split at h
  · cases h
    have := jn_fold 2 (nm ++ 58 :: 32 :: v).length (nm.length + 3) (nm ++ 58 :: 32 :: v)
    simp only [List.length_append, List.length_cons] at this ⊢
    omega
  · cases h

set_option maxHeartbeats 4000000 in
theorem rahead_w {s : SS} {m : Msg} {W : Option Addr} {cw : Nat} {nm v : List UInt8} (hf : Fine s) (h : FsR s W cw m.fs) (hn : m.fs.length ≤ 90000) (hnm : nm.length ≤ 1000) (hv : v.length ≤ 9000) (hl : (textM m).length ≤ 60000) :
    CallW pr n_ref07_Ahead [msV m W cw, str nm, str v] s (TellR s (aheadR m nm v) none) := by
  refine CallW.run good ok_ref07_Ahead (by simp) rfl ?_
  obtain ⟨s1, hs1⟩ : ∃ s1 : SS, s1 = { s with heap := (s.next + 1, some (.cells (msC msZ none 0) tRm false false)) :: (s.next, some (.cells (msC m W cw) tRm false false)) :: s.heap, next := s.next + 1 + 1 } := ⟨_, rfl⟩
  have c1 : Chg s s1 [] := by rw [hs1]; exact (Chg.new (b := .cells (msC m W cw) tRm false false) []).nil (Chg.new [])
  have k1 : lookH s1.heap s.next = some (.cells (msC m W cw) tRm false false) := by rw [hs1]; exact lkT (by omega) lkH
  have j1 : lookH s1.heap (s.next + 1) = some (.cells (msC msZ none 0) tRm false false) := by rw [hs1]; exact lkH
  have n1 : s1.next = s.next + 2 := by rw [hs1]
  (repeat(first|refine pSeq ?_|refine pReg ?_|refine sCons ?_|refine sNil ?_|refine rCons ?_|refine rNil ?_|refine kNo ?_|refine pRow ?_|refine pSkip ?_|refine pRet ?_|refine pCond ?_|refine gNone ?_))
  refine (rlay_w (nm := nm) (v := v) (by omega) (by omega)).mono fun u s2 q => ?_
  replace q : u = .tuple ⟨[flV (fOr (layR nm v)), .int .i64 (eOr (layR nm v))]⟩ ∧ Chg s1 s2 [] := by subst hs1; exact q
  clear hs1
  obtain ⟨rfl, c2⟩ := q
  have c02 := c1.nil c2
  have n2 := c2.next
  (repeat(first|refine pSeq ?_|refine pReg ?_|refine sCons ?_|refine sNil ?_|refine rCons ?_|refine rNil ?_|refine kNo ?_|refine pRow ?_|refine pSkip ?_|refine pRet ?_|refine pCond ?_|refine gNone ?_))
  refine st_abs (cs' := flC (fOr (layR nm v))) rfl rfl lkH (Nat.lt_succ_self _) rfl rfl fun s3 e3 c3 n3 => ?_
  have c23 : Chg s2 s3 [] := (Chg.new []).fresh c3 (by simp)
  have e3 : lookH s3.heap s2.next = some (.cells (flC (fOr (layR nm v))) tRf false false) := e3
  have n3 : s3.next = s2.next + 1 := n3
  have c13 := c2.nil c23
  have c03 := c1.nil c13
  have k3 := c13.blk _ _ (show s.next < s1.next by omega) (by simp) k1
  have j3 := c13.blk _ _ (show s.next + 1 < s1.next by omega) (by simp) j1
  (repeat(first|refine pSeq ?_|refine pReg ?_|refine sCons ?_|refine sNil ?_|refine rCons ?_|refine rNil ?_|refine kNo ?_|refine pRow ?_|refine pSkip ?_|refine pRet ?_|refine pCond ?_|refine gNone ?_))
  intro q hq
  unfold aheadR
  cases hlay : layR nm v with
  | none =>
    rw [hlay] at hq
    obtain rfl : q = true := by rw [hq]; rfl
    (repeat(first|refine pSeq ?_|refine pReg ?_|refine sCons ?_|refine sNil ?_|refine rCons ?_|refine rNil ?_|refine kNo ?_|refine pRow ?_|refine pSkip ?_|refine pRet ?_|refine pCond ?_|refine gNone ?_))
    refine st_abs (cs' := msC msZ none 0) rfl rfl j3 (show s.next + 1 < s3.next by omega) rfl rfl fun s4 e4 c4 n4 => ?_
    (repeat(first|refine pSeq ?_|refine pReg ?_|refine sCons ?_|refine sNil ?_|refine rCons ?_|refine rNil ?_|refine kNo ?_|refine pRow ?_|refine pSkip ?_|refine pRet ?_|refine pCond ?_|refine gNone ?_))
    (repeat (first | with_reducible refine sqRet ?_ | with_reducible refine bkRet ?_ | with_reducible refine hdRet ?_))
    exact ret_cell agg_Rm sz_Rm rfl e4 agm3 rfl ⟨none, 0, rfl, fr_none, c03.fresh c4 (by simp), by simp [blkOf]⟩
  | some f =>
    rw [hlay] at hq e3
    obtain rfl : q = false := by rw [hq]; rfl
    have hfl := layR_len hlay
    have e3 : lookH s3.heap s2.next = some (.cells (flC f) tRf false false) := e3
    have htl : (textM ⟨f :: m.fs, m.b, m.e⟩).length ≤ 95000 := by
      have : textM ⟨f :: m.fs, m.b, m.e⟩ = f.r ++ textM m := by unfold textM txtF; simp
      rw [this, List.length_append]
      omega
    dsimp only
    (repeat(first|refine pSeq ?_|refine pReg ?_|refine sCons ?_|refine sNil ?_|refine rCons ?_|refine rNil ?_|refine kNo ?_|refine pRow ?_|refine pSkip ?_|refine pRet ?_|refine pCond ?_|refine gNone ?_))
    refine ldN_is rfl e3 agg3 ?_
    (repeat(first|refine pSeq ?_|refine pReg ?_|refine sCons ?_|refine sNil ?_|refine rCons ?_|refine rNil ?_|refine kNo ?_|refine pRow ?_|refine pSkip ?_|refine pRet ?_|refine pCond ?_|refine gNone ?_))
    refine appQ (fs := []) (gs := [f]) (W := none) rfl (show FsP _ (some ⟨s3.next, 0, none⟩) [f] from ⟨rfl, Nat.lt_succ_self _, _, _, _, _, lkH, rfl⟩) (by simp) rfl rfl rfl rfl (fun q => by cases q) fun _ s4 o4 c4 n4 => ?_
    have c34 : Chg s3 s4 [] := (Chg.new (b := .cells (flC f) tRf false false) []).nil c4
    have n4 : s4.next = s3.next + 2 := n4
    have o4 : OwnG tRf s4 (some ⟨s3.next + 1, 0, none⟩) [f] := o4
    have c04 := c03.nil c34
    have k4 := c34.blk _ _ (show s.next < s3.next by omega) (by simp) k3
    have j4 := c34.blk _ _ (show s.next + 1 < s3.next by omega) (by simp) j3
    have h4 := h.chg c04 (by simp)
    (repeat(first|refine pSeq ?_|refine pReg ?_|refine sCons ?_|refine sNil ?_|refine rCons ?_|refine rNil ?_|refine kNo ?_|refine pRow ?_|refine pSkip ?_|refine pRet ?_|refine pCond ?_|refine gNone ?_))
    refine ldN_is rfl k4 agm3 ?_
    (repeat(first|refine pSeq ?_|refine pReg ?_|refine sCons ?_|refine sNil ?_|refine rCons ?_|refine rNil ?_|refine kNo ?_|refine pRow ?_|refine pSkip ?_|refine pRet ?_|refine pCond ?_|refine gNone ?_))
    refine ld1_is rfl k4 rfl ?_
    (repeat(first|refine pSeq ?_|refine pReg ?_|refine sCons ?_|refine sNil ?_|refine rCons ?_|refine rNil ?_|refine kNo ?_|refine pRow ?_|refine pSkip ?_|refine pRet ?_|refine pCond ?_|refine gNone ?_))
    have ge : ∀ s5 : SS, Chg s4 s5 [s3.next + 1] → lookH s5.heap s.next = some (.cells (msC m W cw) tRm false false) ∧ lookH s5.heap (s.next + 1) = some (.cells (msC msZ none 0) tRm false false) := fun s5 c =>
      ⟨c.blk _ _ (show s.next < s4.next by omega) (by simp; omega) k4, c.blk _ _ (show s.next + 1 < s4.next by omega) (by simp; omega) j4⟩
    refine appQ o4 (fsp_of (rd_of h4)) (by simp; omega) rfl rfl rfl rfl (fun e => ?_) fun _ s5 o5 c5 n5 => ?_
    · have h5 : OwnG tRf s4 (some ⟨s3.next + 1, 0, none⟩) (f :: m.fs) := by rw [e]; exact o4
      (repeat(first|refine pSeq ?_|refine pReg ?_|refine sCons ?_|refine sNil ?_|refine rCons ?_|refine rNil ?_|refine kNo ?_|refine pRow ?_|refine pSkip ?_|refine pRet ?_|refine pCond ?_|refine gNone ?_))
      refine (rwith_w (W := W) (cw := cw) (fs := f :: m.fs) h5 (fun id hid => (by simp only [blkOf, List.mem_singleton] at hid; omega)) (by first | rfl | (rw [e]; rfl) | (rw [List.length_cons]; omega)) (by simp; omega) (by omega)).mono fun u s6 q => ?_
      generalize withR m (f :: m.fs) = A at *
      obtain ⟨a, e⟩ := A
      obtain ⟨W6, cw6, rfl, o6, c6, w6⟩ := q
      dsimp only at o6
      have n6 := c6.next
      have j6 := c6.blk _ _ (show s.next + 1 < s4.next by omega) (by simp) j4
      (repeat(first|refine pSeq ?_|refine pReg ?_|refine sCons ?_|refine sNil ?_|refine rCons ?_|refine rNil ?_|refine kNo ?_|refine pRow ?_|refine pSkip ?_|refine pRet ?_|refine pCond ?_|refine gNone ?_))
      refine st_abs (cs' := msC a W6 cw6) rfl rfl j6 (show s.next + 1 < s6.next by omega) rfl rfl fun s7 e7 c7 n7 => ?_
      (repeat(first|refine pSeq ?_|refine pReg ?_|refine sCons ?_|refine sNil ?_|refine rCons ?_|refine rNil ?_|refine kNo ?_|refine pRow ?_|refine pSkip ?_|refine pRet ?_|refine pCond ?_|refine gNone ?_))
      (repeat (first | with_reducible refine sqRet ?_ | with_reducible refine bkRet ?_ | with_reducible refine hdRet ?_))
      have hoff : ∀ id ∈ blkOf W6, s.next + 2 ≤ id := fun id hid => by
        rcases w6 id hid with q | q
        · omega
        · simp only [blkOf, List.mem_singleton] at q
          omega
      refine ret_cell agg_Rm sz_Rm rfl e7 agm3 rfl ⟨W6, cw6, rfl, o6.chg c7 (fun id hid q => ?_), ?_, fun id hid => .inl ?_⟩
      · have := hoff id hid
        simp only [List.mem_singleton] at q
        omega
      · exact (c04.nil c6).fresh c7 (by simp)
      · have := hoff id hid
        omega
    · obtain ⟨k5, j5⟩ := ge s5 c5
      refine kEach ⟨fun _ => ldN_is rfl k5 agm3 rfl, trivial⟩ ?_
      have o5 : OwnG tRf s5 (some ⟨s4.next, 0, none⟩) (f :: m.fs) := o5
      have c05 : Chg s s5 [] := c04.fresh c5 (by simp [blkOf]; omega)
      (repeat(first|refine pSeq ?_|refine pReg ?_|refine sCons ?_|refine sNil ?_|refine rCons ?_|refine rNil ?_|refine kNo ?_|refine pRow ?_|refine pSkip ?_|refine pRet ?_|refine pCond ?_|refine gNone ?_))
      refine (rwith_w (W := W) (cw := cw) (fs := f :: m.fs) o5 (fun id hid => (by simp only [blkOf, List.mem_singleton] at hid; omega)) (by first | rfl | (rw [e]; rfl) | (rw [List.length_cons]; omega)) (by simp; omega) (by omega)).mono fun u s6 q => ?_
      generalize withR m (f :: m.fs) = A at *
      obtain ⟨a, e⟩ := A
      obtain ⟨W6, cw6, rfl, o6, c6, w6⟩ := q
      dsimp only at o6
      have n6 := c6.next
      have j6 := c6.blk _ _ (show s.next + 1 < s5.next by omega) (by simp) j5
      (repeat(first|refine pSeq ?_|refine pReg ?_|refine sCons ?_|refine sNil ?_|refine rCons ?_|refine rNil ?_|refine kNo ?_|refine pRow ?_|refine pSkip ?_|refine pRet ?_|refine pCond ?_|refine gNone ?_))
      refine st_abs (cs' := msC a W6 cw6) rfl rfl j6 (show s.next + 1 < s6.next by omega) rfl rfl fun s7 e7 c7 n7 => ?_
      (repeat(first|refine pSeq ?_|refine pReg ?_|refine sCons ?_|refine sNil ?_|refine rCons ?_|refine rNil ?_|refine kNo ?_|refine pRow ?_|refine pSkip ?_|refine pRet ?_|refine pCond ?_|refine gNone ?_))
      (repeat (first | with_reducible refine sqRet ?_ | with_reducible refine bkRet ?_ | with_reducible refine hdRet ?_))
      have hoff : ∀ id ∈ blkOf W6, s.next + 2 ≤ id := fun id hid => by
        rcases w6 id hid with q | q
        · omega
        · simp only [blkOf, List.mem_singleton] at q
          omega
      refine ret_cell agg_Rm sz_Rm rfl e7 agm3 rfl ⟨W6, cw6, rfl, o6.chg c7 (fun id hid q => ?_), ?_, fun id hid => .inl ?_⟩
      · have := hoff id hid
        simp only [List.mem_singleton] at q
        omega
      · exact (c05.nil c6).fresh c7 (by simp)
      · have := hoff id hid
        omega
end Go.Vf.S

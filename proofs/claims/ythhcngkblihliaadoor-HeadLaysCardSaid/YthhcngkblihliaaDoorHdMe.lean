import Derived.Test.YthhcngkblihliaaDoorHdMd
import Derived.Test.YthhcngkblihliaaDoorHdLd
import Derived.Test.YthhcngkblihliaaDoorBnI
/- What the law HeadLays says, from any state, if the program's Lay and the document's agree. (Written by tools/gen_hdme.py.) -/
namespace Go.Vf.S
open Go Go.Vf Go.Proofs Go.RowKit
attribute [local irreducible] wSeq wRow wp wG
set_option linter.unusedVariables false
set_option linter.unusedSimpArgs false
set_option maxRecDepth 10000

theorem ahead_eq (hE : ∀ nm v, layF nm v = layR nm v) (m : Msg) (nm v : List UInt8) : aheadF m nm v = aheadR m nm v := by
  show withF m 0 0 nm v = _
  unfold withF aheadR
  rw [hE]
  cases layR nm v with
  | none => rfl
  | some f => rfl
theorem put_eq (hE : ∀ nm v, layF nm v = layR nm v) (m : Msg) (k : Int) (v : List UInt8) : putF m k v = putR m k v := by
  unfold putF putR
  by_cases hk : k < 0
  · rw [if_pos hk, if_pos hk]
  · rw [if_neg hk, if_neg hk]
    cases hg : m.fs[k.toNat]? with
    | none => rfl
    | some g =>
      dsimp only
      unfold withF
      rw [hE]
      cases layR g.n v with
      | none => rfl
      | some f =>
        dsimp only
        unfold withR
        rw [List.set_eq_take_append_cons_drop, if_pos (lt_of_get hg)]
theorem with_many {m : Msg} {fs : List Fld} {n : Nat} (h : fs.length ≤ n) : (withR m fs).1.fs.length ≤ n := by
  unfold withR
  split
  · exact Nat.zero_le _
  · exact h
theorem ahead_many {m : Msg} {nm v : List UInt8} {A : Msg × Nat} (h : A = aheadR m nm v) {n : Nat} (hn : m.fs.length ≤ n) : A.1.fs.length ≤ n + 1 := by
  rw [h]
  unfold aheadR
  cases layR nm v with
  | none => exact Nat.zero_le _
  | some f => exact with_many (by simp only [List.length_cons]; omega)
theorem put_many {m : Msg} {k : Int} {v : List UInt8} {A : Msg × Nat} (h : A = putR m k v) {n : Nat} (hn : m.fs.length ≤ n) : A.1.fs.length ≤ n := by
  rw [h]
  unfold putR
  split
  · exact Nat.zero_le _
  · split
    · exact Nat.zero_le _
    · split
      · exact Nat.zero_le _
      · exact with_many (by rw [List.length_set]; exact hn)
abbrev tCh : TypeId := 26

set_option maxHeartbeats 8000000 in
theorem hlays_w {s : SS} {m : Msg} {Wa : Option Addr} {cw : Nat} {nm0 v0 : List UInt8} {k : Int} (hE : ∀ nm v, layF nm v = layR nm v) (hM : Gx s) (hf : Fine s) (h : FsRd s Wa m.fs) (hn : m.fs.length ≤ 9223372036854775807) :
    CallW pr n_law07_HeadLays [msV m Wa cw, .agg ⟨[str nm0, str v0, .int .i64 k]⟩] s fun v s' => v = .bool true := by
  have T1 := few_text m
  have T2 : (fewM m).fs.length ≤ 20 := few_many m.fs
  have T3 : ∀ f ∈ (fewM m).fs, f.n.length ≤ 1000 := fun f hff => by have := (few_each f hff).1; omega
  refine CallW.run good ok_law07_HeadLays (by simp) rfl ?_
  obtain ⟨s1, hs1⟩ : ∃ s1 : SS, s1 = { s with heap := (s.next + 1, some (.cells [str nm0, str v0, .int .i64 k] tCh false false)) :: (s.next, some (.cells (msC m Wa cw) tMs false false)) :: s.heap, next := s.next + 1 + 1 } := ⟨_, rfl⟩
  have c1 : Chg s s1 [] := by rw [hs1]; exact (Chg.new (b := .cells (msC m Wa cw) tMs false false) []).nil (Chg.new [])
  have k1 : lookH s1.heap s.next = some (.cells (msC m Wa cw) tMs false false) := by rw [hs1]; exact lkT (by omega) lkH
  have j1 : lookH s1.heap (s.next + 1) = some (.cells [str nm0, str v0, .int .i64 k] tCh false false) := by rw [hs1]; exact lkH
  have n1 : s1.next = s.next + 2 := by rw [hs1]
  have f1 := c1.fine hf
  have h1 := h.chg c1 (by simp)
  (repeat(first|refine pSeq ?_|refine pReg ?_|refine sCons ?_|refine sNil ?_|refine rCons ?_|refine rNil ?_|refine kNo ?_|refine pRow ?_|refine pRet ?_|refine gNone ?_|refine gOn rfl ?_|refine gOff rfl rfl ?_|refine gTup rfl ?_))
  refine ldN_is (new := msC m Wa cw) rfl (show lookH _ s.next = some (.cells (msC m Wa cw) tMs false false) from (by subst hs1; exact k1)) agm3 ?_
  (repeat(first|refine pSeq ?_|refine pReg ?_|refine sCons ?_|refine sNil ?_|refine rCons ?_|refine rNil ?_|refine kNo ?_|refine pRow ?_|refine pRet ?_|refine gNone ?_|refine gOn rfl ?_|refine gOff rfl rfl ?_|refine gTup rfl ?_))
  refine (few_w (m := m) (show Fine _ from (by subst hs1; exact f1)) (show FsRd _ Wa m.fs from (by subst hs1; exact h1)) hn).mono fun u s2 q => ?_
  replace q : ∃ V cv, u = msV (fewM m) V cv ∧ FsO s2 V cv (fewM m).fs ∧ Chg s1 s2 [] ∧ ∀ id ∈ blkOf V, s1.next ≤ id := by subst hs1; exact q
  clear hs1
  obtain ⟨V, cv, rfl, o2, c2, v2⟩ := q
  have c02 := c1.nil c2
  have k2 := c2.blk _ _ (show s.next < s1.next by omega) (by simp) k1
  have j2 := c2.blk _ _ (show s.next + 1 < s1.next by omega) (by simp) j1
  have n2 := c2.next
  generalize fewM m = M at *
  (repeat(first|refine pSeq ?_|refine pReg ?_|refine sCons ?_|refine sNil ?_|refine rCons ?_|refine rNil ?_|refine kNo ?_|refine pRow ?_|refine pRet ?_|refine gNone ?_|refine gOn rfl ?_|refine gOff rfl rfl ?_|refine gTup rfl ?_))
  refine st_abs (cs' := msC M V cv) rfl rfl k2 (show s.next < s2.next by omega) rfl rfl fun s3 k3 c3 n3 => ?_
  have c03 : Chg s s3 [] := c02.fresh c3 (by simp)
  have o3 := o2.chg c3 (fun id hid q => by have := v2 id hid; simp at q; omega)
  have j3 := c3.blk _ _ (show s.next + 1 < s2.next by omega) (by simp) j2
  (repeat(first|refine pSeq ?_|refine pReg ?_|refine sCons ?_|refine sNil ?_|refine rCons ?_|refine rNil ?_|refine kNo ?_|refine pRow ?_|refine pRet ?_|refine gNone ?_|refine gOn rfl ?_|refine gOff rfl rfl ?_|refine gTup rfl ?_))
  refine ldN_is (new := msC M V cv) rfl k3 agm3 ?_
  (repeat(first|refine pSeq ?_|refine pReg ?_|refine sCons ?_|refine sNil ?_|refine rCons ?_|refine rNil ?_|refine kNo ?_|refine pRow ?_|refine pRet ?_|refine gNone ?_|refine gOn rfl ?_|refine gOff rfl rfl ?_|refine gTup rfl ?_))
  refine (of_w (rd_of o3) (by omega)).mono fun u s4 q => ?_
  obtain ⟨U, cu, rfl, p4, c4, u4⟩ := q
  have n4 := c4.next
  (repeat(first|refine pSeq ?_|refine pReg ?_|refine sCons ?_|refine sNil ?_|refine rCons ?_|refine rNil ?_|refine kNo ?_|refine pRow ?_|refine pRet ?_|refine gNone ?_|refine gOn rfl ?_|refine gOff rfl rfl ?_|refine gTup rfl ?_))
  refine st_abs (cs' := msC M U cu) rfl rfl lkH (Nat.lt_succ_self _) rfl rfl fun s5 e5 c5 n5 => ?_
  have c45 : Chg s4 s5 [] := (Chg.new []).fresh c5 (by simp)
  have e5 : lookH s5.heap s4.next = some (.cells (msC M U cu) tRm false false) := e5
  have n5 : s5.next = s4.next + 1 := n5
  have c35 := c4.nil c45
  have c05 := c03.nil c35
  have o5 := o3.chg c35 (by simp)
  have p5 := p4.chg c45 (by simp)
  have k5 := c35.blk _ _ (show s.next < s3.next by omega) (by simp) k3
  have j5 := c35.blk _ _ (show s.next + 1 < s3.next by omega) (by simp) j3
  (repeat(first|refine pSeq ?_|refine pReg ?_|refine sCons ?_|refine sNil ?_|refine rCons ?_|refine rNil ?_|refine kNo ?_|refine pRow ?_|refine pRet ?_|refine gNone ?_|refine gOn rfl ?_|refine gOff rfl rfl ?_|refine gTup rfl ?_))
  refine ldS_is (l := nm0) rfl j5 rfl ?_
  (repeat(first|refine pSeq ?_|refine pReg ?_|refine sCons ?_|refine sNil ?_|refine rCons ?_|refine rNil ?_|refine kNo ?_|refine pRow ?_|refine pRet ?_|refine gNone ?_|refine gOn rfl ?_|refine gOff rfl rfl ?_|refine gTup rfl ?_))
  refine ldS_is (l := nm0) rfl j5 rfl ?_
  (repeat(first|refine pSeq ?_|refine pReg ?_|refine sCons ?_|refine sNil ?_|refine rCons ?_|refine rNil ?_|refine kNo ?_|refine pRow ?_|refine pRet ?_|refine gNone ?_|refine gOn rfl ?_|refine gOff rfl rfl ?_|refine gTup rfl ?_))
  intro z hz
  (repeat(first|refine pSeq ?_|refine pReg ?_|refine sCons ?_|refine sNil ?_|refine rCons ?_|refine rNil ?_|refine kNo ?_|refine pRow ?_|refine pRet ?_|refine gNone ?_|refine gOn rfl ?_|refine gOff rfl rfl ?_|refine gTup rfl ?_))
  intro z2 hz2
  (repeat(first|refine pSeq ?_|refine pReg ?_|refine sCons ?_|refine sNil ?_|refine rCons ?_|refine rNil ?_|refine kNo ?_|refine pRow ?_|refine pRet ?_|refine gNone ?_|refine gOn rfl ?_|refine gOff rfl rfl ?_|refine gTup rfl ?_))
  refine ⟨by omega, ?_⟩
  intro x hx nm hg
  have hnm : nm.length ≤ 100 := few8 hg (by omega)
  clear hg hx hz2 hz
  (repeat(first|refine pSeq ?_|refine pReg ?_|refine sCons ?_|refine sNil ?_|refine rCons ?_|refine rNil ?_|refine kNo ?_|refine pRow ?_|refine pRet ?_|refine gNone ?_|refine gOn rfl ?_|refine gOff rfl rfl ?_|refine gTup rfl ?_))
  refine ldS_is (l := v0) rfl j5 rfl ?_
  (repeat(first|refine pSeq ?_|refine pReg ?_|refine sCons ?_|refine sNil ?_|refine rCons ?_|refine rNil ?_|refine kNo ?_|refine pRow ?_|refine pRet ?_|refine gNone ?_|refine gOn rfl ?_|refine gOff rfl rfl ?_|refine gTup rfl ?_))
  refine ldS_is (l := v0) rfl j5 rfl ?_
  (repeat(first|refine pSeq ?_|refine pReg ?_|refine sCons ?_|refine sNil ?_|refine rCons ?_|refine rNil ?_|refine kNo ?_|refine pRow ?_|refine pRet ?_|refine gNone ?_|refine gOn rfl ?_|refine gOff rfl rfl ?_|refine gTup rfl ?_))
  intro z3 hz
  (repeat(first|refine pSeq ?_|refine pReg ?_|refine sCons ?_|refine sNil ?_|refine rCons ?_|refine rNil ?_|refine kNo ?_|refine pRow ?_|refine pRet ?_|refine gNone ?_|refine gOn rfl ?_|refine gOff rfl rfl ?_|refine gTup rfl ?_))
  intro z4 hz2
  (repeat(first|refine pSeq ?_|refine pReg ?_|refine sCons ?_|refine sNil ?_|refine rCons ?_|refine rNil ?_|refine kNo ?_|refine pRow ?_|refine pRet ?_|refine gNone ?_|refine gOn rfl ?_|refine gOff rfl rfl ?_|refine gTup rfl ?_))
  refine ⟨by omega, ?_⟩
  intro x4 hx v hg
  have hvl : v.length ≤ 900 := few8 hg (by omega)
  clear hg hx hz2 hz
  have hA := ahead_eq hE M nm v
  have hP := put_eq hE M k v
  have hL := hE nm v

  obtain ⟨L, hLL⟩ : ∃ L, L = layR nm v := ⟨_, rfl⟩
  (repeat(first|refine pSeq ?_|refine pReg ?_|refine sCons ?_|refine sNil ?_|refine rCons ?_|refine rNil ?_|refine kNo ?_|refine pRow ?_|refine pRet ?_|refine gNone ?_|refine gOn rfl ?_|refine gOff rfl rfl ?_|refine gTup rfl ?_))
  refine (hlay_w (nm := nm) (v := v) (by omega) (by omega)).mono fun u s6 q => ?_
  rw [hL, ← hLL] at q
  obtain ⟨rfl, c6⟩ := q
  have n6 := c6.next
  have k_6 := c6.blk _ _ (show s.next < s5.next by omega) (by simp) k5
  have j_6 := c6.blk _ _ (show s.next + 1 < s5.next by omega) (by simp) j5
  have w_6 := c6.blk _ _ (show s4.next < s5.next by omega) (by simp) e5
  have o_6 := o5.chg c6 (by simp)
  have p_6 := p5.chg c6 (by simp)
  have c06 := c05.nil c6
  (repeat(first|refine pSeq ?_|refine pReg ?_|refine sCons ?_|refine sNil ?_|refine rCons ?_|refine rNil ?_|refine kNo ?_|refine pRow ?_|refine pRet ?_|refine gNone ?_|refine gOn rfl ?_|refine gOff rfl rfl ?_|refine gTup rfl ?_))
  refine st_abs (cs' := flC (fOr L)) rfl rfl lkH (Nat.lt_succ_self _) rfl rfl fun s7 e7 d7 n7 => ?_
  have c7 : Chg s6 s7 [] := (Chg.new []).fresh d7 (by simp)
  have e7 : lookH s7.heap s6.next = some (.cells (flC (fOr L)) tFl false false) := e7
  have n7 : s7.next = s6.next + 1 := n7
  have k_7 := c7.blk _ _ (show s.next < s6.next by omega) (by simp) k_6
  have j_7 := c7.blk _ _ (show s.next + 1 < s6.next by omega) (by simp) j_6
  have w_7 := c7.blk _ _ (show s4.next < s6.next by omega) (by simp) w_6
  have o_7 := o_6.chg c7 (by simp)
  have p_7 := p_6.chg c7 (by simp)
  have c07 := c06.nil c7
  (repeat(first|refine pSeq ?_|refine pReg ?_|refine sCons ?_|refine sNil ?_|refine rCons ?_|refine rNil ?_|refine kNo ?_|refine pRow ?_|refine pRet ?_|refine gNone ?_|refine gOn rfl ?_|refine gOff rfl rfl ?_|refine gTup rfl ?_))
  refine (rlay_w (nm := nm) (v := v) (by omega) (by omega)).mono fun u s8 q => ?_
  rw [← hLL] at q
  obtain ⟨rfl, c8⟩ := q
  have n8 := c8.next
  have k_8 := c8.blk _ _ (show s.next < s7.next by omega) (by simp) k_7
  have j_8 := c8.blk _ _ (show s.next + 1 < s7.next by omega) (by simp) j_7
  have w_8 := c8.blk _ _ (show s4.next < s7.next by omega) (by simp) w_7
  have a_8 := c8.blk _ _ (show s6.next < s7.next by omega) (by simp) e7
  have o_8 := o_7.chg c8 (by simp)
  have p_8 := p_7.chg c8 (by simp)
  have c08 := c07.nil c8
  (repeat(first|refine pSeq ?_|refine pReg ?_|refine sCons ?_|refine sNil ?_|refine rCons ?_|refine rNil ?_|refine kNo ?_|refine pRow ?_|refine pRet ?_|refine gNone ?_|refine gOn rfl ?_|refine gOff rfl rfl ?_|refine gTup rfl ?_))
  refine st_abs (cs' := flC (fOr L)) rfl rfl lkH (Nat.lt_succ_self _) rfl rfl fun s9 e9 d9 n9 => ?_
  have c9 : Chg s8 s9 [] := (Chg.new []).fresh d9 (by simp)
  have e9 : lookH s9.heap s8.next = some (.cells (flC (fOr L)) tRf false false) := e9
  have n9 : s9.next = s8.next + 1 := n9
  have k_9 := c9.blk _ _ (show s.next < s8.next by omega) (by simp) k_8
  have j_9 := c9.blk _ _ (show s.next + 1 < s8.next by omega) (by simp) j_8
  have w_9 := c9.blk _ _ (show s4.next < s8.next by omega) (by simp) w_8
  have a_9 := c9.blk _ _ (show s6.next < s8.next by omega) (by simp) a_8
  have o_9 := o_8.chg c9 (by simp)
  have p_9 := p_8.chg c9 (by simp)
  have c09 := c08.nil c9
  obtain ⟨A, hAA⟩ : ∃ A, A = aheadR M nm v := ⟨_, rfl⟩
  rw [← hAA] at hA
  obtain ⟨B, hBB⟩ : ∃ B, B = putR M k v := ⟨_, rfl⟩
  rw [← hBB] at hP
  have lA := ahead_many hAA T2
  have lB := put_many hBB T2
  obtain ⟨A, eA⟩ := A
  obtain ⟨B, eB⟩ := B
  dsimp only at lA lB
  (repeat(first|refine pSeq ?_|refine pReg ?_|refine sCons ?_|refine sNil ?_|refine rCons ?_|refine rNil ?_|refine kNo ?_|refine pRow ?_|refine pRet ?_|refine gNone ?_|refine gOn rfl ?_|refine gOff rfl rfl ?_|refine gTup rfl ?_))
  refine ldN_is (new := msC M V cv) rfl k_9 agm3 ?_
  (repeat(first|refine pSeq ?_|refine pReg ?_|refine sCons ?_|refine sNil ?_|refine rCons ?_|refine rNil ?_|refine kNo ?_|refine pRow ?_|refine pRet ?_|refine gNone ?_|refine gOn rfl ?_|refine gOff rfl rfl ?_|refine gTup rfl ?_))
  refine (ahead_w (nm := nm) (v := v) (c09.fine hf) o_9 (by omega) (by omega) (by omega) (by omega)).mono fun u s10 q => ?_
  rw [hA] at q
  obtain ⟨W10, cw10, rfl, r10, c10, w10⟩ := q
  have n10 := c10.next
  dsimp only at r10
  have k_10 := c10.blk _ _ (show s.next < s9.next by omega) (by simp) k_9
  have j_10 := c10.blk _ _ (show s.next + 1 < s9.next by omega) (by simp) j_9
  have w_10 := c10.blk _ _ (show s4.next < s9.next by omega) (by simp) w_9
  have a_10 := c10.blk _ _ (show s6.next < s9.next by omega) (by simp) a_9
  have b_10 := c10.blk _ _ (show s8.next < s9.next by omega) (by simp) e9
  have o_10 := o_9.chg c10 (by simp)
  have p_10 := p_9.chg c10 (by simp)
  have c010 := c09.nil c10
  (repeat(first|refine pSeq ?_|refine pReg ?_|refine sCons ?_|refine sNil ?_|refine rCons ?_|refine rNil ?_|refine kNo ?_|refine pRow ?_|refine pRet ?_|refine gNone ?_|refine gOn rfl ?_|refine gOff rfl rfl ?_|refine gTup rfl ?_))
  refine st_abs (cs' := msC A W10 cw10) rfl rfl lkH (Nat.lt_succ_self _) rfl rfl fun s11 e11 d11 n11 => ?_
  have c11 : Chg s10 s11 [] := (Chg.new []).fresh d11 (by simp)
  have e11 : lookH s11.heap s10.next = some (.cells (msC A W10 cw10) tMs false false) := e11
  have n11 : s11.next = s10.next + 1 := n11
  have k_11 := c11.blk _ _ (show s.next < s10.next by omega) (by simp) k_10
  have j_11 := c11.blk _ _ (show s.next + 1 < s10.next by omega) (by simp) j_10
  have w_11 := c11.blk _ _ (show s4.next < s10.next by omega) (by simp) w_10
  have a_11 := c11.blk _ _ (show s6.next < s10.next by omega) (by simp) a_10
  have b_11 := c11.blk _ _ (show s8.next < s10.next by omega) (by simp) b_10
  have o_11 := o_10.chg c11 (by simp)
  have p_11 := p_10.chg c11 (by simp)
  have rc_11 := r10.chg c11 (by simp)
  have c011 := c010.nil c11
  (repeat(first|refine pSeq ?_|refine pReg ?_|refine sCons ?_|refine sNil ?_|refine rCons ?_|refine rNil ?_|refine kNo ?_|refine pRow ?_|refine pRet ?_|refine gNone ?_|refine gOn rfl ?_|refine gOff rfl rfl ?_|refine gTup rfl ?_))
  refine ldN_is (new := msC M U cu) rfl w_11 agm3 ?_
  (repeat(first|refine pSeq ?_|refine pReg ?_|refine sCons ?_|refine sNil ?_|refine rCons ?_|refine rNil ?_|refine kNo ?_|refine pRow ?_|refine pRet ?_|refine gNone ?_|refine gOn rfl ?_|refine gOff rfl rfl ?_|refine gTup rfl ?_))
  refine (rahead_w (nm := nm) (v := v) (c011.fine hf) p_11 (by omega) (by omega) (by omega) (by omega)).mono fun u s12 q => ?_
  rw [← hAA] at q
  obtain ⟨W12, cw12, rfl, r12, c12, w12⟩ := q
  have n12 := c12.next
  dsimp only at r12
  have k_12 := c12.blk _ _ (show s.next < s11.next by omega) (by simp) k_11
  have j_12 := c12.blk _ _ (show s.next + 1 < s11.next by omega) (by simp) j_11
  have w_12 := c12.blk _ _ (show s4.next < s11.next by omega) (by simp) w_11
  have a_12 := c12.blk _ _ (show s6.next < s11.next by omega) (by simp) a_11
  have b_12 := c12.blk _ _ (show s8.next < s11.next by omega) (by simp) b_11
  have c_12 := c12.blk _ _ (show s10.next < s11.next by omega) (by simp) e11
  have o_12 := o_11.chg c12 (by simp)
  have p_12 := p_11.chg c12 (by simp)
  have rc_12 := rc_11.chg c12 (by simp)
  have c012 := c011.nil c12
  (repeat(first|refine pSeq ?_|refine pReg ?_|refine sCons ?_|refine sNil ?_|refine rCons ?_|refine rNil ?_|refine kNo ?_|refine pRow ?_|refine pRet ?_|refine gNone ?_|refine gOn rfl ?_|refine gOff rfl rfl ?_|refine gTup rfl ?_))
  refine st_abs (cs' := msC A W12 cw12) rfl rfl lkH (Nat.lt_succ_self _) rfl rfl fun s13 e13 d13 n13 => ?_
  have c13 : Chg s12 s13 [] := (Chg.new []).fresh d13 (by simp)
  have e13 : lookH s13.heap s12.next = some (.cells (msC A W12 cw12) tRm false false) := e13
  have n13 : s13.next = s12.next + 1 := n13
  have k_13 := c13.blk _ _ (show s.next < s12.next by omega) (by simp) k_12
  have j_13 := c13.blk _ _ (show s.next + 1 < s12.next by omega) (by simp) j_12
  have w_13 := c13.blk _ _ (show s4.next < s12.next by omega) (by simp) w_12
  have a_13 := c13.blk _ _ (show s6.next < s12.next by omega) (by simp) a_12
  have b_13 := c13.blk _ _ (show s8.next < s12.next by omega) (by simp) b_12
  have c_13 := c13.blk _ _ (show s10.next < s12.next by omega) (by simp) c_12
  have o_13 := o_12.chg c13 (by simp)
  have p_13 := p_12.chg c13 (by simp)
  have rc_13 := rc_12.chg c13 (by simp)
  have rd_13 := r12.chg c13 (by simp)
  have c013 := c012.nil c13
  (repeat(first|refine pSeq ?_|refine pReg ?_|refine sCons ?_|refine sNil ?_|refine rCons ?_|refine rNil ?_|refine kNo ?_|refine pRow ?_|refine pRet ?_|refine gNone ?_|refine gOn rfl ?_|refine gOff rfl rfl ?_|refine gTup rfl ?_))
  refine ldN_is (new := msC M V cv) rfl k_13 agm3 ?_
  (repeat(first|refine pSeq ?_|refine pReg ?_|refine sCons ?_|refine sNil ?_|refine rCons ?_|refine rNil ?_|refine kNo ?_|refine pRow ?_|refine pRet ?_|refine gNone ?_|refine gOn rfl ?_|refine gOff rfl rfl ?_|refine gTup rfl ?_))
  refine ldI_is (z := k) rfl j_13 rfl ?_
  (repeat(first|refine pSeq ?_|refine pReg ?_|refine sCons ?_|refine sNil ?_|refine rCons ?_|refine rNil ?_|refine kNo ?_|refine pRow ?_|refine pRet ?_|refine gNone ?_|refine gOn rfl ?_|refine gOff rfl rfl ?_|refine gTup rfl ?_))
  refine (put_w (k := k) (v := v) (c013.fine hf) o_13 (by omega) T3 (by omega) (by omega)).mono fun u s14 q => ?_
  rw [hP] at q
  obtain ⟨W14, cw14, rfl, r14, c14, w14⟩ := q
  have n14 := c14.next
  dsimp only at r14
  have k_14 := c14.blk _ _ (show s.next < s13.next by omega) (by simp) k_13
  have j_14 := c14.blk _ _ (show s.next + 1 < s13.next by omega) (by simp) j_13
  have w_14 := c14.blk _ _ (show s4.next < s13.next by omega) (by simp) w_13
  have a_14 := c14.blk _ _ (show s6.next < s13.next by omega) (by simp) a_13
  have b_14 := c14.blk _ _ (show s8.next < s13.next by omega) (by simp) b_13
  have c_14 := c14.blk _ _ (show s10.next < s13.next by omega) (by simp) c_13
  have d_14 := c14.blk _ _ (show s12.next < s13.next by omega) (by simp) e13
  have o_14 := o_13.chg c14 (by simp)
  have p_14 := p_13.chg c14 (by simp)
  have rc_14 := rc_13.chg c14 (by simp)
  have rd_14 := rd_13.chg c14 (by simp)
  have c014 := c013.nil c14
  (repeat(first|refine pSeq ?_|refine pReg ?_|refine sCons ?_|refine sNil ?_|refine rCons ?_|refine rNil ?_|refine kNo ?_|refine pRow ?_|refine pRet ?_|refine gNone ?_|refine gOn rfl ?_|refine gOff rfl rfl ?_|refine gTup rfl ?_))
  refine st_abs (cs' := msC B W14 cw14) rfl rfl lkH (Nat.lt_succ_self _) rfl rfl fun s15 e15 d15 n15 => ?_
  have c15 : Chg s14 s15 [] := (Chg.new []).fresh d15 (by simp)
  have e15 : lookH s15.heap s14.next = some (.cells (msC B W14 cw14) tMs false false) := e15
  have n15 : s15.next = s14.next + 1 := n15
  have k_15 := c15.blk _ _ (show s.next < s14.next by omega) (by simp) k_14
  have j_15 := c15.blk _ _ (show s.next + 1 < s14.next by omega) (by simp) j_14
  have w_15 := c15.blk _ _ (show s4.next < s14.next by omega) (by simp) w_14
  have a_15 := c15.blk _ _ (show s6.next < s14.next by omega) (by simp) a_14
  have b_15 := c15.blk _ _ (show s8.next < s14.next by omega) (by simp) b_14
  have c_15 := c15.blk _ _ (show s10.next < s14.next by omega) (by simp) c_14
  have d_15 := c15.blk _ _ (show s12.next < s14.next by omega) (by simp) d_14
  have o_15 := o_14.chg c15 (by simp)
  have p_15 := p_14.chg c15 (by simp)
  have rc_15 := rc_14.chg c15 (by simp)
  have rd_15 := rd_14.chg c15 (by simp)
  have rf_15 := r14.chg c15 (by simp)
  have c015 := c014.nil c15
  (repeat(first|refine pSeq ?_|refine pReg ?_|refine sCons ?_|refine sNil ?_|refine rCons ?_|refine rNil ?_|refine kNo ?_|refine pRow ?_|refine pRet ?_|refine gNone ?_|refine gOn rfl ?_|refine gOff rfl rfl ?_|refine gTup rfl ?_))
  refine ldN_is (new := msC M U cu) rfl w_15 agm3 ?_
  (repeat(first|refine pSeq ?_|refine pReg ?_|refine sCons ?_|refine sNil ?_|refine rCons ?_|refine rNil ?_|refine kNo ?_|refine pRow ?_|refine pRet ?_|refine gNone ?_|refine gOn rfl ?_|refine gOff rfl rfl ?_|refine gTup rfl ?_))
  refine ldI_is (z := k) rfl j_15 rfl ?_
  (repeat(first|refine pSeq ?_|refine pReg ?_|refine sCons ?_|refine sNil ?_|refine rCons ?_|refine rNil ?_|refine kNo ?_|refine pRow ?_|refine pRet ?_|refine gNone ?_|refine gOn rfl ?_|refine gOff rfl rfl ?_|refine gTup rfl ?_))
  refine (rput_w (k := k) (v := v) p_15 (by omega) T3 (by omega) (by omega)).mono fun u s16 q => ?_
  rw [← hBB] at q
  obtain ⟨W16, cw16, rfl, r16, c16, w16⟩ := q
  have n16 := c16.next
  dsimp only at r16
  have k_16 := c16.blk _ _ (show s.next < s15.next by omega) (by simp) k_15
  have j_16 := c16.blk _ _ (show s.next + 1 < s15.next by omega) (by simp) j_15
  have w_16 := c16.blk _ _ (show s4.next < s15.next by omega) (by simp) w_15
  have a_16 := c16.blk _ _ (show s6.next < s15.next by omega) (by simp) a_15
  have b_16 := c16.blk _ _ (show s8.next < s15.next by omega) (by simp) b_15
  have c_16 := c16.blk _ _ (show s10.next < s15.next by omega) (by simp) c_15
  have d_16 := c16.blk _ _ (show s12.next < s15.next by omega) (by simp) d_15
  have f_16 := c16.blk _ _ (show s14.next < s15.next by omega) (by simp) e15
  have o_16 := o_15.chg c16 (by simp)
  have p_16 := p_15.chg c16 (by simp)
  have rc_16 := rc_15.chg c16 (by simp)
  have rd_16 := rd_15.chg c16 (by simp)
  have rf_16 := rf_15.chg c16 (by simp)
  have c016 := c015.nil c16
  (repeat(first|refine pSeq ?_|refine pReg ?_|refine sCons ?_|refine sNil ?_|refine rCons ?_|refine rNil ?_|refine kNo ?_|refine pRow ?_|refine pRet ?_|refine gNone ?_|refine gOn rfl ?_|refine gOff rfl rfl ?_|refine gTup rfl ?_))
  refine st_abs (cs' := msC B W16 cw16) rfl rfl lkH (Nat.lt_succ_self _) rfl rfl fun s17 e17 d17 n17 => ?_
  have c17 : Chg s16 s17 [] := (Chg.new []).fresh d17 (by simp)
  have e17 : lookH s17.heap s16.next = some (.cells (msC B W16 cw16) tRm false false) := e17
  have n17 : s17.next = s16.next + 1 := n17
  have k_17 := c17.blk _ _ (show s.next < s16.next by omega) (by simp) k_16
  have j_17 := c17.blk _ _ (show s.next + 1 < s16.next by omega) (by simp) j_16
  have w_17 := c17.blk _ _ (show s4.next < s16.next by omega) (by simp) w_16
  have a_17 := c17.blk _ _ (show s6.next < s16.next by omega) (by simp) a_16
  have b_17 := c17.blk _ _ (show s8.next < s16.next by omega) (by simp) b_16
  have c_17 := c17.blk _ _ (show s10.next < s16.next by omega) (by simp) c_16
  have d_17 := c17.blk _ _ (show s12.next < s16.next by omega) (by simp) d_16
  have f_17 := c17.blk _ _ (show s14.next < s16.next by omega) (by simp) f_16
  have o_17 := o_16.chg c17 (by simp)
  have p_17 := p_16.chg c17 (by simp)
  have rc_17 := rc_16.chg c17 (by simp)
  have rd_17 := rd_16.chg c17 (by simp)
  have rf_17 := rf_16.chg c17 (by simp)
  have rg_17 := r16.chg c17 (by simp)
  have c017 := c016.nil c17
  (repeat(first|refine pSeq ?_|refine pReg ?_|refine sCons ?_|refine sNil ?_|refine rCons ?_|refine rNil ?_|refine kNo ?_|refine pRow ?_|refine pRet ?_|refine gNone ?_|refine gOn rfl ?_|refine gOff rfl rfl ?_|refine gTup rfl ?_))
  refine ldN_is (new := flC (fOr L)) rfl a_17 agg3 ?_
  (repeat(first|refine pSeq ?_|refine pReg ?_|refine sCons ?_|refine sNil ?_|refine rCons ?_|refine rNil ?_|refine kNo ?_|refine pRow ?_|refine pRet ?_|refine gNone ?_|refine gOn rfl ?_|refine gOff rfl rfl ?_|refine gTup rfl ?_))
  refine ldN_is (new := flC (fOr L)) rfl b_17 agg3 ?_
  (repeat(first|refine pSeq ?_|refine pReg ?_|refine sCons ?_|refine sNil ?_|refine rCons ?_|refine rNil ?_|refine kNo ?_|refine pRow ?_|refine pRet ?_|refine gNone ?_|refine gOn rfl ?_|refine gOff rfl rfl ?_|refine gTup rfl ?_))
  intro q hq
  rw [fld_dec] at hq
  obtain rfl : q = true := by rw [hq]; exact decide_eq_true rfl
  (repeat(first|refine pSeq ?_|refine pReg ?_|refine sCons ?_|refine sNil ?_|refine rCons ?_|refine rNil ?_|refine kNo ?_|refine pRow ?_|refine pRet ?_|refine gNone ?_|refine gOn rfl ?_|refine gOff rfl rfl ?_|refine gTup rfl ?_))
  intro q hq
  obtain rfl : q = true := by rw [hq]; exact decide_eq_true rfl
  (repeat(first|refine pSeq ?_|refine pReg ?_|refine sCons ?_|refine sNil ?_|refine rCons ?_|refine rNil ?_|refine kNo ?_|refine pRow ?_|refine pRet ?_|refine gNone ?_|refine gOn rfl ?_|refine gOff rfl rfl ?_|refine gTup rfl ?_))
  refine ldN_is rfl c_17 agm3 ?_
  (repeat(first|refine pSeq ?_|refine pReg ?_|refine sCons ?_|refine sNil ?_|refine rCons ?_|refine rNil ?_|refine kNo ?_|refine pRow ?_|refine pRet ?_|refine gNone ?_|refine gOn rfl ?_|refine gOff rfl rfl ?_|refine gTup rfl ?_))
  first | refine ldN_is rfl d_17 agm3 ?_ | skip
  (repeat(first|refine pSeq ?_|refine pReg ?_|refine sCons ?_|refine sNil ?_|refine rCons ?_|refine rNil ?_|refine kNo ?_|refine pRow ?_|refine pRet ?_|refine gNone ?_|refine gOn rfl ?_|refine gOff rfl rfl ?_|refine gTup rfl ?_))
  refine (of_w (rd_of rc_17) (by omega)).mono fun u s18 q => ?_
  obtain ⟨W18, cw18, rfl, r18, c18, w18⟩ := q
  have n18 := c18.next
  first | refine kAll (c18.keep (c017.fine hf)) ?_ | skip
  have k_18 := c18.blk _ _ (show s.next < s17.next by omega) (by simp) k_17
  have j_18 := c18.blk _ _ (show s.next + 1 < s17.next by omega) (by simp) j_17
  have w_18 := c18.blk _ _ (show s4.next < s17.next by omega) (by simp) w_17
  have a_18 := c18.blk _ _ (show s6.next < s17.next by omega) (by simp) a_17
  have b_18 := c18.blk _ _ (show s8.next < s17.next by omega) (by simp) b_17
  have c_18 := c18.blk _ _ (show s10.next < s17.next by omega) (by simp) c_17
  have d_18 := c18.blk _ _ (show s12.next < s17.next by omega) (by simp) d_17
  have f_18 := c18.blk _ _ (show s14.next < s17.next by omega) (by simp) f_17
  have g_18 := c18.blk _ _ (show s16.next < s17.next by omega) (by simp) e17
  have o_18 := o_17.chg c18 (by simp)
  have p_18 := p_17.chg c18 (by simp)
  have rc_18 := rc_17.chg c18 (by simp)
  have rd_18 := rd_17.chg c18 (by simp)
  have rf_18 := rf_17.chg c18 (by simp)
  have rg_18 := rg_17.chg c18 (by simp)
  have c018 := c017.nil c18
  (repeat(first|refine pSeq ?_|refine pReg ?_|refine sCons ?_|refine sNil ?_|refine rCons ?_|refine rNil ?_|refine kNo ?_|refine pRow ?_|refine pRet ?_|refine gNone ?_|refine gOn rfl ?_|refine gOff rfl rfl ?_|refine gTup rfl ?_))
  first | refine ldN_is rfl d_18 agm3 ?_ | skip
  (repeat(first|refine pSeq ?_|refine pReg ?_|refine sCons ?_|refine sNil ?_|refine rCons ?_|refine rNil ?_|refine kNo ?_|refine pRow ?_|refine pRet ?_|refine gNone ?_|refine gOn rfl ?_|refine gOff rfl rfl ?_|refine gTup rfl ?_))
  refine (rsame_w (rd_of r18) (rd_of rd_18) (by omega) (by omega)).mono fun u s19 q => ?_
  rw [decide_eq_true rfl] at q
  obtain ⟨rfl, c19⟩ := q
  have n19 := c19.next
  first | refine kAll (c19.keep (c018.fine hf)) ?_ | skip
  have k_19 := c19.blk _ _ (show s.next < s18.next by omega) (by simp) k_18
  have j_19 := c19.blk _ _ (show s.next + 1 < s18.next by omega) (by simp) j_18
  have w_19 := c19.blk _ _ (show s4.next < s18.next by omega) (by simp) w_18
  have a_19 := c19.blk _ _ (show s6.next < s18.next by omega) (by simp) a_18
  have b_19 := c19.blk _ _ (show s8.next < s18.next by omega) (by simp) b_18
  have c_19 := c19.blk _ _ (show s10.next < s18.next by omega) (by simp) c_18
  have d_19 := c19.blk _ _ (show s12.next < s18.next by omega) (by simp) d_18
  have f_19 := c19.blk _ _ (show s14.next < s18.next by omega) (by simp) f_18
  have g_19 := c19.blk _ _ (show s16.next < s18.next by omega) (by simp) g_18
  have o_19 := o_18.chg c19 (by simp)
  have p_19 := p_18.chg c19 (by simp)
  have rc_19 := rc_18.chg c19 (by simp)
  have rd_19 := rd_18.chg c19 (by simp)
  have rf_19 := rf_18.chg c19 (by simp)
  have rg_19 := rg_18.chg c19 (by simp)
  have c019 := c018.nil c19
  (repeat(first|refine pSeq ?_|refine pReg ?_|refine sCons ?_|refine sNil ?_|refine rCons ?_|refine rNil ?_|refine kNo ?_|refine pRow ?_|refine pRet ?_|refine gNone ?_|refine gOn rfl ?_|refine gOff rfl rfl ?_|refine gTup rfl ?_))
  intro q hq
  obtain rfl : q = true := by rw [hq]; exact decide_eq_true rfl
  (repeat(first|refine pSeq ?_|refine pReg ?_|refine sCons ?_|refine sNil ?_|refine rCons ?_|refine rNil ?_|refine kNo ?_|refine pRow ?_|refine pRet ?_|refine gNone ?_|refine gOn rfl ?_|refine gOff rfl rfl ?_|refine gTup rfl ?_))
  refine ldN_is rfl f_19 agm3 ?_
  (repeat(first|refine pSeq ?_|refine pReg ?_|refine sCons ?_|refine sNil ?_|refine rCons ?_|refine rNil ?_|refine kNo ?_|refine pRow ?_|refine pRet ?_|refine gNone ?_|refine gOn rfl ?_|refine gOff rfl rfl ?_|refine gTup rfl ?_))
  first | refine ldN_is rfl g_19 agm3 ?_ | skip
  (repeat(first|refine pSeq ?_|refine pReg ?_|refine sCons ?_|refine sNil ?_|refine rCons ?_|refine rNil ?_|refine kNo ?_|refine pRow ?_|refine pRet ?_|refine gNone ?_|refine gOn rfl ?_|refine gOff rfl rfl ?_|refine gTup rfl ?_))
  refine (of_w (rd_of rf_19) (by omega)).mono fun u s20 q => ?_
  obtain ⟨W20, cw20, rfl, r20, c20, w20⟩ := q
  have n20 := c20.next
  first | refine kAll (c20.keep (c019.fine hf)) ?_ | skip
  have k_20 := c20.blk _ _ (show s.next < s19.next by omega) (by simp) k_19
  have j_20 := c20.blk _ _ (show s.next + 1 < s19.next by omega) (by simp) j_19
  have w_20 := c20.blk _ _ (show s4.next < s19.next by omega) (by simp) w_19
  have a_20 := c20.blk _ _ (show s6.next < s19.next by omega) (by simp) a_19
  have b_20 := c20.blk _ _ (show s8.next < s19.next by omega) (by simp) b_19
  have c_20 := c20.blk _ _ (show s10.next < s19.next by omega) (by simp) c_19
  have d_20 := c20.blk _ _ (show s12.next < s19.next by omega) (by simp) d_19
  have f_20 := c20.blk _ _ (show s14.next < s19.next by omega) (by simp) f_19
  have g_20 := c20.blk _ _ (show s16.next < s19.next by omega) (by simp) g_19
  have o_20 := o_19.chg c20 (by simp)
  have p_20 := p_19.chg c20 (by simp)
  have rc_20 := rc_19.chg c20 (by simp)
  have rd_20 := rd_19.chg c20 (by simp)
  have rf_20 := rf_19.chg c20 (by simp)
  have rg_20 := rg_19.chg c20 (by simp)
  have c020 := c019.nil c20
  (repeat(first|refine pSeq ?_|refine pReg ?_|refine sCons ?_|refine sNil ?_|refine rCons ?_|refine rNil ?_|refine kNo ?_|refine pRow ?_|refine pRet ?_|refine gNone ?_|refine gOn rfl ?_|refine gOff rfl rfl ?_|refine gTup rfl ?_))
  first | refine ldN_is rfl g_20 agm3 ?_ | skip
  (repeat(first|refine pSeq ?_|refine pReg ?_|refine sCons ?_|refine sNil ?_|refine rCons ?_|refine rNil ?_|refine kNo ?_|refine pRow ?_|refine pRet ?_|refine gNone ?_|refine gOn rfl ?_|refine gOff rfl rfl ?_|refine gTup rfl ?_))
  refine (rsame_w (rd_of r20) (rd_of rg_20) (by omega) (by omega)).mono fun u s21 q => ?_
  rw [decide_eq_true rfl] at q
  obtain ⟨rfl, c21⟩ := q
  have n21 := c21.next
  first | refine kAll (c21.keep (c020.fine hf)) ?_ | skip
  have k_21 := c21.blk _ _ (show s.next < s20.next by omega) (by simp) k_20
  have j_21 := c21.blk _ _ (show s.next + 1 < s20.next by omega) (by simp) j_20
  have w_21 := c21.blk _ _ (show s4.next < s20.next by omega) (by simp) w_20
  have a_21 := c21.blk _ _ (show s6.next < s20.next by omega) (by simp) a_20
  have b_21 := c21.blk _ _ (show s8.next < s20.next by omega) (by simp) b_20
  have c_21 := c21.blk _ _ (show s10.next < s20.next by omega) (by simp) c_20
  have d_21 := c21.blk _ _ (show s12.next < s20.next by omega) (by simp) d_20
  have f_21 := c21.blk _ _ (show s14.next < s20.next by omega) (by simp) f_20
  have g_21 := c21.blk _ _ (show s16.next < s20.next by omega) (by simp) g_20
  have o_21 := o_20.chg c21 (by simp)
  have p_21 := p_20.chg c21 (by simp)
  have rc_21 := rc_20.chg c21 (by simp)
  have rd_21 := rd_20.chg c21 (by simp)
  have rf_21 := rf_20.chg c21 (by simp)
  have rg_21 := rg_20.chg c21 (by simp)
  have c021 := c020.nil c21
  (repeat(first|refine pSeq ?_|refine pReg ?_|refine sCons ?_|refine sNil ?_|refine rCons ?_|refine rNil ?_|refine kNo ?_|refine pRow ?_|refine pRet ?_|refine gNone ?_|refine gOn rfl ?_|refine gOff rfl rfl ?_|refine gTup rfl ?_))
  intro q hq
  obtain rfl : q = true := by rw [hq]; exact decide_eq_true rfl
  (repeat(first|refine pSeq ?_|refine pReg ?_|refine sCons ?_|refine sNil ?_|refine rCons ?_|refine rNil ?_|refine kNo ?_|refine pRow ?_|refine pRet ?_|refine gNone ?_|refine gOn rfl ?_|refine gOff rfl rfl ?_|refine gTup rfl ?_))
  refine ldN_is rfl k_21 agm3 ?_
  (repeat(first|refine pSeq ?_|refine pReg ?_|refine sCons ?_|refine sNil ?_|refine rCons ?_|refine rNil ?_|refine kNo ?_|refine pRow ?_|refine pRet ?_|refine gNone ?_|refine gOn rfl ?_|refine gOff rfl rfl ?_|refine gTup rfl ?_))
  first | refine ldN_is rfl w_21 agm3 ?_ | skip
  (repeat(first|refine pSeq ?_|refine pReg ?_|refine sCons ?_|refine sNil ?_|refine rCons ?_|refine rNil ?_|refine kNo ?_|refine pRow ?_|refine pRet ?_|refine gNone ?_|refine gOn rfl ?_|refine gOff rfl rfl ?_|refine gTup rfl ?_))
  refine (of_w (rd_of o_21) (by omega)).mono fun u s22 q => ?_
  obtain ⟨W22, cw22, rfl, r22, c22, w22⟩ := q
  have n22 := c22.next
  first | refine kAll (c22.keep (c021.fine hf)) ?_ | skip
  have k_22 := c22.blk _ _ (show s.next < s21.next by omega) (by simp) k_21
  have j_22 := c22.blk _ _ (show s.next + 1 < s21.next by omega) (by simp) j_21
  have w_22 := c22.blk _ _ (show s4.next < s21.next by omega) (by simp) w_21
  have a_22 := c22.blk _ _ (show s6.next < s21.next by omega) (by simp) a_21
  have b_22 := c22.blk _ _ (show s8.next < s21.next by omega) (by simp) b_21
  have c_22 := c22.blk _ _ (show s10.next < s21.next by omega) (by simp) c_21
  have d_22 := c22.blk _ _ (show s12.next < s21.next by omega) (by simp) d_21
  have f_22 := c22.blk _ _ (show s14.next < s21.next by omega) (by simp) f_21
  have g_22 := c22.blk _ _ (show s16.next < s21.next by omega) (by simp) g_21
  have o_22 := o_21.chg c22 (by simp)
  have p_22 := p_21.chg c22 (by simp)
  have rc_22 := rc_21.chg c22 (by simp)
  have rd_22 := rd_21.chg c22 (by simp)
  have rf_22 := rf_21.chg c22 (by simp)
  have rg_22 := rg_21.chg c22 (by simp)
  have c022 := c021.nil c22
  (repeat(first|refine pSeq ?_|refine pReg ?_|refine sCons ?_|refine sNil ?_|refine rCons ?_|refine rNil ?_|refine kNo ?_|refine pRow ?_|refine pRet ?_|refine gNone ?_|refine gOn rfl ?_|refine gOff rfl rfl ?_|refine gTup rfl ?_))
  first | refine ldN_is rfl w_22 agm3 ?_ | skip
  (repeat(first|refine pSeq ?_|refine pReg ?_|refine sCons ?_|refine sNil ?_|refine rCons ?_|refine rNil ?_|refine kNo ?_|refine pRow ?_|refine pRet ?_|refine gNone ?_|refine gOn rfl ?_|refine gOff rfl rfl ?_|refine gTup rfl ?_))
  refine (rsame_w (rd_of r22) (rd_of p_22) (by omega) (by omega)).mono fun u s23 q => ?_
  rw [decide_eq_true rfl] at q
  obtain ⟨rfl, c23⟩ := q
  have n23 := c23.next
  first | refine kAll (c23.keep (c022.fine hf)) ?_ | skip
  have k_23 := c23.blk _ _ (show s.next < s22.next by omega) (by simp) k_22
  have j_23 := c23.blk _ _ (show s.next + 1 < s22.next by omega) (by simp) j_22
  have w_23 := c23.blk _ _ (show s4.next < s22.next by omega) (by simp) w_22
  have a_23 := c23.blk _ _ (show s6.next < s22.next by omega) (by simp) a_22
  have b_23 := c23.blk _ _ (show s8.next < s22.next by omega) (by simp) b_22
  have c_23 := c23.blk _ _ (show s10.next < s22.next by omega) (by simp) c_22
  have d_23 := c23.blk _ _ (show s12.next < s22.next by omega) (by simp) d_22
  have f_23 := c23.blk _ _ (show s14.next < s22.next by omega) (by simp) f_22
  have g_23 := c23.blk _ _ (show s16.next < s22.next by omega) (by simp) g_22
  have o_23 := o_22.chg c23 (by simp)
  have p_23 := p_22.chg c23 (by simp)
  have rc_23 := rc_22.chg c23 (by simp)
  have rd_23 := rd_22.chg c23 (by simp)
  have rf_23 := rf_22.chg c23 (by simp)
  have rg_23 := rg_22.chg c23 (by simp)
  have c023 := c022.nil c23
  (repeat(first|refine pSeq ?_|refine pReg ?_|refine sCons ?_|refine sNil ?_|refine rCons ?_|refine rNil ?_|refine kNo ?_|refine pRow ?_|refine pRet ?_|refine gNone ?_|refine gOn rfl ?_|refine gOff rfl rfl ?_|refine gTup rfl ?_))
  refine (hwakes_w (hM.chg c023)).mono fun u s24 q => ?_
  obtain ⟨rfl, c24⟩ := q
  first | refine kAll (c24.keep (c023.fine hf)) ?_ | skip
  (repeat(first|refine pSeq ?_|refine pReg ?_|refine sCons ?_|refine sNil ?_|refine rCons ?_|refine rNil ?_|refine kNo ?_|refine pRow ?_|refine pRet ?_|refine gNone ?_|refine gOn rfl ?_|refine gOff rfl rfl ?_|refine gTup rfl ?_))
  rfl
end Go.Vf.S

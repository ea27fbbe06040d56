import Derived.Test.YtafdbfpclolpkaaHaK
/- HMAC: the program. -/
namespace Go.Vf.S
open Go Go.Vf
attribute [local irreducible] wSeq wRow wp wG schd rnds blks blk5 sha fillF
set_option linter.unusedVariables false
set_option linter.unusedSimpArgs false
set_option maxRecDepth 10000

theorem behind_w {s : SS} {base : Option Addr} {n cap : Nat} {k l : List UInt8} (f : Fine s) (hk : k.length = 64) (hr : Slc pr s base n cap l) (hM : n < 2 ^ 29) : CallW pr n_hash_behind [agB k, .slice base n cap] s fun v s' => v = agB (sha (k ++ l)) ∧ Chg s s' [] := by
  have hl := hr.1.1
  refine CallW.run good ok_hash_behind (by simp) rfl ?_
  obtain ⟨h0, h1, c0, f0⟩ := new2_at f (.cells (bytesV k) tA64 false false) (.cells (bytesV zs20) tA20 false false)
  have hr0 := hr.chg c0 (by simp)
  (repeat(first|refine pSeq ?_|refine pReg ?_|refine sCons ?_|refine sNil ?_|refine rCons ?_|refine rNil ?_|refine kNo ?_|refine pRow ?_|refine pRet ?_|refine gNone ?_))
  refine slA_is10 0 64 rfl h0 rfl rfl rfl rfl (by omega) (by omega) ?_
  (repeat(first|refine pSeq ?_|refine pReg ?_|refine sCons ?_|refine sNil ?_|refine rCons ?_|refine rNil ?_|refine kNo ?_|refine pRow ?_|refine pRet ?_|refine gNone ?_))
  refine (start10_w f0).mono fun v s1 q => ?_
  obtain ⟨rfl, k1⟩ := q
  have f1 := k1.fine f0
  have n1 := k1.next
  replace n1 : s.next + 1 + 1 ≤ s1.next := n1
  refine kAll (k1.keep f0) ?_
  (repeat(first|refine pSeq ?_|refine pReg ?_|refine sCons ?_|refine sNil ?_|refine rCons ?_|refine rNil ?_|refine kNo ?_|refine pRow ?_|refine pRet ?_|refine gNone ?_))
  have g0 := k1.blk _ _ (show s.next < s.next + 1 + 1 by omega) (by simp) h0
  refine (take10_w (m := 1) f1 (cell_slc g0 (by omega) hk) rfl).mono fun v s2 q => ?_
  obtain ⟨rfl, k2⟩ := q
  have f2 := k2.fine f1
  have n2 := k2.next
  (repeat(first|refine pSeq ?_|refine pReg ?_|refine sCons ?_|refine sNil ?_|refine rCons ?_|refine rNil ?_|refine kNo ?_|refine pRow ?_|refine pRet ?_|refine gNone ?_))
  refine (finish_w (ahead := 64) f2 ((hr0.chg k1 (by simp)).chg k2 (by simp)) rfl (by omega)).mono fun v s3 q => ?_
  obtain ⟨rfl, k3⟩ := q
  have n3 := k3.next
  have e : blks ((l ++ endF (64 + n)).length / 64) (blks 1 ini5 k) (l ++ endF (64 + n)) = sha5 (k ++ l) := by
    rw [sha_split k l 1 hk, show (k ++ l).length = 64 + n by rw [List.length_append, hk, ← hl]]
  rw [e, show (sha5 (k ++ l)).bytes = sha (k ++ l) from (by unfold sha; rfl)]
  have kk := (k1.nil k2).nil k3
  (repeat(first|refine pSeq ?_|refine pReg ?_|refine sCons ?_|refine sNil ?_|refine rCons ?_|refine rNil ?_|refine kNo ?_|refine pRow ?_|refine pRet ?_|refine gNone ?_))
  refine st_abs (cs' := bytesV (sha (k ++ l))) rfl rfl (kk.blk _ _ (show s.next + 1 < s.next + 1 + 1 by omega) (by simp) h1) (show s.next + 1 < s3.next by omega) (agB_fl (sha_len _)) (agB_lay (a := zs20) (sha_len _).symm) fun s4 e4 k4 n4 => ?_
  (repeat(first|refine pSeq ?_|refine pReg ?_|refine sCons ?_|refine sNil ?_|refine rCons ?_|refine rNil ?_|refine kNo ?_|refine pRow ?_|refine pRet ?_|refine gNone ?_))
  (repeat (first | with_reducible refine sqRet ?_ | with_reducible refine bkRet ?_ | with_reducible refine hdRet ?_))
  exact ret_cell1 agg_A20 sz_A20 rfl e4 (bytes_take (sha_len _)) ⟨rfl, (c0.nil kk).fresh k4 (by simp)⟩

theorem hmac_w {s : SS} {bk bl : Option Addr} {nk ck nl cl : Nat} {k l : List UInt8} (f : Fine s) (hk : Slc pr s bk nk ck k) (hl : Slc pr s bl nl cl l) (hK : nk < 2 ^ 29) (hL : nl < 2 ^ 29) : CallW pr n_hash_Hmac [.slice bk nk ck, .slice bl nl cl] s fun v s' => v = agB (hmac k l) ∧ Chg s s' [] := by
  refine CallW.run good ok_hash_Hmac (by simp) rfl ?_
  obtain ⟨h0, c0, f0⟩ := new1_at f (.cells (bytesV zs20) tA20 false false)
  (repeat(first|refine pSeq ?_|refine pReg ?_|refine sCons ?_|refine sNil ?_|refine rCons ?_|refine rNil ?_|refine kNo ?_|refine pRow ?_|refine pRet ?_|refine gNone ?_))
  refine (fill10_w f0 (hk.chg c0 (by simp)) (by omega)).mono fun v s1 q => ?_
  obtain ⟨rfl, k1⟩ := q
  have f1 := k1.fine f0
  have n1 := k1.next
  replace n1 : s.next + 1 ≤ s1.next := n1
  have g0 := k1.blk _ _ (show s.next < s.next + 1 by omega) (by simp) h0
  replace c0 := c0.nil k1
  (repeat(first|refine pSeq ?_|refine pReg ?_|refine sCons ?_|refine sNil ?_|refine rCons ?_|refine rNil ?_|refine kNo ?_|refine pRow ?_|refine pRet ?_|refine gNone ?_))
  obtain ⟨m0, m1, m2⟩ := new1_at f1 (.cells (bytesV zs64) tA64 false false)
  refine st_abs (cs' := bytesV (fillF k)) rfl rfl m0 (Nat.lt_succ_self _) (agB_fl (fillF_len k)) (agB_lay (a := zs64) (fillF_len k).symm) fun s2 e2 c2 n2 => ?_
  replace n2 : s2.next = s1.next + 1 := n2
  replace g0 := c2.blk _ _ (show s.next < s1.next + 1 by omega) (by simp; omega) (m1.blk _ _ (show s.next < s1.next by omega) (by simp) g0)
  replace c2 := m1.fresh c2 (by simp)
  replace c0 := c0.nil c2
  have f2 := c2.fine f1
  (repeat(first|refine pSeq ?_|refine pReg ?_|refine sCons ?_|refine sNil ?_|refine rCons ?_|refine rNil ?_|refine kNo ?_|refine pRow ?_|refine pRet ?_|refine gNone ?_))
  refine ldN_is rfl e2 (bytes_take (fillF_len k)) ?_
  (repeat(first|refine pSeq ?_|refine pReg ?_|refine sCons ?_|refine sNil ?_|refine rCons ?_|refine rNil ?_|refine kNo ?_|refine pRow ?_|refine pRet ?_|refine gNone ?_))
  refine (padded_w (c := 54) f2 (fillF_len k)).mono fun v s3 q => ?_
  obtain ⟨rfl, k3⟩ := q
  have f3 := k3.fine f2
  have n3 := k3.next
  have hxl : ∀ c : UInt8, (xorF c (fillF k)).length = 64 := fun c => by unfold xorF; rw [List.length_map, fillF_len]
  (repeat(first|refine pSeq ?_|refine pReg ?_|refine sCons ?_|refine sNil ?_|refine rCons ?_|refine rNil ?_|refine kNo ?_|refine pRow ?_|refine pRet ?_|refine gNone ?_))
  refine (behind_w f3 (hxl 54) ((hl.chg c0 (by simp)).chg k3 (by simp)) hL).mono fun v s4 q => ?_
  obtain ⟨rfl, k4⟩ := q
  have f4 := k4.fine f3
  have n4 := k4.next
  generalize hin : sha (xorF 54 (fillF k) ++ l) = inn
  have hil : inn.length = 20 := by rw [← hin]; exact sha_len _
  have k34 := k3.nil k4
  replace g0 := k34.blk _ _ (show s.next < s2.next by omega) (by simp) g0
  replace e2 := k34.blk _ _ (show s1.next < s2.next by omega) (by simp) e2
  replace c0 := c0.nil k34
  (repeat(first|refine pSeq ?_|refine pReg ?_|refine sCons ?_|refine sNil ?_|refine rCons ?_|refine rNil ?_|refine kNo ?_|refine pRow ?_|refine pRet ?_|refine gNone ?_))
  obtain ⟨p0, p1, p2⟩ := new1_at f4 (.cells (bytesV zs20) tA20 false false)
  refine st_abs (cs' := bytesV inn) rfl rfl p0 (Nat.lt_succ_self _) (agB_fl hil) (agB_lay (a := zs20) hil.symm) fun s5 e5 c5 n5 => ?_
  replace n5 : s5.next = s4.next + 1 := n5
  replace g0 := c5.blk _ _ (show s.next < s4.next + 1 by omega) (by simp; omega) (p1.blk _ _ (show s.next < s4.next by omega) (by simp) g0)
  replace e2 := c5.blk _ _ (show s1.next < s4.next + 1 by omega) (by simp; omega) (p1.blk _ _ (show s1.next < s4.next by omega) (by simp) e2)
  replace c5 := p1.fresh c5 (by simp)
  replace c0 := c0.nil c5
  have f5 := c5.fine f4
  (repeat(first|refine pSeq ?_|refine pReg ?_|refine sCons ?_|refine sNil ?_|refine rCons ?_|refine rNil ?_|refine kNo ?_|refine pRow ?_|refine pRet ?_|refine gNone ?_))
  refine ldN_is rfl e2 (bytes_take (fillF_len k)) ?_
  (repeat(first|refine pSeq ?_|refine pReg ?_|refine sCons ?_|refine sNil ?_|refine rCons ?_|refine rNil ?_|refine kNo ?_|refine pRow ?_|refine pRet ?_|refine gNone ?_))
  refine slA_is10 0 20 rfl e5 rfl rfl rfl rfl (by omega) (by omega) ?_
  (repeat(first|refine pSeq ?_|refine pReg ?_|refine sCons ?_|refine sNil ?_|refine rCons ?_|refine rNil ?_|refine kNo ?_|refine pRow ?_|refine pRet ?_|refine gNone ?_))
  refine (padded_w (c := 92) f5 (fillF_len k)).mono fun v s6 q => ?_
  obtain ⟨rfl, k6⟩ := q
  have f6 := k6.fine f5
  have n6 := k6.next
  refine kAll (k6.keep f5) ?_
  (repeat(first|refine pSeq ?_|refine pReg ?_|refine sCons ?_|refine sNil ?_|refine rCons ?_|refine rNil ?_|refine kNo ?_|refine pRow ?_|refine pRet ?_|refine gNone ?_))
  refine (behind_w f6 (hxl 92) (cell_slc (k6.blk _ _ (show s4.next < s5.next by omega) (by simp) e5) (show s4.next < s6.next by omega) hil) (by omega)).mono fun v s7 q => ?_
  obtain ⟨rfl, k7⟩ := q
  have n7 := k7.next
  rw [show sha (xorF 92 (fillF k) ++ inn) = hmac k l by rw [← hin]; rfl]
  have k67 := k6.nil k7
  (repeat(first|refine pSeq ?_|refine pReg ?_|refine sCons ?_|refine sNil ?_|refine rCons ?_|refine rNil ?_|refine kNo ?_|refine pRow ?_|refine pRet ?_|refine gNone ?_))
  refine st_abs (cs' := bytesV (hmac k l)) rfl rfl (k67.blk _ _ (show s.next < s5.next by omega) (by simp) g0) (show s.next < s7.next by omega) (agB_fl (hmac_len k l)) (agB_lay (a := zs20) (hmac_len k l).symm) fun s8 e8 c8 n8 => ?_
  (repeat(first|refine pSeq ?_|refine pReg ?_|refine sCons ?_|refine sNil ?_|refine rCons ?_|refine rNil ?_|refine kNo ?_|refine pRow ?_|refine pRet ?_|refine gNone ?_))
  (repeat (first | with_reducible refine sqRet ?_ | with_reducible refine bkRet ?_ | with_reducible refine hdRet ?_))
  exact ret_cell1 agg_A20 sz_A20 rfl e8 (bytes_take (hmac_len k l)) ⟨rfl, (c0.nil k67).fresh c8 (by simp)⟩
end Go.Vf.S

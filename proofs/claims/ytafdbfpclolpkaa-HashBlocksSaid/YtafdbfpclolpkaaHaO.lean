import Derived.Test.YtafdbfpclolpkaaHaN
/- HashBlocks: from any state. -/
namespace Go.Vf.S
open Go Go.Vf
attribute [local irreducible] wSeq wRow wp wG schd rnds blks blk5 sha fillF hmac
set_option linter.unusedVariables false
set_option linter.unusedSimpArgs false
set_option maxRecDepth 10000

theorem hblocks_w {s : SS} {base : Option Addr} {l0 : List UInt8} {a : UInt8} (f : Fine s) (hr : Slc pr s base l0.length 0 l0) : CallW pr n_law10_HashBlocks [.slice base l0.length 0, .int .u8 a.toNat] s fun v s' => v = .bool true := by
  have ha := a.toNat_lt
  refine CallW.run good ok_law10_HashBlocks (by simp) rfl ?_
  (repeat(first|refine pSeq ?_|refine pReg ?_|refine sCons ?_|refine sNil ?_|refine rCons ?_|refine rNil ?_|refine kNo ?_|refine pRow ?_|refine pRet ?_|refine gNone ?_|refine gOn rfl ?_|refine gOff rfl rfl ?_|refine gTup rfl ?_))
  intro z hz
  (repeat(first|refine pSeq ?_|refine pReg ?_|refine sCons ?_|refine sNil ?_|refine rCons ?_|refine rNil ?_|refine kNo ?_|refine pRow ?_|refine pRet ?_|refine gNone ?_|refine gOn rfl ?_|refine gOff rfl rfl ?_|refine gTup rfl ?_))
  refine slL_same 0 (min l0.length 300) rfl rfl rfl hr rfl (show z = _ by omega) (by omega) fun b1 c1 hs1 hb1 => ?_
  rw [List.drop_zero] at hs1
  generalize hlb : l0.take (min l0.length 300) = l at hs1
  have hn := hs1.1.1
  generalize hnb : min l0.length 300 = n at hs1 hn
  have hn3 : n ≤ 300 := by omega
  clear hz hlb
  (repeat(first|refine pSeq ?_|refine pReg ?_|refine sCons ?_|refine sNil ?_|refine rCons ?_|refine rNil ?_|refine kNo ?_|refine pRow ?_|refine pRet ?_|refine gNone ?_|refine gOn rfl ?_|refine gOff rfl rfl ?_|refine gTup rfl ?_))
  intro z1 hz1
  rw [i64_id (by omega)] at hz1
  subst hz1
  (repeat(first|refine pSeq ?_|refine pReg ?_|refine sCons ?_|refine sNil ?_|refine rCons ?_|refine rNil ?_|refine kNo ?_|refine pRow ?_|refine pRet ?_|refine gNone ?_|refine gOn rfl ?_|refine gOff rfl rfl ?_|refine gTup rfl ?_))
  refine ⟨by omega, ?_⟩
  intro m1 n1 hm1 hn1 cs hcs
  obtain rfl : m1 = a.toNat := by omega
  obtain rfl : n1 = a.toNat := by omega
  rw [rep_bytes] at hcs
  subst hcs
  (repeat(first|refine pSeq ?_|refine pReg ?_|refine sCons ?_|refine sNil ?_|refine rCons ?_|refine rNil ?_|refine kNo ?_|refine pRow ?_|refine pRet ?_|refine gNone ?_|refine gOn rfl ?_|refine gOff rfl rfl ?_|refine gTup rfl ?_))
  obtain ⟨h0, c0, f0⟩ := new1_at f (.cells (bytesV (List.replicate a.toNat 0)) tB false false)
  refine app_full rfl h0 (Nat.lt_succ_self _) (by simp) rfl (hs1.chg c0 (by simp)).1 (by omega) fun b' c' s1 hr1 c1' => ?_
  replace c0 := c0.fresh c1' (by simp)
  have f1 := c0.fine f
  (repeat(first|refine pSeq ?_|refine pReg ?_|refine sCons ?_|refine sNil ?_|refine rCons ?_|refine rNil ?_|refine kNo ?_|refine pRow ?_|refine pRet ?_|refine gNone ?_|refine gOn rfl ?_|refine gOff rfl rfl ?_|refine gTup rfl ?_))
  intro z2 hz2
  rw [i64_id (by omega)] at hz2
  subst hz2
  (repeat(first|refine pSeq ?_|refine pReg ?_|refine sCons ?_|refine sNil ?_|refine rCons ?_|refine rNil ?_|refine kNo ?_|refine pRow ?_|refine pRet ?_|refine gNone ?_|refine gOn rfl ?_|refine gOff rfl rfl ?_|refine gTup rfl ?_))
  refine slL_same a.toNat n rfl rfl rfl hr1 rfl (show _ = _ by rfl) (Nat.le_refl _) fun b2 c2 hs2 hb2 => ?_
  have e : ((List.replicate a.toNat 0 ++ l).drop a.toNat).take n = l := by
    rw [List.drop_append_of_le_length (by simp), List.drop_of_length_le (by simp), List.nil_append, List.take_of_length_le (by omega)]
  rw [e] at hs2
  (repeat(first|refine pSeq ?_|refine pReg ?_|refine sCons ?_|refine sNil ?_|refine rCons ?_|refine rNil ?_|refine kNo ?_|refine pRow ?_|refine pRet ?_|refine gNone ?_|refine gOn rfl ?_|refine gOff rfl rfl ?_|refine gTup rfl ?_))
  obtain ⟨z0, z1, z2⟩ := new1_at f1 (.cells (bytesV zs20) tA20 false false)
  have hs1 := (hs1.chg c0 (by simp)).chg z1 (by simp)
  have hs2 := hs2.chg z1 (by simp)
  refine (sha1_w z2 hs2 (by omega)).mono fun v s2 q => ?_
  obtain ⟨rfl, k2⟩ := q
  have f2 := k2.fine z2
  (repeat(first|refine pSeq ?_|refine pReg ?_|refine sCons ?_|refine sNil ?_|refine rCons ?_|refine rNil ?_|refine kNo ?_|refine pRow ?_|refine pRet ?_|refine gNone ?_|refine gOn rfl ?_|refine gOff rfl rfl ?_|refine gTup rfl ?_))
  refine (sha1_w f2 (hs1.chg k2 (by simp)) (by omega)).mono fun v s3 q => ?_
  obtain ⟨rfl, k3⟩ := q
  have f3 := k3.fine f2
  (repeat(first|refine pSeq ?_|refine pReg ?_|refine sCons ?_|refine sNil ?_|refine rCons ?_|refine rNil ?_|refine kNo ?_|refine pRow ?_|refine pRet ?_|refine gNone ?_|refine gOn rfl ?_|refine gOff rfl rfl ?_|refine gTup rfl ?_))
  refine bin_eql20 rfl rfl (sha_len _) (sha_len _) ?_
  rw [decide_eq_true (rfl : sha l = sha l)]
  (repeat(first|refine pSeq ?_|refine pReg ?_|refine sCons ?_|refine sNil ?_|refine rCons ?_|refine rNil ?_|refine kNo ?_|refine pRow ?_|refine pRet ?_|refine gNone ?_|refine gOn rfl ?_|refine gOff rfl rfl ?_|refine gTup rfl ?_))
  refine mkS_is rfl rfl (rNew f3.at ?_)
  (repeat(first|refine pSeq ?_|refine pReg ?_|refine sCons ?_|refine sNil ?_|refine rCons ?_|refine rNil ?_|refine kNo ?_|refine pRow ?_|refine pRet ?_|refine gNone ?_|refine gOn rfl ?_|refine gOff rfl rfl ?_|refine gTup rfl ?_))
  obtain ⟨x0, x1, x2⟩ := new1_at f3 (.cells (bytesV []) tB false false)
  have hs1 := ((hs1.chg k2 (by simp)).chg k3 (by simp)).chg x1 (by simp)
  have hs2 := ((hs2.chg k2 (by simp)).chg k3 (by simp)).chg x1 (by simp)
  have n2 := k2.next
  replace n2 : s1.next + 1 ≤ s2.next := n2
  have n3 := k3.next
  have z0 := x1.blk _ _ (show s1.next < s3.next by omega) (by simp) (k3.blk _ _ (show s1.next < s2.next by omega) (by simp) (k2.blk _ _ (show s1.next < s1.next + 1 by omega) (by simp) z0))
  have nil0 : ∀ s : SS, Slc pr s none 0 0 [] := fun s => ⟨⟨rfl, rfl⟩, trivial⟩
  refine (hmac_w x2 (nil0 _) hs2 (by omega) (by omega)).mono fun v s4 q => ?_
  obtain ⟨rfl, k4⟩ := q
  have f4 := k4.fine x2
  have n4 := k4.next
  replace n4 : s3.next + 1 ≤ s4.next := n4
  refine kAll (k4.keep x2) ?_
  (repeat(first|refine pSeq ?_|refine pReg ?_|refine sCons ?_|refine sNil ?_|refine rCons ?_|refine rNil ?_|refine kNo ?_|refine pRow ?_|refine pRet ?_|refine gNone ?_|refine gOn rfl ?_|refine gOff rfl rfl ?_|refine gTup rfl ?_))
  refine (hmac_w f4 (cell_slc (k4.blk _ _ (show s3.next < s3.next + 1 by omega) (by simp) x0) (show s3.next < s4.next by omega) (show ([] : List UInt8).length = 0 from rfl)) (hs1.chg k4 (by simp)) (by omega) (by omega)).mono fun v s5 q => ?_
  obtain ⟨rfl, k5⟩ := q
  have f5 := k5.fine f4
  have n5 := k5.next
  (repeat(first|refine pSeq ?_|refine pReg ?_|refine sCons ?_|refine sNil ?_|refine rCons ?_|refine rNil ?_|refine kNo ?_|refine pRow ?_|refine pRet ?_|refine gNone ?_|refine gOn rfl ?_|refine gOff rfl rfl ?_|refine gTup rfl ?_))
  refine bin_eql20 rfl rfl (hmac_len _ _) (hmac_len _ _) ?_
  rw [decide_eq_true (rfl : hmac [] l = hmac [] l)]
  (repeat(first|refine pSeq ?_|refine pReg ?_|refine sCons ?_|refine sNil ?_|refine rCons ?_|refine rNil ?_|refine kNo ?_|refine pRow ?_|refine pRet ?_|refine gNone ?_|refine gOn rfl ?_|refine gOff rfl rfl ?_|refine gTup rfl ?_))
  have z0 := k5.blk _ _ (show s1.next < s4.next by omega) (by simp) (k4.blk _ _ (show s1.next < s3.next + 1 by omega) (by simp) z0)
  refine ldN_is rfl z0 (bytes_take (l := zs20) rfl) ?_
  (repeat(first|refine pSeq ?_|refine pReg ?_|refine sCons ?_|refine sNil ?_|refine rCons ?_|refine rNil ?_|refine kNo ?_|refine pRow ?_|refine pRet ?_|refine gNone ?_|refine gOn rfl ?_|refine gOff rfl rfl ?_|refine gTup rfl ?_))
  refine (sha1_w f5 (nil0 _) (by omega)).mono fun v s6 q => ?_
  obtain ⟨rfl, k6⟩ := q
  have f6 := k6.fine f5
  refine kAll (k6.keep f5) ?_
  (repeat(first|refine pSeq ?_|refine pReg ?_|refine sCons ?_|refine sNil ?_|refine rCons ?_|refine rNil ?_|refine kNo ?_|refine pRow ?_|refine pRet ?_|refine gNone ?_|refine gOn rfl ?_|refine gOff rfl rfl ?_|refine gTup rfl ?_))
  refine bin_neq20 (m := zs20) rfl rfl (sha_len _) rfl ?_
  rw [show decide (sha [] = zs20) = false by rw [sha_nil]; rfl]
  (repeat(first|refine pSeq ?_|refine pReg ?_|refine sCons ?_|refine sNil ?_|refine rCons ?_|refine rNil ?_|refine kNo ?_|refine pRow ?_|refine pRet ?_|refine gNone ?_|refine gOn rfl ?_|refine gOff rfl rfl ?_|refine gTup rfl ?_))
  refine (tells10_w f6).mono fun v s7 q => ?_
  obtain ⟨rfl, k7⟩ := q
  (repeat(first|refine pSeq ?_|refine pReg ?_|refine sCons ?_|refine sNil ?_|refine rCons ?_|refine rNil ?_|refine kNo ?_|refine pRow ?_|refine pRet ?_|refine gNone ?_|refine gOn rfl ?_|refine gOff rfl rfl ?_|refine gTup rfl ?_))
  rfl
end Go.Vf.S

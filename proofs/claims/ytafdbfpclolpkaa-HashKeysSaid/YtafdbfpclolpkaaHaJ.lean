import Derived.Test.YtafdbfpclolpkaaHaI
/- SHA-1 and HMAC: the program. -/
namespace Go.Vf.S
open Go Go.Vf
attribute [local irreducible] wSeq wRow wp wG schd rnds blks blk5
set_option linter.unusedVariables false
set_option linter.unusedSimpArgs false
set_option maxRecDepth 10000

set_option maxHeartbeats 1000000 in
theorem finish_w {s : SS} {x : W5} {base : Option Addr} {n cap ahead : Nat} {l : List UInt8} (f : Fine s) (hr : Slc pr s base n cap l) (ha : ahead % 64 = 0) (hM : ahead + n < 2 ^ 30) :
    CallW pr n_hash_words_finish [x.V, .slice base n cap, .int .u64 ahead] s fun v s' => v = agB (blks ((l ++ endF (ahead + n)).length / 64) x (l ++ endF (ahead + n))).bytes ∧ Chg s s' [] := by
  have hl := hr.1.1
  have hlt := hr.1.lt
  refine CallW.run good ok_hash_words_finish (by simp) rfl ?_
  obtain ⟨h0, h1, c0, f0⟩ := new2_at f (.cells (wdsV x.l) tW5 false false) (.cells (bytesV zs20) tA20 false false)
  have hr0 := hr.chg c0 (by simp)
  (repeat(first|refine pSeq ?_|refine pReg ?_|refine sCons ?_|refine sNil ?_|refine rCons ?_|refine rNil ?_|refine kNo ?_|refine pRow ?_|refine pRet ?_|refine gNone ?_))
  refine ⟨by decide, ?_⟩
  intro z hz
  obtain rfl : z = ((n % 64 : Nat) : Int) := by rw [hz]; exact (Int.ofNat_tmod n 64).symm
  (repeat(first|refine pSeq ?_|refine pReg ?_|refine sCons ?_|refine sNil ?_|refine rCons ?_|refine rNil ?_|refine kNo ?_|refine pRow ?_|refine pRet ?_|refine gNone ?_))
  intro z hz
  obtain rfl : z = ((n / 64 * 64 : Nat) : Int) := by rw [hz, i64_id (by omega)]; omega
  (repeat(first|refine pSeq ?_|refine pReg ?_|refine sCons ?_|refine sNil ?_|refine rCons ?_|refine rNil ?_|refine kNo ?_|refine pRow ?_|refine pRet ?_|refine gNone ?_))
  refine ldN_is rfl h0 (wds_take rfl) ?_
  (repeat(first|refine pSeq ?_|refine pReg ?_|refine sCons ?_|refine sNil ?_|refine rCons ?_|refine rNil ?_|refine kNo ?_|refine pRow ?_|refine pRet ?_|refine gNone ?_))
  refine slL_same 0 (n / 64 * 64) rfl rfl rfl hr0 rfl (show _ = _ by simp) (by omega) fun b1 c1 hs1 hb1 => ?_
  (repeat(first|refine pSeq ?_|refine pReg ?_|refine sCons ?_|refine sNil ?_|refine rCons ?_|refine rNil ?_|refine kNo ?_|refine pRow ?_|refine pRet ?_|refine gNone ?_))
  refine slL_same (n / 64 * 64) (n % 64) rfl rfl rfl hr0 rfl (show _ = _ by omega) (by omega) fun b2 c2 hs2 hb2 => ?_
  (repeat(first|refine pSeq ?_|refine pReg ?_|refine sCons ?_|refine sNil ?_|refine rCons ?_|refine rNil ?_|refine kNo ?_|refine pRow ?_|refine pRet ?_|refine gNone ?_))
  intro z hz
  obtain rfl : z = (n : Int) := by rw [hz, wrap_u64]; omega
  (repeat(first|refine pSeq ?_|refine pReg ?_|refine sCons ?_|refine sNil ?_|refine rCons ?_|refine rNil ?_|refine kNo ?_|refine pRow ?_|refine pRet ?_|refine gNone ?_))
  intro z hz
  obtain rfl : z = ((ahead + n : Nat) : Int) := by rw [hz, wrap_u64]; omega
  (repeat(first|refine pSeq ?_|refine pReg ?_|refine sCons ?_|refine sNil ?_|refine rCons ?_|refine rNil ?_|refine kNo ?_|refine pRow ?_|refine pRet ?_|refine gNone ?_))
  refine (take10_w (m := n / 64) f0 hs1 (by omega)).mono fun v s1 q => ?_
  obtain ⟨rfl, k1⟩ := q
  have f1 := k1.fine f0
  have n1 := k1.next
  replace n1 : s.next + 1 + 1 ≤ s1.next := n1
  refine kAll (k1.keep f0) ?_
  (repeat(first|refine pSeq ?_|refine pReg ?_|refine sCons ?_|refine sNil ?_|refine rCons ?_|refine rNil ?_|refine kNo ?_|refine pRow ?_|refine pRet ?_|refine gNone ?_))
  refine (ending_w (many := ahead + n) f1 (hs2.chg k1 (by simp)) (by omega) (by omega) (by omega)).mono fun v s2 q => ?_
  obtain ⟨b, rfl, r2, hb, k2⟩ := q
  have f2 := k2.fine f1
  have n2 := k2.next
  (repeat(first|refine pSeq ?_|refine pReg ?_|refine sCons ?_|refine sNil ?_|refine rCons ?_|refine rNil ?_|refine kNo ?_|refine pRow ?_|refine pRet ?_|refine gNone ?_))
  have hl2 : ((l.drop (n / 64 * 64)).take (n % 64) ++ endF (ahead + n)).length = n % 64 + 9 + zrs (ahead + n) := by
    rw [List.length_append, List.length_take, List.length_drop, endF_len]; omega
  have hs := r2.slc
  rw [hl2] at hs
  have hz9 : (n % 64 + 9 + zrs (ahead + n)) % 64 = 0 := by
    unfold zrs; omega
  refine (take10_w (m := (n % 64 + 9 + zrs (ahead + n)) / 64) f2 hs (by omega)).mono fun v s3 q => ?_
  obtain ⟨rfl, k3⟩ := q
  have f3 := k3.fine f2
  have n3 := k3.next
  (repeat(first|refine pSeq ?_|refine pReg ?_|refine sCons ?_|refine sNil ?_|refine rCons ?_|refine rNil ?_|refine kNo ?_|refine pRow ?_|refine pRet ?_|refine gNone ?_))
  have e : blks ((n % 64 + 9 + zrs (ahead + n)) / 64) (blks (n / 64) x ((l.drop 0).take (n / 64 * 64))) ((l.drop (n / 64 * 64)).take (n % 64) ++ endF (ahead + n)) = blks ((l ++ endF (ahead + n)).length / 64) x (l ++ endF (ahead + n)) := by
    rw [← blks_app _ _ _ _ _ (by rw [List.length_take, List.length_drop]; omega), ← List.append_assoc, List.drop_zero, List.take_of_length_le (l := l.drop (n / 64 * 64)) (by rw [List.length_drop]; omega), List.take_append_drop]
    congr 1
    rw [List.length_append, endF_len]
    omega
  rw [e]
  generalize blks ((l ++ endF (ahead + n)).length / 64) x (l ++ endF (ahead + n)) = y
  refine (bytes5_w f3).mono fun v s4 q => ?_
  obtain ⟨rfl, k4⟩ := q
  have n4 := k4.next
  have k := ((k1.nil k2).nil k3).nil k4
  (repeat(first|refine pSeq ?_|refine pReg ?_|refine sCons ?_|refine sNil ?_|refine rCons ?_|refine rNil ?_|refine kNo ?_|refine pRow ?_|refine pRet ?_|refine gNone ?_))
  refine st_abs (cs' := bytesV y.bytes) rfl rfl (k.blk _ _ (show s.next + 1 < s.next + 1 + 1 by omega) (by simp) h1) (show s.next + 1 < s4.next by omega) (agB_fl (bytes5_len y)) (agB_lay (a := zs20) rfl) fun s5 e5 k5 n5 => ?_
  (repeat(first|refine pSeq ?_|refine pReg ?_|refine sCons ?_|refine sNil ?_|refine rCons ?_|refine rNil ?_|refine kNo ?_|refine pRow ?_|refine pRet ?_|refine gNone ?_))
  (repeat (first | with_reducible refine sqRet ?_ | with_reducible refine bkRet ?_ | with_reducible refine hdRet ?_))
  exact ret_cell1 agg_A20 sz_A20 rfl e5 (bytes_take (bytes5_len y)) ⟨rfl, (c0.nil k).fresh k5 (by simp)⟩

theorem sha1_w {s : SS} {base : Option Addr} {n cap : Nat} {l : List UInt8} (f : Fine s) (hr : Slc pr s base n cap l) (hM : n < 2 ^ 30) : CallW pr n_hash_Sha1 [.slice base n cap] s fun v s' => v = agB (sha l) ∧ Chg s s' [] := by
  have hl := hr.1.1
  refine CallW.run good ok_hash_Sha1 (by simp) rfl ?_
  obtain ⟨h0, c0, f0⟩ := new1_at f (.cells (bytesV zs20) tA20 false false)
  (repeat(first|refine pSeq ?_|refine pReg ?_|refine sCons ?_|refine sNil ?_|refine pRet ?_|refine gNone ?_))
  refine (start10_w f0).mono fun v s1 q => ?_
  obtain ⟨rfl, k1⟩ := q
  have n1 := k1.next
  replace n1 : s.next + 1 ≤ s1.next := n1
  have f1 := k1.fine f0
  (repeat(first|refine pSeq ?_|refine pReg ?_|refine sCons ?_|refine sNil ?_|refine pRet ?_|refine gNone ?_))
  refine (finish_w (ahead := 0) f1 ((hr.chg c0 (by simp)).chg k1 (by simp)) rfl (by omega)).mono fun v s2 q => ?_
  obtain ⟨rfl, k2⟩ := q
  have n2 := k2.next
  rw [Nat.zero_add, show blks ((l ++ endF n).length / 64) ini5 (l ++ endF n) = sha5 l by rw [hl]; rfl]
  have k := k1.nil k2
  (repeat(first|refine pSeq ?_|refine pReg ?_|refine sCons ?_|refine sNil ?_|refine pRet ?_|refine gNone ?_))
  refine st_abs (cs' := bytesV (sha l)) rfl rfl (k.blk _ _ (show s.next < s.next + 1 by omega) (by simp) h0) (show s.next < s2.next by omega) (agB_fl (sha_len l)) (agB_lay (a := zs20) rfl) fun s3 e3 k3 n3 => ?_
  (repeat(first|refine pSeq ?_|refine pReg ?_|refine sCons ?_|refine sNil ?_|refine pRet ?_|refine gNone ?_))
  (repeat (first | with_reducible refine sqRet ?_ | with_reducible refine bkRet ?_ | with_reducible refine hdRet ?_))
  exact ret_cell1 agg_A20 sz_A20 rfl e3 (bytes_take (sha_len l)) ⟨rfl, (c0.nil k).fresh k3 (by simp)⟩

theorem toInt8 (x : UInt8) : BitVec.ofInt 8 (x.toNat : Int) = x.toBitVec := by
  apply BitVec.eq_of_toNat_eq
  have := x.toNat_lt
  rw [BitVec.toNat_ofInt, UInt8.toNat_toBitVec]
  omega
theorem xor_u8 (x y : UInt8) : IntKind.wrap .u8 ((BitVec.ofInt IntKind.u8.bits (x.toNat : Int) ^^^ BitVec.ofInt IntKind.u8.bits (y.toNat : Int)).toNat : Int) = ((x ^^^ y).toNat : Int) := by
  show IntKind.wrap .u8 ((BitVec.ofInt 8 (x.toNat : Int) ^^^ BitVec.ofInt 8 (y.toNat : Int)).toNat : Int) = _
  rw [toInt8, toInt8, ← UInt8.toBitVec_xor, UInt8.toNat_toBitVec]
  exact byte_id _
abbrev tA64 : TypeId := 42
theorem agg_A64 : aggB pr tA64 = some true := by kernel_rfl
theorem sz_A64 : sizeB pr tA64 = some 64 := by kernel_rfl
def zs64 : List UInt8 := List.replicate 64 0

/-- A block of bytes of one's own, cut as a whole. -/
theorem cell_slc {s : SS} {b : Nat} {t : TypeId} {l : List UInt8} {n : Nat} (h : lookH s.heap b = some (.cells (bytesV l) t false false)) (hb : b < s.next) (hl : l.length = n) : Slc pr s (some ⟨b, 0, none⟩) n n l := by
  subst hl
  exact ⟨⟨rfl, rfl, hb, _, _, _, _, h, bytes_take rfl, bytesV_plain _⟩, _, _, _, _, h, fun q => (by cases q), fun _ => Nat.le_refl _⟩

theorem padded_w {s : SS} {l : List UInt8} {c : UInt8} (f : Fine s) (hl : l.length = 64) : CallW pr n_hash_padded [agB l, .int .u8 c.toNat] s fun v s' => v = agB (xorF c l) ∧ Chg s s' [] := by
  refine CallW.run good ok_hash_padded (by simp) rfl ?_
  obtain ⟨h0, h1, c0, f0⟩ := new2_at f (.cells (bytesV l) tA64 false false) (.cells (bytesV zs64) tA64 false false)
  (repeat(first|refine pSeq ?_|refine pReg ?_|refine sCons ?_|refine sNil ?_|refine pBlock ?_|refine pSkip ?_|refine pExit ?_|refine pRet ?_|refine pCond ?_|refine gNone ?_))
  refine pLoop (MW.head good (fun p : Nat × SS => 64 - p.1) (fun p => p.1 ≤ 64 ∧ lookH p.2.heap s.next = some (.cells (bytesV (mixI (fun _ x => x ^^^ c) l p.1)) tA64 false false) ∧ lookH p.2.heap (s.next + 1) = some (.cells (bytesV zs64) tA64 false false) ∧ Chg s p.2 [] ∧ p.2.next = s.next + 1 + 1)
    (fun p => [(1, .int .u8 c.toNat), (2, ptrV s.next), (4, ptrV (s.next + 1)), (6, .int .i64 p.1)]) (fun p => p.2) (0, _) ⟨Nat.zero_le _, by rw [mixI_0]; exact h0, h1, c0, rfl⟩ (Wk.same ⟨rfl, rfl, rfl, rfl, trivial⟩) ?_)
  clear h0 h1 c0 f0
  intro ⟨p, s1⟩ ⟨hp, h0, h1, c0, n1⟩
  dsimp only at hp h0 h1 c0 n1 ⊢
  have hml := mixI_len (fun _ x => x ^^^ c) l p
  (repeat(first|refine pSeq ?_|refine pReg ?_|refine sCons ?_|refine sNil ?_|refine pBlock ?_|refine pSkip ?_|refine pExit ?_|refine pRet ?_|refine pCond ?_|refine gNone ?_))
  intro q hq
  by_cases h5 : p = 64
  · subst h5
    obtain rfl : q = false := by rw [hq]; simp <;> omega
    rw [mixI_end (by omega), mapIdx_const] at h0
    have hx : (xorF c l).length = 64 := by unfold xorF; rw [List.length_map, hl]
    (repeat(first|refine pSeq ?_|refine pReg ?_|refine sCons ?_|refine sNil ?_|refine pBlock ?_|refine pSkip ?_|refine pExit ?_|refine pRet ?_|refine pCond ?_|refine gNone ?_))
    refine ldN_is rfl h0 (bytes_take hx) ?_
    (repeat(first|refine pSeq ?_|refine pReg ?_|refine sCons ?_|refine sNil ?_|refine pBlock ?_|refine pSkip ?_|refine pExit ?_|refine pRet ?_|refine pCond ?_|refine gNone ?_))
    refine st_abs (cs' := bytesV (xorF c l)) rfl rfl h1 (by omega) (agB_fl hx) (agB_lay (a := zs64) hx.symm) fun s2 e2 c2 n2 => ?_
    (repeat(first|refine pSeq ?_|refine pReg ?_|refine sCons ?_|refine sNil ?_|refine pBlock ?_|refine pSkip ?_|refine pExit ?_|refine pRet ?_|refine pCond ?_|refine gNone ?_))
    (repeat (first | with_reducible refine sqRet ?_ | with_reducible refine bkRet ?_ | with_reducible refine hdRet ?_))
    exact ret_cell1 agg_A64 sz_A64 rfl e2 (bytes_take hx) ⟨rfl, c0.fresh c2 (by simp)⟩
  · obtain rfl : q = true := by rw [hq]; simp <;> omega
    (repeat(first|refine pSeq ?_|refine pReg ?_|refine sCons ?_|refine sNil ?_|refine pBlock ?_|refine pSkip ?_|refine pExit ?_|refine pRet ?_|refine pCond ?_|refine gNone ?_))
    obtain ⟨x, hx⟩ : ∃ x, l[p]? = some x := ⟨_, List.getElem?_eq_getElem (by omega)⟩
    refine ⟨by omega, ?_⟩
    intro m hm o ho
    obtain rfl : m = p := by omega
    obtain rfl : o = m := by omega
    (repeat(first|refine pSeq ?_|refine pReg ?_|refine sCons ?_|refine sNil ?_|refine pBlock ?_|refine pSkip ?_|refine pExit ?_|refine pRet ?_|refine pCond ?_|refine gNone ?_))
    refine ldI_is rfl h0 (bytes_get (mixI_at hx)) ?_
    (repeat(first|refine pSeq ?_|refine pReg ?_|refine sCons ?_|refine sNil ?_|refine pBlock ?_|refine pSkip ?_|refine pExit ?_|refine pRet ?_|refine pCond ?_|refine gNone ?_))
    intro z hz
    rw [xor_u8] at hz
    subst hz
    (repeat(first|refine pSeq ?_|refine pReg ?_|refine sCons ?_|refine sNil ?_|refine pBlock ?_|refine pSkip ?_|refine pExit ?_|refine pRet ?_|refine pCond ?_|refine gNone ?_))
    refine ⟨by omega, ?_⟩
    intro m1 hm1 o1 ho1
    obtain rfl : m1 = o := by omega
    obtain rfl : o1 = m1 := by omega
    (repeat(first|refine pSeq ?_|refine pReg ?_|refine sCons ?_|refine sNil ?_|refine pBlock ?_|refine pSkip ?_|refine pExit ?_|refine pRet ?_|refine pCond ?_|refine gNone ?_))
    refine st_abs (cs' := bytesV (mixI (fun _ x => x ^^^ c) l (o1 + 1))) rfl rfl h0 (by omega) rfl (by rw [mixI_next hx]; exact bytes_set (by omega) _) fun s2 e2 c2 n2 => ?_
    (repeat(first|refine pSeq ?_|refine pReg ?_|refine sCons ?_|refine sNil ?_|refine pBlock ?_|refine pSkip ?_|refine pExit ?_|refine pRet ?_|refine pCond ?_|refine gNone ?_))
    intro z hz
    rw [i64_id (by omega)] at hz
    subst hz
    (repeat(first|refine pSeq ?_|refine pReg ?_|refine sCons ?_|refine sNil ?_|refine pBlock ?_|refine pSkip ?_|refine pExit ?_|refine pRet ?_|refine pCond ?_|refine gNone ?_))
    exact ⟨(o1 + 1, s2), ⟨by omega, e2, c2.blk _ _ (by omega) (by simp) h1, c0.fresh c2 (by simp), n2.trans n1⟩, by show 64 - (o1 + 1) < 64 - o1; omega, Wk.same ⟨rfl, rfl, rfl, rfl, trivial⟩⟩
end Go.Vf.S

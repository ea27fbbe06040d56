import Derived.Test.YtafdbfpclolpkaaHaR
/- SHA-1: the document's. -/
namespace Go.Vf.S
open Go Go.Vf
attribute [local irreducible] wSeq wRow wp wG schd rnds blks blk5 rowW wPart nxt wOf be8b outL
set_option linter.unusedVariables false
set_option linter.unusedSimpArgs false
set_option maxRecDepth 10000

abbrev tH5 : TypeId := 35
theorem mixW_0 (x y : List Wd) : mixW x y 0 = x := rfl
theorem schd_fr (l : List UInt8) (n : Nat) : schd ((l.drop n).take 64) 80 = schd (l.drop n) 80 := schd_64 _
theorem fT_1 {t : Nat} (h : t < 20) (b c d : Wd) : fT t b c d = b &&& c ||| ~~~ b &&& d := by unfold fT; rw [if_pos h]; rfl
theorem fT_2 {t : Nat} (h : 60 ≤ t) (b c d : Wd) : fT t b c d = b ^^^ c ^^^ d := by unfold fT; rw [if_neg (by omega), if_neg (by omega), if_neg (by omega)]; rfl
theorem fT_3 {t : Nat} (h : 40 ≤ t ∧ t < 60) (b c d : Wd) : fT t b c d = b &&& c ||| b &&& d ||| c &&& d := by unfold fT; rw [if_neg (by omega), if_neg (by omega), if_pos (by omega)]; rfl
theorem fT_4 {t : Nat} (h : 20 ≤ t ∧ t < 40) (b c d : Wd) : fT t b c d = b ^^^ c ^^^ d := by unfold fT; rw [if_neg (by omega), if_pos (by omega)]; rfl
theorem kT_1 {t : Nat} (h : t < 20) : kT t = 0x5a827999 := by unfold kT; rw [if_pos h]
theorem kT_2 {t : Nat} (h : 60 ≤ t) : kT t = 0xca62c1d6 := by unfold kT; rw [if_neg (by omega), if_neg (by omega), if_neg (by omega)]
theorem kT_3 {t : Nat} (h : 40 ≤ t ∧ t < 60) : kT t = 0x8f1bbcdc := by unfold kT; rw [if_neg (by omega), if_neg (by omega), if_pos (by omega)]
theorem kT_4 {t : Nat} (h : 20 ≤ t ∧ t < 40) : kT t = 0x6ed9eba1 := by unfold kT; rw [if_neg (by omega), if_pos (by omega)]

/-- What lies there while blocks are gone through. -/
structure RBk (s0 s : SS) (rb ab hb : Nat) (P : List UInt8) (x : W5) : Prop where
  res : lookH s.heap rb = some (.cells (bytesV zs20) tA20 false false)
  all : Own tB s (some ⟨ab, 0, none⟩) P
  h : lookH s.heap hb = some (.cells (wdsV x.l) tH5 false false)
  chg : Chg s0 s []
  fine : Fine s
  r0 : s0.next ≤ rb
  r1 : rb < s.next
  h0 : s0.next ≤ hb
  h1 : hb < s.next
  ra : rb ≠ ab
  rh : rb ≠ hb
  ah : ab ≠ hb
theorem RBk.step {s0 s s' : SS} {rb ab hb : Nat} {P : List UInt8} {x : W5} {A : List Nat} (b : RBk s0 s rb ab hb P x) (c : Chg s s' A) (hA : ∀ id ∈ A, s0.next ≤ id ∧ id ≠ rb ∧ id ≠ ab ∧ id ≠ hb) : RBk s0 s' rb ab hb P x :=
  ⟨c.blk _ _ b.r1 (fun q => (hA _ q).2.1 rfl) b.res, b.all.chg c (fun id h q => by simp [blkOf] at h; subst h; exact (hA _ q).2.2.1 rfl), c.blk _ _ b.h1 (fun q => (hA _ q).2.2.2 rfl) b.h, b.chg.fresh c (fun id q => (hA id q).1), c.fine b.fine,
    b.r0, Nat.lt_of_lt_of_le b.r1 c.next, b.h0, Nat.lt_of_lt_of_le b.h1 c.next, b.ra, b.rh, b.ah⟩
theorem RBk.alt {s0 s : SS} {rb ab hb : Nat} {P : List UInt8} {x : W5} (b : RBk s0 s rb ab hb P x) : ab < s.next := b.all.lt _ (by simp [blkOf])

set_option maxHeartbeats 4000000 in
theorem rsha1_w {s : SS} {base : Option Addr} {n cap : Nat} {l : List UInt8} (f : Fine s) (hr : Rdb s base n l) (hM : n ≤ 900000) : CallW pr n_ref10_Sha1 [.slice base n cap] s fun v s' => v = agB (sha l) ∧ Chg s s' [] := by
  have hl := hr.1
  have hz : zrs n < 64 := by unfold zrs; omega
  refine CallW.run good ok_ref10_Sha1 (by simp) rfl ?_
  obtain ⟨h0, c0, f0⟩ := new1_at f (.cells (bytesV zs20) tA20 false false)
  (repeat(first|refine pSeq ?_|refine pReg ?_|refine sCons ?_|refine sNil ?_|refine rCons ?_|refine rNil ?_|refine kNo ?_|refine pRow ?_|refine pBlock ?_|refine pSkip ?_|refine pExit ?_|refine pRet ?_|refine pCond ?_|refine gNone ?_))
  refine app_none rfl rfl (hr.chg c0 (by simp)) (by omega) (fun _ h => h) fun b1 s1 o1 i1 c1 => ?_
  replace i1 : ∀ id ∈ blkOf b1, s.next + 1 ≤ id := i1
  replace h0 := c1.blk _ _ (show s.next < s.next + 1 by omega) (by simp) h0
  replace c0 := c0.nil c1
  have n1 := c1.next
  replace n1 : s.next + 1 ≤ s1.next := n1
  (repeat(first|refine pSeq ?_|refine pReg ?_|refine sCons ?_|refine sNil ?_|refine rCons ?_|refine rNil ?_|refine kNo ?_|refine pRow ?_|refine pBlock ?_|refine pSkip ?_|refine pExit ?_|refine pRet ?_|refine pCond ?_|refine gNone ?_))
  refine app_mine1 (c := 0x80) o1 rfl hl rfl rfl (by omega) fun s2 o2 c2 n2 => ?_
  replace h0 := c2.blk _ _ (show s.next < s1.next by omega) (fun h => by have := i1 _ h; omega) h0
  replace c0 := c0.trans' (C := []) c2 (by simp) (fun id h hlt => absurd (i1 id h) (by omega))
  (repeat(first|refine pSeq ?_|refine pReg ?_|refine sCons ?_|refine sNil ?_|refine rCons ?_|refine rNil ?_|refine kNo ?_|refine pRow ?_|refine pBlock ?_|refine pSkip ?_|refine pExit ?_|refine pRet ?_|refine pCond ?_|refine gNone ?_))
  refine pLoop (MW.head good (fun p : Nat × Nat × SS => zrs n - p.1) (fun p => p.1 ≤ zrs n ∧ s.next < p.2.1 ∧ Own tB p.2.2 (some ⟨p.2.1, 0, none⟩) (l ++ [0x80] ++ List.replicate p.1 0) ∧ lookH p.2.2.heap s.next = some (.cells (bytesV zs20) tA20 false false) ∧ Chg s p.2.2 [])
    (fun p => [(0, .slice base n cap), (2, ptrV s.next), (3, .slice (some ⟨p.2.1, 0, none⟩) (n + 1 + p.1) 0)]) (fun p => p.2.2) (0, _, s2) ⟨Nat.zero_le _, by show s.next < s1.next + 1; omega, by simpa using o2, h0, c0⟩ (Wk.same ⟨rfl, rfl, rfl, trivial⟩) ?_)
  clear h0 c0 f0 o1 i1 c1 n1 o2 c2 n2
  intro ⟨k, b, s3⟩ ⟨hk, hb, o3, h3, c3⟩
  dsimp only at hk hb o3 h3 c3 ⊢
  have hlen : (l ++ [0x80] ++ List.replicate k 0).length = n + 1 + k := by simp; omega
  (repeat(first|refine pSeq ?_|refine pReg ?_|refine sCons ?_|refine sNil ?_|refine rCons ?_|refine rNil ?_|refine kNo ?_|refine pRow ?_|refine pBlock ?_|refine pSkip ?_|refine pExit ?_|refine pRet ?_|refine pCond ?_|refine gNone ?_))
  refine ⟨by decide, ?_⟩
  intro z hz
  obtain rfl : z = (((n + 1 + k) % 64 : Nat) : Int) := by rw [hz]; exact (Int.ofNat_tmod (n + 1 + k) 64).symm
  (repeat(first|refine pSeq ?_|refine pReg ?_|refine sCons ?_|refine sNil ?_|refine rCons ?_|refine rNil ?_|refine kNo ?_|refine pRow ?_|refine pBlock ?_|refine pSkip ?_|refine pExit ?_|refine pRet ?_|refine pCond ?_|refine gNone ?_))
  intro q hq
  by_cases h5 : k = zrs n
  rotate_left
  · obtain rfl : q = true := by
      rw [hq]
      unfold zrs at h5 hk
      simp
      omega
    (repeat(first|refine pSeq ?_|refine pReg ?_|refine sCons ?_|refine sNil ?_|refine rCons ?_|refine rNil ?_|refine kNo ?_|refine pRow ?_|refine pBlock ?_|refine pSkip ?_|refine pExit ?_|refine pRet ?_|refine pCond ?_|refine gNone ?_))
    refine app_mine1 (c := 0) o3 rfl hlen.symm rfl rfl (by omega) fun s4 o4 c4 n4 => ?_
    (repeat(first|refine pSeq ?_|refine pReg ?_|refine sCons ?_|refine sNil ?_|refine rCons ?_|refine rNil ?_|refine kNo ?_|refine pRow ?_|refine pBlock ?_|refine pSkip ?_|refine pExit ?_|refine pRet ?_|refine pCond ?_|refine gNone ?_))
    have hb3 := o3.lt b (by simp [blkOf])
    exact ⟨(k + 1, s3.next + 1, s4), ⟨by omega, by show s.next < s3.next + 1; omega, by rw [List.replicate_succ', ← List.append_assoc]; exact o4, c4.blk _ _ (by omega) (by simp [blkOf]; omega) h3, c3.trans' c4 (by simp) (by simp [blkOf]; omega)⟩, by show zrs n - (k + 1) < zrs n - k; omega, Wk.same ⟨rfl, rfl, rfl, trivial⟩⟩
  obtain rfl : q = false := by
    rw [hq]
    unfold zrs at h5
    simp
    omega
  subst h5
  clear hq
  (repeat(first|refine pSeq ?_|refine pReg ?_|refine sCons ?_|refine sNil ?_|refine rCons ?_|refine rNil ?_|refine kNo ?_|refine pRow ?_|refine pBlock ?_|refine pSkip ?_|refine pExit ?_|refine pRet ?_|refine pCond ?_|refine gNone ?_))
  intro z hz
  obtain rfl : z = ((8 * n : Nat) : Int) := by rw [hz, i64_id (by omega)]; omega
  (repeat(first|refine pSeq ?_|refine pReg ?_|refine sCons ?_|refine sNil ?_|refine rCons ?_|refine rNil ?_|refine kNo ?_|refine pRow ?_|refine pBlock ?_|refine pSkip ?_|refine pExit ?_|refine pRet ?_|refine pCond ?_|refine gNone ?_))
  have f3 := c3.fine f
  have hb3 := o3.lt b (by simp [blkOf])
  refine ⟨by decide, ?_⟩
  intro m1 n1 hm1 hn1 cs hcs
  obtain rfl : m1 = 8 := by omega
  obtain rfl : n1 = 8 := by omega
  rw [rep_bytes] at hcs
  subst hcs
  (repeat(first|refine pSeq ?_|refine pReg ?_|refine sCons ?_|refine sNil ?_|refine rCons ?_|refine rNil ?_|refine kNo ?_|refine pRow ?_|refine pBlock ?_|refine pSkip ?_|refine pExit ?_|refine pRet ?_|refine pCond ?_|refine gNone ?_))
  obtain ⟨k0, k1, k2⟩ := new1_at f3 (.cells (bytesV (List.replicate 8 0)) tB false false)
  refine pLoop (MW.head good (fun p : Nat × SS => 8 - p.1) (fun p => p.1 ≤ 8 ∧ Own tB p.2 (some ⟨b, 0, none⟩) (l ++ [0x80] ++ List.replicate (zrs n) 0) ∧ lookH p.2.heap s.next = some (.cells (bytesV zs20) tA20 false false) ∧ lookH p.2.heap s3.next = some (.cells (bytesV (be8b (8 * n) p.1)) tB false false) ∧ Chg s p.2 [] ∧ p.2.next = s3.next + 1)
    (fun p => [(2, ptrV s.next), (3, .slice (some ⟨b, 0, none⟩) (n + 1 + zrs n) 0), (4, .int .i64 ((8 * n / 256 ^ p.1 : Nat) : Int)), (5, .slice (some ⟨s3.next, 0, none⟩) 8 8), (6, .int .i64 (7 - (p.1 : Int)))]) (fun p => p.2) (0, _)
    ⟨Nat.zero_le _, o3.chg k1 (by simp), k1.blk _ _ (by omega) (by simp) h3, by rw [be8b_0]; exact k0, c3.nil k1, rfl⟩ (Wk.same ⟨rfl, rfl, by show _ = some (Value.int .i64 ((8 * n / 256 ^ 0 : Nat) : Int)); rw [Nat.pow_zero, Nat.div_one]; rfl, rfl, rfl, trivial⟩) ?_)
  clear k0 k1 k2
  intro ⟨p, s4⟩ ⟨hp, o4, h4, g4, c4, n4⟩
  dsimp only at hp o4 h4 g4 c4 n4 ⊢
  (repeat(first|refine pSeq ?_|refine pReg ?_|refine sCons ?_|refine sNil ?_|refine rCons ?_|refine rNil ?_|refine kNo ?_|refine pRow ?_|refine pBlock ?_|refine pSkip ?_|refine pExit ?_|refine pRet ?_|refine pCond ?_|refine gNone ?_))
  intro q hq
  by_cases h6 : p = 8
  rotate_left
  · obtain rfl : q = true := by rw [hq]; simp <;> omega
    (repeat(first|refine pSeq ?_|refine pReg ?_|refine sCons ?_|refine sNil ?_|refine rCons ?_|refine rNil ?_|refine kNo ?_|refine pRow ?_|refine pBlock ?_|refine pSkip ?_|refine pExit ?_|refine pRet ?_|refine pCond ?_|refine gNone ?_))
    have e7 : (7 - (p : Int)) = ((7 - p : Nat) : Int) := by omega
    refine ⟨by decide, ?_⟩
    intro z hz
    (repeat(first|refine pSeq ?_|refine pReg ?_|refine sCons ?_|refine sNil ?_|refine rCons ?_|refine rNil ?_|refine kNo ?_|refine pRow ?_|refine pBlock ?_|refine pSkip ?_|refine pExit ?_|refine pRet ?_|refine pCond ?_|refine gNone ?_))
    intro z1 hz1
    rw [low_byte hz] at hz1
    subst hz1
    (repeat(first|refine pSeq ?_|refine pReg ?_|refine sCons ?_|refine sNil ?_|refine rCons ?_|refine rNil ?_|refine kNo ?_|refine pRow ?_|refine pBlock ?_|refine pSkip ?_|refine pExit ?_|refine pRet ?_|refine pCond ?_|refine gNone ?_))
    refine ⟨by omega, ?_⟩
    intro m hm o ho
    obtain rfl : m = 7 - p := by omega
    obtain rfl : o = 7 - p := by omega
    (repeat(first|refine pSeq ?_|refine pReg ?_|refine sCons ?_|refine sNil ?_|refine rCons ?_|refine rNil ?_|refine kNo ?_|refine pRow ?_|refine pBlock ?_|refine pSkip ?_|refine pExit ?_|refine pRet ?_|refine pCond ?_|refine gNone ?_))
    refine st_abs (cs' := bytesV (be8b (8 * n) (p + 1))) rfl rfl g4 (by omega) rfl (by rw [be8b_next _ (by omega)]; exact bytes_set (by rw [be8b_len _ hp]; omega) _) fun s5 g5 c5 n5 => ?_
    (repeat(first|refine pSeq ?_|refine pReg ?_|refine sCons ?_|refine sNil ?_|refine rCons ?_|refine rNil ?_|refine kNo ?_|refine pRow ?_|refine pBlock ?_|refine pSkip ?_|refine pExit ?_|refine pRet ?_|refine pCond ?_|refine gNone ?_))
    refine ⟨by decide, ?_⟩
    intro z hz
    have hlt : 8 * n / 256 ^ p < 2 ^ 40 := Nat.lt_of_le_of_lt (Nat.div_le_self _ _) (by omega)
    obtain rfl : z = ((8 * n / 256 ^ (p + 1) : Nat) : Int) := by
      rw [hz, show ((8 * n / 256 ^ p : Nat) : Int).tdiv 256 = ((8 * n / 256 ^ p / 256 : Nat) : Int) from (Int.ofNat_tdiv _ 256).symm, Nat.div_div_eq_div_mul, ← Nat.pow_succ]
      refine i64_id ?_
      have hw : 8 * n / 256 ^ (p + 1) ≤ 8 * n := Nat.div_le_self _ _
      generalize 8 * n / 256 ^ (p + 1) = w at hw ⊢
      omega
    (repeat(first|refine pSeq ?_|refine pReg ?_|refine sCons ?_|refine sNil ?_|refine rCons ?_|refine rNil ?_|refine kNo ?_|refine pRow ?_|refine pBlock ?_|refine pSkip ?_|refine pExit ?_|refine pRet ?_|refine pCond ?_|refine gNone ?_))
    intro z hz
    obtain rfl : z = 7 - ((p + 1 : Nat) : Int) := by rw [hz, i64_id (by omega)]; omega
    (repeat(first|refine pSeq ?_|refine pReg ?_|refine sCons ?_|refine sNil ?_|refine rCons ?_|refine rNil ?_|refine kNo ?_|refine pRow ?_|refine pBlock ?_|refine pSkip ?_|refine pExit ?_|refine pRet ?_|refine pCond ?_|refine gNone ?_))
    exact ⟨(p + 1, s5), ⟨by omega, o4.chg c5 (by simp [blkOf]; omega), c5.blk _ _ (by omega) (by simp; omega) h4, g5, c4.fresh c5 (by simp; exact c3.next), n5.trans n4⟩, by show 8 - (p + 1) < 8 - p; omega, Wk.same ⟨rfl, rfl, rfl, rfl, rfl, trivial⟩⟩
  subst h6
  obtain rfl : q = false := by rw [hq]; simp <;> omega
  (repeat(first|refine pSeq ?_|refine pReg ?_|refine sCons ?_|refine sNil ?_|refine rCons ?_|refine rNil ?_|refine kNo ?_|refine pRow ?_|refine pBlock ?_|refine pSkip ?_|refine pExit ?_|refine pRet ?_|refine pCond ?_|refine gNone ?_))
  rw [be8b_8] at g4
  have hlz : (l ++ [0x80] ++ List.replicate (zrs n) 0).length = n + 1 + zrs n := hlen
  refine app_mine o4 hlz.symm rfl rfl (cell_slc g4 (by omega) (be8_len (8 * n))).1 (by omega) (by omega) fun s5 o5 c5 n5 => ?_
  rw [show l ++ [0x80] ++ List.replicate (zrs n) 0 ++ be8 (8 * n) = padF l by
    unfold padF endF
    rw [← hl]
    simp only [List.append_assoc, List.cons_append, List.nil_append]] at o5
  replace h4 := c5.blk _ _ (by omega) (by simp [blkOf]; omega) h4
  replace c5 := c4.trans' (C := []) c5 (by simp) (by simp [blkOf]; omega)
  have f5 := c5.fine f
  obtain ⟨M, hM4⟩ : ∃ M, n + 1 + zrs n + 8 = 64 * M := ⟨(n + 1 + zrs n + 8) / 64, by unfold zrs; omega⟩
  have hpl : (padF l).length = 64 * M := by rw [padF_len, ← hl]; omega
  have eM : (padF l).length / 64 = M := by omega
  rw [hM4]
  have eS : sha l = (blks M ini5 (padF l)).bytes := by
    rw [show sha l = (blks ((padF l).length / 64) ini5 (padF l)).bytes from rfl, eM]
  rw [eS]
  generalize padF l = P at *
  (repeat(first|refine pSeq ?_|refine pReg ?_|refine sCons ?_|refine sNil ?_|refine rCons ?_|refine rNil ?_|refine kNo ?_|refine pRow ?_|refine pBlock ?_|refine pSkip ?_|refine pExit ?_|refine pRet ?_|refine pCond ?_|refine gNone ?_))
  obtain ⟨k0, k1, k2⟩ := new1_at f5 (.cells (wdsV [0, 0, 0, 0, 0]) tH5 false false)
  refine st_abs (cs' := wdsV ini5.l) rfl rfl k0 (Nat.lt_succ_self _) rfl rfl fun s6 g6 c6 n6 => ?_
  replace n6 : s6.next = s5.next + 1 := n6
  replace c6 := k1.fresh c6 (by simp)
  (repeat(first|refine pSeq ?_|refine pReg ?_|refine sCons ?_|refine sNil ?_|refine rCons ?_|refine rNil ?_|refine kNo ?_|refine pRow ?_|refine pBlock ?_|refine pSkip ?_|refine pExit ?_|refine pRet ?_|refine pCond ?_|refine gNone ?_))
  have hRB : RBk s s6 s.next s4.next s5.next P ini5 :=
    ⟨c6.blk _ _ (by omega) (by simp) h4, o5.chg c6 (by simp), g6, c5.nil c6, c6.fine f5, Nat.le_refl _, by omega, by omega, by omega, by omega, by omega, by omega⟩
  have hB0 : s.next < s4.next := by omega
  have hL1 : s4.next < s5.next := by omega
  generalize s5.next = hb at *
  generalize s4.next = ab at *
  clear hr c3 hlen hlz h3 o3 h4 o4 g4 n4 n5 c4 c5 f5 k0 k1 k2 g6 o5 c6 n6
  refine pLoop (MW.head good (fun p : Nat × SS => M - p.1) (fun p => p.1 ≤ M ∧ RBk s p.2 s.next ab hb P (blks p.1 ini5 P))
    (fun p => [(2, ptrV s.next), (3, .slice (some ⟨ab, 0, none⟩) (64 * M) 0), (7, ptrV hb), (8, .int .i64 ((64 * p.1 : Nat) : Int))]) (fun p => p.2) (0, s6) ⟨Nat.zero_le _, by rw [blks_0]; exact hRB⟩ (Wk.same ⟨rfl, rfl, rfl, rfl, trivial⟩) ?_)
  clear hRB
  intro ⟨k, s7⟩ ⟨hk, b7⟩
  dsimp only at hk b7 ⊢
  have hLen : P.length ≤ 1000000 := by omega
  (repeat(first|refine pSeq ?_|refine pReg ?_|refine sCons ?_|refine sNil ?_|refine rCons ?_|refine rNil ?_|refine kNo ?_|refine pRow ?_|refine pBlock ?_|refine pSkip ?_|refine pExit ?_|refine pRet ?_|refine pCond ?_|refine gNone ?_))
  intro q hq
  by_cases h7 : k = M
  rotate_left
  · obtain rfl : q = true := by rw [hq]; simp <;> omega
    (repeat(first|refine pSeq ?_|refine pReg ?_|refine sCons ?_|refine sNil ?_|refine rCons ?_|refine rNil ?_|refine kNo ?_|refine pRow ?_|refine pBlock ?_|refine pSkip ?_|refine pExit ?_|refine pRet ?_|refine pCond ?_|refine gNone ?_))
    obtain ⟨w0, k1, k2⟩ := new1_at b7.fine (.cells (wdsV (List.replicate 80 0)) tW80 false false)
    generalize hBB : P.drop (64 * k) = B at *
    have hBl : 64 ≤ B.length := by rw [← hBB, List.length_drop]; omega
    generalize hx : blks k ini5 P = x at *
    have b8 := b7.step k1 (by simp)
    refine pLoop (MW.head good (fun p : Nat × SS => 80 - p.1) (fun p => p.1 ≤ 80 ∧ RBk s p.2 s.next ab hb P x ∧ lookH p.2.heap s7.next = some (.cells (wdsV (rowW B p.1)) tW80 false false) ∧ s7.next < p.2.next)
      (fun p => [(2, ptrV s.next), (3, .slice (some ⟨ab, 0, none⟩) (64 * M) 0), (7, ptrV hb), (8, .int .i64 ((64 * k : Nat) : Int)), (9, ptrV s7.next), (10, .int .i64 p.1)]) (fun p => p.2) (0, _)
      ⟨Nat.zero_le _, b8, by rw [rowW_0]; exact w0, Nat.lt_succ_self _⟩ (Wk.same ⟨rfl, rfl, rfl, rfl, rfl, rfl, trivial⟩) ?_)
    clear w0 k1 k2 b8 hq
    intro ⟨t, s8⟩ ⟨ht, b8, w8, n8⟩
    dsimp only at ht b8 w8 n8 ⊢
    have hR7 : ∀ id ∈ [s7.next], s.next ≤ id ∧ id ≠ s.next ∧ id ≠ ab ∧ id ≠ hb := fun id h => by
      rw [List.mem_singleton] at h
      have := b7.r1
      have := b7.h1
      have := b7.alt
      omega
    (repeat(first|refine pSeq ?_|refine pReg ?_|refine sCons ?_|refine sNil ?_|refine rCons ?_|refine rNil ?_|refine kNo ?_|refine pRow ?_|refine pBlock ?_|refine pSkip ?_|refine pExit ?_|refine pRet ?_|refine pCond ?_|refine gNone ?_))
    intro q hq
    by_cases h8 : t = 80
    rotate_left
    · obtain rfl : q = true := by rw [hq]; simp <;> omega
      (repeat(first|refine pSeq ?_|refine pReg ?_|refine sCons ?_|refine sNil ?_|refine rCons ?_|refine rNil ?_|refine kNo ?_|refine pRow ?_|refine pBlock ?_|refine pSkip ?_|refine pExit ?_|refine pRet ?_|refine pCond ?_|refine gNone ?_))
      intro q hq
      by_cases h16 : t < 16
      · obtain rfl : q = true := by rw [hq]; simp <;> omega
        (repeat(first|refine pSeq ?_|refine pReg ?_|refine sCons ?_|refine sNil ?_|refine rCons ?_|refine rNil ?_|refine kNo ?_|refine pRow ?_|refine pBlock ?_|refine pSkip ?_|refine pExit ?_|refine pRet ?_|refine pCond ?_|refine gNone ?_))
        refine pLoop (MW.head good (fun j : Nat × SS => 4 - j.1) (fun j => j.1 ≤ 4 ∧ RBk s j.2 s.next ab hb P x ∧ lookH j.2.heap s7.next = some (.cells (wdsV ((rowW B t).set t (wPart B t j.1))) tW80 false false) ∧ s7.next < j.2.next)
          (fun j => [(2, ptrV s.next), (3, .slice (some ⟨ab, 0, none⟩) (64 * M) 0), (7, ptrV hb), (8, .int .i64 ((64 * k : Nat) : Int)), (9, ptrV s7.next), (10, .int .i64 t), (11, .int .i64 j.1)]) (fun j => j.2) (0, s8)
          ⟨Nat.zero_le _, b8, by rw [wPart_0, set_same (by rw [rowW_len B (by omega)]; omega) _ (rowW_new B (by omega))]; exact w8, n8⟩ (Wk.same ⟨rfl, rfl, rfl, rfl, rfl, rfl, rfl, trivial⟩) ?_)
        clear b8 w8 n8
        intro ⟨j, s9⟩ ⟨hj, b9, w9, n9⟩
        dsimp only at hj b9 w9 n9 ⊢
        have hlenW := rowW_len B (show t ≤ 80 by omega)
        (repeat(first|refine pSeq ?_|refine pReg ?_|refine sCons ?_|refine sNil ?_|refine rCons ?_|refine rNil ?_|refine kNo ?_|refine pRow ?_|refine pBlock ?_|refine pSkip ?_|refine pExit ?_|refine pRet ?_|refine pCond ?_|refine gNone ?_))
        intro q hq
        by_cases h9 : j = 4
        · subst h9
          obtain rfl : q = false := by rw [hq]; simp <;> omega
          (repeat(first|refine pSeq ?_|refine pReg ?_|refine sCons ?_|refine sNil ?_|refine rCons ?_|refine rNil ?_|refine kNo ?_|refine pRow ?_|refine pBlock ?_|refine pSkip ?_|refine pExit ?_|refine pRet ?_|refine pCond ?_|refine gNone ?_))
          intro z hz
          rw [i64_id (by omega)] at hz
          subst hz
          (repeat(first|refine pSeq ?_|refine pReg ?_|refine sCons ?_|refine sNil ?_|refine rCons ?_|refine rNil ?_|refine kNo ?_|refine pRow ?_|refine pBlock ?_|refine pSkip ?_|refine pExit ?_|refine pRet ?_|refine pCond ?_|refine gNone ?_))
          have hv := rowW_next B (show t < 80 by omega)
          rw [if_pos (by omega), ← wPart_4] at hv
          exact ⟨(t + 1, s9), ⟨by omega, b9, by rw [hv]; exact w9, n9⟩, by show 80 - (t + 1) < 80 - t; omega, Wk.same ⟨rfl, rfl, rfl, rfl, rfl, rfl, trivial⟩⟩
        · obtain rfl : q = true := by rw [hq]; simp <;> omega
          (repeat(first|refine pSeq ?_|refine pReg ?_|refine sCons ?_|refine sNil ?_|refine rCons ?_|refine rNil ?_|refine kNo ?_|refine pRow ?_|refine pBlock ?_|refine pSkip ?_|refine pExit ?_|refine pRet ?_|refine pCond ?_|refine gNone ?_))
          refine ⟨by omega, ?_⟩
          intro m hm o ho
          obtain rfl : m = t := by omega
          obtain rfl : o = m := by omega
          (repeat(first|refine pSeq ?_|refine pReg ?_|refine sCons ?_|refine sNil ?_|refine rCons ?_|refine rNil ?_|refine kNo ?_|refine pRow ?_|refine pBlock ?_|refine pSkip ?_|refine pExit ?_|refine pRet ?_|refine pCond ?_|refine gNone ?_))
          refine ldI_is rfl w9 (wds_get (by rw [List.length_set]; omega)) ?_
          rw [getD_set' (by omega)]
          (repeat(first|refine pSeq ?_|refine pReg ?_|refine sCons ?_|refine sNil ?_|refine rCons ?_|refine rNil ?_|refine kNo ?_|refine pRow ?_|refine pBlock ?_|refine pSkip ?_|refine pExit ?_|refine pRet ?_|refine pCond ?_|refine gNone ?_))
          intro z hz
          rw [show (256 : Int) = ((256 : Nat) : Int) from rfl, mulC_u32] at hz
          subst hz
          (repeat(first|refine pSeq ?_|refine pReg ?_|refine sCons ?_|refine sNil ?_|refine rCons ?_|refine rNil ?_|refine kNo ?_|refine pRow ?_|refine pBlock ?_|refine pSkip ?_|refine pExit ?_|refine pRet ?_|refine pCond ?_|refine gNone ?_))
          intro z hz
          obtain rfl : z = ((4 * o : Nat) : Int) := by rw [hz, i64_id (by omega)]; omega
          (repeat(first|refine pSeq ?_|refine pReg ?_|refine sCons ?_|refine sNil ?_|refine rCons ?_|refine rNil ?_|refine kNo ?_|refine pRow ?_|refine pBlock ?_|refine pSkip ?_|refine pExit ?_|refine pRet ?_|refine pCond ?_|refine gNone ?_))
          intro z hz
          obtain rfl : z = ((64 * k + 4 * o : Nat) : Int) := by rw [hz, i64_id (by omega)]; omega
          (repeat(first|refine pSeq ?_|refine pReg ?_|refine sCons ?_|refine sNil ?_|refine rCons ?_|refine rNil ?_|refine kNo ?_|refine pRow ?_|refine pBlock ?_|refine pSkip ?_|refine pExit ?_|refine pRet ?_|refine pCond ?_|refine gNone ?_))
          intro z hz
          obtain rfl : z = ((64 * k + 4 * o + j : Nat) : Int) := by rw [hz, i64_id (by omega)]; omega
          (repeat(first|refine pSeq ?_|refine pReg ?_|refine sCons ?_|refine sNil ?_|refine rCons ?_|refine rNil ?_|refine kNo ?_|refine pRow ?_|refine pBlock ?_|refine pSkip ?_|refine pExit ?_|refine pRet ?_|refine pCond ?_|refine gNone ?_))
          have hin : 64 * k + 4 * o + j < 64 * M := by omega
          obtain ⟨_, cc, tt, gg, rr, q1, q2⟩ := sl_byte b9.all.rdb (show 64 * k + 4 * o + j < P.length by omega)
          have hd : ((B.drop (4 * o)).take 4)[j]? = some (P.getD (64 * k + 4 * o + j) 0) := by
            rw [← hBB, List.getElem?_take_of_lt (by omega), List.getElem?_drop, List.getElem?_drop, List.getD_eq_getElem?_getD, show 64 * k + (4 * o + j) = 64 * k + 4 * o + j by omega, List.getElem?_eq_getElem (by omega)]
            rfl
          generalize P.getD (64 * k + 4 * o + j) 0 = c at q2 hd
          refine ⟨by omega, ?_⟩
          intro m1 hm1 o1 ho1
          obtain rfl : m1 = 64 * k + 4 * o + j := by omega
          rw [Nat.mul_one] at ho1
          subst ho1
          (repeat(first|refine pSeq ?_|refine pReg ?_|refine sCons ?_|refine sNil ?_|refine rCons ?_|refine rNil ?_|refine kNo ?_|refine pRow ?_|refine pBlock ?_|refine pSkip ?_|refine pExit ?_|refine pRet ?_|refine pCond ?_|refine gNone ?_))
          refine ldI_is rfl q1 q2 ?_
          (repeat(first|refine pSeq ?_|refine pReg ?_|refine sCons ?_|refine sNil ?_|refine rCons ?_|refine rNil ?_|refine kNo ?_|refine pRow ?_|refine pBlock ?_|refine pSkip ?_|refine pExit ?_|refine pRet ?_|refine pCond ?_|refine gNone ?_))
          intro z hz
          rw [u8_u32] at hz
          subst hz
          (repeat(first|refine pSeq ?_|refine pReg ?_|refine sCons ?_|refine sNil ?_|refine rCons ?_|refine rNil ?_|refine kNo ?_|refine pRow ?_|refine pBlock ?_|refine pSkip ?_|refine pExit ?_|refine pRet ?_|refine pCond ?_|refine gNone ?_))
          intro z hz
          rw [add_u32, or_u32b] at hz
          subst hz
          (repeat(first|refine pSeq ?_|refine pReg ?_|refine sCons ?_|refine sNil ?_|refine rCons ?_|refine rNil ?_|refine kNo ?_|refine pRow ?_|refine pBlock ?_|refine pSkip ?_|refine pExit ?_|refine pRet ?_|refine pCond ?_|refine gNone ?_))
          refine ⟨by omega, ?_⟩
          intro m2 hm2 o2 ho2
          obtain rfl : m2 = o := by omega
          obtain rfl : o2 = m2 := by omega
          (repeat(first|refine pSeq ?_|refine pReg ?_|refine sCons ?_|refine sNil ?_|refine rCons ?_|refine rNil ?_|refine kNo ?_|refine pRow ?_|refine pBlock ?_|refine pSkip ?_|refine pExit ?_|refine pRet ?_|refine pCond ?_|refine gNone ?_))
          refine st_abs (cs' := wdsV ((rowW B o2).set o2 (wPart B o2 (j + 1)))) rfl rfl w9 n9 rfl (by
            rw [wPart_next hd]
            have h9 := wds_set (l := (rowW B o2).set o2 (wPart B o2 j)) (p := o2) (by rw [List.length_set]; omega) (wPart B o2 j <<< 8 ||| BitVec.setWidth 32 c.toBitVec)
            rw [set_set'] at h9
            exact h9) fun sa ea ca na => ?_
          (repeat(first|refine pSeq ?_|refine pReg ?_|refine sCons ?_|refine sNil ?_|refine rCons ?_|refine rNil ?_|refine kNo ?_|refine pRow ?_|refine pBlock ?_|refine pSkip ?_|refine pExit ?_|refine pRet ?_|refine pCond ?_|refine gNone ?_))
          intro z hz
          rw [i64_id (by omega)] at hz
          subst hz
          (repeat(first|refine pSeq ?_|refine pReg ?_|refine sCons ?_|refine sNil ?_|refine rCons ?_|refine rNil ?_|refine kNo ?_|refine pRow ?_|refine pBlock ?_|refine pSkip ?_|refine pExit ?_|refine pRet ?_|refine pCond ?_|refine gNone ?_))
          exact ⟨(j + 1, sa), ⟨by omega, b9.step ca hR7, ea, by show s7.next < sa.next; omega⟩, by show 4 - (j + 1) < 4 - j; omega, Wk.same ⟨rfl, rfl, rfl, rfl, rfl, rfl, rfl, trivial⟩⟩
      · obtain rfl : q = false := by rw [hq]; simp <;> omega
        (repeat(first|refine pSeq ?_|refine pReg ?_|refine sCons ?_|refine sNil ?_|refine rCons ?_|refine rNil ?_|refine kNo ?_|refine pRow ?_|refine pBlock ?_|refine pSkip ?_|refine pExit ?_|refine pRet ?_|refine pCond ?_|refine gNone ?_))
        intro z hz
        obtain rfl : z = ((t - 3 : Nat) : Int) := by rw [hz, i64_id (by omega)]; omega
        (repeat(first|refine pSeq ?_|refine pReg ?_|refine sCons ?_|refine sNil ?_|refine rCons ?_|refine rNil ?_|refine kNo ?_|refine pRow ?_|refine pBlock ?_|refine pSkip ?_|refine pExit ?_|refine pRet ?_|refine pCond ?_|refine gNone ?_))
        refine ⟨by omega, ?_⟩
        intro m hm o ho
        obtain rfl : m = t - 3 := by omega
        obtain rfl : o = t - 3 := by omega
        (repeat(first|refine pSeq ?_|refine pReg ?_|refine sCons ?_|refine sNil ?_|refine rCons ?_|refine rNil ?_|refine kNo ?_|refine pRow ?_|refine pBlock ?_|refine pSkip ?_|refine pExit ?_|refine pRet ?_|refine pCond ?_|refine gNone ?_))
        refine ldI_is rfl w8 (wds_get (by rw [rowW_len B ht]; omega)) ?_
        (repeat(first|refine pSeq ?_|refine pReg ?_|refine sCons ?_|refine sNil ?_|refine rCons ?_|refine rNil ?_|refine kNo ?_|refine pRow ?_|refine pBlock ?_|refine pSkip ?_|refine pExit ?_|refine pRet ?_|refine pCond ?_|refine gNone ?_))
        intro z hz
        obtain rfl : z = ((t - 8 : Nat) : Int) := by rw [hz, i64_id (by omega)]; omega
        (repeat(first|refine pSeq ?_|refine pReg ?_|refine sCons ?_|refine sNil ?_|refine rCons ?_|refine rNil ?_|refine kNo ?_|refine pRow ?_|refine pBlock ?_|refine pSkip ?_|refine pExit ?_|refine pRet ?_|refine pCond ?_|refine gNone ?_))
        refine ⟨by omega, ?_⟩
        intro m hm o ho
        obtain rfl : m = t - 8 := by omega
        obtain rfl : o = t - 8 := by omega
        (repeat(first|refine pSeq ?_|refine pReg ?_|refine sCons ?_|refine sNil ?_|refine rCons ?_|refine rNil ?_|refine kNo ?_|refine pRow ?_|refine pBlock ?_|refine pSkip ?_|refine pExit ?_|refine pRet ?_|refine pCond ?_|refine gNone ?_))
        refine ldI_is rfl w8 (wds_get (by rw [rowW_len B ht]; omega)) ?_
        (repeat(first|refine pSeq ?_|refine pReg ?_|refine sCons ?_|refine sNil ?_|refine rCons ?_|refine rNil ?_|refine kNo ?_|refine pRow ?_|refine pBlock ?_|refine pSkip ?_|refine pExit ?_|refine pRet ?_|refine pCond ?_|refine gNone ?_))
        intro z hz
        rw [xor_u32] at hz
        subst hz
        (repeat(first|refine pSeq ?_|refine pReg ?_|refine sCons ?_|refine sNil ?_|refine rCons ?_|refine rNil ?_|refine kNo ?_|refine pRow ?_|refine pBlock ?_|refine pSkip ?_|refine pExit ?_|refine pRet ?_|refine pCond ?_|refine gNone ?_))
        intro z hz
        obtain rfl : z = ((t - 14 : Nat) : Int) := by rw [hz, i64_id (by omega)]; omega
        (repeat(first|refine pSeq ?_|refine pReg ?_|refine sCons ?_|refine sNil ?_|refine rCons ?_|refine rNil ?_|refine kNo ?_|refine pRow ?_|refine pBlock ?_|refine pSkip ?_|refine pExit ?_|refine pRet ?_|refine pCond ?_|refine gNone ?_))
        refine ⟨by omega, ?_⟩
        intro m hm o ho
        obtain rfl : m = t - 14 := by omega
        obtain rfl : o = t - 14 := by omega
        (repeat(first|refine pSeq ?_|refine pReg ?_|refine sCons ?_|refine sNil ?_|refine rCons ?_|refine rNil ?_|refine kNo ?_|refine pRow ?_|refine pBlock ?_|refine pSkip ?_|refine pExit ?_|refine pRet ?_|refine pCond ?_|refine gNone ?_))
        refine ldI_is rfl w8 (wds_get (by rw [rowW_len B ht]; omega)) ?_
        (repeat(first|refine pSeq ?_|refine pReg ?_|refine sCons ?_|refine sNil ?_|refine rCons ?_|refine rNil ?_|refine kNo ?_|refine pRow ?_|refine pBlock ?_|refine pSkip ?_|refine pExit ?_|refine pRet ?_|refine pCond ?_|refine gNone ?_))
        intro z hz
        rw [xor_u32] at hz
        subst hz
        (repeat(first|refine pSeq ?_|refine pReg ?_|refine sCons ?_|refine sNil ?_|refine rCons ?_|refine rNil ?_|refine kNo ?_|refine pRow ?_|refine pBlock ?_|refine pSkip ?_|refine pExit ?_|refine pRet ?_|refine pCond ?_|refine gNone ?_))
        intro z hz
        obtain rfl : z = ((t - 16 : Nat) : Int) := by rw [hz, i64_id (by omega)]; omega
        (repeat(first|refine pSeq ?_|refine pReg ?_|refine sCons ?_|refine sNil ?_|refine rCons ?_|refine rNil ?_|refine kNo ?_|refine pRow ?_|refine pBlock ?_|refine pSkip ?_|refine pExit ?_|refine pRet ?_|refine pCond ?_|refine gNone ?_))
        refine ⟨by omega, ?_⟩
        intro m hm o ho
        obtain rfl : m = t - 16 := by omega
        obtain rfl : o = t - 16 := by omega
        (repeat(first|refine pSeq ?_|refine pReg ?_|refine sCons ?_|refine sNil ?_|refine rCons ?_|refine rNil ?_|refine kNo ?_|refine pRow ?_|refine pBlock ?_|refine pSkip ?_|refine pExit ?_|refine pRet ?_|refine pCond ?_|refine gNone ?_))
        refine ldI_is rfl w8 (wds_get (by rw [rowW_len B ht]; omega)) ?_
        (repeat(first|refine pSeq ?_|refine pReg ?_|refine sCons ?_|refine sNil ?_|refine rCons ?_|refine rNil ?_|refine kNo ?_|refine pRow ?_|refine pBlock ?_|refine pSkip ?_|refine pExit ?_|refine pRet ?_|refine pCond ?_|refine gNone ?_))
        intro z hz
        rw [xor_u32] at hz
        subst hz
        (repeat(first|refine pSeq ?_|refine pReg ?_|refine sCons ?_|refine sNil ?_|refine rCons ?_|refine rNil ?_|refine kNo ?_|refine pRow ?_|refine pBlock ?_|refine pSkip ?_|refine pExit ?_|refine pRet ?_|refine pCond ?_|refine gNone ?_))
        refine (left_w (k := 1) (by omega)).mono fun v s9 q => ?_
        obtain ⟨rfl, rfl⟩ := q
        (repeat(first|refine pSeq ?_|refine pReg ?_|refine sCons ?_|refine sNil ?_|refine rCons ?_|refine rNil ?_|refine kNo ?_|refine pRow ?_|refine pBlock ?_|refine pSkip ?_|refine pExit ?_|refine pRet ?_|refine pCond ?_|refine gNone ?_))
        refine ⟨by omega, ?_⟩
        intro m hm o ho
        obtain rfl : m = t := by omega
        obtain rfl : o = m := by omega
        (repeat(first|refine pSeq ?_|refine pReg ?_|refine sCons ?_|refine sNil ?_|refine rCons ?_|refine rNil ?_|refine kNo ?_|refine pRow ?_|refine pBlock ?_|refine pSkip ?_|refine pExit ?_|refine pRet ?_|refine pCond ?_|refine gNone ?_))
        have hv := rowW_next B (show o < 80 by omega)
        rw [if_neg (by omega)] at hv
        refine st_abs (cs' := wdsV (rowW B (o + 1))) rfl rfl w8 n8 rfl (by
          rw [hv]
          rw [show nxt (schd B o) o = rl ((schd B o).getD (o - 3) 0 ^^^ (schd B o).getD (o - 8) 0 ^^^ (schd B o).getD (o - 14) 0 ^^^ (schd B o).getD (o - 16) 0) 1 from nxt_eq _ _,
            ← rowW_at B (show o - 3 < o by omega) ht, ← rowW_at B (show o - 8 < o by omega) ht, ← rowW_at B (show o - 14 < o by omega) ht, ← rowW_at B (show o - 16 < o by omega) ht]
          exact wds_set (by rw [rowW_len B ht]; omega) _) fun sa ea ca na => ?_
        (repeat(first|refine pSeq ?_|refine pReg ?_|refine sCons ?_|refine sNil ?_|refine rCons ?_|refine rNil ?_|refine kNo ?_|refine pRow ?_|refine pBlock ?_|refine pSkip ?_|refine pExit ?_|refine pRet ?_|refine pCond ?_|refine gNone ?_))
        intro z hz
        rw [i64_id (by omega)] at hz
        subst hz
        (repeat(first|refine pSeq ?_|refine pReg ?_|refine sCons ?_|refine sNil ?_|refine rCons ?_|refine rNil ?_|refine kNo ?_|refine pRow ?_|refine pBlock ?_|refine pSkip ?_|refine pExit ?_|refine pRet ?_|refine pCond ?_|refine gNone ?_))
        exact ⟨(o + 1, sa), ⟨by omega, b8.step ca hR7, ea, by show s7.next < sa.next; omega⟩, by show 80 - (o + 1) < 80 - o; omega, Wk.same ⟨rfl, rfl, rfl, rfl, rfl, rfl, trivial⟩⟩
    subst h8
    obtain rfl : q = false := by rw [hq]; simp <;> omega
    (repeat(first|refine pSeq ?_|refine pReg ?_|refine sCons ?_|refine sNil ?_|refine rCons ?_|refine rNil ?_|refine kNo ?_|refine pRow ?_|refine pBlock ?_|refine pSkip ?_|refine pExit ?_|refine pRet ?_|refine pCond ?_|refine gNone ?_))
    refine ⟨by decide, ?_⟩
    intro m hm o ho
    obtain rfl : m = 0 := by omega
    obtain rfl : o = 0 := by omega
    (repeat(first|refine pSeq ?_|refine pReg ?_|refine sCons ?_|refine sNil ?_|refine rCons ?_|refine rNil ?_|refine kNo ?_|refine pRow ?_|refine pBlock ?_|refine pSkip ?_|refine pExit ?_|refine pRet ?_|refine pCond ?_|refine gNone ?_))
    refine ldI_is rfl b8.h (show _ = some (wv x.a) from rfl) ?_
    (repeat(first|refine pSeq ?_|refine pReg ?_|refine sCons ?_|refine sNil ?_|refine rCons ?_|refine rNil ?_|refine kNo ?_|refine pRow ?_|refine pBlock ?_|refine pSkip ?_|refine pExit ?_|refine pRet ?_|refine pCond ?_|refine gNone ?_))
    refine ⟨by decide, ?_⟩
    intro m hm o ho
    obtain rfl : m = 1 := by omega
    obtain rfl : o = 1 := by omega
    (repeat(first|refine pSeq ?_|refine pReg ?_|refine sCons ?_|refine sNil ?_|refine rCons ?_|refine rNil ?_|refine kNo ?_|refine pRow ?_|refine pBlock ?_|refine pSkip ?_|refine pExit ?_|refine pRet ?_|refine pCond ?_|refine gNone ?_))
    refine ldI_is rfl b8.h (show _ = some (wv x.b) from rfl) ?_
    (repeat(first|refine pSeq ?_|refine pReg ?_|refine sCons ?_|refine sNil ?_|refine rCons ?_|refine rNil ?_|refine kNo ?_|refine pRow ?_|refine pBlock ?_|refine pSkip ?_|refine pExit ?_|refine pRet ?_|refine pCond ?_|refine gNone ?_))
    refine ⟨by decide, ?_⟩
    intro m hm o ho
    obtain rfl : m = 2 := by omega
    obtain rfl : o = 2 := by omega
    (repeat(first|refine pSeq ?_|refine pReg ?_|refine sCons ?_|refine sNil ?_|refine rCons ?_|refine rNil ?_|refine kNo ?_|refine pRow ?_|refine pBlock ?_|refine pSkip ?_|refine pExit ?_|refine pRet ?_|refine pCond ?_|refine gNone ?_))
    refine ldI_is rfl b8.h (show _ = some (wv x.c) from rfl) ?_
    (repeat(first|refine pSeq ?_|refine pReg ?_|refine sCons ?_|refine sNil ?_|refine rCons ?_|refine rNil ?_|refine kNo ?_|refine pRow ?_|refine pBlock ?_|refine pSkip ?_|refine pExit ?_|refine pRet ?_|refine pCond ?_|refine gNone ?_))
    refine ⟨by decide, ?_⟩
    intro m hm o ho
    obtain rfl : m = 3 := by omega
    obtain rfl : o = 3 := by omega
    (repeat(first|refine pSeq ?_|refine pReg ?_|refine sCons ?_|refine sNil ?_|refine rCons ?_|refine rNil ?_|refine kNo ?_|refine pRow ?_|refine pBlock ?_|refine pSkip ?_|refine pExit ?_|refine pRet ?_|refine pCond ?_|refine gNone ?_))
    refine ldI_is rfl b8.h (show _ = some (wv x.d) from rfl) ?_
    (repeat(first|refine pSeq ?_|refine pReg ?_|refine sCons ?_|refine sNil ?_|refine rCons ?_|refine rNil ?_|refine kNo ?_|refine pRow ?_|refine pBlock ?_|refine pSkip ?_|refine pExit ?_|refine pRet ?_|refine pCond ?_|refine gNone ?_))
    refine ⟨by decide, ?_⟩
    intro m hm o ho
    obtain rfl : m = 4 := by omega
    obtain rfl : o = 4 := by omega
    (repeat(first|refine pSeq ?_|refine pReg ?_|refine sCons ?_|refine sNil ?_|refine rCons ?_|refine rNil ?_|refine kNo ?_|refine pRow ?_|refine pBlock ?_|refine pSkip ?_|refine pExit ?_|refine pRet ?_|refine pCond ?_|refine gNone ?_))
    refine ldI_is rfl b8.h (show _ = some (wv x.e) from rfl) ?_
    (repeat(first|refine pSeq ?_|refine pReg ?_|refine sCons ?_|refine sNil ?_|refine rCons ?_|refine rNil ?_|refine kNo ?_|refine pRow ?_|refine pBlock ?_|refine pSkip ?_|refine pExit ?_|refine pRet ?_|refine pCond ?_|refine gNone ?_))
    rw [rowW_80] at w8
    have hws := schd_len B 80
    have eBlk : blk5 x (B.take 64) = x.add (rnds (schd B 80) 80 x) := by rw [blk5_eq, schd_64]
    generalize schd B 80 = ws at *
    refine pLoop (MW.head good (fun p : Nat => 80 - p) (fun p => p ≤ 80)
      (fun p => [(2, ptrV s.next), (3, .slice (some ⟨ab, 0, none⟩) (64 * M) 0), (7, ptrV hb), (8, .int .i64 ((64 * k : Nat) : Int)), (9, ptrV s7.next), (12, wv (rnds ws p x).a), (13, wv (rnds ws p x).b), (14, wv (rnds ws p x).c), (15, wv (rnds ws p x).d), (16, wv (rnds ws p x).e), (17, .int .i64 p)]) (fun _ => s8) 0
      (Nat.zero_le _) (Wk.same ⟨rfl, rfl, rfl, rfl, rfl, by show _ = some (wv (rnds ws 0 x).a); rw [rnds_0]; rfl, by show _ = some (wv (rnds ws 0 x).b); rw [rnds_0]; rfl, by show _ = some (wv (rnds ws 0 x).c); rw [rnds_0]; rfl, by show _ = some (wv (rnds ws 0 x).d); rw [rnds_0]; rfl, by show _ = some (wv (rnds ws 0 x).e); rw [rnds_0]; rfl, rfl, trivial⟩) ?_)
    intro p hp
    generalize hR : rnds ws p x = r
    have hn := rnds_next ws x p
    rw [hR] at hn
    (repeat(first|refine pSeq ?_|refine pReg ?_|refine sCons ?_|refine sNil ?_|refine rCons ?_|refine rNil ?_|refine kNo ?_|refine pRow ?_|refine pBlock ?_|refine pSkip ?_|refine pExit ?_|refine pRet ?_|refine pCond ?_|refine gNone ?_))
    intro q hq
    by_cases h9 : p = 80
    rotate_left
    · obtain rfl : q = true := by rw [hq]; simp <;> omega
      (repeat(first|refine pSeq ?_|refine pReg ?_|refine sCons ?_|refine sNil ?_|refine rCons ?_|refine rNil ?_|refine kNo ?_|refine pRow ?_|refine pBlock ?_|refine pSkip ?_|refine pExit ?_|refine pRet ?_|refine pCond ?_|refine gNone ?_))
      intro z hz; rw [xor_u32] at hz; subst hz
      (repeat(first|refine pSeq ?_|refine pReg ?_|refine sCons ?_|refine sNil ?_|refine rCons ?_|refine rNil ?_|refine kNo ?_|refine pRow ?_|refine pBlock ?_|refine pSkip ?_|refine pExit ?_|refine pRet ?_|refine pCond ?_|refine gNone ?_))
      intro z hz; rw [xor_u32] at hz; subst hz
      (repeat(first|refine pSeq ?_|refine pReg ?_|refine sCons ?_|refine sNil ?_|refine rCons ?_|refine rNil ?_|refine kNo ?_|refine pRow ?_|refine pBlock ?_|refine pSkip ?_|refine pExit ?_|refine pRet ?_|refine pCond ?_|refine gNone ?_))
      intro q hq
      by_cases h20 : p < 20
      · obtain rfl : q = true := by rw [hq]; simp <;> omega
        (repeat(first|refine pSeq ?_|refine pReg ?_|refine sCons ?_|refine sNil ?_|refine rCons ?_|refine rNil ?_|refine kNo ?_|refine pRow ?_|refine pBlock ?_|refine pSkip ?_|refine pExit ?_|refine pRet ?_|refine pCond ?_|refine gNone ?_))
        intro z hz; rw [and_u32] at hz; subst hz
        (repeat(first|refine pSeq ?_|refine pReg ?_|refine sCons ?_|refine sNil ?_|refine rCons ?_|refine rNil ?_|refine kNo ?_|refine pRow ?_|refine pBlock ?_|refine pSkip ?_|refine pExit ?_|refine pRet ?_|refine pCond ?_|refine gNone ?_))
        intro z hz; rw [not_u32] at hz; subst hz
        (repeat(first|refine pSeq ?_|refine pReg ?_|refine sCons ?_|refine sNil ?_|refine rCons ?_|refine rNil ?_|refine kNo ?_|refine pRow ?_|refine pBlock ?_|refine pSkip ?_|refine pExit ?_|refine pRet ?_|refine pCond ?_|refine gNone ?_))
        intro z hz; rw [and_u32] at hz; subst hz
        (repeat(first|refine pSeq ?_|refine pReg ?_|refine sCons ?_|refine sNil ?_|refine rCons ?_|refine rNil ?_|refine kNo ?_|refine pRow ?_|refine pBlock ?_|refine pSkip ?_|refine pExit ?_|refine pRet ?_|refine pCond ?_|refine gNone ?_))
        intro z hz; rw [or_u32] at hz; subst hz
        (repeat(first|refine pSeq ?_|refine pReg ?_|refine sCons ?_|refine sNil ?_|refine rCons ?_|refine rNil ?_|refine kNo ?_|refine pRow ?_|refine pBlock ?_|refine pSkip ?_|refine pExit ?_|refine pRet ?_|refine pCond ?_|refine gNone ?_))
        refine ⟨by omega, ?_⟩
        intro m hm o ho
        obtain rfl : m = p := by omega
        obtain rfl : o = m := by omega
        (repeat(first|refine pSeq ?_|refine pReg ?_|refine sCons ?_|refine sNil ?_|refine rCons ?_|refine rNil ?_|refine kNo ?_|refine pRow ?_|refine pBlock ?_|refine pSkip ?_|refine pExit ?_|refine pRet ?_|refine pCond ?_|refine gNone ?_))
        refine ldI_is rfl w8 (wds_get (by omega)) ?_
        (repeat(first|refine pSeq ?_|refine pReg ?_|refine sCons ?_|refine sNil ?_|refine rCons ?_|refine rNil ?_|refine kNo ?_|refine pRow ?_|refine pBlock ?_|refine pSkip ?_|refine pExit ?_|refine pRet ?_|refine pCond ?_|refine gNone ?_))
        refine (left_w (k := 5) (by omega)).mono fun v s9 q => ?_
        obtain ⟨rfl, rfl⟩ := q
        refine kAll .refl ?_
        (repeat(first|refine pSeq ?_|refine pReg ?_|refine sCons ?_|refine sNil ?_|refine rCons ?_|refine rNil ?_|refine kNo ?_|refine pRow ?_|refine pBlock ?_|refine pSkip ?_|refine pExit ?_|refine pRet ?_|refine pCond ?_|refine gNone ?_))
        intro z hz; rw [add_u32] at hz; subst hz
        (repeat(first|refine pSeq ?_|refine pReg ?_|refine sCons ?_|refine sNil ?_|refine rCons ?_|refine rNil ?_|refine kNo ?_|refine pRow ?_|refine pBlock ?_|refine pSkip ?_|refine pExit ?_|refine pRet ?_|refine pCond ?_|refine gNone ?_))
        intro z hz; rw [add_u32] at hz; subst hz
        (repeat(first|refine pSeq ?_|refine pReg ?_|refine sCons ?_|refine sNil ?_|refine rCons ?_|refine rNil ?_|refine kNo ?_|refine pRow ?_|refine pBlock ?_|refine pSkip ?_|refine pExit ?_|refine pRet ?_|refine pCond ?_|refine gNone ?_))
        intro z hz; rw [show (1518500249 : Int) = ((0x5a827999 : Wd).toNat : Int) from rfl, add_u32] at hz; subst hz
        (repeat(first|refine pSeq ?_|refine pReg ?_|refine sCons ?_|refine sNil ?_|refine rCons ?_|refine rNil ?_|refine kNo ?_|refine pRow ?_|refine pBlock ?_|refine pSkip ?_|refine pExit ?_|refine pRet ?_|refine pCond ?_|refine gNone ?_))
        intro z hz; rw [add_u32] at hz; subst hz
        (repeat(first|refine pSeq ?_|refine pReg ?_|refine sCons ?_|refine sNil ?_|refine rCons ?_|refine rNil ?_|refine kNo ?_|refine pRow ?_|refine pBlock ?_|refine pSkip ?_|refine pExit ?_|refine pRet ?_|refine pCond ?_|refine gNone ?_))
        refine (left_w (k := 30) (by omega)).mono fun v s9 q => ?_
        obtain ⟨rfl, rfl⟩ := q
        (repeat(first|refine pSeq ?_|refine pReg ?_|refine sCons ?_|refine sNil ?_|refine rCons ?_|refine rNil ?_|refine kNo ?_|refine pRow ?_|refine pBlock ?_|refine pSkip ?_|refine pExit ?_|refine pRet ?_|refine pCond ?_|refine gNone ?_))
        intro z hz
        rw [i64_id (by omega)] at hz
        subst hz
        (repeat(first|refine pSeq ?_|refine pReg ?_|refine sCons ?_|refine sNil ?_|refine rCons ?_|refine rNil ?_|refine kNo ?_|refine pRow ?_|refine pBlock ?_|refine pSkip ?_|refine pExit ?_|refine pRet ?_|refine pCond ?_|refine gNone ?_))
        exact ⟨o + 1, by omega, by show 80 - (o + 1) < 80 - o; omega, Wk.same ⟨rfl, rfl, rfl, rfl, rfl, by show _ = some (wv (rnds ws (o + 1) x).a); rw [hn]; show _ = some (wv (rl r.a 5 + fT o r.b r.c r.d + r.e + kT o + ws.getD o 0)); rw [fT_1 h20, kT_1 h20]; rfl, by show _ = some (wv (rnds ws (o + 1) x).b); rw [hn]; rfl, by show _ = some (wv (rnds ws (o + 1) x).c); rw [hn]; rfl, by show _ = some (wv (rnds ws (o + 1) x).d); rw [hn]; rfl, by show _ = some (wv (rnds ws (o + 1) x).e); rw [hn]; rfl, rfl, trivial⟩⟩
      · obtain rfl : q = false := by rw [hq]; simp <;> omega
        (repeat(first|refine pSeq ?_|refine pReg ?_|refine sCons ?_|refine sNil ?_|refine rCons ?_|refine rNil ?_|refine kNo ?_|refine pRow ?_|refine pBlock ?_|refine pSkip ?_|refine pExit ?_|refine pRet ?_|refine pCond ?_|refine gNone ?_))
        intro q hq
        by_cases h60 : 60 ≤ p
        · obtain rfl : q = true := by rw [hq]; simp <;> omega
          (repeat(first|refine pSeq ?_|refine pReg ?_|refine sCons ?_|refine sNil ?_|refine rCons ?_|refine rNil ?_|refine kNo ?_|refine pRow ?_|refine pBlock ?_|refine pSkip ?_|refine pExit ?_|refine pRet ?_|refine pCond ?_|refine gNone ?_))
          refine ⟨by omega, ?_⟩
          intro m hm o ho
          obtain rfl : m = p := by omega
          obtain rfl : o = m := by omega
          (repeat(first|refine pSeq ?_|refine pReg ?_|refine sCons ?_|refine sNil ?_|refine rCons ?_|refine rNil ?_|refine kNo ?_|refine pRow ?_|refine pBlock ?_|refine pSkip ?_|refine pExit ?_|refine pRet ?_|refine pCond ?_|refine gNone ?_))
          refine ldI_is rfl w8 (wds_get (by omega)) ?_
          (repeat(first|refine pSeq ?_|refine pReg ?_|refine sCons ?_|refine sNil ?_|refine rCons ?_|refine rNil ?_|refine kNo ?_|refine pRow ?_|refine pBlock ?_|refine pSkip ?_|refine pExit ?_|refine pRet ?_|refine pCond ?_|refine gNone ?_))
          refine (left_w (k := 5) (by omega)).mono fun v s9 q => ?_
          obtain ⟨rfl, rfl⟩ := q
          refine kAll .refl ?_
          (repeat(first|refine pSeq ?_|refine pReg ?_|refine sCons ?_|refine sNil ?_|refine rCons ?_|refine rNil ?_|refine kNo ?_|refine pRow ?_|refine pBlock ?_|refine pSkip ?_|refine pExit ?_|refine pRet ?_|refine pCond ?_|refine gNone ?_))
          intro z hz; rw [add_u32] at hz; subst hz
          (repeat(first|refine pSeq ?_|refine pReg ?_|refine sCons ?_|refine sNil ?_|refine rCons ?_|refine rNil ?_|refine kNo ?_|refine pRow ?_|refine pBlock ?_|refine pSkip ?_|refine pExit ?_|refine pRet ?_|refine pCond ?_|refine gNone ?_))
          intro z hz; rw [add_u32] at hz; subst hz
          (repeat(first|refine pSeq ?_|refine pReg ?_|refine sCons ?_|refine sNil ?_|refine rCons ?_|refine rNil ?_|refine kNo ?_|refine pRow ?_|refine pBlock ?_|refine pSkip ?_|refine pExit ?_|refine pRet ?_|refine pCond ?_|refine gNone ?_))
          intro z hz; rw [show (3395469782 : Int) = ((0xca62c1d6 : Wd).toNat : Int) from rfl, add_u32] at hz; subst hz
          (repeat(first|refine pSeq ?_|refine pReg ?_|refine sCons ?_|refine sNil ?_|refine rCons ?_|refine rNil ?_|refine kNo ?_|refine pRow ?_|refine pBlock ?_|refine pSkip ?_|refine pExit ?_|refine pRet ?_|refine pCond ?_|refine gNone ?_))
          intro z hz; rw [add_u32] at hz; subst hz
          (repeat(first|refine pSeq ?_|refine pReg ?_|refine sCons ?_|refine sNil ?_|refine rCons ?_|refine rNil ?_|refine kNo ?_|refine pRow ?_|refine pBlock ?_|refine pSkip ?_|refine pExit ?_|refine pRet ?_|refine pCond ?_|refine gNone ?_))
          refine (left_w (k := 30) (by omega)).mono fun v s9 q => ?_
          obtain ⟨rfl, rfl⟩ := q
          (repeat(first|refine pSeq ?_|refine pReg ?_|refine sCons ?_|refine sNil ?_|refine rCons ?_|refine rNil ?_|refine kNo ?_|refine pRow ?_|refine pBlock ?_|refine pSkip ?_|refine pExit ?_|refine pRet ?_|refine pCond ?_|refine gNone ?_))
          intro z hz
          rw [i64_id (by omega)] at hz
          subst hz
          (repeat(first|refine pSeq ?_|refine pReg ?_|refine sCons ?_|refine sNil ?_|refine rCons ?_|refine rNil ?_|refine kNo ?_|refine pRow ?_|refine pBlock ?_|refine pSkip ?_|refine pExit ?_|refine pRet ?_|refine pCond ?_|refine gNone ?_))
          exact ⟨o + 1, by omega, by show 80 - (o + 1) < 80 - o; omega, Wk.same ⟨rfl, rfl, rfl, rfl, rfl, by show _ = some (wv (rnds ws (o + 1) x).a); rw [hn]; show _ = some (wv (rl r.a 5 + fT o r.b r.c r.d + r.e + kT o + ws.getD o 0)); rw [fT_2 h60, kT_2 h60]; rfl, by show _ = some (wv (rnds ws (o + 1) x).b); rw [hn]; rfl, by show _ = some (wv (rnds ws (o + 1) x).c); rw [hn]; rfl, by show _ = some (wv (rnds ws (o + 1) x).d); rw [hn]; rfl, by show _ = some (wv (rnds ws (o + 1) x).e); rw [hn]; rfl, rfl, trivial⟩⟩
        · obtain rfl : q = false := by rw [hq]; simp <;> omega
          (repeat(first|refine pSeq ?_|refine pReg ?_|refine sCons ?_|refine sNil ?_|refine rCons ?_|refine rNil ?_|refine kNo ?_|refine pRow ?_|refine pBlock ?_|refine pSkip ?_|refine pExit ?_|refine pRet ?_|refine pCond ?_|refine gNone ?_))
          intro q hq
          by_cases h40 : 40 ≤ p
          · obtain rfl : q = true := by rw [hq]; simp <;> omega
            (repeat(first|refine pSeq ?_|refine pReg ?_|refine sCons ?_|refine sNil ?_|refine rCons ?_|refine rNil ?_|refine kNo ?_|refine pRow ?_|refine pBlock ?_|refine pSkip ?_|refine pExit ?_|refine pRet ?_|refine pCond ?_|refine gNone ?_))
            intro z hz; rw [and_u32] at hz; subst hz
            (repeat(first|refine pSeq ?_|refine pReg ?_|refine sCons ?_|refine sNil ?_|refine rCons ?_|refine rNil ?_|refine kNo ?_|refine pRow ?_|refine pBlock ?_|refine pSkip ?_|refine pExit ?_|refine pRet ?_|refine pCond ?_|refine gNone ?_))
            intro z hz; rw [and_u32] at hz; subst hz
            (repeat(first|refine pSeq ?_|refine pReg ?_|refine sCons ?_|refine sNil ?_|refine rCons ?_|refine rNil ?_|refine kNo ?_|refine pRow ?_|refine pBlock ?_|refine pSkip ?_|refine pExit ?_|refine pRet ?_|refine pCond ?_|refine gNone ?_))
            intro z hz; rw [or_u32] at hz; subst hz
            (repeat(first|refine pSeq ?_|refine pReg ?_|refine sCons ?_|refine sNil ?_|refine rCons ?_|refine rNil ?_|refine kNo ?_|refine pRow ?_|refine pBlock ?_|refine pSkip ?_|refine pExit ?_|refine pRet ?_|refine pCond ?_|refine gNone ?_))
            intro z hz; rw [and_u32] at hz; subst hz
            (repeat(first|refine pSeq ?_|refine pReg ?_|refine sCons ?_|refine sNil ?_|refine rCons ?_|refine rNil ?_|refine kNo ?_|refine pRow ?_|refine pBlock ?_|refine pSkip ?_|refine pExit ?_|refine pRet ?_|refine pCond ?_|refine gNone ?_))
            intro z hz; rw [or_u32] at hz; subst hz
            (repeat(first|refine pSeq ?_|refine pReg ?_|refine sCons ?_|refine sNil ?_|refine rCons ?_|refine rNil ?_|refine kNo ?_|refine pRow ?_|refine pBlock ?_|refine pSkip ?_|refine pExit ?_|refine pRet ?_|refine pCond ?_|refine gNone ?_))
            refine ⟨by omega, ?_⟩
            intro m hm o ho
            obtain rfl : m = p := by omega
            obtain rfl : o = m := by omega
            (repeat(first|refine pSeq ?_|refine pReg ?_|refine sCons ?_|refine sNil ?_|refine rCons ?_|refine rNil ?_|refine kNo ?_|refine pRow ?_|refine pBlock ?_|refine pSkip ?_|refine pExit ?_|refine pRet ?_|refine pCond ?_|refine gNone ?_))
            refine ldI_is rfl w8 (wds_get (by omega)) ?_
            (repeat(first|refine pSeq ?_|refine pReg ?_|refine sCons ?_|refine sNil ?_|refine rCons ?_|refine rNil ?_|refine kNo ?_|refine pRow ?_|refine pBlock ?_|refine pSkip ?_|refine pExit ?_|refine pRet ?_|refine pCond ?_|refine gNone ?_))
            refine (left_w (k := 5) (by omega)).mono fun v s9 q => ?_
            obtain ⟨rfl, rfl⟩ := q
            refine kAll .refl ?_
            (repeat(first|refine pSeq ?_|refine pReg ?_|refine sCons ?_|refine sNil ?_|refine rCons ?_|refine rNil ?_|refine kNo ?_|refine pRow ?_|refine pBlock ?_|refine pSkip ?_|refine pExit ?_|refine pRet ?_|refine pCond ?_|refine gNone ?_))
            intro z hz; rw [add_u32] at hz; subst hz
            (repeat(first|refine pSeq ?_|refine pReg ?_|refine sCons ?_|refine sNil ?_|refine rCons ?_|refine rNil ?_|refine kNo ?_|refine pRow ?_|refine pBlock ?_|refine pSkip ?_|refine pExit ?_|refine pRet ?_|refine pCond ?_|refine gNone ?_))
            intro z hz; rw [add_u32] at hz; subst hz
            (repeat(first|refine pSeq ?_|refine pReg ?_|refine sCons ?_|refine sNil ?_|refine rCons ?_|refine rNil ?_|refine kNo ?_|refine pRow ?_|refine pBlock ?_|refine pSkip ?_|refine pExit ?_|refine pRet ?_|refine pCond ?_|refine gNone ?_))
            intro z hz; rw [show (2400959708 : Int) = ((0x8f1bbcdc : Wd).toNat : Int) from rfl, add_u32] at hz; subst hz
            (repeat(first|refine pSeq ?_|refine pReg ?_|refine sCons ?_|refine sNil ?_|refine rCons ?_|refine rNil ?_|refine kNo ?_|refine pRow ?_|refine pBlock ?_|refine pSkip ?_|refine pExit ?_|refine pRet ?_|refine pCond ?_|refine gNone ?_))
            intro z hz; rw [add_u32] at hz; subst hz
            (repeat(first|refine pSeq ?_|refine pReg ?_|refine sCons ?_|refine sNil ?_|refine rCons ?_|refine rNil ?_|refine kNo ?_|refine pRow ?_|refine pBlock ?_|refine pSkip ?_|refine pExit ?_|refine pRet ?_|refine pCond ?_|refine gNone ?_))
            refine (left_w (k := 30) (by omega)).mono fun v s9 q => ?_
            obtain ⟨rfl, rfl⟩ := q
            (repeat(first|refine pSeq ?_|refine pReg ?_|refine sCons ?_|refine sNil ?_|refine rCons ?_|refine rNil ?_|refine kNo ?_|refine pRow ?_|refine pBlock ?_|refine pSkip ?_|refine pExit ?_|refine pRet ?_|refine pCond ?_|refine gNone ?_))
            intro z hz
            rw [i64_id (by omega)] at hz
            subst hz
            (repeat(first|refine pSeq ?_|refine pReg ?_|refine sCons ?_|refine sNil ?_|refine rCons ?_|refine rNil ?_|refine kNo ?_|refine pRow ?_|refine pBlock ?_|refine pSkip ?_|refine pExit ?_|refine pRet ?_|refine pCond ?_|refine gNone ?_))
            exact ⟨o + 1, by omega, by show 80 - (o + 1) < 80 - o; omega, Wk.same ⟨rfl, rfl, rfl, rfl, rfl, by show _ = some (wv (rnds ws (o + 1) x).a); rw [hn]; show _ = some (wv (rl r.a 5 + fT o r.b r.c r.d + r.e + kT o + ws.getD o 0)); rw [fT_3 ⟨h40, by omega⟩, kT_3 ⟨h40, by omega⟩]; rfl, by show _ = some (wv (rnds ws (o + 1) x).b); rw [hn]; rfl, by show _ = some (wv (rnds ws (o + 1) x).c); rw [hn]; rfl, by show _ = some (wv (rnds ws (o + 1) x).d); rw [hn]; rfl, by show _ = some (wv (rnds ws (o + 1) x).e); rw [hn]; rfl, rfl, trivial⟩⟩
          · obtain rfl : q = false := by rw [hq]; simp <;> omega
            (repeat(first|refine pSeq ?_|refine pReg ?_|refine sCons ?_|refine sNil ?_|refine rCons ?_|refine rNil ?_|refine kNo ?_|refine pRow ?_|refine pBlock ?_|refine pSkip ?_|refine pExit ?_|refine pRet ?_|refine pCond ?_|refine gNone ?_))
            refine ⟨by omega, ?_⟩
            intro m hm o ho
            obtain rfl : m = p := by omega
            obtain rfl : o = m := by omega
            (repeat(first|refine pSeq ?_|refine pReg ?_|refine sCons ?_|refine sNil ?_|refine rCons ?_|refine rNil ?_|refine kNo ?_|refine pRow ?_|refine pBlock ?_|refine pSkip ?_|refine pExit ?_|refine pRet ?_|refine pCond ?_|refine gNone ?_))
            refine ldI_is rfl w8 (wds_get (by omega)) ?_
            (repeat(first|refine pSeq ?_|refine pReg ?_|refine sCons ?_|refine sNil ?_|refine rCons ?_|refine rNil ?_|refine kNo ?_|refine pRow ?_|refine pBlock ?_|refine pSkip ?_|refine pExit ?_|refine pRet ?_|refine pCond ?_|refine gNone ?_))
            refine (left_w (k := 5) (by omega)).mono fun v s9 q => ?_
            obtain ⟨rfl, rfl⟩ := q
            refine kAll .refl ?_
            (repeat(first|refine pSeq ?_|refine pReg ?_|refine sCons ?_|refine sNil ?_|refine rCons ?_|refine rNil ?_|refine kNo ?_|refine pRow ?_|refine pBlock ?_|refine pSkip ?_|refine pExit ?_|refine pRet ?_|refine pCond ?_|refine gNone ?_))
            intro z hz; rw [add_u32] at hz; subst hz
            (repeat(first|refine pSeq ?_|refine pReg ?_|refine sCons ?_|refine sNil ?_|refine rCons ?_|refine rNil ?_|refine kNo ?_|refine pRow ?_|refine pBlock ?_|refine pSkip ?_|refine pExit ?_|refine pRet ?_|refine pCond ?_|refine gNone ?_))
            intro z hz; rw [add_u32] at hz; subst hz
            (repeat(first|refine pSeq ?_|refine pReg ?_|refine sCons ?_|refine sNil ?_|refine rCons ?_|refine rNil ?_|refine kNo ?_|refine pRow ?_|refine pBlock ?_|refine pSkip ?_|refine pExit ?_|refine pRet ?_|refine pCond ?_|refine gNone ?_))
            intro z hz; rw [show (1859775393 : Int) = ((0x6ed9eba1 : Wd).toNat : Int) from rfl, add_u32] at hz; subst hz
            (repeat(first|refine pSeq ?_|refine pReg ?_|refine sCons ?_|refine sNil ?_|refine rCons ?_|refine rNil ?_|refine kNo ?_|refine pRow ?_|refine pBlock ?_|refine pSkip ?_|refine pExit ?_|refine pRet ?_|refine pCond ?_|refine gNone ?_))
            intro z hz; rw [add_u32] at hz; subst hz
            (repeat(first|refine pSeq ?_|refine pReg ?_|refine sCons ?_|refine sNil ?_|refine rCons ?_|refine rNil ?_|refine kNo ?_|refine pRow ?_|refine pBlock ?_|refine pSkip ?_|refine pExit ?_|refine pRet ?_|refine pCond ?_|refine gNone ?_))
            refine (left_w (k := 30) (by omega)).mono fun v s9 q => ?_
            obtain ⟨rfl, rfl⟩ := q
            (repeat(first|refine pSeq ?_|refine pReg ?_|refine sCons ?_|refine sNil ?_|refine rCons ?_|refine rNil ?_|refine kNo ?_|refine pRow ?_|refine pBlock ?_|refine pSkip ?_|refine pExit ?_|refine pRet ?_|refine pCond ?_|refine gNone ?_))
            intro z hz
            rw [i64_id (by omega)] at hz
            subst hz
            (repeat(first|refine pSeq ?_|refine pReg ?_|refine sCons ?_|refine sNil ?_|refine rCons ?_|refine rNil ?_|refine kNo ?_|refine pRow ?_|refine pBlock ?_|refine pSkip ?_|refine pExit ?_|refine pRet ?_|refine pCond ?_|refine gNone ?_))
            exact ⟨o + 1, by omega, by show 80 - (o + 1) < 80 - o; omega, Wk.same ⟨rfl, rfl, rfl, rfl, rfl, by show _ = some (wv (rnds ws (o + 1) x).a); rw [hn]; show _ = some (wv (rl r.a 5 + fT o r.b r.c r.d + r.e + kT o + ws.getD o 0)); rw [fT_4 ⟨by omega, by omega⟩, kT_4 ⟨by omega, by omega⟩]; rfl, by show _ = some (wv (rnds ws (o + 1) x).b); rw [hn]; rfl, by show _ = some (wv (rnds ws (o + 1) x).c); rw [hn]; rfl, by show _ = some (wv (rnds ws (o + 1) x).d); rw [hn]; rfl, by show _ = some (wv (rnds ws (o + 1) x).e); rw [hn]; rfl, rfl, trivial⟩⟩
    subst h9
    rw [hR] at eBlk
    obtain rfl : q = false := by rw [hq]; simp <;> omega
    (repeat(first|refine pSeq ?_|refine pReg ?_|refine sCons ?_|refine sNil ?_|refine rCons ?_|refine rNil ?_|refine kNo ?_|refine pRow ?_|refine pBlock ?_|refine pSkip ?_|refine pExit ?_|refine pRet ?_|refine pCond ?_|refine gNone ?_))
    refine ⟨by decide, ?_⟩
    intro m hm o ho
    obtain rfl : m = 0 := by omega
    obtain rfl : o = 0 := by omega
    (repeat(first|refine pSeq ?_|refine pReg ?_|refine sCons ?_|refine sNil ?_|refine rCons ?_|refine rNil ?_|refine kNo ?_|refine pRow ?_|refine pBlock ?_|refine pSkip ?_|refine pExit ?_|refine pRet ?_|refine pCond ?_|refine gNone ?_))
    refine ldI_is rfl b8.h (show _ = some (wv x.a) from rfl) ?_
    (repeat(first|refine pSeq ?_|refine pReg ?_|refine sCons ?_|refine sNil ?_|refine rCons ?_|refine rNil ?_|refine kNo ?_|refine pRow ?_|refine pBlock ?_|refine pSkip ?_|refine pExit ?_|refine pRet ?_|refine pCond ?_|refine gNone ?_))
    intro z hz; rw [add_u32] at hz; subst hz
    (repeat(first|refine pSeq ?_|refine pReg ?_|refine sCons ?_|refine sNil ?_|refine rCons ?_|refine rNil ?_|refine kNo ?_|refine pRow ?_|refine pBlock ?_|refine pSkip ?_|refine pExit ?_|refine pRet ?_|refine pCond ?_|refine gNone ?_))
    refine ⟨by decide, ?_⟩
    intro m hm o ho
    obtain rfl : m = 0 := by omega
    obtain rfl : o = 0 := by omega
    (repeat(first|refine pSeq ?_|refine pReg ?_|refine sCons ?_|refine sNil ?_|refine rCons ?_|refine rNil ?_|refine kNo ?_|refine pRow ?_|refine pBlock ?_|refine pSkip ?_|refine pExit ?_|refine pRet ?_|refine pCond ?_|refine gNone ?_))
    refine st_abs (cs' := wdsV (mixW x.l r.l 1)) rfl rfl b8.h b8.h1 rfl rfl fun t0 e0 d0 m0 => ?_
    (repeat(first|refine pSeq ?_|refine pReg ?_|refine sCons ?_|refine sNil ?_|refine rCons ?_|refine rNil ?_|refine kNo ?_|refine pRow ?_|refine pBlock ?_|refine pSkip ?_|refine pExit ?_|refine pRet ?_|refine pCond ?_|refine gNone ?_))
    refine ⟨by decide, ?_⟩
    intro m hm o ho
    obtain rfl : m = 1 := by omega
    obtain rfl : o = 1 := by omega
    (repeat(first|refine pSeq ?_|refine pReg ?_|refine sCons ?_|refine sNil ?_|refine rCons ?_|refine rNil ?_|refine kNo ?_|refine pRow ?_|refine pBlock ?_|refine pSkip ?_|refine pExit ?_|refine pRet ?_|refine pCond ?_|refine gNone ?_))
    refine ldI_is rfl e0 (show _ = some (wv x.b) from rfl) ?_
    (repeat(first|refine pSeq ?_|refine pReg ?_|refine sCons ?_|refine sNil ?_|refine rCons ?_|refine rNil ?_|refine kNo ?_|refine pRow ?_|refine pBlock ?_|refine pSkip ?_|refine pExit ?_|refine pRet ?_|refine pCond ?_|refine gNone ?_))
    intro z hz; rw [add_u32] at hz; subst hz
    (repeat(first|refine pSeq ?_|refine pReg ?_|refine sCons ?_|refine sNil ?_|refine rCons ?_|refine rNil ?_|refine kNo ?_|refine pRow ?_|refine pBlock ?_|refine pSkip ?_|refine pExit ?_|refine pRet ?_|refine pCond ?_|refine gNone ?_))
    refine ⟨by decide, ?_⟩
    intro m hm o ho
    obtain rfl : m = 1 := by omega
    obtain rfl : o = 1 := by omega
    (repeat(first|refine pSeq ?_|refine pReg ?_|refine sCons ?_|refine sNil ?_|refine rCons ?_|refine rNil ?_|refine kNo ?_|refine pRow ?_|refine pBlock ?_|refine pSkip ?_|refine pExit ?_|refine pRet ?_|refine pCond ?_|refine gNone ?_))
    refine st_abs (cs' := wdsV (mixW x.l r.l 2)) rfl rfl e0 (show hb < t0.next by have := b8.h1; omega) rfl rfl fun t1 e1 d1 m1 => ?_
    (repeat(first|refine pSeq ?_|refine pReg ?_|refine sCons ?_|refine sNil ?_|refine rCons ?_|refine rNil ?_|refine kNo ?_|refine pRow ?_|refine pBlock ?_|refine pSkip ?_|refine pExit ?_|refine pRet ?_|refine pCond ?_|refine gNone ?_))
    refine ⟨by decide, ?_⟩
    intro m hm o ho
    obtain rfl : m = 2 := by omega
    obtain rfl : o = 2 := by omega
    (repeat(first|refine pSeq ?_|refine pReg ?_|refine sCons ?_|refine sNil ?_|refine rCons ?_|refine rNil ?_|refine kNo ?_|refine pRow ?_|refine pBlock ?_|refine pSkip ?_|refine pExit ?_|refine pRet ?_|refine pCond ?_|refine gNone ?_))
    refine ldI_is rfl e1 (show _ = some (wv x.c) from rfl) ?_
    (repeat(first|refine pSeq ?_|refine pReg ?_|refine sCons ?_|refine sNil ?_|refine rCons ?_|refine rNil ?_|refine kNo ?_|refine pRow ?_|refine pBlock ?_|refine pSkip ?_|refine pExit ?_|refine pRet ?_|refine pCond ?_|refine gNone ?_))
    intro z hz; rw [add_u32] at hz; subst hz
    (repeat(first|refine pSeq ?_|refine pReg ?_|refine sCons ?_|refine sNil ?_|refine rCons ?_|refine rNil ?_|refine kNo ?_|refine pRow ?_|refine pBlock ?_|refine pSkip ?_|refine pExit ?_|refine pRet ?_|refine pCond ?_|refine gNone ?_))
    refine ⟨by decide, ?_⟩
    intro m hm o ho
    obtain rfl : m = 2 := by omega
    obtain rfl : o = 2 := by omega
    (repeat(first|refine pSeq ?_|refine pReg ?_|refine sCons ?_|refine sNil ?_|refine rCons ?_|refine rNil ?_|refine kNo ?_|refine pRow ?_|refine pBlock ?_|refine pSkip ?_|refine pExit ?_|refine pRet ?_|refine pCond ?_|refine gNone ?_))
    refine st_abs (cs' := wdsV (mixW x.l r.l 3)) rfl rfl e1 (show hb < t1.next by have := b8.h1; omega) rfl rfl fun t2 e2 d2 m2 => ?_
    (repeat(first|refine pSeq ?_|refine pReg ?_|refine sCons ?_|refine sNil ?_|refine rCons ?_|refine rNil ?_|refine kNo ?_|refine pRow ?_|refine pBlock ?_|refine pSkip ?_|refine pExit ?_|refine pRet ?_|refine pCond ?_|refine gNone ?_))
    refine ⟨by decide, ?_⟩
    intro m hm o ho
    obtain rfl : m = 3 := by omega
    obtain rfl : o = 3 := by omega
    (repeat(first|refine pSeq ?_|refine pReg ?_|refine sCons ?_|refine sNil ?_|refine rCons ?_|refine rNil ?_|refine kNo ?_|refine pRow ?_|refine pBlock ?_|refine pSkip ?_|refine pExit ?_|refine pRet ?_|refine pCond ?_|refine gNone ?_))
    refine ldI_is rfl e2 (show _ = some (wv x.d) from rfl) ?_
    (repeat(first|refine pSeq ?_|refine pReg ?_|refine sCons ?_|refine sNil ?_|refine rCons ?_|refine rNil ?_|refine kNo ?_|refine pRow ?_|refine pBlock ?_|refine pSkip ?_|refine pExit ?_|refine pRet ?_|refine pCond ?_|refine gNone ?_))
    intro z hz; rw [add_u32] at hz; subst hz
    (repeat(first|refine pSeq ?_|refine pReg ?_|refine sCons ?_|refine sNil ?_|refine rCons ?_|refine rNil ?_|refine kNo ?_|refine pRow ?_|refine pBlock ?_|refine pSkip ?_|refine pExit ?_|refine pRet ?_|refine pCond ?_|refine gNone ?_))
    refine ⟨by decide, ?_⟩
    intro m hm o ho
    obtain rfl : m = 3 := by omega
    obtain rfl : o = 3 := by omega
    (repeat(first|refine pSeq ?_|refine pReg ?_|refine sCons ?_|refine sNil ?_|refine rCons ?_|refine rNil ?_|refine kNo ?_|refine pRow ?_|refine pBlock ?_|refine pSkip ?_|refine pExit ?_|refine pRet ?_|refine pCond ?_|refine gNone ?_))
    refine st_abs (cs' := wdsV (mixW x.l r.l 4)) rfl rfl e2 (show hb < t2.next by have := b8.h1; omega) rfl rfl fun t3 e3 d3 m3 => ?_
    (repeat(first|refine pSeq ?_|refine pReg ?_|refine sCons ?_|refine sNil ?_|refine rCons ?_|refine rNil ?_|refine kNo ?_|refine pRow ?_|refine pBlock ?_|refine pSkip ?_|refine pExit ?_|refine pRet ?_|refine pCond ?_|refine gNone ?_))
    refine ⟨by decide, ?_⟩
    intro m hm o ho
    obtain rfl : m = 4 := by omega
    obtain rfl : o = 4 := by omega
    (repeat(first|refine pSeq ?_|refine pReg ?_|refine sCons ?_|refine sNil ?_|refine rCons ?_|refine rNil ?_|refine kNo ?_|refine pRow ?_|refine pBlock ?_|refine pSkip ?_|refine pExit ?_|refine pRet ?_|refine pCond ?_|refine gNone ?_))
    refine ldI_is rfl e3 (show _ = some (wv x.e) from rfl) ?_
    (repeat(first|refine pSeq ?_|refine pReg ?_|refine sCons ?_|refine sNil ?_|refine rCons ?_|refine rNil ?_|refine kNo ?_|refine pRow ?_|refine pBlock ?_|refine pSkip ?_|refine pExit ?_|refine pRet ?_|refine pCond ?_|refine gNone ?_))
    intro z hz; rw [add_u32] at hz; subst hz
    (repeat(first|refine pSeq ?_|refine pReg ?_|refine sCons ?_|refine sNil ?_|refine rCons ?_|refine rNil ?_|refine kNo ?_|refine pRow ?_|refine pBlock ?_|refine pSkip ?_|refine pExit ?_|refine pRet ?_|refine pCond ?_|refine gNone ?_))
    refine ⟨by decide, ?_⟩
    intro m hm o ho
    obtain rfl : m = 4 := by omega
    obtain rfl : o = 4 := by omega
    (repeat(first|refine pSeq ?_|refine pReg ?_|refine sCons ?_|refine sNil ?_|refine rCons ?_|refine rNil ?_|refine kNo ?_|refine pRow ?_|refine pBlock ?_|refine pSkip ?_|refine pExit ?_|refine pRet ?_|refine pCond ?_|refine gNone ?_))
    refine st_abs (cs' := wdsV (mixW x.l r.l 5)) rfl rfl e3 (show hb < t3.next by have := b8.h1; omega) rfl rfl fun t4 e4 d4 m4 => ?_
    (repeat(first|refine pSeq ?_|refine pReg ?_|refine sCons ?_|refine sNil ?_|refine rCons ?_|refine rNil ?_|refine kNo ?_|refine pRow ?_|refine pBlock ?_|refine pSkip ?_|refine pExit ?_|refine pRet ?_|refine pCond ?_|refine gNone ?_))
    intro z hz
    obtain rfl : z = ((64 * (k + 1) : Nat) : Int) := by rw [hz, i64_id (by omega)]; omega
    (repeat(first|refine pSeq ?_|refine pReg ?_|refine sCons ?_|refine sNil ?_|refine rCons ?_|refine rNil ?_|refine kNo ?_|refine pRow ?_|refine pBlock ?_|refine pSkip ?_|refine pExit ?_|refine pRet ?_|refine pCond ?_|refine gNone ?_))
    have dd : Chg s8 t4 [hb] := ((((d0.trans d1).trans d2).trans d3).trans d4).sub (by simp)
    have eN : blks (k + 1) ini5 P = x.add r := by rw [blks_last, hx, hBB, eBlk]
    have b9 : RBk s t4 s.next ab hb P (x.add r) := ⟨dd.blk _ _ b8.r1 (by have := b8.rh; simpa using this) b8.res, b8.all.chg dd (by have := b8.ah; simp [blkOf]; exact this), e4, b8.chg.fresh dd (by have := b8.h0; simpa using this), dd.fine b8.fine, b8.r0, Nat.lt_of_lt_of_le b8.r1 dd.next, b8.h0, Nat.lt_of_lt_of_le b8.h1 dd.next, b8.ra, b8.rh, b8.ah⟩
    exact ⟨(k + 1, t4), ⟨by omega, by show RBk s t4 s.next ab hb P (blks (k + 1) ini5 P); rw [eN]; exact b9⟩, by show M - (k + 1) < M - k; omega, Wk.same ⟨rfl, rfl, rfl, rfl, trivial⟩⟩
  subst h7
  generalize blks k ini5 P = x at *
  obtain rfl : q = false := by rw [hq]; simp <;> omega
  (repeat(first|refine pSeq ?_|refine pReg ?_|refine sCons ?_|refine sNil ?_|refine rCons ?_|refine rNil ?_|refine kNo ?_|refine pRow ?_|refine pBlock ?_|refine pSkip ?_|refine pExit ?_|refine pRet ?_|refine pCond ?_|refine gNone ?_))
  obtain ⟨w0, k1, k2⟩ := new1_at b7.fine (.cells (bytesV zs20) tA20 false false)
  have b8 := b7.step k1 (by simp)
  refine pLoop (MW.head good (fun p : Nat × SS => 5 - p.1) (fun p => p.1 ≤ 5 ∧ RBk s p.2 s.next ab hb P x ∧ lookH p.2.heap s7.next = some (.cells (bytesV (outL x.bytes p.1 0)) tA20 false false) ∧ s7.next < p.2.next)
    (fun p => [(2, ptrV s.next), (7, ptrV hb), (21, ptrV s7.next), (22, .int .i64 p.1)]) (fun p => p.2) (0, _)
    ⟨Nat.zero_le _, b8, by rw [outL_0]; exact w0, Nat.lt_succ_self _⟩ (Wk.same ⟨rfl, rfl, rfl, rfl, trivial⟩) ?_)
  clear w0 k1 k2 b8 hq
  intro ⟨i, s8⟩ ⟨hi, b8, w8, n8⟩
  dsimp only at hi b8 w8 n8 ⊢
  have hR7 : ∀ id ∈ [s7.next], s.next ≤ id ∧ id ≠ s.next ∧ id ≠ ab ∧ id ≠ hb := fun id h => by
    rw [List.mem_singleton] at h
    have := b7.r1
    have := b7.h1
    have := b7.alt
    omega
  (repeat(first|refine pSeq ?_|refine pReg ?_|refine sCons ?_|refine sNil ?_|refine rCons ?_|refine rNil ?_|refine kNo ?_|refine pRow ?_|refine pBlock ?_|refine pSkip ?_|refine pExit ?_|refine pRet ?_|refine pCond ?_|refine gNone ?_))
  intro q hq
  by_cases h8 : i = 5
  · subst h8
    obtain rfl : q = false := by rw [hq]; simp <;> omega
    (repeat(first|refine pSeq ?_|refine pReg ?_|refine sCons ?_|refine sNil ?_|refine rCons ?_|refine rNil ?_|refine kNo ?_|refine pRow ?_|refine pBlock ?_|refine pSkip ?_|refine pExit ?_|refine pRet ?_|refine pCond ?_|refine gNone ?_))
    rw [outL_5 (bytes5_len x)] at w8
    refine ldN_is rfl w8 (bytes_take (bytes5_len x)) ?_
    (repeat(first|refine pSeq ?_|refine pReg ?_|refine sCons ?_|refine sNil ?_|refine rCons ?_|refine rNil ?_|refine kNo ?_|refine pRow ?_|refine pBlock ?_|refine pSkip ?_|refine pExit ?_|refine pRet ?_|refine pCond ?_|refine gNone ?_))
    refine st_abs (cs' := bytesV x.bytes) rfl rfl b8.res b8.r1 (agB_fl (bytes5_len x)) (agB_lay (a := zs20) rfl) fun s9 e9 c9 n9 => ?_
    (repeat(first|refine pSeq ?_|refine pReg ?_|refine sCons ?_|refine sNil ?_|refine rCons ?_|refine rNil ?_|refine kNo ?_|refine pRow ?_|refine pBlock ?_|refine pSkip ?_|refine pExit ?_|refine pRet ?_|refine pCond ?_|refine gNone ?_))
    (repeat (first | with_reducible refine sqRet ?_ | with_reducible refine bkRet ?_ | with_reducible refine hdRet ?_))
    exact ret_cell1 agg_A20 sz_A20 rfl e9 (bytes_take (bytes5_len x)) ⟨rfl, b8.chg.fresh c9 (by simp)⟩
  · obtain rfl : q = true := by rw [hq]; simp <;> omega
    (repeat(first|refine pSeq ?_|refine pReg ?_|refine sCons ?_|refine sNil ?_|refine rCons ?_|refine rNil ?_|refine kNo ?_|refine pRow ?_|refine pBlock ?_|refine pSkip ?_|refine pExit ?_|refine pRet ?_|refine pCond ?_|refine gNone ?_))
    refine ⟨by omega, ?_⟩
    intro m hm o ho
    obtain rfl : m = i := by omega
    obtain rfl : o = m := by omega
    (repeat(first|refine pSeq ?_|refine pReg ?_|refine sCons ?_|refine sNil ?_|refine rCons ?_|refine rNil ?_|refine kNo ?_|refine pRow ?_|refine pBlock ?_|refine pSkip ?_|refine pExit ?_|refine pRet ?_|refine pCond ?_|refine gNone ?_))
    refine ldI_is rfl b8.h (wds_get (show o < 5 by omega)) ?_
    generalize hxo : x.l.getD o 0 = xo
    (repeat(first|refine pSeq ?_|refine pReg ?_|refine sCons ?_|refine sNil ?_|refine rCons ?_|refine rNil ?_|refine kNo ?_|refine pRow ?_|refine pBlock ?_|refine pSkip ?_|refine pExit ?_|refine pRet ?_|refine pCond ?_|refine gNone ?_))
    refine pLoop (MW.head good (fun j : Nat × SS => 4 - j.1) (fun j => j.1 ≤ 4 ∧ RBk s j.2 s.next ab hb P x ∧ lookH j.2.heap s7.next = some (.cells (bytesV (outL x.bytes o j.1)) tA20 false false) ∧ s7.next < j.2.next)
      (fun j => [(2, ptrV s.next), (7, ptrV hb), (21, ptrV s7.next), (22, .int .i64 o), (23, wv (xo >>> (8 * j.1))), (24, .int .i64 (3 - (j.1 : Int)))]) (fun j => j.2) (0, s8)
      ⟨Nat.zero_le _, b8, w8, n8⟩ (Wk.same ⟨rfl, rfl, rfl, rfl, by show _ = some (wv (xo >>> (8 * 0))); rw [Nat.mul_zero, BitVec.ushiftRight_zero]; rfl, rfl, trivial⟩) ?_)
    clear w8 n8 b8
    intro ⟨j, s9⟩ ⟨hj, b9, w9, n9⟩
    dsimp only at hj b9 w9 n9 ⊢
    (repeat(first|refine pSeq ?_|refine pReg ?_|refine sCons ?_|refine sNil ?_|refine rCons ?_|refine rNil ?_|refine kNo ?_|refine pRow ?_|refine pBlock ?_|refine pSkip ?_|refine pExit ?_|refine pRet ?_|refine pCond ?_|refine gNone ?_))
    intro q hq
    by_cases h9 : j = 4
    · subst h9
      obtain rfl : q = false := by rw [hq]; simp <;> omega
      (repeat(first|refine pSeq ?_|refine pReg ?_|refine sCons ?_|refine sNil ?_|refine rCons ?_|refine rNil ?_|refine kNo ?_|refine pRow ?_|refine pBlock ?_|refine pSkip ?_|refine pExit ?_|refine pRet ?_|refine pCond ?_|refine gNone ?_))
      intro z hz
      rw [i64_id (by omega)] at hz
      subst hz
      (repeat(first|refine pSeq ?_|refine pReg ?_|refine sCons ?_|refine sNil ?_|refine rCons ?_|refine rNil ?_|refine kNo ?_|refine pRow ?_|refine pBlock ?_|refine pSkip ?_|refine pExit ?_|refine pRet ?_|refine pCond ?_|refine gNone ?_))
      exact ⟨(o + 1, s9), ⟨by omega, b9, by rw [← outL_step]; exact w9, n9⟩, by show 5 - (o + 1) < 5 - o; omega, Wk.same ⟨rfl, rfl, rfl, rfl, trivial⟩⟩
    · obtain rfl : q = true := by rw [hq]; simp <;> omega
      (repeat(first|refine pSeq ?_|refine pReg ?_|refine sCons ?_|refine sNil ?_|refine rCons ?_|refine rNil ?_|refine kNo ?_|refine pRow ?_|refine pBlock ?_|refine pSkip ?_|refine pExit ?_|refine pRet ?_|refine pCond ?_|refine gNone ?_))
      intro z hz
      obtain rfl : z = ((4 * o : Nat) : Int) := by rw [hz, i64_id (by omega)]; omega
      (repeat(first|refine pSeq ?_|refine pReg ?_|refine sCons ?_|refine sNil ?_|refine rCons ?_|refine rNil ?_|refine kNo ?_|refine pRow ?_|refine pBlock ?_|refine pSkip ?_|refine pExit ?_|refine pRet ?_|refine pCond ?_|refine gNone ?_))
      intro z hz
      obtain rfl : z = ((4 * o + (3 - j) : Nat) : Int) := by rw [hz, i64_id (by omega)]; omega
      (repeat(first|refine pSeq ?_|refine pReg ?_|refine sCons ?_|refine sNil ?_|refine rCons ?_|refine rNil ?_|refine kNo ?_|refine pRow ?_|refine pBlock ?_|refine pSkip ?_|refine pExit ?_|refine pRet ?_|refine pCond ?_|refine gNone ?_))
      refine ⟨by decide, ?_⟩
      intro z hz
      (repeat(first|refine pSeq ?_|refine pReg ?_|refine sCons ?_|refine sNil ?_|refine rCons ?_|refine rNil ?_|refine kNo ?_|refine pRow ?_|refine pBlock ?_|refine pSkip ?_|refine pExit ?_|refine pRet ?_|refine pCond ?_|refine gNone ?_))
      intro z1 hz1
      rw [low_byte32 hz] at hz1
      subst hz1
      (repeat(first|refine pSeq ?_|refine pReg ?_|refine sCons ?_|refine sNil ?_|refine rCons ?_|refine rNil ?_|refine kNo ?_|refine pRow ?_|refine pBlock ?_|refine pSkip ?_|refine pExit ?_|refine pRet ?_|refine pCond ?_|refine gNone ?_))
      refine ⟨by omega, ?_⟩
      intro m hm o1 ho1
      obtain rfl : m = 4 * o + (3 - j) := by omega
      obtain rfl : o1 = 4 * o + (3 - j) := by omega
      (repeat(first|refine pSeq ?_|refine pReg ?_|refine sCons ?_|refine sNil ?_|refine rCons ?_|refine rNil ?_|refine kNo ?_|refine pRow ?_|refine pBlock ?_|refine pSkip ?_|refine pExit ?_|refine pRet ?_|refine pCond ?_|refine gNone ?_))
      refine st_abs (cs' := bytesV (outL x.bytes o (j + 1))) rfl rfl w9 n9 rfl (by
        rw [outL_next _ (by omega) (by omega), bytes5_at x (by omega) (by omega), hxo]
        exact bytes_set (by rw [outL_len]; omega) _) fun sa ea ca na => ?_
      (repeat(first|refine pSeq ?_|refine pReg ?_|refine sCons ?_|refine sNil ?_|refine rCons ?_|refine rNil ?_|refine kNo ?_|refine pRow ?_|refine pBlock ?_|refine pSkip ?_|refine pExit ?_|refine pRet ?_|refine pCond ?_|refine gNone ?_))
      refine ⟨by decide, ?_⟩
      intro z hz
      rw [next_byte32] at hz
      subst hz
      (repeat(first|refine pSeq ?_|refine pReg ?_|refine sCons ?_|refine sNil ?_|refine rCons ?_|refine rNil ?_|refine kNo ?_|refine pRow ?_|refine pBlock ?_|refine pSkip ?_|refine pExit ?_|refine pRet ?_|refine pCond ?_|refine gNone ?_))
      intro z hz
      obtain rfl : z = 3 - ((j + 1 : Nat) : Int) := by rw [hz, i64_id (by omega)]; omega
      (repeat(first|refine pSeq ?_|refine pReg ?_|refine sCons ?_|refine sNil ?_|refine rCons ?_|refine rNil ?_|refine kNo ?_|refine pRow ?_|refine pBlock ?_|refine pSkip ?_|refine pExit ?_|refine pRet ?_|refine pCond ?_|refine gNone ?_))
      exact ⟨(j + 1, sa), ⟨by omega, b9.step ca hR7, ea, by show s7.next < sa.next; omega⟩, by show 4 - (j + 1) < 4 - j; omega, Wk.same ⟨rfl, rfl, rfl, rfl, rfl, rfl, trivial⟩⟩
end Go.Vf.S

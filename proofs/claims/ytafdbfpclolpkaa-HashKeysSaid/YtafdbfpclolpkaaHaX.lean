import Derived.Test.YtafdbfpclolpkaaHaT
/- HashKeys: from any state. By gen_hax.py. -/
namespace Go.Vf.S
open Go Go.Vf
attribute [local irreducible] wSeq wRow wp wG schd rnds blks blk5 sha fillF hmac
set_option linter.unusedVariables false
set_option linter.unusedSimpArgs false
set_option maxRecDepth 10000

/-- Bytes behind none: there are none, or a block of their own has them. -/
theorem app_none2 {T : TL} {s : SS} {K : RR → Prop} {x y : Operand} {n c : Nat} {l : List UInt8} {sb : Option Addr} (hx : opd T s.gl x = some (.slice none 0 0)) (hy : opd T s.gl y = some (.slice sb n c)) (hr : Rdb s sb n l) (hb : n ≤ 1000000) (hK : ∀ v, K (.eff v s) → K (.val v))
    (h : ∀ (b' : Option Addr) (s' : SS), (n = 0 → b' = none) → (0 < n → ∃ b, b' = some ⟨b, 0, none⟩ ∧ lookH s'.heap b = some (.cells (bytesV l) tB true false) ∧ s.next ≤ b ∧ b < s'.next) → Chg s s' [] → K (.eff (.slice b' n 0) s')) : wN pr (.app tB 1 1 x y) T s K := by
  rcases Nat.eq_zero_or_pos n with h0 | h0
  · subst h0
    have hl : l = [] := List.eq_nil_of_length_eq_zero hr.1.symm
    subst hl
    exact appB_zero hx hy hr (hK _ (h none s (fun _ => rfl) (fun q => by omega) (.refl _ _)))
  · refine appB_nil hx hy hr h0 (by omega) ?_
    exact h (some ⟨s.next, 0, none⟩) _ (fun q => by omega) (fun _ => ⟨s.next, rfl, lkH, Nat.le_refl _, Nat.lt_succ_self _⟩) (.new _)

/-- Bytes of one's own may be held. -/
theorem wk_held {nt k : Nat} {T : TL} {s : SS} {b : Nat} {c : List Value} {t : TypeId} (hb : lookH s.heap b = some (.cells c t true false)) : Wk pr nt k T s T { s with heap := (b, some (.held c t)) :: s.heap } := by
  refine ⟨Nat.le_refl _, rfl, fun B w0 ρ w tmps H F => ⟨H.calm rfl fun j b' x hb' hx => ?_, F⟩⟩
  rw [SS.get] at hb'
  by_cases hj : b = j
  · subst hj
    have hb2 : lookH ((b, some (.held c t)) :: s.heap) b = some b' := hb'
    rw [lkH] at hb2
    cases hb2
    exact ⟨.cells c t true false, by rw [SS.get]; exact hb, fun _ => rfl, fun r => r⟩
  · have hb2 : lookH ((b, some (.held c t)) :: s.heap) j = some b' := hb'
    simp only [lookH, beqF hj, cond_false] at hb2
    exact ⟨b', by rw [SS.get]; exact hb2, fun q => q, fun r => r⟩

theorem ro_slc {s : SS} {b n : Nat} {l : List UInt8} (h : lookH s.heap b = some (.cells (bytesV l) tB true true)) (hb : b < s.next) (hl : l.length = n) : Slc pr s (some ⟨b, 0, none⟩) n 0 l := by
  subst hl
  exact ⟨⟨rfl, rfl, hb, _, _, _, _, h, bytes_take rfl, bytesV_plain _⟩, _, _, _, _, h, fun _ => sz_B, fun q => (by cases q)⟩

/-- Bytes 0 behind what is held: it stays to be read. -/
theorem appZ_held {T : TL} {s : SS} {K : RR → Prop} {x y : Operand} {b m n : Nat} {z : Int} {a : List UInt8} (hx : opd T s.gl x = some (.slice (some ⟨b, 0, none⟩) m 0)) (hb : lookH s.heap b = some (.held (bytesV a) tB)) (hlt : b < s.next) (hm : m = a.length) (h0 : 0 < m) (hy : opd T s.gl y = some (.int .i64 z)) (hz : z = (n : Int)) (hbd : m + n ≤ 1000000)
    (h : ∀ (b' : Nat) (s' : SS), Slc pr s' (some ⟨b', 0, none⟩) (m + n) 0 (a ++ List.replicate n 0) → Slc pr s' (some ⟨b, 0, none⟩) m 0 a → Chg s s' [b] → K (.eff (.slice (some ⟨b', 0, none⟩) (m + n) 0) s')) : wN pr (.appZ tB 1 1 [.int .u8 0] x y) T s K := by
  simp only [wN, hx, hy]
  subst hz
  refine ⟨by omega, fun k hk new hnew => ?_⟩
  obtain rfl : k = n := by omega
  subst hnew
  rw [repeat_bytes]
  refine ⟨⟨by omega, by omega, by rw [bytesV_len, List.length_replicate, Nat.mul_one], all1_bytesV _⟩, ?_⟩
  simp only [hb]
  refine ⟨⟨trivial, h0, by rw [bytesV_len, Nat.mul_one]; exact hm.symm, trivial⟩, fun q => ?_, fun q m' hm' => ?_⟩
  · subst q
    refine h b { s with heap := (b, some (.cells (bytesV a) tB true true)) :: s.heap } ?_ (ro_slc lkH hlt hm.symm) (.turn hlt)
    rw [List.replicate_zero, List.append_nil]
    exact ro_slc lkH hlt hm.symm
  · subst hm'
    rw [bytesV_append]
    have hne : s.next ≠ b := by omega
    refine h s.next { s with heap := (s.next, some (.cells (bytesV (a ++ List.replicate k 0)) tB true true)) :: (b, some (.cells (bytesV a) tB true true)) :: s.heap, next := s.next + 1 } (ro_slc lkH (Nat.lt_succ_self _) (by rw [List.length_append, List.length_replicate, hm])) (ro_slc (lkT hne lkH) (Nat.lt_succ_of_lt hlt) hm.symm) ?_
    have c1 : Chg s { s with heap := (b, some (.cells (bytesV a) tB true true)) :: s.heap } [b] := .turn hlt
    exact c1.trans' (.new []) (fun id q _ => q) (by simp)
/-- Bytes 0 behind none. -/
theorem appZ_none {T : TL} {s : SS} {K : RR → Prop} {x y : Operand} {n : Nat} {z : Int} (hx : opd T s.gl x = some (.slice none 0 0)) (hy : opd T s.gl y = some (.int .i64 z)) (hz : z = (n : Int)) (hb : n ≤ 1000000)
    (hv : n = 0 → K (.val (.slice none 0 0)))
    (h : 0 < n → ∀ (s' : SS), Slc pr s' (some ⟨s.next, 0, none⟩) n 0 (List.replicate n 0) → Chg s s' [] → K (.eff (.slice (some ⟨s.next, 0, none⟩) n 0) s')) : wN pr (.appZ tB 1 1 [.int .u8 0] x y) T s K := by
  simp only [wN, hx, hy]
  subst hz
  refine ⟨by omega, fun k hk new hnew => ?_⟩
  obtain rfl : k = n := by omega
  subst hnew
  rw [repeat_bytes]
  refine ⟨⟨by omega, by omega, by rw [bytesV_len, List.length_replicate, Nat.mul_one], all1_bytesV _⟩, fun q => ⟨by omega, hv (by omega)⟩, fun q => ⟨rfl, fun m hm => ?_⟩⟩
  subst hm
  refine h (by omega) { s with heap := (s.next, some (.cells (bytesV (List.replicate m 0)) tB true false)) :: s.heap, next := s.next + 1 } ?_ (.new _)
  have hl : (List.replicate m (0 : UInt8)).length = m := List.length_replicate
  exact ⟨⟨hl.symm, rfl, Nat.lt_succ_self _, _, _, _, _, lkH, bytes_take hl, bytesV_plain _⟩, _, _, _, _, lkH, fun _ => sz_B, fun q => (by cases q)⟩

set_option maxHeartbeats 4000000 in
theorem hkeys_w {s : SS} {bk bl : Option Addr} {k0 l0 : List UInt8} {a : UInt8} (f : Fine s) (hk : Slc pr s bk k0.length 0 k0) (hl : Slc pr s bl l0.length 0 l0) : CallW pr n_law10_HashKeys [.slice bk k0.length 0, .slice bl l0.length 0, .int .u8 a.toNat] s fun v s' => v = .bool true := by
  have ha := a.toNat_lt
  have hllt := hl.1.lt
  refine CallW.run good ok_law10_HashKeys (by simp) rfl ?_
  (repeat(first|refine pSeq ?_|refine pReg ?_|refine sCons ?_|refine sNil ?_|refine rCons ?_|refine rNil ?_|refine kNo ?_|refine pRow ?_|refine pBlock ?_|refine pSkip ?_|refine pExit ?_|refine pRet ?_|refine pCond ?_|refine gNone ?_|refine gOn rfl ?_|refine gOff rfl rfl ?_|refine gTup rfl ?_))
  intro z hz
  (repeat(first|refine pSeq ?_|refine pReg ?_|refine sCons ?_|refine sNil ?_|refine rCons ?_|refine rNil ?_|refine kNo ?_|refine pRow ?_|refine pBlock ?_|refine pSkip ?_|refine pExit ?_|refine pRet ?_|refine pCond ?_|refine gNone ?_|refine gOn rfl ?_|refine gOff rfl rfl ?_|refine gTup rfl ?_))
  refine slL_same 0 (min k0.length 300) rfl rfl rfl hk rfl (show z = _ by omega) (by omega) fun b1 c1 hs1 hb1 => ?_
  rw [List.drop_zero] at hs1
  generalize hlk : k0.take (min k0.length 300) = k at hs1
  have hnk := hs1.1.1
  generalize hnb : min k0.length 300 = nk at hs1 hnk
  have hn3 : nk ≤ 300 := by omega
  clear hz hlk
  (repeat(first|refine pSeq ?_|refine pReg ?_|refine sCons ?_|refine sNil ?_|refine rCons ?_|refine rNil ?_|refine kNo ?_|refine pRow ?_|refine pBlock ?_|refine pSkip ?_|refine pExit ?_|refine pRet ?_|refine pCond ?_|refine gNone ?_|refine gOn rfl ?_|refine gOff rfl rfl ?_|refine gTup rfl ?_))
  intro z hz
  (repeat(first|refine pSeq ?_|refine pReg ?_|refine sCons ?_|refine sNil ?_|refine rCons ?_|refine rNil ?_|refine kNo ?_|refine pRow ?_|refine pBlock ?_|refine pSkip ?_|refine pExit ?_|refine pRet ?_|refine pCond ?_|refine gNone ?_|refine gOn rfl ?_|refine gOff rfl rfl ?_|refine gTup rfl ?_))
  refine slL_same 0 (min l0.length 300) rfl rfl rfl hl rfl (show z = _ by omega) (by omega) fun b2 c2 hs2 hb2 => ?_
  rw [List.drop_zero] at hs2
  generalize hll : l0.take (min l0.length 300) = l at hs2
  have hnl := hs2.1.1
  generalize hnb2 : min l0.length 300 = nl at hs2 hnl
  have hn4 : nl ≤ 300 := by omega
  have hlt2 : ∀ id ∈ blkOf b2, id < s.next := fun id h => hllt id (hb2 id h)
  clear hz hll
  (repeat(first|refine pSeq ?_|refine pReg ?_|refine sCons ?_|refine sNil ?_|refine rCons ?_|refine rNil ?_|refine kNo ?_|refine pRow ?_|refine pBlock ?_|refine pSkip ?_|refine pExit ?_|refine pRet ?_|refine pCond ?_|refine gNone ?_|refine gOn rfl ?_|refine gOff rfl rfl ?_|refine gTup rfl ?_))
  refine (hmac_w f hs1 hs2 (by omega) (by omega)).mono fun v s3 q => ?_
  obtain ⟨rfl, k3⟩ := q
  have f3 := k3.fine f
  have n3 := k3.next
  generalize hHm : hmac k l = want
  have hwl : want.length = 20 := by rw [← hHm]; exact hmac_len _ _
  (repeat(first|refine pSeq ?_|refine pReg ?_|refine sCons ?_|refine sNil ?_|refine rCons ?_|refine rNil ?_|refine kNo ?_|refine pRow ?_|refine pBlock ?_|refine pSkip ?_|refine pExit ?_|refine pRet ?_|refine pCond ?_|refine gNone ?_|refine gOn rfl ?_|refine gOff rfl rfl ?_|refine gTup rfl ?_))
  obtain ⟨w0, w1, w2⟩ := new1_at f3 (.cells (bytesV zs20) tA20 false false)
  refine st_abs (cs' := bytesV want) rfl rfl w0 (Nat.lt_succ_self _) (agB_fl hwl) (agB_lay (a := zs20) hwl.symm) fun s4 e4 c4 n4 => ?_
  replace n4 : s4.next = s3.next + 1 := n4
  replace c4 := w1.fresh c4 (by simp)
  have f4 := c4.fine f3
  have hs1 := (hs1.chg k3 (by simp)).chg c4 (by simp)
  have hs2 := (hs2.chg k3 (by simp)).chg c4 (by simp)
  generalize s3.next = wb at *
  clear w0 w1 w2 k3 c4 f3
  (repeat(first|refine pSeq ?_|refine pReg ?_|refine sCons ?_|refine sNil ?_|refine rCons ?_|refine rNil ?_|refine kNo ?_|refine pRow ?_|refine pBlock ?_|refine pSkip ?_|refine pExit ?_|refine pRet ?_|refine pCond ?_|refine gNone ?_|refine gOn rfl ?_|refine gOff rfl rfl ?_|refine gTup rfl ?_))
  refine app_none2 rfl rfl hs1.1 (by omega) (fun _ h => h) fun b5 s5 o5 p5 c5 => ?_
  have f5 := c5.fine f4
  have n5 := c5.next
  have e5 := c5.blk _ _ (show wb < s4.next by omega) (by simp) e4
  have hs1 := hs1.chg c5 (by simp)
  have hs2 := hs2.chg c5 (by simp)
  clear c5 e4 f4
  (repeat(first|refine pSeq ?_|refine pReg ?_|refine sCons ?_|refine sNil ?_|refine rCons ?_|refine rNil ?_|refine kNo ?_|refine pRow ?_|refine pBlock ?_|refine pSkip ?_|refine pExit ?_|refine pRet ?_|refine pCond ?_|refine gNone ?_|refine gOn rfl ?_|refine gOff rfl rfl ?_|refine gTup rfl ?_))
  intro q hq
  by_cases h6 : 64 < nk
  · obtain rfl : q = true := by rw [hq]; simp <;> omega
    (repeat(first|refine pSeq ?_|refine pReg ?_|refine sCons ?_|refine sNil ?_|refine rCons ?_|refine rNil ?_|refine kNo ?_|refine pRow ?_|refine pBlock ?_|refine pSkip ?_|refine pExit ?_|refine pRet ?_|refine pCond ?_|refine gNone ?_|refine gOn rfl ?_|refine gOff rfl rfl ?_|refine gTup rfl ?_))
    refine (sha1_w f5 hs1 (by omega)).mono fun v s6 q => ?_
    obtain ⟨rfl, k6⟩ := q
    have f6 := k6.fine f5
    have n6 := k6.next
    have e6 := k6.blk _ _ (show wb < s5.next by omega) (by simp) e5
    (repeat(first|refine pSeq ?_|refine pReg ?_|refine sCons ?_|refine sNil ?_|refine rCons ?_|refine rNil ?_|refine kNo ?_|refine pRow ?_|refine pBlock ?_|refine pSkip ?_|refine pExit ?_|refine pRet ?_|refine pCond ?_|refine gNone ?_|refine gOn rfl ?_|refine gOff rfl rfl ?_|refine gTup rfl ?_))
    obtain ⟨w0, w1, w2⟩ := new1_at f6 (.cells (bytesV zs20) tA20 false false)
    refine st_abs (cs' := bytesV (sha k)) rfl rfl w0 (Nat.lt_succ_self _) (agB_fl (sha_len k)) (agB_lay (a := zs20) (sha_len k).symm) fun s7 e7 c7 n7 => ?_
    replace n7 : s7.next = s6.next + 1 := n7
    replace e6 := c7.blk _ _ (show wb < s6.next + 1 by omega) (by simp; omega) (w1.blk _ _ (show wb < s6.next by omega) (by simp) e6)
    replace c7 := w1.fresh c7 (by simp)
    have f7 := c7.fine f6
    have hs2 := (hs2.chg k6 (by simp)).chg c7 (by simp)
    (repeat(first|refine pSeq ?_|refine pReg ?_|refine sCons ?_|refine sNil ?_|refine rCons ?_|refine rNil ?_|refine kNo ?_|refine pRow ?_|refine pBlock ?_|refine pSkip ?_|refine pExit ?_|refine pRet ?_|refine pCond ?_|refine gNone ?_|refine gOn rfl ?_|refine gOff rfl rfl ?_|refine gTup rfl ?_))
    refine slA_is10 0 20 rfl e7 rfl rfl rfl rfl (by omega) (by omega) ?_
    (repeat(first|refine pSeq ?_|refine pReg ?_|refine sCons ?_|refine sNil ?_|refine rCons ?_|refine rNil ?_|refine kNo ?_|refine pRow ?_|refine pBlock ?_|refine pSkip ?_|refine pExit ?_|refine pRet ?_|refine pCond ?_|refine gNone ?_|refine gOn rfl ?_|refine gOff rfl rfl ?_|refine gTup rfl ?_))
    refine ldN_is rfl e6 (bytes_take hwl) ?_
    (repeat(first|refine pSeq ?_|refine pReg ?_|refine sCons ?_|refine sNil ?_|refine rCons ?_|refine rNil ?_|refine kNo ?_|refine pRow ?_|refine pBlock ?_|refine pSkip ?_|refine pExit ?_|refine pRet ?_|refine pCond ?_|refine gNone ?_|refine gOn rfl ?_|refine gOff rfl rfl ?_|refine gTup rfl ?_))
    have hO := cell_slc e7 (show s6.next < s7.next by omega) (sha_len k)
    refine (hmac_w f7 hO hs2 (by omega) (by omega)).mono fun v sR q => ?_
    obtain ⟨rfl, k8⟩ := q
    have fR := k8.fine f7
    have n8 := k8.next
    refine kAll (k8.keep f7) ?_
    (repeat(first|refine pSeq ?_|refine pReg ?_|refine sCons ?_|refine sNil ?_|refine rCons ?_|refine rNil ?_|refine kNo ?_|refine pRow ?_|refine pBlock ?_|refine pSkip ?_|refine pExit ?_|refine pRet ?_|refine pCond ?_|refine gNone ?_|refine gOn rfl ?_|refine gOff rfl rfl ?_|refine gTup rfl ?_))
    have eH : hmac (sha k) l = want := by rw [hmac_eq, fill_long k (by omega), ← hmac_eq]; exact hHm
    rw [eH]
    refine bin_neq20 rfl rfl hwl hwl ?_
    rw [show (!(decide (want = want))) = false by simp]
    (repeat(first|refine pSeq ?_|refine pReg ?_|refine sCons ?_|refine sNil ?_|refine rCons ?_|refine rNil ?_|refine kNo ?_|refine pRow ?_|refine pBlock ?_|refine pSkip ?_|refine pExit ?_|refine pRet ?_|refine pCond ?_|refine gNone ?_|refine gOn rfl ?_|refine gOff rfl rfl ?_|refine gTup rfl ?_))
    have eW := k8.blk _ _ (show wb < s7.next by omega) (by simp) e6
    have wlt : wb < sR.next := by omega
    have hsB := hs2.chg k8 (by simp)
    replace hO := hO.chg k8 (by simp)
    have hF : sha k ++ (List.replicate 64 (0 : UInt8)).drop 20 = fillF k := by rw [fill_eq1 (by omega)]; rfl
    have hlt3 : ∀ id ∈ blkOf b2, id < sR.next := fun id h => by have := hlt2 id h; omega
    refine ⟨by decide, ?_⟩
    intro m1 nn1 hm1 hn1 cs hcs
    obtain rfl : m1 = 64 := by omega
    obtain rfl : nn1 = 64 := by omega
    rw [rep_bytes] at hcs
    subst hcs
    (repeat(first|refine pSeq ?_|refine pReg ?_|refine sCons ?_|refine sNil ?_|refine rCons ?_|refine rNil ?_|refine kNo ?_|refine pRow ?_|refine pBlock ?_|refine pSkip ?_|refine pExit ?_|refine pRet ?_|refine pCond ?_|refine gNone ?_|refine gOn rfl ?_|refine gOff rfl rfl ?_|refine gTup rfl ?_))
    obtain ⟨d0, d1, d2⟩ := new1_at fR (.cells (bytesV (List.replicate 64 0)) tB false false)
    refine cpy_any10 (tt := tB) (l := sha k) (n := 20) rfl d0 (Nat.lt_succ_self _) rfl (hO.chg d1 (by simp)).1 (by omega) (by rw [List.length_replicate]; omega) fun s9 e9 c9 => ?_
    have n9 := c9.next
    replace n9 : sR.next + 1 ≤ s9.next := n9
    replace e9 : lookH s9.heap sR.next = some (.cells (bytesV (fillF k)) tB false false) := by
      rw [← hF]; exact e9
    replace eW := c9.blk _ _ (show wb < sR.next + 1 by omega) (by simp; omega) (d1.blk _ _ wlt (by simp) eW)
    replace c9 := d1.fresh c9 (by simp)
    replace hsB := hsB.chg c9 (by simp)
    have f9 := c9.fine fR
    have hFl := fillF_len k
    have hHm2 : sha (xorF 92 (fillF k) ++ sha (xorF 54 (fillF k) ++ l)) = want := by rw [← hmac_eq]; exact hHm
    generalize fillF k = F at *
    clear hO hF d0 d1 d2
    (repeat(first|refine pSeq ?_|refine pReg ?_|refine sCons ?_|refine sNil ?_|refine rCons ?_|refine rNil ?_|refine kNo ?_|refine pRow ?_|refine pBlock ?_|refine pSkip ?_|refine pExit ?_|refine pRet ?_|refine pCond ?_|refine gNone ?_|refine gOn rfl ?_|refine gOff rfl rfl ?_|refine gTup rfl ?_))
    refine pLoop (MW.head good (fun p : Nat × Option Addr × Option Addr × SS => 64 - p.1) (fun p => p.1 ≤ 64 ∧ Own tB p.2.2.2 p.2.1 (xorF 54 (F.take p.1)) ∧ Own tB p.2.2.2 p.2.2.1 (xorF 92 (F.take p.1)) ∧ lookH p.2.2.2.heap sR.next = some (.cells (bytesV F) tB false false) ∧ lookH p.2.2.2.heap wb = some (.cells (bytesV want) tA20 false false) ∧ (∀ id ∈ blkOf p.2.1, s9.next ≤ id ∧ id ∉ blkOf p.2.2.1) ∧ (∀ id ∈ blkOf p.2.2.1, s9.next ≤ id) ∧ Chg s9 p.2.2.2 [])
      (fun p => [(1, .slice b2 nl c2), (7, ptrV wb), (11, .slice p.2.1 p.1 0), (12, .slice p.2.2.1 p.1 0), (58, .slice (some ⟨sR.next, 0, none⟩) 64 64), (59, .int .i64 64), (60, .int .i64 p.1)]) (fun p => p.2.2.2) (0, none, none, s9)
      ⟨Nat.zero_le _, rfl, rfl, e9, eW, by simp [blkOf], by simp [blkOf], .refl _ _⟩ (Wk.same ⟨rfl, rfl, rfl, rfl, rfl, rfl, rfl, trivial⟩) ?_)
    clear e9 eW
    intro ⟨i, ib, qb, t5⟩ ⟨hi, oi, oq, e9, eW, ii, iq, ct⟩
    dsimp only at hi oi oq e9 eW ii iq ct ⊢
    have li := xorF_take_len (c := 54) (F := F) (i := i) (by omega)
    have lq := xorF_take_len (c := 92) (F := F) (i := i) (by omega)
    have nt := ct.next
    (repeat(first|refine pSeq ?_|refine pReg ?_|refine sCons ?_|refine sNil ?_|refine rCons ?_|refine rNil ?_|refine kNo ?_|refine pRow ?_|refine pBlock ?_|refine pSkip ?_|refine pExit ?_|refine pRet ?_|refine pCond ?_|refine gNone ?_|refine gOn rfl ?_|refine gOff rfl rfl ?_|refine gTup rfl ?_))
    intro q hq
    by_cases h8 : i = 64
    rotate_left
    · obtain rfl : q = true := by rw [hq]; simp <;> omega
      (repeat(first|refine pSeq ?_|refine pReg ?_|refine sCons ?_|refine sNil ?_|refine rCons ?_|refine rNil ?_|refine kNo ?_|refine pRow ?_|refine pBlock ?_|refine pSkip ?_|refine pExit ?_|refine pRet ?_|refine pCond ?_|refine gNone ?_|refine gOn rfl ?_|refine gOff rfl rfl ?_|refine gTup rfl ?_))
      obtain ⟨x, hx⟩ : ∃ x, F[i]? = some x := ⟨_, List.getElem?_eq_getElem (by omega)⟩
      refine ⟨by omega, ?_⟩
      intro m hm o ho
      obtain rfl : m = i := by omega
      rw [Nat.zero_add, Nat.mul_one] at ho
      subst ho
      (repeat(first|refine pSeq ?_|refine pReg ?_|refine sCons ?_|refine sNil ?_|refine rCons ?_|refine rNil ?_|refine kNo ?_|refine pRow ?_|refine pBlock ?_|refine pSkip ?_|refine pExit ?_|refine pRet ?_|refine pCond ?_|refine gNone ?_|refine gOn rfl ?_|refine gOff rfl rfl ?_|refine gTup rfl ?_))
      refine ldI_is rfl e9 (bytes_get hx) ?_
      (repeat(first|refine pSeq ?_|refine pReg ?_|refine sCons ?_|refine sNil ?_|refine rCons ?_|refine rNil ?_|refine kNo ?_|refine pRow ?_|refine pBlock ?_|refine pSkip ?_|refine pExit ?_|refine pRet ?_|refine pCond ?_|refine gNone ?_|refine gOn rfl ?_|refine gOff rfl rfl ?_|refine gTup rfl ?_))
      intro z hz
      rw [show (54 : Int) = ((54 : UInt8).toNat : Int) from rfl, xor_u8] at hz
      subst hz
      (repeat(first|refine pSeq ?_|refine pReg ?_|refine sCons ?_|refine sNil ?_|refine rCons ?_|refine rNil ?_|refine kNo ?_|refine pRow ?_|refine pBlock ?_|refine pSkip ?_|refine pExit ?_|refine pRet ?_|refine pCond ?_|refine gNone ?_|refine gOn rfl ?_|refine gOff rfl rfl ?_|refine gTup rfl ?_))
      refine app_mine1 (c := x ^^^ 54) oi rfl li.symm rfl rfl (by omega) fun t6 o6 c6 n6 => ?_
      rw [← xorF_next hx] at o6
      have oq6 := oq.chg c6 (fun id h h' => (ii id h').2 h)
      have e96 := c6.blk sR.next _ (show sR.next < t5.next by omega) (fun h => by have := (ii _ h).1; omega) e9
      have eW6 := c6.blk wb _ (show wb < t5.next by omega) (fun h => by have := (ii _ h).1; omega) eW
      have ct6 := ct.trans' (C := []) c6 (by simp) (fun id h hlt' => absurd (ii id h).1 (by omega))
      (repeat(first|refine pSeq ?_|refine pReg ?_|refine sCons ?_|refine sNil ?_|refine rCons ?_|refine rNil ?_|refine kNo ?_|refine pRow ?_|refine pBlock ?_|refine pSkip ?_|refine pExit ?_|refine pRet ?_|refine pCond ?_|refine gNone ?_|refine gOn rfl ?_|refine gOff rfl rfl ?_|refine gTup rfl ?_))
      intro z hz
      rw [show (92 : Int) = ((92 : UInt8).toNat : Int) from rfl, xor_u8] at hz
      subst hz
      (repeat(first|refine pSeq ?_|refine pReg ?_|refine sCons ?_|refine sNil ?_|refine rCons ?_|refine rNil ?_|refine kNo ?_|refine pRow ?_|refine pBlock ?_|refine pSkip ?_|refine pExit ?_|refine pRet ?_|refine pCond ?_|refine gNone ?_|refine gOn rfl ?_|refine gOff rfl rfl ?_|refine gTup rfl ?_))
      refine app_mine1 (c := x ^^^ 92) oq6 rfl lq.symm rfl rfl (by omega) fun t7 o7 c7 n7 => ?_
      rw [← xorF_next hx] at o7
      (repeat(first|refine pSeq ?_|refine pReg ?_|refine sCons ?_|refine sNil ?_|refine rCons ?_|refine rNil ?_|refine kNo ?_|refine pRow ?_|refine pBlock ?_|refine pSkip ?_|refine pExit ?_|refine pRet ?_|refine pCond ?_|refine gNone ?_|refine gOn rfl ?_|refine gOff rfl rfl ?_|refine gTup rfl ?_))
      intro z hz
      rw [i64_id (by omega)] at hz
      subst hz
      (repeat(first|refine pSeq ?_|refine pReg ?_|refine sCons ?_|refine sNil ?_|refine rCons ?_|refine rNil ?_|refine kNo ?_|refine pRow ?_|refine pBlock ?_|refine pSkip ?_|refine pExit ?_|refine pRet ?_|refine pCond ?_|refine gNone ?_|refine gOn rfl ?_|refine gOff rfl rfl ?_|refine gTup rfl ?_))
      exact ⟨(o + 1, some ⟨t5.next + 1, 0, none⟩, some ⟨t6.next + 1, 0, none⟩, t7), ⟨by omega, o6.chg c7 (fun id h h' => by simp [blkOf] at h; have := oq.lt id h'; omega), o7, c7.blk sR.next _ (by omega) (fun h => by have := iq _ h; omega) e96, c7.blk wb _ (by omega) (fun h => by have := iq _ h; omega) eW6,
        fun id h => by simp [blkOf] at h; exact ⟨by omega, by simp [blkOf]; omega⟩, fun id h => by simp [blkOf] at h; omega, ct6.trans' (C := []) c7 (by simp) (fun id h hlt' => absurd (iq id h) (by omega))⟩, by show 64 - (o + 1) < 64 - o; omega, Wk.same ⟨rfl, rfl, rfl, rfl, rfl, rfl, rfl, trivial⟩⟩
    subst h8
    obtain rfl : q = false := by rw [hq]; simp <;> omega
    (repeat(first|refine pSeq ?_|refine pReg ?_|refine sCons ?_|refine sNil ?_|refine rCons ?_|refine rNil ?_|refine kNo ?_|refine pRow ?_|refine pBlock ?_|refine pSkip ?_|refine pExit ?_|refine pRet ?_|refine pCond ?_|refine gNone ?_|refine gOn rfl ?_|refine gOff rfl rfl ?_|refine gTup rfl ?_))
    rw [List.take_of_length_le (by omega)] at oi oq
    obtain ⟨ia, rfl⟩ := own_some oi (by unfold xorF; rw [List.length_map]; omega)
    obtain ⟨qa, rfl⟩ := own_some oq (by unfold xorF; rw [List.length_map]; omega)
    have lx : ∀ c : UInt8, (xorF c F).length = 64 := fun c => by unfold xorF; rw [List.length_map, hFl]
    replace ii := ii ia (by simp [blkOf])
    replace iq := iq qa (by simp [blkOf])
    have hiq : qa ≠ ia := fun h => ii.2 (by simp [blkOf, h])
    have hsB := hsB.chg ct (by simp)
    have ft := ct.fine f9
    refine app_own0 oi (lx 54).symm (by omega) rfl rfl hsB.1 (by omega) (fun _ h => h) fun b6 t6 o6 i6 c6 => ?_
    have n6 := c6.next
    have f6 := c6.fine ft
    have eW6 := c6.blk _ _ (show wb < t5.next by omega) (by simp; omega) eW
    have oq6 := oq.chg c6 (by simp [blkOf]; exact hiq)
    (repeat(first|refine pSeq ?_|refine pReg ?_|refine sCons ?_|refine sNil ?_|refine rCons ?_|refine rNil ?_|refine kNo ?_|refine pRow ?_|refine pBlock ?_|refine pSkip ?_|refine pExit ?_|refine pRet ?_|refine pCond ?_|refine gNone ?_|refine gOn rfl ?_|refine gOff rfl rfl ?_|refine gTup rfl ?_))
    have r6 := o6.slc sz_B
    rw [List.length_append, lx, ← hnl] at r6
    refine (sha1_w f6 r6 (by omega)).mono fun v t7 q => ?_
    obtain ⟨rfl, k7⟩ := q
    generalize hin : sha (xorF 54 F ++ l) = inn at hHm2 ⊢
    have hil : inn.length = 20 := by rw [← hin]; exact sha_len _
    have n7 := k7.next
    have f7 := k7.fine f6
    (repeat(first|refine pSeq ?_|refine pReg ?_|refine sCons ?_|refine sNil ?_|refine rCons ?_|refine rNil ?_|refine kNo ?_|refine pRow ?_|refine pBlock ?_|refine pSkip ?_|refine pExit ?_|refine pRet ?_|refine pCond ?_|refine gNone ?_|refine gOn rfl ?_|refine gOff rfl rfl ?_|refine gTup rfl ?_))
    obtain ⟨w0, w1, w2⟩ := new1_at f7 (.cells (bytesV zs20) tA20 false false)
    refine st_abs (cs' := bytesV inn) rfl rfl w0 (Nat.lt_succ_self _) (agB_fl hil) (agB_lay (a := zs20) hil.symm) fun t8 e8 c8 n8 => ?_
    replace n8 : t8.next = t7.next + 1 := n8
    replace c8 := w1.fresh c8 (by simp)
    have k68 := k7.nil c8
    have f8 := k68.fine f6
    have eW8 := k68.blk _ _ (show wb < t6.next by omega) (by simp) eW6
    have oq8 := oq6.chg k68 (by simp)
    have hqa := oq8.lt qa (by simp [blkOf])
    (repeat(first|refine pSeq ?_|refine pReg ?_|refine sCons ?_|refine sNil ?_|refine rCons ?_|refine rNil ?_|refine kNo ?_|refine pRow ?_|refine pBlock ?_|refine pSkip ?_|refine pExit ?_|refine pRet ?_|refine pCond ?_|refine gNone ?_|refine gOn rfl ?_|refine gOff rfl rfl ?_|refine gTup rfl ?_))
    refine slA_is10 0 20 rfl e8 rfl rfl rfl rfl (by omega) (by omega) ?_
    (repeat(first|refine pSeq ?_|refine pReg ?_|refine sCons ?_|refine sNil ?_|refine rCons ?_|refine rNil ?_|refine kNo ?_|refine pRow ?_|refine pBlock ?_|refine pSkip ?_|refine pExit ?_|refine pRet ?_|refine pCond ?_|refine gNone ?_|refine gOn rfl ?_|refine gOff rfl rfl ?_|refine gTup rfl ?_))
    refine ldN_is rfl eW8 (bytes_take hwl) ?_
    (repeat(first|refine pSeq ?_|refine pReg ?_|refine sCons ?_|refine sNil ?_|refine rCons ?_|refine rNil ?_|refine kNo ?_|refine pRow ?_|refine pBlock ?_|refine pSkip ?_|refine pExit ?_|refine pRet ?_|refine pCond ?_|refine gNone ?_|refine gOn rfl ?_|refine gOff rfl rfl ?_|refine gTup rfl ?_))
    refine app_mine oq8 (lx 92).symm rfl rfl (cell_slc e8 (show t7.next < t8.next by omega) hil).1 (by omega) (by omega) fun t9 o9 c10 n9 => ?_
    have eW9 := c10.blk _ _ (show wb < t8.next by omega) (by simp [blkOf]; omega) eW8
    have f10 := c10.fine f8
    refine kEach ⟨fun _ => ldN_is rfl eW9 (bytes_take hwl) rfl, trivial⟩ ?_
    (repeat(first|refine pSeq ?_|refine pReg ?_|refine sCons ?_|refine sNil ?_|refine rCons ?_|refine rNil ?_|refine kNo ?_|refine pRow ?_|refine pBlock ?_|refine pSkip ?_|refine pExit ?_|refine pRet ?_|refine pCond ?_|refine gNone ?_|refine gOn rfl ?_|refine gOff rfl rfl ?_|refine gTup rfl ?_))
    have r9 := o9.slc sz_B
    rw [List.length_append, lx, hil] at r9
    refine (sha1_w f10 r9 (by omega)).mono fun v u1 q => ?_
    obtain ⟨rfl, k11⟩ := q
    have f11 := k11.fine f10
    rw [hHm2]
    (try refine kAll (k11.keep f10) ?_)
    (repeat(first|refine pSeq ?_|refine pReg ?_|refine sCons ?_|refine sNil ?_|refine rCons ?_|refine rNil ?_|refine kNo ?_|refine pRow ?_|refine pBlock ?_|refine pSkip ?_|refine pExit ?_|refine pRet ?_|refine pCond ?_|refine gNone ?_|refine gOn rfl ?_|refine gOff rfl rfl ?_|refine gTup rfl ?_))
    refine bin_eql20 rfl rfl hwl hwl ?_
    rw [show decide (want = want) = true by simp]
    (repeat(first|refine pSeq ?_|refine pReg ?_|refine sCons ?_|refine sNil ?_|refine rCons ?_|refine rNil ?_|refine kNo ?_|refine pRow ?_|refine pBlock ?_|refine pSkip ?_|refine pExit ?_|refine pRet ?_|refine pCond ?_|refine gNone ?_|refine gOn rfl ?_|refine gOff rfl rfl ?_|refine gTup rfl ?_))
    refine (tells10_w f11).mono fun v u2 q => ?_
    obtain ⟨rfl, k12⟩ := q
    (repeat(first|refine pSeq ?_|refine pReg ?_|refine sCons ?_|refine sNil ?_|refine rCons ?_|refine rNil ?_|refine kNo ?_|refine pRow ?_|refine pBlock ?_|refine pSkip ?_|refine pExit ?_|refine pRet ?_|refine pCond ?_|refine gNone ?_|refine gOn rfl ?_|refine gOff rfl rfl ?_|refine gTup rfl ?_))
    rfl
  · obtain rfl : q = false := by rw [hq]; simp <;> omega
    rcases Nat.eq_zero_or_pos nk with h0 | h0
    · obtain rfl := o5 h0
      subst h0
      have hk0 : k = [] := List.eq_nil_of_length_eq_zero hnk.symm
      subst hk0
      (repeat(first|refine pSeq ?_|refine pReg ?_|refine sCons ?_|refine sNil ?_|refine rCons ?_|refine rNil ?_|refine kNo ?_|refine pRow ?_|refine pBlock ?_|refine pSkip ?_|refine pExit ?_|refine pRet ?_|refine pCond ?_|refine gNone ?_|refine gOn rfl ?_|refine gOff rfl rfl ?_|refine gTup rfl ?_))
      intro z hz
      rw [i64_id (by omega)] at hz
      subst hz
      (repeat(first|refine pSeq ?_|refine pReg ?_|refine sCons ?_|refine sNil ?_|refine rCons ?_|refine rNil ?_|refine kNo ?_|refine pRow ?_|refine pBlock ?_|refine pSkip ?_|refine pExit ?_|refine pRet ?_|refine pCond ?_|refine gNone ?_|refine gOn rfl ?_|refine gOff rfl rfl ?_|refine gTup rfl ?_))
      intro z hz
      obtain rfl : z = 65 := by rw [hz, i64_id (by omega)]; omega
      (repeat(first|refine pSeq ?_|refine pReg ?_|refine sCons ?_|refine sNil ?_|refine rCons ?_|refine rNil ?_|refine kNo ?_|refine pRow ?_|refine pBlock ?_|refine pSkip ?_|refine pExit ?_|refine pRet ?_|refine pCond ?_|refine gNone ?_|refine gOn rfl ?_|refine gOff rfl rfl ?_|refine gTup rfl ?_))
      refine ⟨by decide, ?_⟩
      intro z hz
      obtain rfl : z = ((a.toNat % 65 : Nat) : Int) := by rw [hz]; exact (Int.ofNat_tmod a.toNat 65).symm
      generalize hzn : a.toNat % 65 = zn
      have hz64 : zn ≤ 64 := by omega
      (repeat(first|refine pSeq ?_|refine pReg ?_|refine sCons ?_|refine sNil ?_|refine rCons ?_|refine rNil ?_|refine kNo ?_|refine pRow ?_|refine pBlock ?_|refine pSkip ?_|refine pExit ?_|refine pRet ?_|refine pCond ?_|refine gNone ?_|refine gOn rfl ?_|refine gOff rfl rfl ?_|refine gTup rfl ?_))
      refine ldN_is rfl e5 (bytes_take hwl) ?_
      (repeat(first|refine pSeq ?_|refine pReg ?_|refine sCons ?_|refine sNil ?_|refine rCons ?_|refine rNil ?_|refine kNo ?_|refine pRow ?_|refine pBlock ?_|refine pSkip ?_|refine pExit ?_|refine pRet ?_|refine pCond ?_|refine gNone ?_|refine gOn rfl ?_|refine gOff rfl rfl ?_|refine gTup rfl ?_))
      refine appZ_none (n := zn) rfl rfl rfl (by omega) (fun hz0 => ?_) (fun hz0 s6 hS c6 => ?_)
      · show Box _
        (repeat(first|refine pSeq ?_|refine pReg ?_|refine sCons ?_|refine sNil ?_|refine rCons ?_|refine rNil ?_|refine kNo ?_|refine pRow ?_|refine pBlock ?_|refine pSkip ?_|refine pExit ?_|refine pRet ?_|refine pCond ?_|refine gNone ?_|refine gOn rfl ?_|refine gOff rfl rfl ?_|refine gTup rfl ?_))
        refine (hmac_w f5 (show Slc pr s5 none 0 0 [] from ⟨⟨rfl, rfl⟩, trivial⟩) hs2 (by omega) (by omega)).mono fun v sR q => ?_
        obtain ⟨rfl, k8⟩ := q
        have fR := k8.fine f5
        have n8 := k8.next
        refine kAll (k8.keep f5) ?_
        (repeat(first|refine pSeq ?_|refine pReg ?_|refine sCons ?_|refine sNil ?_|refine rCons ?_|refine rNil ?_|refine kNo ?_|refine pRow ?_|refine pBlock ?_|refine pSkip ?_|refine pExit ?_|refine pRet ?_|refine pCond ?_|refine gNone ?_|refine gOn rfl ?_|refine gOff rfl rfl ?_|refine gTup rfl ?_))
        rw [hHm]
        refine bin_neq20 rfl rfl hwl hwl ?_
        rw [show (!(decide (want = want))) = false by simp]
        (repeat(first|refine pSeq ?_|refine pReg ?_|refine sCons ?_|refine sNil ?_|refine rCons ?_|refine rNil ?_|refine kNo ?_|refine pRow ?_|refine pBlock ?_|refine pSkip ?_|refine pExit ?_|refine pRet ?_|refine pCond ?_|refine gNone ?_|refine gOn rfl ?_|refine gOff rfl rfl ?_|refine gTup rfl ?_))
        have eW := k8.blk _ _ (show wb < s5.next by omega) (by simp) e5
        have wlt : wb < sR.next := by omega
        have hsB := hs2.chg k8 (by simp)
        have hO : Slc pr sR none 0 0 [] := ⟨⟨rfl, rfl⟩, trivial⟩
        have hF : [] ++ (List.replicate 64 (0 : UInt8)).drop 0 = fillF [] := by rw [fill_eq2 (by simp)]; rfl
        have hlt3 : ∀ id ∈ blkOf b2, id < sR.next := fun id h => by have := hlt2 id h; omega
        refine ⟨by decide, ?_⟩
        intro m1 nn1 hm1 hn1 cs hcs
        obtain rfl : m1 = 64 := by omega
        obtain rfl : nn1 = 64 := by omega
        rw [rep_bytes] at hcs
        subst hcs
        (repeat(first|refine pSeq ?_|refine pReg ?_|refine sCons ?_|refine sNil ?_|refine rCons ?_|refine rNil ?_|refine kNo ?_|refine pRow ?_|refine pBlock ?_|refine pSkip ?_|refine pExit ?_|refine pRet ?_|refine pCond ?_|refine gNone ?_|refine gOn rfl ?_|refine gOff rfl rfl ?_|refine gTup rfl ?_))
        obtain ⟨d0, d1, d2⟩ := new1_at fR (.cells (bytesV (List.replicate 64 0)) tB false false)
        refine cpy_any10 (tt := tB) (l := []) (n := 0) rfl d0 (Nat.lt_succ_self _) rfl (hO.chg d1 (by simp)).1 (by omega) (by rw [List.length_replicate]; omega) fun s9 e9 c9 => ?_
        have n9 := c9.next
        replace n9 : sR.next + 1 ≤ s9.next := n9
        replace e9 : lookH s9.heap sR.next = some (.cells (bytesV (fillF [])) tB false false) := by
          rw [← hF]; exact e9
        replace eW := c9.blk _ _ (show wb < sR.next + 1 by omega) (by simp; omega) (d1.blk _ _ wlt (by simp) eW)
        replace c9 := d1.fresh c9 (by simp)
        replace hsB := hsB.chg c9 (by simp)
        have f9 := c9.fine fR
        have hFl := fillF_len []
        have hHm2 : sha (xorF 92 (fillF []) ++ sha (xorF 54 (fillF []) ++ l)) = want := by rw [← hmac_eq]; exact hHm
        generalize fillF [] = F at *
        clear hO hF d0 d1 d2
        (repeat(first|refine pSeq ?_|refine pReg ?_|refine sCons ?_|refine sNil ?_|refine rCons ?_|refine rNil ?_|refine kNo ?_|refine pRow ?_|refine pBlock ?_|refine pSkip ?_|refine pExit ?_|refine pRet ?_|refine pCond ?_|refine gNone ?_|refine gOn rfl ?_|refine gOff rfl rfl ?_|refine gTup rfl ?_))
        refine pLoop (MW.head good (fun p : Nat × Option Addr × Option Addr × SS => 64 - p.1) (fun p => p.1 ≤ 64 ∧ Own tB p.2.2.2 p.2.1 (xorF 54 (F.take p.1)) ∧ Own tB p.2.2.2 p.2.2.1 (xorF 92 (F.take p.1)) ∧ lookH p.2.2.2.heap sR.next = some (.cells (bytesV F) tB false false) ∧ lookH p.2.2.2.heap wb = some (.cells (bytesV want) tA20 false false) ∧ (∀ id ∈ blkOf p.2.1, s9.next ≤ id ∧ id ∉ blkOf p.2.2.1) ∧ (∀ id ∈ blkOf p.2.2.1, s9.next ≤ id) ∧ Chg s9 p.2.2.2 [])
          (fun p => [(1, .slice b2 nl c2), (7, ptrV wb), (11, .slice p.2.1 p.1 0), (12, .slice p.2.2.1 p.1 0), (58, .slice (some ⟨sR.next, 0, none⟩) 64 64), (59, .int .i64 64), (60, .int .i64 p.1)]) (fun p => p.2.2.2) (0, none, none, s9)
          ⟨Nat.zero_le _, rfl, rfl, e9, eW, by simp [blkOf], by simp [blkOf], .refl _ _⟩ (Wk.same ⟨rfl, rfl, rfl, rfl, rfl, rfl, rfl, trivial⟩) ?_)
        clear e9 eW
        intro ⟨i, ib, qb, t5⟩ ⟨hi, oi, oq, e9, eW, ii, iq, ct⟩
        dsimp only at hi oi oq e9 eW ii iq ct ⊢
        have li := xorF_take_len (c := 54) (F := F) (i := i) (by omega)
        have lq := xorF_take_len (c := 92) (F := F) (i := i) (by omega)
        have nt := ct.next
        (repeat(first|refine pSeq ?_|refine pReg ?_|refine sCons ?_|refine sNil ?_|refine rCons ?_|refine rNil ?_|refine kNo ?_|refine pRow ?_|refine pBlock ?_|refine pSkip ?_|refine pExit ?_|refine pRet ?_|refine pCond ?_|refine gNone ?_|refine gOn rfl ?_|refine gOff rfl rfl ?_|refine gTup rfl ?_))
        intro q hq
        by_cases h8 : i = 64
        rotate_left
        · obtain rfl : q = true := by rw [hq]; simp <;> omega
          (repeat(first|refine pSeq ?_|refine pReg ?_|refine sCons ?_|refine sNil ?_|refine rCons ?_|refine rNil ?_|refine kNo ?_|refine pRow ?_|refine pBlock ?_|refine pSkip ?_|refine pExit ?_|refine pRet ?_|refine pCond ?_|refine gNone ?_|refine gOn rfl ?_|refine gOff rfl rfl ?_|refine gTup rfl ?_))
          obtain ⟨x, hx⟩ : ∃ x, F[i]? = some x := ⟨_, List.getElem?_eq_getElem (by omega)⟩
          refine ⟨by omega, ?_⟩
          intro m hm o ho
          obtain rfl : m = i := by omega
          rw [Nat.zero_add, Nat.mul_one] at ho
          subst ho
          (repeat(first|refine pSeq ?_|refine pReg ?_|refine sCons ?_|refine sNil ?_|refine rCons ?_|refine rNil ?_|refine kNo ?_|refine pRow ?_|refine pBlock ?_|refine pSkip ?_|refine pExit ?_|refine pRet ?_|refine pCond ?_|refine gNone ?_|refine gOn rfl ?_|refine gOff rfl rfl ?_|refine gTup rfl ?_))
          refine ldI_is rfl e9 (bytes_get hx) ?_
          (repeat(first|refine pSeq ?_|refine pReg ?_|refine sCons ?_|refine sNil ?_|refine rCons ?_|refine rNil ?_|refine kNo ?_|refine pRow ?_|refine pBlock ?_|refine pSkip ?_|refine pExit ?_|refine pRet ?_|refine pCond ?_|refine gNone ?_|refine gOn rfl ?_|refine gOff rfl rfl ?_|refine gTup rfl ?_))
          intro z hz
          rw [show (54 : Int) = ((54 : UInt8).toNat : Int) from rfl, xor_u8] at hz
          subst hz
          (repeat(first|refine pSeq ?_|refine pReg ?_|refine sCons ?_|refine sNil ?_|refine rCons ?_|refine rNil ?_|refine kNo ?_|refine pRow ?_|refine pBlock ?_|refine pSkip ?_|refine pExit ?_|refine pRet ?_|refine pCond ?_|refine gNone ?_|refine gOn rfl ?_|refine gOff rfl rfl ?_|refine gTup rfl ?_))
          refine app_mine1 (c := x ^^^ 54) oi rfl li.symm rfl rfl (by omega) fun t6 o6 c6 n6 => ?_
          rw [← xorF_next hx] at o6
          have oq6 := oq.chg c6 (fun id h h' => (ii id h').2 h)
          have e96 := c6.blk sR.next _ (show sR.next < t5.next by omega) (fun h => by have := (ii _ h).1; omega) e9
          have eW6 := c6.blk wb _ (show wb < t5.next by omega) (fun h => by have := (ii _ h).1; omega) eW
          have ct6 := ct.trans' (C := []) c6 (by simp) (fun id h hlt' => absurd (ii id h).1 (by omega))
          (repeat(first|refine pSeq ?_|refine pReg ?_|refine sCons ?_|refine sNil ?_|refine rCons ?_|refine rNil ?_|refine kNo ?_|refine pRow ?_|refine pBlock ?_|refine pSkip ?_|refine pExit ?_|refine pRet ?_|refine pCond ?_|refine gNone ?_|refine gOn rfl ?_|refine gOff rfl rfl ?_|refine gTup rfl ?_))
          intro z hz
          rw [show (92 : Int) = ((92 : UInt8).toNat : Int) from rfl, xor_u8] at hz
          subst hz
          (repeat(first|refine pSeq ?_|refine pReg ?_|refine sCons ?_|refine sNil ?_|refine rCons ?_|refine rNil ?_|refine kNo ?_|refine pRow ?_|refine pBlock ?_|refine pSkip ?_|refine pExit ?_|refine pRet ?_|refine pCond ?_|refine gNone ?_|refine gOn rfl ?_|refine gOff rfl rfl ?_|refine gTup rfl ?_))
          refine app_mine1 (c := x ^^^ 92) oq6 rfl lq.symm rfl rfl (by omega) fun t7 o7 c7 n7 => ?_
          rw [← xorF_next hx] at o7
          (repeat(first|refine pSeq ?_|refine pReg ?_|refine sCons ?_|refine sNil ?_|refine rCons ?_|refine rNil ?_|refine kNo ?_|refine pRow ?_|refine pBlock ?_|refine pSkip ?_|refine pExit ?_|refine pRet ?_|refine pCond ?_|refine gNone ?_|refine gOn rfl ?_|refine gOff rfl rfl ?_|refine gTup rfl ?_))
          intro z hz
          rw [i64_id (by omega)] at hz
          subst hz
          (repeat(first|refine pSeq ?_|refine pReg ?_|refine sCons ?_|refine sNil ?_|refine rCons ?_|refine rNil ?_|refine kNo ?_|refine pRow ?_|refine pBlock ?_|refine pSkip ?_|refine pExit ?_|refine pRet ?_|refine pCond ?_|refine gNone ?_|refine gOn rfl ?_|refine gOff rfl rfl ?_|refine gTup rfl ?_))
          exact ⟨(o + 1, some ⟨t5.next + 1, 0, none⟩, some ⟨t6.next + 1, 0, none⟩, t7), ⟨by omega, o6.chg c7 (fun id h h' => by simp [blkOf] at h; have := oq.lt id h'; omega), o7, c7.blk sR.next _ (by omega) (fun h => by have := iq _ h; omega) e96, c7.blk wb _ (by omega) (fun h => by have := iq _ h; omega) eW6,
            fun id h => by simp [blkOf] at h; exact ⟨by omega, by simp [blkOf]; omega⟩, fun id h => by simp [blkOf] at h; omega, ct6.trans' (C := []) c7 (by simp) (fun id h hlt' => absurd (iq id h) (by omega))⟩, by show 64 - (o + 1) < 64 - o; omega, Wk.same ⟨rfl, rfl, rfl, rfl, rfl, rfl, rfl, trivial⟩⟩
        subst h8
        obtain rfl : q = false := by rw [hq]; simp <;> omega
        (repeat(first|refine pSeq ?_|refine pReg ?_|refine sCons ?_|refine sNil ?_|refine rCons ?_|refine rNil ?_|refine kNo ?_|refine pRow ?_|refine pBlock ?_|refine pSkip ?_|refine pExit ?_|refine pRet ?_|refine pCond ?_|refine gNone ?_|refine gOn rfl ?_|refine gOff rfl rfl ?_|refine gTup rfl ?_))
        rw [List.take_of_length_le (by omega)] at oi oq
        obtain ⟨ia, rfl⟩ := own_some oi (by unfold xorF; rw [List.length_map]; omega)
        obtain ⟨qa, rfl⟩ := own_some oq (by unfold xorF; rw [List.length_map]; omega)
        have lx : ∀ c : UInt8, (xorF c F).length = 64 := fun c => by unfold xorF; rw [List.length_map, hFl]
        replace ii := ii ia (by simp [blkOf])
        replace iq := iq qa (by simp [blkOf])
        have hiq : qa ≠ ia := fun h => ii.2 (by simp [blkOf, h])
        have hsB := hsB.chg ct (by simp)
        have ft := ct.fine f9
        refine app_own0 oi (lx 54).symm (by omega) rfl rfl hsB.1 (by omega) (fun _ h => h) fun b6 t6 o6 i6 c6 => ?_
        have n6 := c6.next
        have f6 := c6.fine ft
        have eW6 := c6.blk _ _ (show wb < t5.next by omega) (by simp; omega) eW
        have oq6 := oq.chg c6 (by simp [blkOf]; exact hiq)
        (repeat(first|refine pSeq ?_|refine pReg ?_|refine sCons ?_|refine sNil ?_|refine rCons ?_|refine rNil ?_|refine kNo ?_|refine pRow ?_|refine pBlock ?_|refine pSkip ?_|refine pExit ?_|refine pRet ?_|refine pCond ?_|refine gNone ?_|refine gOn rfl ?_|refine gOff rfl rfl ?_|refine gTup rfl ?_))
        have r6 := o6.slc sz_B
        rw [List.length_append, lx, ← hnl] at r6
        refine (sha1_w f6 r6 (by omega)).mono fun v t7 q => ?_
        obtain ⟨rfl, k7⟩ := q
        generalize hin : sha (xorF 54 F ++ l) = inn at hHm2 ⊢
        have hil : inn.length = 20 := by rw [← hin]; exact sha_len _
        have n7 := k7.next
        have f7 := k7.fine f6
        (repeat(first|refine pSeq ?_|refine pReg ?_|refine sCons ?_|refine sNil ?_|refine rCons ?_|refine rNil ?_|refine kNo ?_|refine pRow ?_|refine pBlock ?_|refine pSkip ?_|refine pExit ?_|refine pRet ?_|refine pCond ?_|refine gNone ?_|refine gOn rfl ?_|refine gOff rfl rfl ?_|refine gTup rfl ?_))
        obtain ⟨w0, w1, w2⟩ := new1_at f7 (.cells (bytesV zs20) tA20 false false)
        refine st_abs (cs' := bytesV inn) rfl rfl w0 (Nat.lt_succ_self _) (agB_fl hil) (agB_lay (a := zs20) hil.symm) fun t8 e8 c8 n8 => ?_
        replace n8 : t8.next = t7.next + 1 := n8
        replace c8 := w1.fresh c8 (by simp)
        have k68 := k7.nil c8
        have f8 := k68.fine f6
        have eW8 := k68.blk _ _ (show wb < t6.next by omega) (by simp) eW6
        have oq8 := oq6.chg k68 (by simp)
        have hqa := oq8.lt qa (by simp [blkOf])
        (repeat(first|refine pSeq ?_|refine pReg ?_|refine sCons ?_|refine sNil ?_|refine rCons ?_|refine rNil ?_|refine kNo ?_|refine pRow ?_|refine pBlock ?_|refine pSkip ?_|refine pExit ?_|refine pRet ?_|refine pCond ?_|refine gNone ?_|refine gOn rfl ?_|refine gOff rfl rfl ?_|refine gTup rfl ?_))
        refine slA_is10 0 20 rfl e8 rfl rfl rfl rfl (by omega) (by omega) ?_
        (repeat(first|refine pSeq ?_|refine pReg ?_|refine sCons ?_|refine sNil ?_|refine rCons ?_|refine rNil ?_|refine kNo ?_|refine pRow ?_|refine pBlock ?_|refine pSkip ?_|refine pExit ?_|refine pRet ?_|refine pCond ?_|refine gNone ?_|refine gOn rfl ?_|refine gOff rfl rfl ?_|refine gTup rfl ?_))
        refine ldN_is rfl eW8 (bytes_take hwl) ?_
        (repeat(first|refine pSeq ?_|refine pReg ?_|refine sCons ?_|refine sNil ?_|refine rCons ?_|refine rNil ?_|refine kNo ?_|refine pRow ?_|refine pBlock ?_|refine pSkip ?_|refine pExit ?_|refine pRet ?_|refine pCond ?_|refine gNone ?_|refine gOn rfl ?_|refine gOff rfl rfl ?_|refine gTup rfl ?_))
        refine app_mine oq8 (lx 92).symm rfl rfl (cell_slc e8 (show t7.next < t8.next by omega) hil).1 (by omega) (by omega) fun t9 o9 c10 n9 => ?_
        have eW9 := c10.blk _ _ (show wb < t8.next by omega) (by simp [blkOf]; omega) eW8
        have f10 := c10.fine f8
        refine kEach ⟨fun _ => ldN_is rfl eW9 (bytes_take hwl) rfl, trivial⟩ ?_
        (repeat(first|refine pSeq ?_|refine pReg ?_|refine sCons ?_|refine sNil ?_|refine rCons ?_|refine rNil ?_|refine kNo ?_|refine pRow ?_|refine pBlock ?_|refine pSkip ?_|refine pExit ?_|refine pRet ?_|refine pCond ?_|refine gNone ?_|refine gOn rfl ?_|refine gOff rfl rfl ?_|refine gTup rfl ?_))
        have r9 := o9.slc sz_B
        rw [List.length_append, lx, hil] at r9
        refine (sha1_w f10 r9 (by omega)).mono fun v u1 q => ?_
        obtain ⟨rfl, k11⟩ := q
        have f11 := k11.fine f10
        rw [hHm2]
        (try refine kAll (k11.keep f10) ?_)
        (repeat(first|refine pSeq ?_|refine pReg ?_|refine sCons ?_|refine sNil ?_|refine rCons ?_|refine rNil ?_|refine kNo ?_|refine pRow ?_|refine pBlock ?_|refine pSkip ?_|refine pExit ?_|refine pRet ?_|refine pCond ?_|refine gNone ?_|refine gOn rfl ?_|refine gOff rfl rfl ?_|refine gTup rfl ?_))
        refine bin_eql20 rfl rfl hwl hwl ?_
        rw [show decide (want = want) = true by simp]
        (repeat(first|refine pSeq ?_|refine pReg ?_|refine sCons ?_|refine sNil ?_|refine rCons ?_|refine rNil ?_|refine kNo ?_|refine pRow ?_|refine pBlock ?_|refine pSkip ?_|refine pExit ?_|refine pRet ?_|refine pCond ?_|refine gNone ?_|refine gOn rfl ?_|refine gOff rfl rfl ?_|refine gTup rfl ?_))
        refine (tells10_w f11).mono fun v u2 q => ?_
        obtain ⟨rfl, k12⟩ := q
        (repeat(first|refine pSeq ?_|refine pReg ?_|refine sCons ?_|refine sNil ?_|refine rCons ?_|refine rNil ?_|refine kNo ?_|refine pRow ?_|refine pBlock ?_|refine pSkip ?_|refine pExit ?_|refine pRet ?_|refine pCond ?_|refine gNone ?_|refine gOn rfl ?_|refine gOff rfl rfl ?_|refine gTup rfl ?_))
        rfl
      · refine kAll (c6.keep f5) ?_
        (repeat(first|refine pSeq ?_|refine pReg ?_|refine sCons ?_|refine sNil ?_|refine rCons ?_|refine rNil ?_|refine kNo ?_|refine pRow ?_|refine pBlock ?_|refine pSkip ?_|refine pExit ?_|refine pRet ?_|refine pCond ?_|refine gNone ?_|refine gOn rfl ?_|refine gOff rfl rfl ?_|refine gTup rfl ?_))
        have f6 := c6.fine f5
        have n6 := c6.next
        refine (hmac_w f6 hS (hs2.chg c6 (by simp)) (by omega) (by omega)).mono fun v sR q => ?_
        obtain ⟨rfl, k8⟩ := q
        have fR := k8.fine f6
        have n8 := k8.next
        refine kAll (k8.keep f6) ?_
        (repeat(first|refine pSeq ?_|refine pReg ?_|refine sCons ?_|refine sNil ?_|refine rCons ?_|refine rNil ?_|refine kNo ?_|refine pRow ?_|refine pBlock ?_|refine pSkip ?_|refine pExit ?_|refine pRet ?_|refine pCond ?_|refine gNone ?_|refine gOn rfl ?_|refine gOff rfl rfl ?_|refine gTup rfl ?_))
        have eH : hmac (List.replicate zn 0) l = want := by
          have := fill_more [] zn (by simpa using hz64)
          rw [List.nil_append] at this
          rw [hmac_eq, this, ← hmac_eq]
          exact hHm
        rw [eH]
        refine bin_neq20 rfl rfl hwl hwl ?_
        rw [show (!(decide (want = want))) = false by simp]
        (repeat(first|refine pSeq ?_|refine pReg ?_|refine sCons ?_|refine sNil ?_|refine rCons ?_|refine rNil ?_|refine kNo ?_|refine pRow ?_|refine pBlock ?_|refine pSkip ?_|refine pExit ?_|refine pRet ?_|refine pCond ?_|refine gNone ?_|refine gOn rfl ?_|refine gOff rfl rfl ?_|refine gTup rfl ?_))
        have eW := k8.blk _ _ (show wb < s6.next by omega) (by simp) (c6.blk _ _ (show wb < s5.next by omega) (by simp) e5)
        have wlt : wb < sR.next := by omega
        have hsB := (hs2.chg c6 (by simp)).chg k8 (by simp)
        have hO : Slc pr sR none 0 0 [] := ⟨⟨rfl, rfl⟩, trivial⟩
        have hF : [] ++ (List.replicate 64 (0 : UInt8)).drop 0 = fillF [] := by rw [fill_eq2 (by simp)]; rfl
        have hlt3 : ∀ id ∈ blkOf b2, id < sR.next := fun id h => by have := hlt2 id h; omega
        refine ⟨by decide, ?_⟩
        intro m1 nn1 hm1 hn1 cs hcs
        obtain rfl : m1 = 64 := by omega
        obtain rfl : nn1 = 64 := by omega
        rw [rep_bytes] at hcs
        subst hcs
        (repeat(first|refine pSeq ?_|refine pReg ?_|refine sCons ?_|refine sNil ?_|refine rCons ?_|refine rNil ?_|refine kNo ?_|refine pRow ?_|refine pBlock ?_|refine pSkip ?_|refine pExit ?_|refine pRet ?_|refine pCond ?_|refine gNone ?_|refine gOn rfl ?_|refine gOff rfl rfl ?_|refine gTup rfl ?_))
        obtain ⟨d0, d1, d2⟩ := new1_at fR (.cells (bytesV (List.replicate 64 0)) tB false false)
        refine cpy_any10 (tt := tB) (l := []) (n := 0) rfl d0 (Nat.lt_succ_self _) rfl (hO.chg d1 (by simp)).1 (by omega) (by rw [List.length_replicate]; omega) fun s9 e9 c9 => ?_
        have n9 := c9.next
        replace n9 : sR.next + 1 ≤ s9.next := n9
        replace e9 : lookH s9.heap sR.next = some (.cells (bytesV (fillF [])) tB false false) := by
          rw [← hF]; exact e9
        replace eW := c9.blk _ _ (show wb < sR.next + 1 by omega) (by simp; omega) (d1.blk _ _ wlt (by simp) eW)
        replace c9 := d1.fresh c9 (by simp)
        replace hsB := hsB.chg c9 (by simp)
        have f9 := c9.fine fR
        have hFl := fillF_len []
        have hHm2 : sha (xorF 92 (fillF []) ++ sha (xorF 54 (fillF []) ++ l)) = want := by rw [← hmac_eq]; exact hHm
        generalize fillF [] = F at *
        clear hO hF d0 d1 d2
        (repeat(first|refine pSeq ?_|refine pReg ?_|refine sCons ?_|refine sNil ?_|refine rCons ?_|refine rNil ?_|refine kNo ?_|refine pRow ?_|refine pBlock ?_|refine pSkip ?_|refine pExit ?_|refine pRet ?_|refine pCond ?_|refine gNone ?_|refine gOn rfl ?_|refine gOff rfl rfl ?_|refine gTup rfl ?_))
        refine pLoop (MW.head good (fun p : Nat × Option Addr × Option Addr × SS => 64 - p.1) (fun p => p.1 ≤ 64 ∧ Own tB p.2.2.2 p.2.1 (xorF 54 (F.take p.1)) ∧ Own tB p.2.2.2 p.2.2.1 (xorF 92 (F.take p.1)) ∧ lookH p.2.2.2.heap sR.next = some (.cells (bytesV F) tB false false) ∧ lookH p.2.2.2.heap wb = some (.cells (bytesV want) tA20 false false) ∧ (∀ id ∈ blkOf p.2.1, s9.next ≤ id ∧ id ∉ blkOf p.2.2.1) ∧ (∀ id ∈ blkOf p.2.2.1, s9.next ≤ id) ∧ Chg s9 p.2.2.2 [])
          (fun p => [(1, .slice b2 nl c2), (7, ptrV wb), (11, .slice p.2.1 p.1 0), (12, .slice p.2.2.1 p.1 0), (58, .slice (some ⟨sR.next, 0, none⟩) 64 64), (59, .int .i64 64), (60, .int .i64 p.1)]) (fun p => p.2.2.2) (0, none, none, s9)
          ⟨Nat.zero_le _, rfl, rfl, e9, eW, by simp [blkOf], by simp [blkOf], .refl _ _⟩ (Wk.same ⟨rfl, rfl, rfl, rfl, rfl, rfl, rfl, trivial⟩) ?_)
        clear e9 eW
        intro ⟨i, ib, qb, t5⟩ ⟨hi, oi, oq, e9, eW, ii, iq, ct⟩
        dsimp only at hi oi oq e9 eW ii iq ct ⊢
        have li := xorF_take_len (c := 54) (F := F) (i := i) (by omega)
        have lq := xorF_take_len (c := 92) (F := F) (i := i) (by omega)
        have nt := ct.next
        (repeat(first|refine pSeq ?_|refine pReg ?_|refine sCons ?_|refine sNil ?_|refine rCons ?_|refine rNil ?_|refine kNo ?_|refine pRow ?_|refine pBlock ?_|refine pSkip ?_|refine pExit ?_|refine pRet ?_|refine pCond ?_|refine gNone ?_|refine gOn rfl ?_|refine gOff rfl rfl ?_|refine gTup rfl ?_))
        intro q hq
        by_cases h8 : i = 64
        rotate_left
        · obtain rfl : q = true := by rw [hq]; simp <;> omega
          (repeat(first|refine pSeq ?_|refine pReg ?_|refine sCons ?_|refine sNil ?_|refine rCons ?_|refine rNil ?_|refine kNo ?_|refine pRow ?_|refine pBlock ?_|refine pSkip ?_|refine pExit ?_|refine pRet ?_|refine pCond ?_|refine gNone ?_|refine gOn rfl ?_|refine gOff rfl rfl ?_|refine gTup rfl ?_))
          obtain ⟨x, hx⟩ : ∃ x, F[i]? = some x := ⟨_, List.getElem?_eq_getElem (by omega)⟩
          refine ⟨by omega, ?_⟩
          intro m hm o ho
          obtain rfl : m = i := by omega
          rw [Nat.zero_add, Nat.mul_one] at ho
          subst ho
          (repeat(first|refine pSeq ?_|refine pReg ?_|refine sCons ?_|refine sNil ?_|refine rCons ?_|refine rNil ?_|refine kNo ?_|refine pRow ?_|refine pBlock ?_|refine pSkip ?_|refine pExit ?_|refine pRet ?_|refine pCond ?_|refine gNone ?_|refine gOn rfl ?_|refine gOff rfl rfl ?_|refine gTup rfl ?_))
          refine ldI_is rfl e9 (bytes_get hx) ?_
          (repeat(first|refine pSeq ?_|refine pReg ?_|refine sCons ?_|refine sNil ?_|refine rCons ?_|refine rNil ?_|refine kNo ?_|refine pRow ?_|refine pBlock ?_|refine pSkip ?_|refine pExit ?_|refine pRet ?_|refine pCond ?_|refine gNone ?_|refine gOn rfl ?_|refine gOff rfl rfl ?_|refine gTup rfl ?_))
          intro z hz
          rw [show (54 : Int) = ((54 : UInt8).toNat : Int) from rfl, xor_u8] at hz
          subst hz
          (repeat(first|refine pSeq ?_|refine pReg ?_|refine sCons ?_|refine sNil ?_|refine rCons ?_|refine rNil ?_|refine kNo ?_|refine pRow ?_|refine pBlock ?_|refine pSkip ?_|refine pExit ?_|refine pRet ?_|refine pCond ?_|refine gNone ?_|refine gOn rfl ?_|refine gOff rfl rfl ?_|refine gTup rfl ?_))
          refine app_mine1 (c := x ^^^ 54) oi rfl li.symm rfl rfl (by omega) fun t6 o6 c6 n6 => ?_
          rw [← xorF_next hx] at o6
          have oq6 := oq.chg c6 (fun id h h' => (ii id h').2 h)
          have e96 := c6.blk sR.next _ (show sR.next < t5.next by omega) (fun h => by have := (ii _ h).1; omega) e9
          have eW6 := c6.blk wb _ (show wb < t5.next by omega) (fun h => by have := (ii _ h).1; omega) eW
          have ct6 := ct.trans' (C := []) c6 (by simp) (fun id h hlt' => absurd (ii id h).1 (by omega))
          (repeat(first|refine pSeq ?_|refine pReg ?_|refine sCons ?_|refine sNil ?_|refine rCons ?_|refine rNil ?_|refine kNo ?_|refine pRow ?_|refine pBlock ?_|refine pSkip ?_|refine pExit ?_|refine pRet ?_|refine pCond ?_|refine gNone ?_|refine gOn rfl ?_|refine gOff rfl rfl ?_|refine gTup rfl ?_))
          intro z hz
          rw [show (92 : Int) = ((92 : UInt8).toNat : Int) from rfl, xor_u8] at hz
          subst hz
          (repeat(first|refine pSeq ?_|refine pReg ?_|refine sCons ?_|refine sNil ?_|refine rCons ?_|refine rNil ?_|refine kNo ?_|refine pRow ?_|refine pBlock ?_|refine pSkip ?_|refine pExit ?_|refine pRet ?_|refine pCond ?_|refine gNone ?_|refine gOn rfl ?_|refine gOff rfl rfl ?_|refine gTup rfl ?_))
          refine app_mine1 (c := x ^^^ 92) oq6 rfl lq.symm rfl rfl (by omega) fun t7 o7 c7 n7 => ?_
          rw [← xorF_next hx] at o7
          (repeat(first|refine pSeq ?_|refine pReg ?_|refine sCons ?_|refine sNil ?_|refine rCons ?_|refine rNil ?_|refine kNo ?_|refine pRow ?_|refine pBlock ?_|refine pSkip ?_|refine pExit ?_|refine pRet ?_|refine pCond ?_|refine gNone ?_|refine gOn rfl ?_|refine gOff rfl rfl ?_|refine gTup rfl ?_))
          intro z hz
          rw [i64_id (by omega)] at hz
          subst hz
          (repeat(first|refine pSeq ?_|refine pReg ?_|refine sCons ?_|refine sNil ?_|refine rCons ?_|refine rNil ?_|refine kNo ?_|refine pRow ?_|refine pBlock ?_|refine pSkip ?_|refine pExit ?_|refine pRet ?_|refine pCond ?_|refine gNone ?_|refine gOn rfl ?_|refine gOff rfl rfl ?_|refine gTup rfl ?_))
          exact ⟨(o + 1, some ⟨t5.next + 1, 0, none⟩, some ⟨t6.next + 1, 0, none⟩, t7), ⟨by omega, o6.chg c7 (fun id h h' => by simp [blkOf] at h; have := oq.lt id h'; omega), o7, c7.blk sR.next _ (by omega) (fun h => by have := iq _ h; omega) e96, c7.blk wb _ (by omega) (fun h => by have := iq _ h; omega) eW6,
            fun id h => by simp [blkOf] at h; exact ⟨by omega, by simp [blkOf]; omega⟩, fun id h => by simp [blkOf] at h; omega, ct6.trans' (C := []) c7 (by simp) (fun id h hlt' => absurd (iq id h) (by omega))⟩, by show 64 - (o + 1) < 64 - o; omega, Wk.same ⟨rfl, rfl, rfl, rfl, rfl, rfl, rfl, trivial⟩⟩
        subst h8
        obtain rfl : q = false := by rw [hq]; simp <;> omega
        (repeat(first|refine pSeq ?_|refine pReg ?_|refine sCons ?_|refine sNil ?_|refine rCons ?_|refine rNil ?_|refine kNo ?_|refine pRow ?_|refine pBlock ?_|refine pSkip ?_|refine pExit ?_|refine pRet ?_|refine pCond ?_|refine gNone ?_|refine gOn rfl ?_|refine gOff rfl rfl ?_|refine gTup rfl ?_))
        rw [List.take_of_length_le (by omega)] at oi oq
        obtain ⟨ia, rfl⟩ := own_some oi (by unfold xorF; rw [List.length_map]; omega)
        obtain ⟨qa, rfl⟩ := own_some oq (by unfold xorF; rw [List.length_map]; omega)
        have lx : ∀ c : UInt8, (xorF c F).length = 64 := fun c => by unfold xorF; rw [List.length_map, hFl]
        replace ii := ii ia (by simp [blkOf])
        replace iq := iq qa (by simp [blkOf])
        have hiq : qa ≠ ia := fun h => ii.2 (by simp [blkOf, h])
        have hsB := hsB.chg ct (by simp)
        have ft := ct.fine f9
        refine app_own0 oi (lx 54).symm (by omega) rfl rfl hsB.1 (by omega) (fun _ h => h) fun b6 t6 o6 i6 c6 => ?_
        have n6 := c6.next
        have f6 := c6.fine ft
        have eW6 := c6.blk _ _ (show wb < t5.next by omega) (by simp; omega) eW
        have oq6 := oq.chg c6 (by simp [blkOf]; exact hiq)
        (repeat(first|refine pSeq ?_|refine pReg ?_|refine sCons ?_|refine sNil ?_|refine rCons ?_|refine rNil ?_|refine kNo ?_|refine pRow ?_|refine pBlock ?_|refine pSkip ?_|refine pExit ?_|refine pRet ?_|refine pCond ?_|refine gNone ?_|refine gOn rfl ?_|refine gOff rfl rfl ?_|refine gTup rfl ?_))
        have r6 := o6.slc sz_B
        rw [List.length_append, lx, ← hnl] at r6
        refine (sha1_w f6 r6 (by omega)).mono fun v t7 q => ?_
        obtain ⟨rfl, k7⟩ := q
        generalize hin : sha (xorF 54 F ++ l) = inn at hHm2 ⊢
        have hil : inn.length = 20 := by rw [← hin]; exact sha_len _
        have n7 := k7.next
        have f7 := k7.fine f6
        (repeat(first|refine pSeq ?_|refine pReg ?_|refine sCons ?_|refine sNil ?_|refine rCons ?_|refine rNil ?_|refine kNo ?_|refine pRow ?_|refine pBlock ?_|refine pSkip ?_|refine pExit ?_|refine pRet ?_|refine pCond ?_|refine gNone ?_|refine gOn rfl ?_|refine gOff rfl rfl ?_|refine gTup rfl ?_))
        obtain ⟨w0, w1, w2⟩ := new1_at f7 (.cells (bytesV zs20) tA20 false false)
        refine st_abs (cs' := bytesV inn) rfl rfl w0 (Nat.lt_succ_self _) (agB_fl hil) (agB_lay (a := zs20) hil.symm) fun t8 e8 c8 n8 => ?_
        replace n8 : t8.next = t7.next + 1 := n8
        replace c8 := w1.fresh c8 (by simp)
        have k68 := k7.nil c8
        have f8 := k68.fine f6
        have eW8 := k68.blk _ _ (show wb < t6.next by omega) (by simp) eW6
        have oq8 := oq6.chg k68 (by simp)
        have hqa := oq8.lt qa (by simp [blkOf])
        (repeat(first|refine pSeq ?_|refine pReg ?_|refine sCons ?_|refine sNil ?_|refine rCons ?_|refine rNil ?_|refine kNo ?_|refine pRow ?_|refine pBlock ?_|refine pSkip ?_|refine pExit ?_|refine pRet ?_|refine pCond ?_|refine gNone ?_|refine gOn rfl ?_|refine gOff rfl rfl ?_|refine gTup rfl ?_))
        refine slA_is10 0 20 rfl e8 rfl rfl rfl rfl (by omega) (by omega) ?_
        (repeat(first|refine pSeq ?_|refine pReg ?_|refine sCons ?_|refine sNil ?_|refine rCons ?_|refine rNil ?_|refine kNo ?_|refine pRow ?_|refine pBlock ?_|refine pSkip ?_|refine pExit ?_|refine pRet ?_|refine pCond ?_|refine gNone ?_|refine gOn rfl ?_|refine gOff rfl rfl ?_|refine gTup rfl ?_))
        refine ldN_is rfl eW8 (bytes_take hwl) ?_
        (repeat(first|refine pSeq ?_|refine pReg ?_|refine sCons ?_|refine sNil ?_|refine rCons ?_|refine rNil ?_|refine kNo ?_|refine pRow ?_|refine pBlock ?_|refine pSkip ?_|refine pExit ?_|refine pRet ?_|refine pCond ?_|refine gNone ?_|refine gOn rfl ?_|refine gOff rfl rfl ?_|refine gTup rfl ?_))
        refine app_mine oq8 (lx 92).symm rfl rfl (cell_slc e8 (show t7.next < t8.next by omega) hil).1 (by omega) (by omega) fun t9 o9 c10 n9 => ?_
        have eW9 := c10.blk _ _ (show wb < t8.next by omega) (by simp [blkOf]; omega) eW8
        have f10 := c10.fine f8
        refine kEach ⟨fun _ => ldN_is rfl eW9 (bytes_take hwl) rfl, trivial⟩ ?_
        (repeat(first|refine pSeq ?_|refine pReg ?_|refine sCons ?_|refine sNil ?_|refine rCons ?_|refine rNil ?_|refine kNo ?_|refine pRow ?_|refine pBlock ?_|refine pSkip ?_|refine pExit ?_|refine pRet ?_|refine pCond ?_|refine gNone ?_|refine gOn rfl ?_|refine gOff rfl rfl ?_|refine gTup rfl ?_))
        have r9 := o9.slc sz_B
        rw [List.length_append, lx, hil] at r9
        refine (sha1_w f10 r9 (by omega)).mono fun v u1 q => ?_
        obtain ⟨rfl, k11⟩ := q
        have f11 := k11.fine f10
        rw [hHm2]
        (try refine kAll (k11.keep f10) ?_)
        (repeat(first|refine pSeq ?_|refine pReg ?_|refine sCons ?_|refine sNil ?_|refine rCons ?_|refine rNil ?_|refine kNo ?_|refine pRow ?_|refine pBlock ?_|refine pSkip ?_|refine pExit ?_|refine pRet ?_|refine pCond ?_|refine gNone ?_|refine gOn rfl ?_|refine gOff rfl rfl ?_|refine gTup rfl ?_))
        refine bin_eql20 rfl rfl hwl hwl ?_
        rw [show decide (want = want) = true by simp]
        (repeat(first|refine pSeq ?_|refine pReg ?_|refine sCons ?_|refine sNil ?_|refine rCons ?_|refine rNil ?_|refine kNo ?_|refine pRow ?_|refine pBlock ?_|refine pSkip ?_|refine pExit ?_|refine pRet ?_|refine pCond ?_|refine gNone ?_|refine gOn rfl ?_|refine gOff rfl rfl ?_|refine gTup rfl ?_))
        refine (tells10_w f11).mono fun v u2 q => ?_
        obtain ⟨rfl, k12⟩ := q
        (repeat(first|refine pSeq ?_|refine pReg ?_|refine sCons ?_|refine sNil ?_|refine rCons ?_|refine rNil ?_|refine kNo ?_|refine pRow ?_|refine pBlock ?_|refine pSkip ?_|refine pExit ?_|refine pRet ?_|refine pCond ?_|refine gNone ?_|refine gOn rfl ?_|refine gOff rfl rfl ?_|refine gTup rfl ?_))
        rfl
    · obtain ⟨ob, rfl, hob, hol, hoh⟩ := p5 h0
      (repeat(first|refine pSeq ?_|refine pReg ?_|refine sCons ?_|refine sNil ?_|refine pSkip ?_|refine pCond ?_|refine gNone ?_))
      refine pRowW (wk_held hob) ?_
      have c5 : Chg s5 { s5 with heap := (ob, some (.held (bytesV k) tB)) :: s5.heap } [ob] := .turn hoh
      have e5 := c5.blk _ _ (show wb < s5.next by omega) (by simp; omega) e5
      have hs2 := hs2.chg c5 (fun id h h' => by rw [List.mem_singleton] at h'; have := hlt2 id h; omega)
      have f5' := c5.fine f5
      have hob' : lookH ({ s5 with heap := (ob, some (.held (bytesV k) tB)) :: s5.heap } : SS).heap ob = some (.held (bytesV k) tB) := lkH
      have hoh' : ob < ({ s5 with heap := (ob, some (.held (bytesV k) tB)) :: s5.heap } : SS).next := hoh
      have n5' : s4.next ≤ ({ s5 with heap := (ob, some (.held (bytesV k) tB)) :: s5.heap } : SS).next := n5
      generalize ({ s5 with heap := (ob, some (.held (bytesV k) tB)) :: s5.heap } : SS) = s6 at c5 e5 hs2 f5' hob' hoh' n5' ⊢
      (repeat(first|refine pSeq ?_|refine pReg ?_|refine sCons ?_|refine sNil ?_|refine rCons ?_|refine rNil ?_|refine kNo ?_|refine pRow ?_|refine pBlock ?_|refine pSkip ?_|refine pExit ?_|refine pRet ?_|refine pCond ?_|refine gNone ?_|refine gOn rfl ?_|refine gOff rfl rfl ?_|refine gTup rfl ?_))
      intro z hz
      rw [i64_id (by omega)] at hz
      subst hz
      (repeat(first|refine pSeq ?_|refine pReg ?_|refine sCons ?_|refine sNil ?_|refine rCons ?_|refine rNil ?_|refine kNo ?_|refine pRow ?_|refine pBlock ?_|refine pSkip ?_|refine pExit ?_|refine pRet ?_|refine pCond ?_|refine gNone ?_|refine gOn rfl ?_|refine gOff rfl rfl ?_|refine gTup rfl ?_))
      intro z hz
      obtain rfl : z = ((65 - nk : Nat) : Int) := by rw [hz, i64_id (by omega)]; omega
      (repeat(first|refine pSeq ?_|refine pReg ?_|refine sCons ?_|refine sNil ?_|refine rCons ?_|refine rNil ?_|refine kNo ?_|refine pRow ?_|refine pBlock ?_|refine pSkip ?_|refine pExit ?_|refine pRet ?_|refine pCond ?_|refine gNone ?_|refine gOn rfl ?_|refine gOff rfl rfl ?_|refine gTup rfl ?_))
      refine ⟨by omega, ?_⟩
      intro z hz
      obtain rfl : z = ((a.toNat % (65 - nk) : Nat) : Int) := by rw [hz]; exact (Int.ofNat_tmod a.toNat (65 - nk)).symm
      have hz64 : nk + a.toNat % (65 - nk) ≤ 64 := by have := Nat.mod_lt a.toNat (show 0 < 65 - nk by omega); omega
      generalize a.toNat % (65 - nk) = zn at hz64 ⊢
      (repeat(first|refine pSeq ?_|refine pReg ?_|refine sCons ?_|refine sNil ?_|refine rCons ?_|refine rNil ?_|refine kNo ?_|refine pRow ?_|refine pBlock ?_|refine pSkip ?_|refine pExit ?_|refine pRet ?_|refine pCond ?_|refine gNone ?_|refine gOn rfl ?_|refine gOff rfl rfl ?_|refine gTup rfl ?_))
      refine ldN_is rfl e5 (bytes_take hwl) ?_
      (repeat(first|refine pSeq ?_|refine pReg ?_|refine sCons ?_|refine sNil ?_|refine rCons ?_|refine rNil ?_|refine kNo ?_|refine pRow ?_|refine pBlock ?_|refine pSkip ?_|refine pExit ?_|refine pRet ?_|refine pCond ?_|refine gNone ?_|refine gOn rfl ?_|refine gOff rfl rfl ?_|refine gTup rfl ?_))
      refine appZ_held (n := zn) rfl hob' hoh' hnk h0 rfl rfl (by omega) fun b' s7 hS hO c7 => ?_
      have f7 := c7.fine f5'
      have n7 := c7.next
      have e7 := c7.blk _ _ (show wb < s6.next by omega) (by simp; omega) e5
      have hs2 := hs2.chg c7 (fun id h h' => by rw [List.mem_singleton] at h'; have := hlt2 id h; omega)
      refine kEach ⟨fun _ => ldN_is rfl e7 (bytes_take hwl) rfl, trivial⟩ ?_
      (repeat(first|refine pSeq ?_|refine pReg ?_|refine sCons ?_|refine sNil ?_|refine rCons ?_|refine rNil ?_|refine kNo ?_|refine pRow ?_|refine pBlock ?_|refine pSkip ?_|refine pExit ?_|refine pRet ?_|refine pCond ?_|refine gNone ?_|refine gOn rfl ?_|refine gOff rfl rfl ?_|refine gTup rfl ?_))
      refine (hmac_w f7 hS hs2 (by omega) (by omega)).mono fun v sR q => ?_
      obtain ⟨rfl, k8⟩ := q
      have fR := k8.fine f7
      have n8 := k8.next
      refine kAll (k8.keep f7) ?_
      (repeat(first|refine pSeq ?_|refine pReg ?_|refine sCons ?_|refine sNil ?_|refine rCons ?_|refine rNil ?_|refine kNo ?_|refine pRow ?_|refine pBlock ?_|refine pSkip ?_|refine pExit ?_|refine pRet ?_|refine pCond ?_|refine gNone ?_|refine gOn rfl ?_|refine gOff rfl rfl ?_|refine gTup rfl ?_))
      have eH : hmac (k ++ List.replicate zn 0) l = want := by
        rw [hmac_eq, fill_more k zn (by omega), ← hmac_eq]
        exact hHm
      rw [eH]
      refine bin_neq20 rfl rfl hwl hwl ?_
      rw [show (!(decide (want = want))) = false by simp]
      (repeat(first|refine pSeq ?_|refine pReg ?_|refine sCons ?_|refine sNil ?_|refine rCons ?_|refine rNil ?_|refine kNo ?_|refine pRow ?_|refine pBlock ?_|refine pSkip ?_|refine pExit ?_|refine pRet ?_|refine pCond ?_|refine gNone ?_|refine gOn rfl ?_|refine gOff rfl rfl ?_|refine gTup rfl ?_))
      have eW := k8.blk _ _ (show wb < s7.next by omega) (by simp) e7
      have wlt : wb < sR.next := by omega
      have hsB := hs2.chg k8 (by simp)
      replace hO := hO.chg k8 (by simp)
      have hF : k ++ (List.replicate 64 (0 : UInt8)).drop nk = fillF k := by rw [fill_eq2 (by omega), ← hnk, List.drop_replicate]
      have hlt3 : ∀ id ∈ blkOf b2, id < sR.next := fun id h => by have := hlt2 id h; omega
      refine ⟨by decide, ?_⟩
      intro m1 nn1 hm1 hn1 cs hcs
      obtain rfl : m1 = 64 := by omega
      obtain rfl : nn1 = 64 := by omega
      rw [rep_bytes] at hcs
      subst hcs
      (repeat(first|refine pSeq ?_|refine pReg ?_|refine sCons ?_|refine sNil ?_|refine rCons ?_|refine rNil ?_|refine kNo ?_|refine pRow ?_|refine pBlock ?_|refine pSkip ?_|refine pExit ?_|refine pRet ?_|refine pCond ?_|refine gNone ?_|refine gOn rfl ?_|refine gOff rfl rfl ?_|refine gTup rfl ?_))
      obtain ⟨d0, d1, d2⟩ := new1_at fR (.cells (bytesV (List.replicate 64 0)) tB false false)
      refine cpy_any10 (tt := tB) (l := k) (n := nk) rfl d0 (Nat.lt_succ_self _) rfl (hO.chg d1 (by simp)).1 (by omega) (by rw [List.length_replicate]; omega) fun s9 e9 c9 => ?_
      have n9 := c9.next
      replace n9 : sR.next + 1 ≤ s9.next := n9
      replace e9 : lookH s9.heap sR.next = some (.cells (bytesV (fillF k)) tB false false) := by
        rw [← hF]; exact e9
      replace eW := c9.blk _ _ (show wb < sR.next + 1 by omega) (by simp; omega) (d1.blk _ _ wlt (by simp) eW)
      replace c9 := d1.fresh c9 (by simp)
      replace hsB := hsB.chg c9 (by simp)
      have f9 := c9.fine fR
      have hFl := fillF_len k
      have hHm2 : sha (xorF 92 (fillF k) ++ sha (xorF 54 (fillF k) ++ l)) = want := by rw [← hmac_eq]; exact hHm
      generalize fillF k = F at *
      clear hO hF d0 d1 d2
      (repeat(first|refine pSeq ?_|refine pReg ?_|refine sCons ?_|refine sNil ?_|refine rCons ?_|refine rNil ?_|refine kNo ?_|refine pRow ?_|refine pBlock ?_|refine pSkip ?_|refine pExit ?_|refine pRet ?_|refine pCond ?_|refine gNone ?_|refine gOn rfl ?_|refine gOff rfl rfl ?_|refine gTup rfl ?_))
      refine pLoop (MW.head good (fun p : Nat × Option Addr × Option Addr × SS => 64 - p.1) (fun p => p.1 ≤ 64 ∧ Own tB p.2.2.2 p.2.1 (xorF 54 (F.take p.1)) ∧ Own tB p.2.2.2 p.2.2.1 (xorF 92 (F.take p.1)) ∧ lookH p.2.2.2.heap sR.next = some (.cells (bytesV F) tB false false) ∧ lookH p.2.2.2.heap wb = some (.cells (bytesV want) tA20 false false) ∧ (∀ id ∈ blkOf p.2.1, s9.next ≤ id ∧ id ∉ blkOf p.2.2.1) ∧ (∀ id ∈ blkOf p.2.2.1, s9.next ≤ id) ∧ Chg s9 p.2.2.2 [])
        (fun p => [(1, .slice b2 nl c2), (7, ptrV wb), (11, .slice p.2.1 p.1 0), (12, .slice p.2.2.1 p.1 0), (58, .slice (some ⟨sR.next, 0, none⟩) 64 64), (59, .int .i64 64), (60, .int .i64 p.1)]) (fun p => p.2.2.2) (0, none, none, s9)
        ⟨Nat.zero_le _, rfl, rfl, e9, eW, by simp [blkOf], by simp [blkOf], .refl _ _⟩ (Wk.same ⟨rfl, rfl, rfl, rfl, rfl, rfl, rfl, trivial⟩) ?_)
      clear e9 eW
      intro ⟨i, ib, qb, t5⟩ ⟨hi, oi, oq, e9, eW, ii, iq, ct⟩
      dsimp only at hi oi oq e9 eW ii iq ct ⊢
      have li := xorF_take_len (c := 54) (F := F) (i := i) (by omega)
      have lq := xorF_take_len (c := 92) (F := F) (i := i) (by omega)
      have nt := ct.next
      (repeat(first|refine pSeq ?_|refine pReg ?_|refine sCons ?_|refine sNil ?_|refine rCons ?_|refine rNil ?_|refine kNo ?_|refine pRow ?_|refine pBlock ?_|refine pSkip ?_|refine pExit ?_|refine pRet ?_|refine pCond ?_|refine gNone ?_|refine gOn rfl ?_|refine gOff rfl rfl ?_|refine gTup rfl ?_))
      intro q hq
      by_cases h8 : i = 64
      rotate_left
      · obtain rfl : q = true := by rw [hq]; simp <;> omega
        (repeat(first|refine pSeq ?_|refine pReg ?_|refine sCons ?_|refine sNil ?_|refine rCons ?_|refine rNil ?_|refine kNo ?_|refine pRow ?_|refine pBlock ?_|refine pSkip ?_|refine pExit ?_|refine pRet ?_|refine pCond ?_|refine gNone ?_|refine gOn rfl ?_|refine gOff rfl rfl ?_|refine gTup rfl ?_))
        obtain ⟨x, hx⟩ : ∃ x, F[i]? = some x := ⟨_, List.getElem?_eq_getElem (by omega)⟩
        refine ⟨by omega, ?_⟩
        intro m hm o ho
        obtain rfl : m = i := by omega
        rw [Nat.zero_add, Nat.mul_one] at ho
        subst ho
        (repeat(first|refine pSeq ?_|refine pReg ?_|refine sCons ?_|refine sNil ?_|refine rCons ?_|refine rNil ?_|refine kNo ?_|refine pRow ?_|refine pBlock ?_|refine pSkip ?_|refine pExit ?_|refine pRet ?_|refine pCond ?_|refine gNone ?_|refine gOn rfl ?_|refine gOff rfl rfl ?_|refine gTup rfl ?_))
        refine ldI_is rfl e9 (bytes_get hx) ?_
        (repeat(first|refine pSeq ?_|refine pReg ?_|refine sCons ?_|refine sNil ?_|refine rCons ?_|refine rNil ?_|refine kNo ?_|refine pRow ?_|refine pBlock ?_|refine pSkip ?_|refine pExit ?_|refine pRet ?_|refine pCond ?_|refine gNone ?_|refine gOn rfl ?_|refine gOff rfl rfl ?_|refine gTup rfl ?_))
        intro z hz
        rw [show (54 : Int) = ((54 : UInt8).toNat : Int) from rfl, xor_u8] at hz
        subst hz
        (repeat(first|refine pSeq ?_|refine pReg ?_|refine sCons ?_|refine sNil ?_|refine rCons ?_|refine rNil ?_|refine kNo ?_|refine pRow ?_|refine pBlock ?_|refine pSkip ?_|refine pExit ?_|refine pRet ?_|refine pCond ?_|refine gNone ?_|refine gOn rfl ?_|refine gOff rfl rfl ?_|refine gTup rfl ?_))
        refine app_mine1 (c := x ^^^ 54) oi rfl li.symm rfl rfl (by omega) fun t6 o6 c6 n6 => ?_
        rw [← xorF_next hx] at o6
        have oq6 := oq.chg c6 (fun id h h' => (ii id h').2 h)
        have e96 := c6.blk sR.next _ (show sR.next < t5.next by omega) (fun h => by have := (ii _ h).1; omega) e9
        have eW6 := c6.blk wb _ (show wb < t5.next by omega) (fun h => by have := (ii _ h).1; omega) eW
        have ct6 := ct.trans' (C := []) c6 (by simp) (fun id h hlt' => absurd (ii id h).1 (by omega))
        (repeat(first|refine pSeq ?_|refine pReg ?_|refine sCons ?_|refine sNil ?_|refine rCons ?_|refine rNil ?_|refine kNo ?_|refine pRow ?_|refine pBlock ?_|refine pSkip ?_|refine pExit ?_|refine pRet ?_|refine pCond ?_|refine gNone ?_|refine gOn rfl ?_|refine gOff rfl rfl ?_|refine gTup rfl ?_))
        intro z hz
        rw [show (92 : Int) = ((92 : UInt8).toNat : Int) from rfl, xor_u8] at hz
        subst hz
        (repeat(first|refine pSeq ?_|refine pReg ?_|refine sCons ?_|refine sNil ?_|refine rCons ?_|refine rNil ?_|refine kNo ?_|refine pRow ?_|refine pBlock ?_|refine pSkip ?_|refine pExit ?_|refine pRet ?_|refine pCond ?_|refine gNone ?_|refine gOn rfl ?_|refine gOff rfl rfl ?_|refine gTup rfl ?_))
        refine app_mine1 (c := x ^^^ 92) oq6 rfl lq.symm rfl rfl (by omega) fun t7 o7 c7 n7 => ?_
        rw [← xorF_next hx] at o7
        (repeat(first|refine pSeq ?_|refine pReg ?_|refine sCons ?_|refine sNil ?_|refine rCons ?_|refine rNil ?_|refine kNo ?_|refine pRow ?_|refine pBlock ?_|refine pSkip ?_|refine pExit ?_|refine pRet ?_|refine pCond ?_|refine gNone ?_|refine gOn rfl ?_|refine gOff rfl rfl ?_|refine gTup rfl ?_))
        intro z hz
        rw [i64_id (by omega)] at hz
        subst hz
        (repeat(first|refine pSeq ?_|refine pReg ?_|refine sCons ?_|refine sNil ?_|refine rCons ?_|refine rNil ?_|refine kNo ?_|refine pRow ?_|refine pBlock ?_|refine pSkip ?_|refine pExit ?_|refine pRet ?_|refine pCond ?_|refine gNone ?_|refine gOn rfl ?_|refine gOff rfl rfl ?_|refine gTup rfl ?_))
        exact ⟨(o + 1, some ⟨t5.next + 1, 0, none⟩, some ⟨t6.next + 1, 0, none⟩, t7), ⟨by omega, o6.chg c7 (fun id h h' => by simp [blkOf] at h; have := oq.lt id h'; omega), o7, c7.blk sR.next _ (by omega) (fun h => by have := iq _ h; omega) e96, c7.blk wb _ (by omega) (fun h => by have := iq _ h; omega) eW6,
          fun id h => by simp [blkOf] at h; exact ⟨by omega, by simp [blkOf]; omega⟩, fun id h => by simp [blkOf] at h; omega, ct6.trans' (C := []) c7 (by simp) (fun id h hlt' => absurd (iq id h) (by omega))⟩, by show 64 - (o + 1) < 64 - o; omega, Wk.same ⟨rfl, rfl, rfl, rfl, rfl, rfl, rfl, trivial⟩⟩
      subst h8
      obtain rfl : q = false := by rw [hq]; simp <;> omega
      (repeat(first|refine pSeq ?_|refine pReg ?_|refine sCons ?_|refine sNil ?_|refine rCons ?_|refine rNil ?_|refine kNo ?_|refine pRow ?_|refine pBlock ?_|refine pSkip ?_|refine pExit ?_|refine pRet ?_|refine pCond ?_|refine gNone ?_|refine gOn rfl ?_|refine gOff rfl rfl ?_|refine gTup rfl ?_))
      rw [List.take_of_length_le (by omega)] at oi oq
      obtain ⟨ia, rfl⟩ := own_some oi (by unfold xorF; rw [List.length_map]; omega)
      obtain ⟨qa, rfl⟩ := own_some oq (by unfold xorF; rw [List.length_map]; omega)
      have lx : ∀ c : UInt8, (xorF c F).length = 64 := fun c => by unfold xorF; rw [List.length_map, hFl]
      replace ii := ii ia (by simp [blkOf])
      replace iq := iq qa (by simp [blkOf])
      have hiq : qa ≠ ia := fun h => ii.2 (by simp [blkOf, h])
      have hsB := hsB.chg ct (by simp)
      have ft := ct.fine f9
      refine app_own0 oi (lx 54).symm (by omega) rfl rfl hsB.1 (by omega) (fun _ h => h) fun b6 t6 o6 i6 c6 => ?_
      have n6 := c6.next
      have f6 := c6.fine ft
      have eW6 := c6.blk _ _ (show wb < t5.next by omega) (by simp; omega) eW
      have oq6 := oq.chg c6 (by simp [blkOf]; exact hiq)
      (repeat(first|refine pSeq ?_|refine pReg ?_|refine sCons ?_|refine sNil ?_|refine rCons ?_|refine rNil ?_|refine kNo ?_|refine pRow ?_|refine pBlock ?_|refine pSkip ?_|refine pExit ?_|refine pRet ?_|refine pCond ?_|refine gNone ?_|refine gOn rfl ?_|refine gOff rfl rfl ?_|refine gTup rfl ?_))
      have r6 := o6.slc sz_B
      rw [List.length_append, lx, ← hnl] at r6
      refine (sha1_w f6 r6 (by omega)).mono fun v t7 q => ?_
      obtain ⟨rfl, k7⟩ := q
      generalize hin : sha (xorF 54 F ++ l) = inn at hHm2 ⊢
      have hil : inn.length = 20 := by rw [← hin]; exact sha_len _
      have n7 := k7.next
      have f7 := k7.fine f6
      (repeat(first|refine pSeq ?_|refine pReg ?_|refine sCons ?_|refine sNil ?_|refine rCons ?_|refine rNil ?_|refine kNo ?_|refine pRow ?_|refine pBlock ?_|refine pSkip ?_|refine pExit ?_|refine pRet ?_|refine pCond ?_|refine gNone ?_|refine gOn rfl ?_|refine gOff rfl rfl ?_|refine gTup rfl ?_))
      obtain ⟨w0, w1, w2⟩ := new1_at f7 (.cells (bytesV zs20) tA20 false false)
      refine st_abs (cs' := bytesV inn) rfl rfl w0 (Nat.lt_succ_self _) (agB_fl hil) (agB_lay (a := zs20) hil.symm) fun t8 e8 c8 n8 => ?_
      replace n8 : t8.next = t7.next + 1 := n8
      replace c8 := w1.fresh c8 (by simp)
      have k68 := k7.nil c8
      have f8 := k68.fine f6
      have eW8 := k68.blk _ _ (show wb < t6.next by omega) (by simp) eW6
      have oq8 := oq6.chg k68 (by simp)
      have hqa := oq8.lt qa (by simp [blkOf])
      (repeat(first|refine pSeq ?_|refine pReg ?_|refine sCons ?_|refine sNil ?_|refine rCons ?_|refine rNil ?_|refine kNo ?_|refine pRow ?_|refine pBlock ?_|refine pSkip ?_|refine pExit ?_|refine pRet ?_|refine pCond ?_|refine gNone ?_|refine gOn rfl ?_|refine gOff rfl rfl ?_|refine gTup rfl ?_))
      refine slA_is10 0 20 rfl e8 rfl rfl rfl rfl (by omega) (by omega) ?_
      (repeat(first|refine pSeq ?_|refine pReg ?_|refine sCons ?_|refine sNil ?_|refine rCons ?_|refine rNil ?_|refine kNo ?_|refine pRow ?_|refine pBlock ?_|refine pSkip ?_|refine pExit ?_|refine pRet ?_|refine pCond ?_|refine gNone ?_|refine gOn rfl ?_|refine gOff rfl rfl ?_|refine gTup rfl ?_))
      refine ldN_is rfl eW8 (bytes_take hwl) ?_
      (repeat(first|refine pSeq ?_|refine pReg ?_|refine sCons ?_|refine sNil ?_|refine rCons ?_|refine rNil ?_|refine kNo ?_|refine pRow ?_|refine pBlock ?_|refine pSkip ?_|refine pExit ?_|refine pRet ?_|refine pCond ?_|refine gNone ?_|refine gOn rfl ?_|refine gOff rfl rfl ?_|refine gTup rfl ?_))
      refine app_mine oq8 (lx 92).symm rfl rfl (cell_slc e8 (show t7.next < t8.next by omega) hil).1 (by omega) (by omega) fun t9 o9 c10 n9 => ?_
      have eW9 := c10.blk _ _ (show wb < t8.next by omega) (by simp [blkOf]; omega) eW8
      have f10 := c10.fine f8
      refine kEach ⟨fun _ => ldN_is rfl eW9 (bytes_take hwl) rfl, trivial⟩ ?_
      (repeat(first|refine pSeq ?_|refine pReg ?_|refine sCons ?_|refine sNil ?_|refine rCons ?_|refine rNil ?_|refine kNo ?_|refine pRow ?_|refine pBlock ?_|refine pSkip ?_|refine pExit ?_|refine pRet ?_|refine pCond ?_|refine gNone ?_|refine gOn rfl ?_|refine gOff rfl rfl ?_|refine gTup rfl ?_))
      have r9 := o9.slc sz_B
      rw [List.length_append, lx, hil] at r9
      refine (sha1_w f10 r9 (by omega)).mono fun v u1 q => ?_
      obtain ⟨rfl, k11⟩ := q
      have f11 := k11.fine f10
      rw [hHm2]
      (try refine kAll (k11.keep f10) ?_)
      (repeat(first|refine pSeq ?_|refine pReg ?_|refine sCons ?_|refine sNil ?_|refine rCons ?_|refine rNil ?_|refine kNo ?_|refine pRow ?_|refine pBlock ?_|refine pSkip ?_|refine pExit ?_|refine pRet ?_|refine pCond ?_|refine gNone ?_|refine gOn rfl ?_|refine gOff rfl rfl ?_|refine gTup rfl ?_))
      refine bin_eql20 rfl rfl hwl hwl ?_
      rw [show decide (want = want) = true by simp]
      (repeat(first|refine pSeq ?_|refine pReg ?_|refine sCons ?_|refine sNil ?_|refine rCons ?_|refine rNil ?_|refine kNo ?_|refine pRow ?_|refine pBlock ?_|refine pSkip ?_|refine pExit ?_|refine pRet ?_|refine pCond ?_|refine gNone ?_|refine gOn rfl ?_|refine gOff rfl rfl ?_|refine gTup rfl ?_))
      refine (tells10_w f11).mono fun v u2 q => ?_
      obtain ⟨rfl, k12⟩ := q
      (repeat(first|refine pSeq ?_|refine pReg ?_|refine sCons ?_|refine sNil ?_|refine rCons ?_|refine rNil ?_|refine kNo ?_|refine pRow ?_|refine pBlock ?_|refine pSkip ?_|refine pExit ?_|refine pRet ?_|refine pCond ?_|refine gNone ?_|refine gOn rfl ?_|refine gOff rfl rfl ?_|refine gTup rfl ?_))
      rfl
end Go.Vf.S

import Derived.Test.YtafdbfpclolpkaaHaS
/- HMAC: the document's. -/
namespace Go.Vf.S
open Go Go.Vf
attribute [local irreducible] wSeq wRow wp wG schd rnds blks blk5 sha fillF hmac
set_option linter.unusedVariables false
set_option linter.unusedSimpArgs false
set_option maxRecDepth 10000

/-- Bytes, perhaps none, behind some of one's own. -/
theorem app_own0 {T : TL} {s : SS} {K : RR → Prop} {x y : Operand} {m n c b : Nat} {a l : List UInt8} {sb : Option Addr} (ho : Own tB s (some ⟨b, 0, none⟩) a) (hm : m = a.length) (h1 : 0 < m) (hx : opd T s.gl x = some (.slice (some ⟨b, 0, none⟩) m 0)) (hy : opd T s.gl y = some (.slice sb n c)) (hr : Rdb s sb n l) (hb : m + n ≤ 10000000) (hK : ∀ v, K (.eff v s) → K (.val v))
    (h : ∀ (b' : Option Addr) (s' : SS), Own tB s' b' (a ++ l) → (∀ id ∈ blkOf b', id = b ∨ s.next ≤ id) → Chg s s' [b] → K (.eff (.slice b' (m + n) 0) s')) : wN pr (.app tB 1 1 x y) T s K := by
  rcases Nat.eq_zero_or_pos n with h0 | h0
  · subst h0
    have hl : l = [] := List.eq_nil_of_length_eq_zero hr.1.symm
    subst hl
    obtain ⟨_, _, h3, g, h4, h5⟩ := ho
    have hg : g = true := by
      cases g with
      | true => rfl
      | false => have := h5 rfl; subst this; simp at hm; omega
    subst hg
    simp only [wN, hx, hy]
    refine wSrc_Rdb hr ⟨⟨by omega, by omega, rfl, rfl⟩, ?_⟩
    simp only [h4]
    refine ⟨fun _ => hK _ (h (some ⟨b, 0, none⟩) s ?_ (by simp [blkOf]) (.refl _ _)), fun q => by omega⟩
    rw [List.append_nil]
    exact ⟨rfl, rfl, h3, true, h4, fun q => by cases q⟩
  · refine app_own ho hm hx hy hr h0 (by omega) fun s' o' c' n' => ?_
    exact h _ s' o' (fun id hid => by simp [blkOf] at hid; omega) c'
theorem own_some {s : SS} {b : Option Addr} {l : List UInt8} (h : Own tB s b l) (hl : 0 < l.length) : ∃ a, b = some ⟨a, 0, none⟩ := by
  cases b with
  | none =>
    have : l = [] := h
    subst this
    simp at hl
  | some a =>
    obtain ⟨a, off, sp⟩ := a
    obtain ⟨rfl, rfl, _⟩ := h
    exact ⟨a, rfl⟩
theorem xorF_next {c : UInt8} {F : List UInt8} {i : Nat} {x : UInt8} (h : F[i]? = some x) : xorF c (F.take (i + 1)) = xorF c (F.take i) ++ [x ^^^ c] := by
  rw [take_next h]
  unfold xorF
  rw [List.map_append]
  rfl
theorem xorF_take_len {c : UInt8} {F : List UInt8} {i : Nat} (h : i ≤ F.length) : (xorF c (F.take i)).length = i := by
  unfold xorF
  rw [List.length_map, List.length_take]; omega

set_option maxHeartbeats 4000000 in
theorem rhmac_w {s : SS} {bk bl : Option Addr} {nk ck nl cl : Nat} {k l : List UInt8} (f : Fine s) (hk : Rdb s bk nk k) (hl : Rdb s bl nl l) (hK : nk ≤ 100000) (hL : nl ≤ 100000) : CallW pr n_ref10_Hmac [.slice bk nk ck, .slice bl nl cl] s fun v s' => v = agB (hmac k l) ∧ Chg s s' [] := by
  have hkl := hk.1
  have hll := hl.1
  have hlt := hl.lt
  refine CallW.run good ok_ref10_Hmac (by simp) rfl ?_
  obtain ⟨h0, c0, f0⟩ := new1_at f (.cells (bytesV zs20) tA20 false false)
  have hk0 := hk.chg c0 (by simp)
  (repeat(first|refine pSeq ?_|refine pReg ?_|refine sCons ?_|refine sNil ?_|refine pBlock ?_|refine pSkip ?_|refine pExit ?_|refine pRet ?_|refine pCond ?_|refine gNone ?_))
  intro q hq
  by_cases h6 : 64 < nk
  · obtain rfl : q = true := by rw [hq]; simp <;> omega
    (repeat(first|refine pSeq ?_|refine pReg ?_|refine sCons ?_|refine sNil ?_|refine pBlock ?_|refine pSkip ?_|refine pExit ?_|refine pRet ?_|refine pCond ?_|refine gNone ?_))
    refine (rsha1_w f0 hk0 (by omega)).mono fun v s1 q => ?_
    obtain ⟨rfl, c1⟩ := q
    have f1 := c1.fine f0
    have n1 := c1.next
    replace n1 : s.next + 1 ≤ s1.next := n1
    replace h0 := c1.blk _ _ (show s.next < s.next + 1 by omega) (by simp) h0
    (repeat(first|refine pSeq ?_|refine pReg ?_|refine sCons ?_|refine sNil ?_|refine pBlock ?_|refine pSkip ?_|refine pExit ?_|refine pRet ?_|refine pCond ?_|refine gNone ?_))
    obtain ⟨m0, m1, m2⟩ := new1_at f1 (.cells (bytesV zs20) tA20 false false)
    refine st_abs (cs' := bytesV (sha k)) rfl rfl m0 (Nat.lt_succ_self _) (agB_fl (sha_len k)) (agB_lay (a := zs20) (sha_len k).symm) fun s2 e2 c2 n2 => ?_
    replace n2 : s2.next = s1.next + 1 := n2
    replace h0 := c2.blk _ _ (show s.next < s1.next + 1 by omega) (by simp; omega) (m1.blk _ _ (show s.next < s1.next by omega) (by simp) h0)
    replace c2 := m1.fresh c2 (by simp)
    replace c0 := (c0.nil c1).nil c2
    (repeat(first|refine pSeq ?_|refine pReg ?_|refine sCons ?_|refine sNil ?_|refine pBlock ?_|refine pSkip ?_|refine pExit ?_|refine pRet ?_|refine pCond ?_|refine gNone ?_))
    refine slA_is10 0 20 rfl e2 rfl rfl rfl rfl (by omega) (by omega) ?_
    (repeat(first|refine pSeq ?_|refine pReg ?_|refine sCons ?_|refine sNil ?_|refine pBlock ?_|refine pSkip ?_|refine pExit ?_|refine pRet ?_|refine pCond ?_|refine gNone ?_))
    refine app_none rfl rfl (cell_slc e2 (show s1.next < s2.next by omega) (sha_len k)).1 (by omega) (fun _ h => h) fun ob s3 o3 i3 c3 => ?_
    replace h0 := c3.blk _ _ (show s.next < s2.next by omega) (by simp) h0
    replace c0 := c0.nil c3
    replace i3 : ∀ id ∈ blkOf ob, s.next < id := fun id h => by have := i3 id h; omega
    have hF : fillF k = sha k ++ List.replicate (64 - 20) 0 := fill_eq1 (by omega)
    have hoL := sha_len k
    generalize sha k = oL at *
    have hn64 : 20 ≤ 64 := by omega
    (repeat(first|refine pSeq ?_|refine pReg ?_|refine sCons ?_|refine sNil ?_|refine pBlock ?_|refine pSkip ?_|refine pExit ?_|refine pRet ?_|refine pCond ?_|refine gNone ?_))
    refine pLoop (MW.head good (fun p : Nat × Option Addr × SS => 64 - 20 - p.1) (fun p => p.1 ≤ 64 - 20 ∧ Own tB p.2.2 p.2.1 (oL ++ List.replicate p.1 0) ∧ (∀ id ∈ blkOf p.2.1, s.next < id) ∧ lookH p.2.2.heap s.next = some (.cells (bytesV zs20) tA20 false false) ∧ Chg s p.2.2 [])
      (fun p => [(1, .slice bl nl cl), (4, ptrV s.next), (5, .slice p.2.1 (20 + p.1) 0)]) (fun p => p.2.2) (0, ob, s3) ⟨Nat.zero_le _, by rw [List.replicate_zero, List.append_nil]; exact o3, i3, h0, c0⟩ (Wk.same ⟨rfl, rfl, rfl, trivial⟩) ?_)
    clear o3 i3 h0 c0
    intro ⟨j, ob, s4⟩ ⟨hj, o4, i4, h4, c4⟩
    dsimp only at hj o4 i4 h4 c4 ⊢
    have hr4 : s.next < s4.next := Nat.lt_of_not_le fun h => by
      have := h4
      rw [c4.fine f _ h] at this
      cases this
    have hlen : (oL ++ List.replicate j 0).length = 20 + j := by rw [List.length_append, hoL, List.length_replicate]
    (repeat(first|refine pSeq ?_|refine pReg ?_|refine sCons ?_|refine sNil ?_|refine pBlock ?_|refine pSkip ?_|refine pExit ?_|refine pRet ?_|refine pCond ?_|refine gNone ?_))
    intro q hq
    by_cases h7 : j = 64 - 20
    rotate_left
    · obtain rfl : q = true := by rw [hq]; simp <;> omega
      (repeat(first|refine pSeq ?_|refine pReg ?_|refine sCons ?_|refine sNil ?_|refine pBlock ?_|refine pSkip ?_|refine pExit ?_|refine pRet ?_|refine pCond ?_|refine gNone ?_))
      refine app_mine1 (c := 0) o4 rfl hlen.symm rfl rfl (by omega) fun s5 o5 c5 n5 => ?_
      (repeat(first|refine pSeq ?_|refine pReg ?_|refine sCons ?_|refine sNil ?_|refine pBlock ?_|refine pSkip ?_|refine pExit ?_|refine pRet ?_|refine pCond ?_|refine gNone ?_))
      have n4 := c4.next
      exact ⟨(j + 1, some ⟨s4.next + 1, 0, none⟩, s5), ⟨by omega, by rw [List.replicate_succ', ← List.append_assoc]; exact o5, fun id h => by simp [blkOf] at h; omega, c5.blk _ _ hr4 (fun h => by have := i4 _ h; omega) h4, c4.trans' (C := []) c5 (by simp) (fun id h hlt' => absurd (i4 id h) (by omega))⟩, by show 64 - 20 - (j + 1) < 64 - 20 - j; omega, Wk.same ⟨rfl, rfl, rfl, trivial⟩⟩
    subst h7
    obtain rfl : q = false := by rw [hq]; simp <;> omega
    rw [← hF] at o4
    have hFl := fillF_len k
    generalize hFF : fillF k = F at *
    clear hq hlen
    obtain ⟨oa, rfl⟩ := own_some o4 (by omega)
    replace i4 : s.next < oa := i4 oa (by simp [blkOf])
    rw [show 20 + (64 - 20) = 64 by omega]
    (repeat(first|refine pSeq ?_|refine pReg ?_|refine sCons ?_|refine sNil ?_|refine pBlock ?_|refine pSkip ?_|refine pExit ?_|refine pRet ?_|refine pCond ?_|refine gNone ?_))
    refine pLoop (MW.head good (fun p : Nat × Option Addr × Option Addr × SS => 64 - p.1) (fun p => p.1 ≤ 64 ∧ Own tB p.2.2.2 p.2.1 (xorF 54 (F.take p.1)) ∧ Own tB p.2.2.2 p.2.2.1 (xorF 92 (F.take p.1)) ∧ Own tB p.2.2.2 (some ⟨oa, 0, none⟩) F ∧ (∀ id ∈ blkOf p.2.1, s.next < id ∧ id ≠ oa ∧ id ∉ blkOf p.2.2.1) ∧ (∀ id ∈ blkOf p.2.2.1, s.next < id ∧ id ≠ oa) ∧ lookH p.2.2.2.heap s.next = some (.cells (bytesV zs20) tA20 false false) ∧ Chg s p.2.2.2 [] ∧ s.next < p.2.2.2.next)
      (fun p => [(1, .slice bl nl cl), (4, ptrV s.next), (5, .slice (some ⟨oa, 0, none⟩) 64 0), (7, .slice p.2.1 p.1 0), (8, .slice p.2.2.1 p.1 0), (9, .int .i64 p.1)]) (fun p => p.2.2.2) (0, none, none, s4)
      ⟨Nat.zero_le _, rfl, rfl, o4, by simp [blkOf], by simp [blkOf], h4, c4, hr4⟩ (Wk.same ⟨rfl, rfl, rfl, rfl, rfl, rfl, trivial⟩) ?_)
    clear o4 h4 c4 hr4
    intro ⟨i, ib, qb, s5⟩ ⟨hi, oi, oq, oo, ii, iq, h5, c5, hr5⟩
    dsimp only at hi oi oq oo ii iq h5 c5 hr5 ⊢
    have li := xorF_take_len (c := 54) (F := F) (i := i) (by omega)
    have lq := xorF_take_len (c := 92) (F := F) (i := i) (by omega)
    have hoa := oo.lt oa (by simp [blkOf])
    (repeat(first|refine pSeq ?_|refine pReg ?_|refine sCons ?_|refine sNil ?_|refine pBlock ?_|refine pSkip ?_|refine pExit ?_|refine pRet ?_|refine pCond ?_|refine gNone ?_))
    intro q hq
    by_cases h8 : i = 64
    rotate_left
    · obtain rfl : q = true := by rw [hq]; simp <;> omega
      (repeat(first|refine pSeq ?_|refine pReg ?_|refine sCons ?_|refine sNil ?_|refine pBlock ?_|refine pSkip ?_|refine pExit ?_|refine pRet ?_|refine pCond ?_|refine gNone ?_))
      obtain ⟨x, hx⟩ : ∃ x, F[i]? = some x := ⟨_, List.getElem?_eq_getElem (by omega)⟩
      obtain ⟨_, cc, tt, gg, rr, q1, q2⟩ := sl_byte oo.rdb (show i < F.length by omega)
      rw [List.getD_eq_getElem?_getD, hx] at q2
      replace q2 : cc[0 + i]? = some (.int .u8 x.toNat) := q2
      refine ⟨by omega, ?_⟩
      intro m hm o ho
      obtain rfl : m = i := by omega
      rw [Nat.mul_one] at ho
      subst ho
      (repeat(first|refine pSeq ?_|refine pReg ?_|refine sCons ?_|refine sNil ?_|refine pBlock ?_|refine pSkip ?_|refine pExit ?_|refine pRet ?_|refine pCond ?_|refine gNone ?_))
      refine ldI_is rfl q1 q2 ?_
      (repeat(first|refine pSeq ?_|refine pReg ?_|refine sCons ?_|refine sNil ?_|refine pBlock ?_|refine pSkip ?_|refine pExit ?_|refine pRet ?_|refine pCond ?_|refine gNone ?_))
      intro z hz
      rw [show (54 : Int) = ((54 : UInt8).toNat : Int) from rfl, xor_u8] at hz
      subst hz
      (repeat(first|refine pSeq ?_|refine pReg ?_|refine sCons ?_|refine sNil ?_|refine pBlock ?_|refine pSkip ?_|refine pExit ?_|refine pRet ?_|refine pCond ?_|refine gNone ?_))
      refine app_mine1 (c := x ^^^ 54) oi rfl li.symm rfl rfl (by omega) fun s6 o6 c6 n6 => ?_
      rw [← xorF_next hx] at o6
      have oq6 := oq.chg c6 (fun id h h' => (ii id h').2.2 h)
      have oo6 := oo.chg c6 (fun id h h' => by simp [blkOf] at h; subst h; exact (ii _ h').2.1 rfl)
      have h6' := c6.blk _ _ hr5 (fun h => by have := (ii _ h).1; omega) h5
      have c56 := c5.trans' (C := []) c6 (by simp) (fun id h hlt' => absurd (ii id h).1 (by omega))
      (repeat(first|refine pSeq ?_|refine pReg ?_|refine sCons ?_|refine sNil ?_|refine pBlock ?_|refine pSkip ?_|refine pExit ?_|refine pRet ?_|refine pCond ?_|refine gNone ?_))
      obtain ⟨_, cc, tt, gg, rr, q1, q2⟩ := sl_byte oo6.rdb (show m < F.length by omega)
      rw [List.getD_eq_getElem?_getD, hx] at q2
      replace q2 : cc[0 + m]? = some (.int .u8 x.toNat) := q2
      refine ⟨by omega, ?_⟩
      intro m1 hm1 o1 ho1
      obtain rfl : m1 = m := by omega
      rw [Nat.mul_one] at ho1
      subst ho1
      (repeat(first|refine pSeq ?_|refine pReg ?_|refine sCons ?_|refine sNil ?_|refine pBlock ?_|refine pSkip ?_|refine pExit ?_|refine pRet ?_|refine pCond ?_|refine gNone ?_))
      refine ldI_is rfl q1 q2 ?_
      (repeat(first|refine pSeq ?_|refine pReg ?_|refine sCons ?_|refine sNil ?_|refine pBlock ?_|refine pSkip ?_|refine pExit ?_|refine pRet ?_|refine pCond ?_|refine gNone ?_))
      intro z hz
      rw [show (92 : Int) = ((92 : UInt8).toNat : Int) from rfl, xor_u8] at hz
      subst hz
      (repeat(first|refine pSeq ?_|refine pReg ?_|refine sCons ?_|refine sNil ?_|refine pBlock ?_|refine pSkip ?_|refine pExit ?_|refine pRet ?_|refine pCond ?_|refine gNone ?_))
      refine app_mine1 (c := x ^^^ 92) oq6 rfl lq.symm rfl rfl (by omega) fun s7 o7 c7 n7 => ?_
      rw [← xorF_next hx] at o7
      (repeat(first|refine pSeq ?_|refine pReg ?_|refine sCons ?_|refine sNil ?_|refine pBlock ?_|refine pSkip ?_|refine pExit ?_|refine pRet ?_|refine pCond ?_|refine gNone ?_))
      intro z hz
      rw [i64_id (by omega)] at hz
      subst hz
      (repeat(first|refine pSeq ?_|refine pReg ?_|refine sCons ?_|refine sNil ?_|refine pBlock ?_|refine pSkip ?_|refine pExit ?_|refine pRet ?_|refine pCond ?_|refine gNone ?_))
      exact ⟨(m1 + 1, some ⟨s5.next + 1, 0, none⟩, some ⟨s6.next + 1, 0, none⟩, s7), ⟨by omega, o6.chg c7 (fun id h h' => by simp [blkOf] at h; have := oq.lt id h'; omega), o7, oo6.chg c7 (fun id h h' => by simp [blkOf] at h; subst h; exact (iq _ h').2 rfl),
        fun id h => by simp [blkOf] at h; exact ⟨by omega, by omega, by simp [blkOf]; omega⟩, fun id h => by simp [blkOf] at h; exact ⟨by omega, by omega⟩, c7.blk _ _ (by omega) (fun h => by have := (iq _ h).1; omega) h6', c56.trans' (C := []) c7 (by simp) (fun id h hlt' => absurd (iq id h).1 (by omega)), by show s.next < s7.next; omega⟩, by show 64 - (m1 + 1) < 64 - m1; omega, Wk.same ⟨rfl, rfl, rfl, rfl, rfl, rfl, trivial⟩⟩
    subst h8
    obtain rfl : q = false := by rw [hq]; simp <;> omega
    (repeat(first|refine pSeq ?_|refine pReg ?_|refine sCons ?_|refine sNil ?_|refine pBlock ?_|refine pSkip ?_|refine pExit ?_|refine pRet ?_|refine pCond ?_|refine gNone ?_))
    rw [List.take_of_length_le (by omega)] at oi oq
    obtain ⟨ia, rfl⟩ := own_some oi (by unfold xorF; rw [List.length_map]; omega)
    obtain ⟨qa, rfl⟩ := own_some oq (by unfold xorF; rw [List.length_map]; omega)
    have lx : ∀ c : UInt8, (xorF c F).length = 64 := fun c => by unfold xorF; rw [List.length_map, hFl]
    replace ii := ii ia (by simp [blkOf])
    replace iq := iq qa (by simp [blkOf])
    have hia := oi.lt ia (by simp [blkOf])
    have hqa := oq.lt qa (by simp [blkOf])
    have hiq : qa ≠ ia := fun h => ii.2.2 (by simp [blkOf, h])
    refine app_own0 oi (lx 54).symm (by omega) rfl rfl (hl.chg c5 (by simp)) (by omega) (fun _ h => h) fun b6 s6 o6 i6 c6 => ?_
    have n6 := c6.next
    have h6' := c6.blk _ _ hr5 (by simp; omega) h5
    have oq6 := oq.chg c6 (by simp [blkOf]; exact hiq)
    have c56 := c5.fresh c6 (by simp; omega)
    have f6 := c56.fine f
    (repeat(first|refine pSeq ?_|refine pReg ?_|refine sCons ?_|refine sNil ?_|refine pBlock ?_|refine pSkip ?_|refine pExit ?_|refine pRet ?_|refine pCond ?_|refine gNone ?_))
    have r6 := o6.rdb
    rw [List.length_append, lx, ← hll] at r6
    refine (rsha1_w f6 r6 (by omega)).mono fun v s7 q => ?_
    obtain ⟨rfl, c7⟩ := q
    generalize hin : sha (xorF 54 F ++ l) = inn
    have hil : inn.length = 20 := by rw [← hin]; exact sha_len _
    have n7 := c7.next
    have f7 := c7.fine f6
    (repeat(first|refine pSeq ?_|refine pReg ?_|refine sCons ?_|refine sNil ?_|refine pBlock ?_|refine pSkip ?_|refine pExit ?_|refine pRet ?_|refine pCond ?_|refine gNone ?_))
    obtain ⟨m0, m1, m2⟩ := new1_at f7 (.cells (bytesV zs20) tA20 false false)
    refine st_abs (cs' := bytesV inn) rfl rfl m0 (Nat.lt_succ_self _) (agB_fl hil) (agB_lay (a := zs20) hil.symm) fun s8 e8 c8 n8 => ?_
    replace n8 : s8.next = s7.next + 1 := n8
    replace c8 := m1.fresh c8 (by simp)
    have c68 := c7.nil c8
    have h8' := c68.blk _ _ (show s.next < s6.next by omega) (by simp) h6'
    have oq8 := oq6.chg c68 (by simp)
    (repeat(first|refine pSeq ?_|refine pReg ?_|refine sCons ?_|refine sNil ?_|refine pBlock ?_|refine pSkip ?_|refine pExit ?_|refine pRet ?_|refine pCond ?_|refine gNone ?_))
    refine slA_is10 0 20 rfl e8 rfl rfl rfl rfl (by omega) (by omega) ?_
    (repeat(first|refine pSeq ?_|refine pReg ?_|refine sCons ?_|refine sNil ?_|refine pBlock ?_|refine pSkip ?_|refine pExit ?_|refine pRet ?_|refine pCond ?_|refine gNone ?_))
    refine app_mine oq8 (lx 92).symm rfl rfl (cell_slc e8 (show s7.next < s8.next by omega) hil).1 (by omega) (by omega) fun s9 o9 c9 n9 => ?_
    have r9 := o9.rdb
    rw [List.length_append, lx, hil] at r9
    have h9' := c9.blk _ _ (show s.next < s8.next by omega) (by simp [blkOf]; omega) h8'
    have c09 := (c56.nil c68).trans' (C := []) c9 (by simp) (by simp [blkOf]; omega)
    have f9 := c09.fine f
    (repeat(first|refine pSeq ?_|refine pReg ?_|refine sCons ?_|refine sNil ?_|refine pBlock ?_|refine pSkip ?_|refine pExit ?_|refine pRet ?_|refine pCond ?_|refine gNone ?_))
    refine (rsha1_w f9 r9 (by omega)).mono fun v s10 q => ?_
    obtain ⟨rfl, c10⟩ := q
    have n10 := c10.next
    rw [show sha (xorF 92 F ++ inn) = hmac k l by rw [← hin, ← hFF]; exact (hmac_eq k l).symm]
    (repeat(first|refine pSeq ?_|refine pReg ?_|refine sCons ?_|refine sNil ?_|refine pBlock ?_|refine pSkip ?_|refine pExit ?_|refine pRet ?_|refine pCond ?_|refine gNone ?_))
    refine st_abs (cs' := bytesV (hmac k l)) rfl rfl (c10.blk _ _ (show s.next < s9.next by omega) (by simp) h9') (show s.next < s10.next by omega) (agB_fl (hmac_len k l)) (agB_lay (a := zs20) (hmac_len k l).symm) fun s11 e11 c11 n11 => ?_
    (repeat(first|refine pSeq ?_|refine pReg ?_|refine sCons ?_|refine sNil ?_|refine pBlock ?_|refine pSkip ?_|refine pExit ?_|refine pRet ?_|refine pCond ?_|refine gNone ?_))
    (repeat (first | with_reducible refine sqRet ?_ | with_reducible refine bkRet ?_ | with_reducible refine hdRet ?_))
    exact ret_cell1 agg_A20 sz_A20 rfl e11 (bytes_take (hmac_len k l)) ⟨rfl, (c09.nil c10).fresh c11 (by simp)⟩
  · obtain rfl : q = false := by rw [hq]; simp <;> omega
    (repeat(first|refine pSeq ?_|refine pReg ?_|refine sCons ?_|refine sNil ?_|refine pBlock ?_|refine pSkip ?_|refine pExit ?_|refine pRet ?_|refine pCond ?_|refine gNone ?_))
    refine app_none rfl rfl hk0 (by omega) (fun _ h => h) fun ob s3 o3 i3 c3 => ?_
    replace i3 : ∀ id ∈ blkOf ob, s.next < id := fun id h => by
      have h : s.next + 1 ≤ id := i3 id h
      omega
    replace h0 := c3.blk _ _ (show s.next < s.next + 1 by omega) (by simp) h0
    replace c0 := c0.nil c3
    have hF : fillF k = k ++ List.replicate (64 - nk) 0 := by rw [hkl]; exact fill_eq2 (by omega)
    have hoL : k.length = nk := hkl.symm
    have hn64 : nk ≤ 64 := by omega
    clear hk hk0
    (repeat(first|refine pSeq ?_|refine pReg ?_|refine sCons ?_|refine sNil ?_|refine pBlock ?_|refine pSkip ?_|refine pExit ?_|refine pRet ?_|refine pCond ?_|refine gNone ?_))
    refine pLoop (MW.head good (fun p : Nat × Option Addr × SS => 64 - nk - p.1) (fun p => p.1 ≤ 64 - nk ∧ Own tB p.2.2 p.2.1 (k ++ List.replicate p.1 0) ∧ (∀ id ∈ blkOf p.2.1, s.next < id) ∧ lookH p.2.2.heap s.next = some (.cells (bytesV zs20) tA20 false false) ∧ Chg s p.2.2 [])
      (fun p => [(1, .slice bl nl cl), (4, ptrV s.next), (5, .slice p.2.1 (nk + p.1) 0)]) (fun p => p.2.2) (0, ob, s3) ⟨Nat.zero_le _, by rw [List.replicate_zero, List.append_nil]; exact o3, i3, h0, c0⟩ (Wk.same ⟨rfl, rfl, rfl, trivial⟩) ?_)
    clear o3 i3 h0 c0
    intro ⟨j, ob, s4⟩ ⟨hj, o4, i4, h4, c4⟩
    dsimp only at hj o4 i4 h4 c4 ⊢
    have hr4 : s.next < s4.next := Nat.lt_of_not_le fun h => by
      have := h4
      rw [c4.fine f _ h] at this
      cases this
    have hlen : (k ++ List.replicate j 0).length = nk + j := by rw [List.length_append, hoL, List.length_replicate]
    (repeat(first|refine pSeq ?_|refine pReg ?_|refine sCons ?_|refine sNil ?_|refine pBlock ?_|refine pSkip ?_|refine pExit ?_|refine pRet ?_|refine pCond ?_|refine gNone ?_))
    intro q hq
    by_cases h7 : j = 64 - nk
    rotate_left
    · obtain rfl : q = true := by rw [hq]; simp <;> omega
      (repeat(first|refine pSeq ?_|refine pReg ?_|refine sCons ?_|refine sNil ?_|refine pBlock ?_|refine pSkip ?_|refine pExit ?_|refine pRet ?_|refine pCond ?_|refine gNone ?_))
      refine app_mine1 (c := 0) o4 rfl hlen.symm rfl rfl (by omega) fun s5 o5 c5 n5 => ?_
      (repeat(first|refine pSeq ?_|refine pReg ?_|refine sCons ?_|refine sNil ?_|refine pBlock ?_|refine pSkip ?_|refine pExit ?_|refine pRet ?_|refine pCond ?_|refine gNone ?_))
      have n4 := c4.next
      exact ⟨(j + 1, some ⟨s4.next + 1, 0, none⟩, s5), ⟨by omega, by rw [List.replicate_succ', ← List.append_assoc]; exact o5, fun id h => by simp [blkOf] at h; omega, c5.blk _ _ hr4 (fun h => by have := i4 _ h; omega) h4, c4.trans' (C := []) c5 (by simp) (fun id h hlt' => absurd (i4 id h) (by omega))⟩, by show 64 - nk - (j + 1) < 64 - nk - j; omega, Wk.same ⟨rfl, rfl, rfl, trivial⟩⟩
    subst h7
    obtain rfl : q = false := by rw [hq]; simp <;> omega
    rw [← hF] at o4
    have hFl := fillF_len k
    generalize hFF : fillF k = F at *
    clear hq hlen
    obtain ⟨oa, rfl⟩ := own_some o4 (by omega)
    replace i4 : s.next < oa := i4 oa (by simp [blkOf])
    rw [show nk + (64 - nk) = 64 by omega]
    (repeat(first|refine pSeq ?_|refine pReg ?_|refine sCons ?_|refine sNil ?_|refine pBlock ?_|refine pSkip ?_|refine pExit ?_|refine pRet ?_|refine pCond ?_|refine gNone ?_))
    refine pLoop (MW.head good (fun p : Nat × Option Addr × Option Addr × SS => 64 - p.1) (fun p => p.1 ≤ 64 ∧ Own tB p.2.2.2 p.2.1 (xorF 54 (F.take p.1)) ∧ Own tB p.2.2.2 p.2.2.1 (xorF 92 (F.take p.1)) ∧ Own tB p.2.2.2 (some ⟨oa, 0, none⟩) F ∧ (∀ id ∈ blkOf p.2.1, s.next < id ∧ id ≠ oa ∧ id ∉ blkOf p.2.2.1) ∧ (∀ id ∈ blkOf p.2.2.1, s.next < id ∧ id ≠ oa) ∧ lookH p.2.2.2.heap s.next = some (.cells (bytesV zs20) tA20 false false) ∧ Chg s p.2.2.2 [] ∧ s.next < p.2.2.2.next)
      (fun p => [(1, .slice bl nl cl), (4, ptrV s.next), (5, .slice (some ⟨oa, 0, none⟩) 64 0), (7, .slice p.2.1 p.1 0), (8, .slice p.2.2.1 p.1 0), (9, .int .i64 p.1)]) (fun p => p.2.2.2) (0, none, none, s4)
      ⟨Nat.zero_le _, rfl, rfl, o4, by simp [blkOf], by simp [blkOf], h4, c4, hr4⟩ (Wk.same ⟨rfl, rfl, rfl, rfl, rfl, rfl, trivial⟩) ?_)
    clear o4 h4 c4 hr4
    intro ⟨i, ib, qb, s5⟩ ⟨hi, oi, oq, oo, ii, iq, h5, c5, hr5⟩
    dsimp only at hi oi oq oo ii iq h5 c5 hr5 ⊢
    have li := xorF_take_len (c := 54) (F := F) (i := i) (by omega)
    have lq := xorF_take_len (c := 92) (F := F) (i := i) (by omega)
    have hoa := oo.lt oa (by simp [blkOf])
    (repeat(first|refine pSeq ?_|refine pReg ?_|refine sCons ?_|refine sNil ?_|refine pBlock ?_|refine pSkip ?_|refine pExit ?_|refine pRet ?_|refine pCond ?_|refine gNone ?_))
    intro q hq
    by_cases h8 : i = 64
    rotate_left
    · obtain rfl : q = true := by rw [hq]; simp <;> omega
      (repeat(first|refine pSeq ?_|refine pReg ?_|refine sCons ?_|refine sNil ?_|refine pBlock ?_|refine pSkip ?_|refine pExit ?_|refine pRet ?_|refine pCond ?_|refine gNone ?_))
      obtain ⟨x, hx⟩ : ∃ x, F[i]? = some x := ⟨_, List.getElem?_eq_getElem (by omega)⟩
      obtain ⟨_, cc, tt, gg, rr, q1, q2⟩ := sl_byte oo.rdb (show i < F.length by omega)
      rw [List.getD_eq_getElem?_getD, hx] at q2
      replace q2 : cc[0 + i]? = some (.int .u8 x.toNat) := q2
      refine ⟨by omega, ?_⟩
      intro m hm o ho
      obtain rfl : m = i := by omega
      rw [Nat.mul_one] at ho
      subst ho
      (repeat(first|refine pSeq ?_|refine pReg ?_|refine sCons ?_|refine sNil ?_|refine pBlock ?_|refine pSkip ?_|refine pExit ?_|refine pRet ?_|refine pCond ?_|refine gNone ?_))
      refine ldI_is rfl q1 q2 ?_
      (repeat(first|refine pSeq ?_|refine pReg ?_|refine sCons ?_|refine sNil ?_|refine pBlock ?_|refine pSkip ?_|refine pExit ?_|refine pRet ?_|refine pCond ?_|refine gNone ?_))
      intro z hz
      rw [show (54 : Int) = ((54 : UInt8).toNat : Int) from rfl, xor_u8] at hz
      subst hz
      (repeat(first|refine pSeq ?_|refine pReg ?_|refine sCons ?_|refine sNil ?_|refine pBlock ?_|refine pSkip ?_|refine pExit ?_|refine pRet ?_|refine pCond ?_|refine gNone ?_))
      refine app_mine1 (c := x ^^^ 54) oi rfl li.symm rfl rfl (by omega) fun s6 o6 c6 n6 => ?_
      rw [← xorF_next hx] at o6
      have oq6 := oq.chg c6 (fun id h h' => (ii id h').2.2 h)
      have oo6 := oo.chg c6 (fun id h h' => by simp [blkOf] at h; subst h; exact (ii _ h').2.1 rfl)
      have h6' := c6.blk _ _ hr5 (fun h => by have := (ii _ h).1; omega) h5
      have c56 := c5.trans' (C := []) c6 (by simp) (fun id h hlt' => absurd (ii id h).1 (by omega))
      (repeat(first|refine pSeq ?_|refine pReg ?_|refine sCons ?_|refine sNil ?_|refine pBlock ?_|refine pSkip ?_|refine pExit ?_|refine pRet ?_|refine pCond ?_|refine gNone ?_))
      obtain ⟨_, cc, tt, gg, rr, q1, q2⟩ := sl_byte oo6.rdb (show m < F.length by omega)
      rw [List.getD_eq_getElem?_getD, hx] at q2
      replace q2 : cc[0 + m]? = some (.int .u8 x.toNat) := q2
      refine ⟨by omega, ?_⟩
      intro m1 hm1 o1 ho1
      obtain rfl : m1 = m := by omega
      rw [Nat.mul_one] at ho1
      subst ho1
      (repeat(first|refine pSeq ?_|refine pReg ?_|refine sCons ?_|refine sNil ?_|refine pBlock ?_|refine pSkip ?_|refine pExit ?_|refine pRet ?_|refine pCond ?_|refine gNone ?_))
      refine ldI_is rfl q1 q2 ?_
      (repeat(first|refine pSeq ?_|refine pReg ?_|refine sCons ?_|refine sNil ?_|refine pBlock ?_|refine pSkip ?_|refine pExit ?_|refine pRet ?_|refine pCond ?_|refine gNone ?_))
      intro z hz
      rw [show (92 : Int) = ((92 : UInt8).toNat : Int) from rfl, xor_u8] at hz
      subst hz
      (repeat(first|refine pSeq ?_|refine pReg ?_|refine sCons ?_|refine sNil ?_|refine pBlock ?_|refine pSkip ?_|refine pExit ?_|refine pRet ?_|refine pCond ?_|refine gNone ?_))
      refine app_mine1 (c := x ^^^ 92) oq6 rfl lq.symm rfl rfl (by omega) fun s7 o7 c7 n7 => ?_
      rw [← xorF_next hx] at o7
      (repeat(first|refine pSeq ?_|refine pReg ?_|refine sCons ?_|refine sNil ?_|refine pBlock ?_|refine pSkip ?_|refine pExit ?_|refine pRet ?_|refine pCond ?_|refine gNone ?_))
      intro z hz
      rw [i64_id (by omega)] at hz
      subst hz
      (repeat(first|refine pSeq ?_|refine pReg ?_|refine sCons ?_|refine sNil ?_|refine pBlock ?_|refine pSkip ?_|refine pExit ?_|refine pRet ?_|refine pCond ?_|refine gNone ?_))
      exact ⟨(m1 + 1, some ⟨s5.next + 1, 0, none⟩, some ⟨s6.next + 1, 0, none⟩, s7), ⟨by omega, o6.chg c7 (fun id h h' => by simp [blkOf] at h; have := oq.lt id h'; omega), o7, oo6.chg c7 (fun id h h' => by simp [blkOf] at h; subst h; exact (iq _ h').2 rfl),
        fun id h => by simp [blkOf] at h; exact ⟨by omega, by omega, by simp [blkOf]; omega⟩, fun id h => by simp [blkOf] at h; exact ⟨by omega, by omega⟩, c7.blk _ _ (by omega) (fun h => by have := (iq _ h).1; omega) h6', c56.trans' (C := []) c7 (by simp) (fun id h hlt' => absurd (iq id h).1 (by omega)), by show s.next < s7.next; omega⟩, by show 64 - (m1 + 1) < 64 - m1; omega, Wk.same ⟨rfl, rfl, rfl, rfl, rfl, rfl, trivial⟩⟩
    subst h8
    obtain rfl : q = false := by rw [hq]; simp <;> omega
    (repeat(first|refine pSeq ?_|refine pReg ?_|refine sCons ?_|refine sNil ?_|refine pBlock ?_|refine pSkip ?_|refine pExit ?_|refine pRet ?_|refine pCond ?_|refine gNone ?_))
    rw [List.take_of_length_le (by omega)] at oi oq
    obtain ⟨ia, rfl⟩ := own_some oi (by unfold xorF; rw [List.length_map]; omega)
    obtain ⟨qa, rfl⟩ := own_some oq (by unfold xorF; rw [List.length_map]; omega)
    have lx : ∀ c : UInt8, (xorF c F).length = 64 := fun c => by unfold xorF; rw [List.length_map, hFl]
    replace ii := ii ia (by simp [blkOf])
    replace iq := iq qa (by simp [blkOf])
    have hia := oi.lt ia (by simp [blkOf])
    have hqa := oq.lt qa (by simp [blkOf])
    have hiq : qa ≠ ia := fun h => ii.2.2 (by simp [blkOf, h])
    refine app_own0 oi (lx 54).symm (by omega) rfl rfl (hl.chg c5 (by simp)) (by omega) (fun _ h => h) fun b6 s6 o6 i6 c6 => ?_
    have n6 := c6.next
    have h6' := c6.blk _ _ hr5 (by simp; omega) h5
    have oq6 := oq.chg c6 (by simp [blkOf]; exact hiq)
    have c56 := c5.fresh c6 (by simp; omega)
    have f6 := c56.fine f
    (repeat(first|refine pSeq ?_|refine pReg ?_|refine sCons ?_|refine sNil ?_|refine pBlock ?_|refine pSkip ?_|refine pExit ?_|refine pRet ?_|refine pCond ?_|refine gNone ?_))
    have r6 := o6.rdb
    rw [List.length_append, lx, ← hll] at r6
    refine (rsha1_w f6 r6 (by omega)).mono fun v s7 q => ?_
    obtain ⟨rfl, c7⟩ := q
    generalize hin : sha (xorF 54 F ++ l) = inn
    have hil : inn.length = 20 := by rw [← hin]; exact sha_len _
    have n7 := c7.next
    have f7 := c7.fine f6
    (repeat(first|refine pSeq ?_|refine pReg ?_|refine sCons ?_|refine sNil ?_|refine pBlock ?_|refine pSkip ?_|refine pExit ?_|refine pRet ?_|refine pCond ?_|refine gNone ?_))
    obtain ⟨m0, m1, m2⟩ := new1_at f7 (.cells (bytesV zs20) tA20 false false)
    refine st_abs (cs' := bytesV inn) rfl rfl m0 (Nat.lt_succ_self _) (agB_fl hil) (agB_lay (a := zs20) hil.symm) fun s8 e8 c8 n8 => ?_
    replace n8 : s8.next = s7.next + 1 := n8
    replace c8 := m1.fresh c8 (by simp)
    have c68 := c7.nil c8
    have h8' := c68.blk _ _ (show s.next < s6.next by omega) (by simp) h6'
    have oq8 := oq6.chg c68 (by simp)
    (repeat(first|refine pSeq ?_|refine pReg ?_|refine sCons ?_|refine sNil ?_|refine pBlock ?_|refine pSkip ?_|refine pExit ?_|refine pRet ?_|refine pCond ?_|refine gNone ?_))
    refine slA_is10 0 20 rfl e8 rfl rfl rfl rfl (by omega) (by omega) ?_
    (repeat(first|refine pSeq ?_|refine pReg ?_|refine sCons ?_|refine sNil ?_|refine pBlock ?_|refine pSkip ?_|refine pExit ?_|refine pRet ?_|refine pCond ?_|refine gNone ?_))
    refine app_mine oq8 (lx 92).symm rfl rfl (cell_slc e8 (show s7.next < s8.next by omega) hil).1 (by omega) (by omega) fun s9 o9 c9 n9 => ?_
    have r9 := o9.rdb
    rw [List.length_append, lx, hil] at r9
    have h9' := c9.blk _ _ (show s.next < s8.next by omega) (by simp [blkOf]; omega) h8'
    have c09 := (c56.nil c68).trans' (C := []) c9 (by simp) (by simp [blkOf]; omega)
    have f9 := c09.fine f
    (repeat(first|refine pSeq ?_|refine pReg ?_|refine sCons ?_|refine sNil ?_|refine pBlock ?_|refine pSkip ?_|refine pExit ?_|refine pRet ?_|refine pCond ?_|refine gNone ?_))
    refine (rsha1_w f9 r9 (by omega)).mono fun v s10 q => ?_
    obtain ⟨rfl, c10⟩ := q
    have n10 := c10.next
    rw [show sha (xorF 92 F ++ inn) = hmac k l by rw [← hin, ← hFF]; exact (hmac_eq k l).symm]
    (repeat(first|refine pSeq ?_|refine pReg ?_|refine sCons ?_|refine sNil ?_|refine pBlock ?_|refine pSkip ?_|refine pExit ?_|refine pRet ?_|refine pCond ?_|refine gNone ?_))
    refine st_abs (cs' := bytesV (hmac k l)) rfl rfl (c10.blk _ _ (show s.next < s9.next by omega) (by simp) h9') (show s.next < s10.next by omega) (agB_fl (hmac_len k l)) (agB_lay (a := zs20) (hmac_len k l).symm) fun s11 e11 c11 n11 => ?_
    (repeat(first|refine pSeq ?_|refine pReg ?_|refine sCons ?_|refine sNil ?_|refine pBlock ?_|refine pSkip ?_|refine pExit ?_|refine pRet ?_|refine pCond ?_|refine gNone ?_))
    (repeat (first | with_reducible refine sqRet ?_ | with_reducible refine bkRet ?_ | with_reducible refine hdRet ?_))
    exact ret_cell1 agg_A20 sz_A20 rfl e11 (bytes_take (hmac_len k l)) ⟨rfl, (c09.nil c10).fresh c11 (by simp)⟩
end Go.Vf.S

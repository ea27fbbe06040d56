import Derived.Test.YtioildcpkcijkaaDoorFrG
/- The document's sum and form. -/
namespace Go.Vf.S
open Go Go.Vf Go.Vf.Fr
attribute [local irreducible] wSeq wRow wp wG
set_option linter.unusedVariables false
set_option linter.unusedSimpArgs false
set_option maxRecDepth 10000

theorem tail4 (x : BitVec 32) : tailB x 4 = be4 x := by simp [tailB, be4]
theorem tail2 {n : Nat} (h : n < 65536) : tailB (BitVec.ofNat 32 n) 2 = half n := by
  simp only [tailB, half, byteOf, BitVec.toNat_ushiftRight, BitVec.toNat_ofNat, Nat.shiftRight_eq_div_pow]
  rw [Nat.mod_eq_of_lt (show n < 2 ^ 32 by omega)]
  simp
theorem i64_u32 {n : Nat} (h : n < 65536) : IntKind.wrap .u32 (n : Int) = ((BitVec.ofNat 32 n).toNat : Int) := by
  rw [wrap_u32, BitVec.toNat_ofNat, Nat.mod_eq_of_lt (show n < 2 ^ 32 by omega)]; omega

theorem bytes4 (s : SS) (x : BitVec 32) : CallW pr n_ref02_bytes [.int .u32 x.toNat, .int .i64 4] s fun v s' => ∃ b, v = .slice (some ⟨b, 0, none⟩) 4 4 ∧ Rdb s' (some ⟨b, 0, none⟩) 4 (be4 x) ∧ Old s s' := by
  have := refBytes_w s x 4 (by omega)
  rw [tail4] at this
  exact this
theorem bytes2 (s : SS) {n : Nat} (h : n < 65536) : CallW pr n_ref02_bytes [.int .u32 (BitVec.ofNat 32 n).toNat, .int .i64 2] s fun v s' => ∃ b, v = .slice (some ⟨b, 0, none⟩) 2 2 ∧ Rdb s' (some ⟨b, 0, none⟩) 2 (half n) ∧ Old s s' := by
  have := refBytes_w s (BitVec.ofNat 32 n) 2 (by omega)
  rw [tail2 h] at this
  exact this

theorem old_cons {s s' : SS} {x : ABlk} (h : Old s s') : Old s ⟨(s'.next, some x) :: s'.heap, s'.next + 1, s'.gl⟩ :=
  ⟨h.gl, Nat.le_succ_of_le h.next, fun id b hid hb => look_tail' (by have := h.next; omega) (h.blk id b hid hb), fun f id hid => by
    have hid' : s'.next + 1 ≤ id := hid
    exact lkN (by omega) (h.fine f id (by omega))⟩
theorem old_move {s s' : SS} {x : ABlk} {k : Nat} (h : Old s s') (hk : s.next ≤ k) : Old s ⟨(s'.next, some x) :: (k, none) :: s'.heap, s'.next + 1, s'.gl⟩ :=
  ⟨h.gl, Nat.le_succ_of_le h.next, fun id b hid hb => look_tail' (by have := h.next; omega) (look_tail' (by omega) (h.blk id b hid hb)), fun f id hid => by
    have hid' : s'.next + 1 ≤ id := hid
    refine lkN (by omega) ?_
    have := h.fine f id (by omega)
    simp only [lookH]
    rcases beq_cases k id with ⟨_, q⟩ | ⟨_, q⟩
    · simp only [q, cond_true]
    · simp only [q, cond_false]; exact this⟩

/-- Any bytes behind a block whose room is open. -/
theorem app_any {T : TL} {s : SS} {x y : Operand} {d : Option Tmp} {ml : List MOper} {R : TL → SS → Prop} {b m cap n c : Nat} {a l : List UInt8} {base : Option Addr}
    (hx : opd T s.gl x = some (.slice (some ⟨b, 0, none⟩) m cap)) (hbk : lookH s.heap b = some (.cells (bytesV a) 5 true false)) (hlt : b < s.next) (hm : m = a.length) (hy : opd T s.gl y = some (.slice base n c)) (hr : Rdb s base n l) (hb : m + n ≤ 4294967296)
    (h : ∀ (b' c' : Nat) (s' : SS), Rdb s' (some ⟨b', 0, none⟩) (m + n) (a ++ l) → (∀ s0, Old s0 s → s0.next ≤ b → Old s0 s') → Box (wSeq pr ml (putL T d (.slice (some ⟨b', 0, none⟩) (m + n) c')) s' R)) : wN pr (.app 5 1 1 x y) T s (stepK pr d ml T s R) := by
  rcases Nat.eq_zero_or_pos n with h0 | h0
  · subst h0
    have hl : l = [] := List.eq_nil_of_length_eq_zero hr.1.symm
    subst hl
    simp only [wN, hx, hy]
    refine wSrc_Rdb hr ⟨⟨by omega, by omega, rfl, rfl⟩, ?_⟩
    simp only [hbk]
    refine ⟨fun _ => ?_, fun q => by omega⟩
    refine h b cap s ⟨by simp [hm], rfl, hlt, _, _, _, _, hbk, ?_, bytesV_plain _⟩ fun s0 o _ => o
    rw [takeN_bytes (by omega), List.drop_zero, List.take_of_length_le (by omega)]
    simp
  · refine appB_grow hx hbk hm hy hr h0 hb ?_
    refine h s.next 0 _ ⟨by simp [hm, hr.1], rfl, Nat.lt_succ_self _, _, _, _, _, look_head, ?_, bytesV_plain _⟩ fun s0 o q => old_move o q
    have := hr.1
    rw [takeN_bytes (by simp; omega), List.drop_zero, List.take_of_length_le (by simp; omega)]

theorem refSum_w {s : SS} {base : Option Addr} {n c : Nat} {l : List UInt8} (h : Pre s base n l) (hn : n ≤ 16384) (a k : BitVec 32) :
    CallW pr n_ref02_Sum [.int .u32 a.toNat, .int .u32 k.toNat, .slice base n c] s fun v s' => v = .int .u32 (sumS a k n l).toNat ∧ Old s s' := by
  have hnl := h.rd.1
  refine CallW.run good ok_ref02_Sum (by simp) rfl ?_
  (repeat(first|refine pSeq ?_|refine pReg ?_|refine sCons ?_|refine sNil ?_|refine pSkip ?_|refine pRet ?_|refine pCond ?_|refine gNone ?_))
  intro q hq
  obtain rfl : q = false := by rw [hq]; simp; omega
  (repeat(first|refine pSeq ?_|refine pReg ?_|refine sCons ?_|refine sNil ?_|refine pSkip ?_|refine pRet ?_|refine pCond ?_|refine gNone ?_))
  refine (bytes4 _ a).mono fun v s1 q => ?_
  obtain ⟨b1, rfl, r1, o1⟩ := q
  (repeat(first|refine pSeq ?_|refine pReg ?_|refine sCons ?_|refine sNil ?_|refine pSkip ?_|refine pRet ?_|refine pCond ?_|refine gNone ?_))
  refine appB_nil rfl rfl r1 (by omega) (by omega) ?_
  (repeat(first|refine pSeq ?_|refine pReg ?_|refine sCons ?_|refine sNil ?_|refine pSkip ?_|refine pRet ?_|refine pCond ?_|refine gNone ?_))
  refine (bytes4 _ k).mono fun v s2 q => ?_
  obtain ⟨b2, rfl, r2, o2⟩ := q
  (repeat(first|refine pSeq ?_|refine pReg ?_|refine sCons ?_|refine sNil ?_|refine pSkip ?_|refine pRet ?_|refine pCond ?_|refine gNone ?_))
  refine appB_grow rfl (o2.blk _ _ (Nat.lt_succ_self _) look_head) rfl rfl r2 (by omega) (by decide) ?_
  have u2 : Old s s2 := (old_cons o1).trans o2
  (repeat(first|refine pSeq ?_|refine pReg ?_|refine sCons ?_|refine sNil ?_|refine pSkip ?_|refine pRet ?_|refine pCond ?_|refine gNone ?_))
  intro z hz
  rw [i64_u32 (by omega)] at hz
  subst hz
  (repeat(first|refine pSeq ?_|refine pReg ?_|refine sCons ?_|refine sNil ?_|refine pSkip ?_|refine pRet ?_|refine pCond ?_|refine gNone ?_))
  refine (bytes2 _ (by omega)).mono fun v s3 q => ?_
  obtain ⟨b3, rfl, r3, o3⟩ := q
  have n1 : s1.next < s2.next := o2.next
  have n0 := o1.next
  have u3 : Old s s3 := (old_move u2 (by omega)).trans o3
  (repeat(first|refine pSeq ?_|refine pReg ?_|refine sCons ?_|refine sNil ?_|refine pSkip ?_|refine pRet ?_|refine pCond ?_|refine gNone ?_))
  refine appB_grow rfl (o3.blk _ _ (Nat.lt_succ_self _) look_head) rfl rfl r3 (by omega) (by decide) ?_
  have n2 : s2.next < s3.next := o3.next
  have u4 := old_move (x := .cells (bytesV (be4 a ++ be4 k ++ half n)) 5 true false) u3 (k := s2.next) (by omega)
  (repeat(first|refine pSeq ?_|refine pReg ?_|refine sCons ?_|refine sNil ?_|refine pSkip ?_|refine pRet ?_|refine pCond ?_|refine gNone ?_))
  refine app_any rfl look_head (Nat.lt_succ_self _) rfl rfl (h.old u4).rd (by simp [be4, half]; omega) fun b5 c5 s5 r5 o5 => ?_
  have n0' := o1.next
  have u5 : Old s s5 := o5 s u4 (by show s.next ≤ s3.next; omega)
  (repeat(first|refine pSeq ?_|refine pReg ?_|refine sCons ?_|refine sNil ?_|refine pSkip ?_|refine pRet ?_|refine pCond ?_|refine gNone ?_))
  refine (refCrc_w _ _ _ _ _ r5 (by omega)).mono fun v s6 q => ?_
  obtain ⟨rfl, rfl⟩ := q
  (repeat(first|refine pSeq ?_|refine pReg ?_|refine sCons ?_|refine sNil ?_|refine pSkip ?_|refine pRet ?_|refine pCond ?_|refine gNone ?_))
  exact ⟨rfl, u5⟩

theorem refSum_long {s : SS} {base : Option Addr} {n c : Nat} (hn : 16384 < n) (a k : BitVec 32) :
    CallW pr n_ref02_Sum [.int .u32 a.toNat, .int .u32 k.toNat, .slice base n c] s fun v s' => v = .int .u32 0 ∧ s' = s := by
  refine CallW.run good ok_ref02_Sum (by simp) rfl ?_
  (repeat(first|refine pSeq ?_|refine pReg ?_|refine sCons ?_|refine sNil ?_|refine pSkip ?_|refine pRet ?_|refine pCond ?_|refine gNone ?_))
  intro q hq
  obtain rfl : q = true := by rw [hq]; simp; omega
  (repeat(first|refine pSeq ?_|refine pReg ?_|refine sCons ?_|refine sNil ?_|refine pSkip ?_|refine pRet ?_|refine pCond ?_|refine gNone ?_))
  exact ⟨rfl, rfl⟩

theorem refSeal_w {s : SS} {base : Option Addr} {n c : Nat} {l : List UInt8} (h : Pre s base n l) (hn : n ≤ 16384) (a k : BitVec 32) :
    CallW pr n_ref02_Seal [.int .u32 a.toNat, .int .u32 k.toNat, .slice base n c] s fun v s' => ∃ b c', v = .tuple ⟨[.slice b (10 + n) c', .int .i64 0]⟩ ∧ Rdb s' b (10 + n) (sealS a k n l) ∧ Old s s' := by
  have hnl := h.rd.1
  refine CallW.run good ok_ref02_Seal (by simp) rfl ?_
  (repeat(first|refine pSeq ?_|refine pReg ?_|refine sCons ?_|refine sNil ?_|refine pSkip ?_|refine pRet ?_|refine pCond ?_|refine gNone ?_))
  intro q hq
  obtain rfl : q = false := by rw [hq]; simp; omega
  (repeat(first|refine pSeq ?_|refine pReg ?_|refine sCons ?_|refine sNil ?_|refine pSkip ?_|refine pRet ?_|refine pCond ?_|refine gNone ?_))
  intro z hz
  rw [i64_u32 (by omega)] at hz
  subst hz
  (repeat(first|refine pSeq ?_|refine pReg ?_|refine sCons ?_|refine sNil ?_|refine pSkip ?_|refine pRet ?_|refine pCond ?_|refine gNone ?_))
  refine (bytes2 _ (by omega)).mono fun v s1 q => ?_
  obtain ⟨b1, rfl, r1, o1⟩ := q
  (repeat(first|refine pSeq ?_|refine pReg ?_|refine sCons ?_|refine sNil ?_|refine pSkip ?_|refine pRet ?_|refine pCond ?_|refine gNone ?_))
  refine appB_nil rfl rfl r1 (by omega) (by omega) ?_
  (repeat(first|refine pSeq ?_|refine pReg ?_|refine sCons ?_|refine sNil ?_|refine pSkip ?_|refine pRet ?_|refine pCond ?_|refine gNone ?_))
  refine (bytes4 _ k).mono fun v s2 q => ?_
  obtain ⟨b2, rfl, r2, o2⟩ := q
  (repeat(first|refine pSeq ?_|refine pReg ?_|refine sCons ?_|refine sNil ?_|refine pSkip ?_|refine pRet ?_|refine pCond ?_|refine gNone ?_))
  refine appB_grow rfl (o2.blk _ _ (Nat.lt_succ_self _) look_head) rfl rfl r2 (by omega) (by decide) ?_
  have u2 : Old s s2 := (old_cons o1).trans o2
  have n0 := o1.next
  have n1 : s1.next < s2.next := o2.next
  have u3 := old_move (x := .cells (bytesV (half n ++ be4 k)) 5 true false) u2 (k := s1.next) (by omega)
  (repeat(first|refine pSeq ?_|refine pReg ?_|refine sCons ?_|refine sNil ?_|refine pSkip ?_|refine pRet ?_|refine pCond ?_|refine gNone ?_))
  refine (refSum_w (h.old u3) hn a k).mono fun v s4 q => ?_
  obtain ⟨rfl, o4⟩ := q
  (repeat(first|refine pSeq ?_|refine pReg ?_|refine sCons ?_|refine sNil ?_|refine pSkip ?_|refine pRet ?_|refine pCond ?_|refine gNone ?_))
  refine (bytes4 _ (sumS a k n l)).mono fun v s5 q => ?_
  obtain ⟨b5, rfl, r5, o5⟩ := q
  have n3 : s2.next < s4.next := o4.next
  have n4 := o5.next
  (repeat(first|refine pSeq ?_|refine pReg ?_|refine sCons ?_|refine sNil ?_|refine pSkip ?_|refine pRet ?_|refine pCond ?_|refine gNone ?_))
  refine appB_grow rfl (o5.blk _ _ n3 (o4.blk _ _ (Nat.lt_succ_self _) look_head)) rfl rfl r5 (by omega) (by decide) ?_
  have u5 : Old s s5 := (u3.trans o4).trans o5
  have u6 := old_move (x := .cells (bytesV (half n ++ be4 k ++ be4 (sumS a k n l))) 5 true false) u5 (k := s2.next) (by omega)
  (repeat(first|refine pSeq ?_|refine pReg ?_|refine sCons ?_|refine sNil ?_|refine pSkip ?_|refine pRet ?_|refine pCond ?_|refine gNone ?_))
  refine app_any rfl look_head (Nat.lt_succ_self _) rfl rfl (h.old u6).rd (by simp [be4, half]; omega) fun b7 c7 s7 r7 o7 => ?_
  have u7 : Old s s7 := o7 s u6 (by show s.next ≤ s5.next; omega)
  have e : 2 + 4 + 4 + n = 10 + n := by omega
  (repeat(first|refine pSeq ?_|refine pReg ?_|refine sCons ?_|refine sNil ?_|refine pSkip ?_|refine pRet ?_|refine pCond ?_|refine gNone ?_))
  rw [e] at r7 ⊢
  exact ⟨_, _, rfl, r7, u7⟩

theorem refSeal_long {s : SS} {base : Option Addr} {n c : Nat} (hn : 16384 < n) (a k : BitVec 32) :
    CallW pr n_ref02_Seal [.int .u32 a.toNat, .int .u32 k.toNat, .slice base n c] s fun v s' => v = .tuple ⟨[.slice none 0 0, .int .i64 3]⟩ ∧ s' = s := by
  refine CallW.run good ok_ref02_Seal (by simp) rfl ?_
  (repeat(first|refine pSeq ?_|refine pReg ?_|refine sCons ?_|refine sNil ?_|refine pSkip ?_|refine pRet ?_|refine pCond ?_|refine gNone ?_))
  intro q hq
  obtain rfl : q = true := by rw [hq]; simp; omega
  (repeat(first|refine pSeq ?_|refine pReg ?_|refine sCons ?_|refine sNil ?_|refine pSkip ?_|refine pRet ?_|refine pCond ?_|refine gNone ?_))
  exact ⟨rfl, rfl⟩

end Go.Vf.S

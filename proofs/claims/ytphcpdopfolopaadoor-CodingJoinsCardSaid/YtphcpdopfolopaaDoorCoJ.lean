import Derived.Test.YtphcpdopfolopaaDoorCoI
/- Letters read: the closure. -/
namespace Go.Vf.S
open Go Go.Vf Go.Proofs Go.RowKit
attribute [local irreducible] wSeq wRow wp wG
set_option linter.unusedVariables false
set_option linter.unusedSimpArgs false
set_option maxRecDepth 10000

abbrev tU6 : TypeId := 63
/-- What the closure that reads finds: what is kept, how many bits, the bytes so far. -/
structure RdJ (kp mn vb rb kb cap z : Nat) (p : List Nat) (s : SS) : Prop where
  a : lookH s.heap kp = some (.cells [u64V (kpt z p)] tU6 false false)
  m : lookH s.heap mn = some (.cells [u64V (z * p.length % 8)] tU6 false false)
  v : lookH s.heap vb = some (.cells [slV rb (z * p.length / 8) cap] tBs false false)
  r : Room s rb cap (outB z p)
  k : lookH s.heap kb = some (.cells (kV z) tKd false false)
  la : kp < s.next
  lm : mn < s.next
  lv : vb < s.next
  lk : kb < s.next
theorem RdJ.nil {kp mn vb rb kb cap z : Nat} {p : List Nat} {s s' : SS} (h : RdJ kp mn vb rb kb cap z p s) (c : Chg s s' []) : RdJ kp mn vb rb kb cap z p s' :=
  ⟨c.blk _ _ h.la (by simp) h.a, c.blk _ _ h.lm (by simp) h.m, c.blk _ _ h.lv (by simp) h.v, h.r.chg c (by simp), c.blk _ _ h.lk (by simp) h.k,
    Nat.lt_of_lt_of_le h.la c.next, Nat.lt_of_lt_of_le h.lm c.next, Nat.lt_of_lt_of_le h.lv c.next, Nat.lt_of_lt_of_le h.lk c.next⟩
/-- They are five. -/
def Five (kp mn vb rb kb : Nat) : Prop := [kp, mn, vb, rb, kb].Nodup
theorem u8_of {n : Nat} (h : n < 256) {z : Int} (hz : z = IntKind.wrap .u8 (n : Int)) : z = ((UInt8.ofNat n).toNat : Int) := by
  rw [hz, wrap_u8, UInt8.toNat_ofNat']; omega

theorem read1_w {s : SS} {z kp mn vb rb kb cap d : Nat} {p : List Nat} (f : Fine s) (hz : 4 ≤ z ∧ z ≤ 6) (hd : d < 2 ^ z) (hm : z * (p.length + 1) / 8 ≤ cap) (hcap : cap ≤ 4294967296) (h5 : Five kp mn vb rb kb) (J : RdJ kp mn vb rb kb cap z p s) :
    CallW pr n_coding_kind_read_1 [u64V d, ptrV kp, ptrV kb, ptrV mn, ptrV vb] s fun v s2 => v = .tuple #[] ∧ RdJ kp mn vb rb kb cap z (p ++ [d]) s2 ∧ Chg s s2 [kp, mn, vb, rb] := by
  obtain ⟨ja, jm, jv, jr, jk, la, lm, lv, lk⟩ := J
  have hkp := kpt_lt z p
  have h64 : 2 ^ z ≤ 64 := by rcases (show z = 4 ∨ z = 5 ∨ z = 6 by omega) with rfl | rfl | rfl <;> decide
  have h8 : z * p.length % 8 < 8 := Nat.mod_lt _ (by decide)
  have h128 : 2 ^ (z * p.length % 8) ≤ 2 ^ 7 := Nat.pow_le_pow_right (by decide) (by omega)
  have hX : kpt z p * 2 ^ z ≤ 128 * 64 := Nat.mul_le_mul (by omega) h64
  have hlo := fun h => step_lo (z := z) (p := p) hd h
  have hhi := fun h => step_hi (z := z) (p := p) (by omega) hd h
  have hl0 := outB_len z p
  obtain ⟨H, hH⟩ : ∃ H, H = z * p.length % 8 := ⟨_, rfl⟩
  rw [← hH] at h8 h128 jm hlo hhi
  obtain ⟨e1, e2, e3, e4, e5, e6, e7, e8, e9, e10⟩ : kp ≠ mn ∧ kp ≠ vb ∧ kp ≠ rb ∧ kp ≠ kb ∧ mn ≠ vb ∧ mn ≠ rb ∧ mn ≠ kb ∧ vb ≠ rb ∧ vb ≠ kb ∧ rb ≠ kb := by
    unfold Five at h5
    simp only [List.nodup_cons, List.mem_cons, List.not_mem_nil, or_false, not_or] at h5
    exact ⟨h5.1.1, h5.1.2.1, h5.1.2.2.1, h5.1.2.2.2, h5.2.1.1, h5.2.1.2.1, h5.2.1.2.2, h5.2.2.1.1, h5.2.2.1.2, h5.2.2.2.1⟩
  have lr := jr.1
  refine CallW.run good ok_coding_kind_read_1 (by simp) rfl ?_
  (repeat(first|refine pSeq ?_|refine pReg ?_|refine sCons ?_|refine sNil ?_|refine rCons ?_|refine rNil ?_|refine kNo ?_|refine pRow ?_|refine pSkip ?_|refine pCond ?_|refine gNone ?_))
  refine ldI_is rfl ja (show _ = some (u64V (kpt z p)) from rfl) ?_
  (repeat(first|refine pSeq ?_|refine pReg ?_|refine sCons ?_|refine sNil ?_|refine rCons ?_|refine rNil ?_|refine kNo ?_|refine pRow ?_|refine pSkip ?_|refine pCond ?_|refine gNone ?_))
  refine ldI_is rfl jk (kv1 z) ?_
  (repeat(first|refine pSeq ?_|refine pReg ?_|refine sCons ?_|refine sNil ?_|refine rCons ?_|refine rNil ?_|refine kNo ?_|refine pRow ?_|refine pSkip ?_|refine pCond ?_|refine gNone ?_))
  refine ⟨by omega, ?_⟩
  intro w hw
  obtain rfl := shl_64 (by omega) (by omega) hw
  (repeat(first|refine pSeq ?_|refine pReg ?_|refine sCons ?_|refine sNil ?_|refine rCons ?_|refine rNil ?_|refine kNo ?_|refine pRow ?_|refine pSkip ?_|refine pCond ?_|refine gNone ?_))
  intro w hw
  obtain rfl := or_64 hd (by omega) hw
  (repeat(first|refine pSeq ?_|refine pReg ?_|refine sCons ?_|refine sNil ?_|refine rCons ?_|refine rNil ?_|refine kNo ?_|refine pRow ?_|refine pSkip ?_|refine pCond ?_|refine gNone ?_))
  refine ldI_is rfl jm (show _ = some (u64V H) from rfl) ?_
  (repeat(first|refine pSeq ?_|refine pReg ?_|refine sCons ?_|refine sNil ?_|refine rCons ?_|refine rNil ?_|refine kNo ?_|refine pRow ?_|refine pSkip ?_|refine pCond ?_|refine gNone ?_))
  refine ldI_is rfl jk (kv1 z) ?_
  (repeat(first|refine pSeq ?_|refine pReg ?_|refine sCons ?_|refine sNil ?_|refine rCons ?_|refine rNil ?_|refine kNo ?_|refine pRow ?_|refine pSkip ?_|refine pCond ?_|refine gNone ?_))
  intro w hw
  rw [u64_id (by omega)] at hw
  obtain rfl : w = ((H + z : Nat) : Int) := by omega
  (repeat(first|refine pSeq ?_|refine pReg ?_|refine sCons ?_|refine sNil ?_|refine rCons ?_|refine rNil ?_|refine kNo ?_|refine pRow ?_|refine pSkip ?_|refine pCond ?_|refine gNone ?_))
  refine st_abs (cs' := [u64V (kpt z p * 2 ^ z + d)]) rfl rfl ja (by omega) rfl rfl fun s1 x1 c1 nx1 => ?_
  have k1 := c1.blk _ _ lk (by simp; exact Ne.symm e4) jk
  have m1 := c1.blk _ _ lm (by simp; exact Ne.symm e1) jm
  have v1 := c1.blk _ _ lv (by simp; exact Ne.symm e2) jv
  have r1 := jr.chg c1 (by simp; exact Ne.symm e3)
  refine kEach ⟨fun _ => ldI_is rfl k1 (kv1 z) rfl, fun _ => ldI_is rfl m1 (show _ = some (u64V H) from rfl) rfl, trivial⟩ ?_
  (repeat(first|refine pSeq ?_|refine pReg ?_|refine sCons ?_|refine sNil ?_|refine rCons ?_|refine rNil ?_|refine kNo ?_|refine pRow ?_|refine pSkip ?_|refine pCond ?_|refine gNone ?_))
  refine st_abs (cs' := [u64V (H + z)]) rfl rfl m1 (by omega) rfl rfl fun s2 x2 c2 nx2 => ?_
  have a2 := c2.blk _ _ (show kp < s1.next by omega) (by simp; exact e1) x1
  have k2 := c2.blk _ _ (show kb < s1.next by omega) (by simp; exact Ne.symm e7) k1
  have v2 := c2.blk _ _ (show vb < s1.next by omega) (by simp; exact Ne.symm e5) v1
  have r2 := r1.chg c2 (by simp; exact Ne.symm e6)
  have c12 : Chg s s2 [kp, mn, vb, rb] := chg_same (c1.sub (by simp)) (c2.sub (by simp))
  have f2 := c12.fine f
  clear m1 x1 v1 k1 r1
  refine kNo ?_
  (repeat(first|refine pSeq ?_|refine pReg ?_|refine sCons ?_|refine sNil ?_|refine rCons ?_|refine rNil ?_|refine kNo ?_|refine pRow ?_|refine pSkip ?_|refine pCond ?_|refine gNone ?_))
  refine ldI_is rfl x2 (show _ = some (u64V (H + z)) from rfl) ?_
  (repeat(first|refine pSeq ?_|refine pReg ?_|refine sCons ?_|refine sNil ?_|refine rCons ?_|refine rNil ?_|refine kNo ?_|refine pRow ?_|refine pSkip ?_|refine pCond ?_|refine gNone ?_))
  intro q hq
  by_cases h9 : 8 ≤ H + z
  · obtain ⟨o1, o2, o3, o4, o5⟩ := hhi h9
    have hX2 : kpt z p * 2 ^ z + d < 2 ^ 14 := by omega
    have h11 : 2 ^ (H + z - 8) ≤ 2 ^ 6 := Nat.pow_le_pow_right (by decide) (by omega)
    have h12 : 0 < 2 ^ (H + z - 8) := Nat.two_pow_pos _
    obtain rfl : q = true := by rw [hq]; simp <;> omega
    (repeat(first|refine pSeq ?_|refine pReg ?_|refine sCons ?_|refine sNil ?_|refine rCons ?_|refine rNil ?_|refine kNo ?_|refine pRow ?_|refine pSkip ?_|refine pCond ?_|refine gNone ?_))
    refine ldI_is rfl x2 (show _ = some (u64V (H + z)) from rfl) ?_
    (repeat(first|refine pSeq ?_|refine pReg ?_|refine sCons ?_|refine sNil ?_|refine rCons ?_|refine rNil ?_|refine kNo ?_|refine pRow ?_|refine pSkip ?_|refine pCond ?_|refine gNone ?_))
    intro w hw
    rw [u64_id (by omega)] at hw
    obtain rfl : w = ((H + z - 8 : Nat) : Int) := by omega
    (repeat(first|refine pSeq ?_|refine pReg ?_|refine sCons ?_|refine sNil ?_|refine rCons ?_|refine rNil ?_|refine kNo ?_|refine pRow ?_|refine pSkip ?_|refine pCond ?_|refine gNone ?_))
    refine st_abs (cs' := [u64V (H + z - 8)]) rfl rfl x2 (by omega) rfl rfl fun s3 x3 c3 nx3 => ?_
    have a3 := c3.blk _ _ (show kp < s2.next by omega) (by simp; exact e1) a2
    have k3 := c3.blk _ _ (show kb < s2.next by omega) (by simp; exact Ne.symm e7) k2
    have v3 := c3.blk _ _ (show vb < s2.next by omega) (by simp; exact Ne.symm e5) v2
    have r3 := r2.chg c3 (by simp; exact Ne.symm e6)
    have c13 : Chg s s3 [kp, mn, vb, rb] := chg_same c12 (c3.sub (by simp))
    have f3 := c13.fine f
    clear x2 a2 k2 v2 r2 f2 c12
    (repeat(first|refine pSeq ?_|refine pReg ?_|refine sCons ?_|refine sNil ?_|refine rCons ?_|refine rNil ?_|refine kNo ?_|refine pRow ?_|refine pSkip ?_|refine pCond ?_|refine gNone ?_))
    refine ld1_is rfl v3 rfl ?_
    (repeat(first|refine pSeq ?_|refine pReg ?_|refine sCons ?_|refine sNil ?_|refine rCons ?_|refine rNil ?_|refine kNo ?_|refine pRow ?_|refine pSkip ?_|refine pCond ?_|refine gNone ?_))
    refine ldI_is rfl a3 (show _ = some (u64V (kpt z p * 2 ^ z + d)) from rfl) ?_
    (repeat(first|refine pSeq ?_|refine pReg ?_|refine sCons ?_|refine sNil ?_|refine rCons ?_|refine rNil ?_|refine kNo ?_|refine pRow ?_|refine pSkip ?_|refine pCond ?_|refine gNone ?_))
    refine ldI_is rfl x3 (show _ = some (u64V (H + z - 8)) from rfl) ?_
    (repeat(first|refine pSeq ?_|refine pReg ?_|refine sCons ?_|refine sNil ?_|refine rCons ?_|refine rNil ?_|refine kNo ?_|refine pRow ?_|refine pSkip ?_|refine pCond ?_|refine gNone ?_))
    refine ⟨by omega, ?_⟩
    intro w hw
    obtain rfl := shr_64 (by omega) hw
    (repeat(first|refine pSeq ?_|refine pReg ?_|refine sCons ?_|refine sNil ?_|refine rCons ?_|refine rNil ?_|refine kNo ?_|refine pRow ?_|refine pSkip ?_|refine pCond ?_|refine gNone ?_))
    intro w hw
    obtain rfl := u8_of o4 hw
    (repeat(first|refine pSeq ?_|refine pReg ?_|refine sCons ?_|refine sNil ?_|refine rCons ?_|refine rNil ?_|refine kNo ?_|refine pRow ?_|refine pSkip ?_|refine pCond ?_|refine gNone ?_))
    refine app_byte (c := UInt8.ofNat ((kpt z p * 2 ^ z + d) / 2 ^ (H + z - 8))) r3 rfl rfl hl0.symm rfl (by rw [Nat.mul_succ] at hm; omega) hcap fun s4 r4 c4 nx4 => ?_
    rw [← o5] at r4
    have a4 := c4.blk _ _ (show kp < s3.next by omega) (by simp; exact e3) a3
    have k4 := c4.blk _ _ (show kb < s3.next by omega) (by simp; exact Ne.symm e10) k3
    have v4 := c4.blk _ _ (show vb < s3.next by omega) (by simp; exact e8) v3
    have x4 := c4.blk _ _ (show mn < s3.next by omega) (by simp; exact e6) x3
    have c14 : Chg s s4 [kp, mn, vb, rb] := chg_same c13 (c4.sub (by simp))
    have f4 := c14.fine f
    clear x3 a3 k3 v3 r3 f3 c13
    (repeat(first|refine pSeq ?_|refine pReg ?_|refine sCons ?_|refine sNil ?_|refine rCons ?_|refine rNil ?_|refine kNo ?_|refine pRow ?_|refine pSkip ?_|refine pCond ?_|refine gNone ?_))
    refine st_abs (cs' := [slV rb (z * p.length / 8 + 1) cap]) rfl rfl v4 (by omega) rfl rfl fun s5 x5 c5 nx5 => ?_
    have a5 := c5.blk _ _ (show kp < s4.next by omega) (by simp; exact e2) a4
    have k5 := c5.blk _ _ (show kb < s4.next by omega) (by simp; exact Ne.symm e9) k4
    have m5 := c5.blk _ _ (show mn < s4.next by omega) (by simp; exact e5) x4
    have r5 := r4.chg c5 (by simp; exact Ne.symm e8)
    have c15 : Chg s s5 [kp, mn, vb, rb] := chg_same c14 (c5.sub (by simp))
    have f5 := c15.fine f
    clear x4 a4 k4 v4 r4 f4 c14
    (repeat(first|refine pSeq ?_|refine pReg ?_|refine sCons ?_|refine sNil ?_|refine rCons ?_|refine rNil ?_|refine kNo ?_|refine pRow ?_|refine pSkip ?_|refine pCond ?_|refine gNone ?_))
    refine ldI_is rfl a5 (show _ = some (u64V (kpt z p * 2 ^ z + d)) from rfl) ?_
    (repeat(first|refine pSeq ?_|refine pReg ?_|refine sCons ?_|refine sNil ?_|refine rCons ?_|refine rNil ?_|refine kNo ?_|refine pRow ?_|refine pSkip ?_|refine pCond ?_|refine gNone ?_))
    refine ldI_is rfl m5 (show _ = some (u64V (H + z - 8)) from rfl) ?_
    (repeat(first|refine pSeq ?_|refine pReg ?_|refine sCons ?_|refine sNil ?_|refine rCons ?_|refine rNil ?_|refine kNo ?_|refine pRow ?_|refine pSkip ?_|refine pCond ?_|refine gNone ?_))
    refine ⟨by omega, ?_⟩
    intro w hw
    obtain rfl := shl_64 (a := 1) (by omega) (by omega) hw
    (repeat(first|refine pSeq ?_|refine pReg ?_|refine sCons ?_|refine sNil ?_|refine rCons ?_|refine rNil ?_|refine kNo ?_|refine pRow ?_|refine pSkip ?_|refine pCond ?_|refine gNone ?_))
    intro w hw
    rw [u64_id (by omega)] at hw
    obtain rfl : w = ((2 ^ (H + z - 8) - 1 : Nat) : Int) := by omega
    (repeat(first|refine pSeq ?_|refine pReg ?_|refine sCons ?_|refine sNil ?_|refine rCons ?_|refine rNil ?_|refine kNo ?_|refine pRow ?_|refine pSkip ?_|refine pCond ?_|refine gNone ?_))
    intro w hw
    obtain rfl := and_64 (by omega) (by omega) hw
    rw [← o1]
    (repeat(first|refine pSeq ?_|refine pReg ?_|refine sCons ?_|refine sNil ?_|refine rCons ?_|refine rNil ?_|refine kNo ?_|refine pRow ?_|refine pSkip ?_|refine pCond ?_|refine gNone ?_))
    refine st_abs (cs' := [u64V (kpt z (p ++ [d]))]) rfl rfl a5 (by omega) rfl rfl fun s6 x6 c6 nx6 => ?_
    have k6 := c6.blk _ _ (show kb < s5.next by omega) (by simp; exact Ne.symm e4) k5
    have m6 := c6.blk _ _ (show mn < s5.next by omega) (by simp; exact Ne.symm e1) m5
    have v6 := c6.blk _ _ (show vb < s5.next by omega) (by simp; exact Ne.symm e2) x5
    have r6 := r5.chg c6 (by simp; exact Ne.symm e3)
    have c16 : Chg s s6 [kp, mn, vb, rb] := chg_same c15 (c6.sub (by simp))
    (repeat(first|refine pSeq ?_|refine pReg ?_|refine sCons ?_|refine sNil ?_|refine rCons ?_|refine rNil ?_|refine kNo ?_|refine pRow ?_|refine pSkip ?_|refine pCond ?_|refine gNone ?_))
    have hl1 := outB_len z (p ++ [d])
    rw [o5, List.length_append, List.length_singleton, hl0] at hl1
    refine ⟨rfl, ⟨x6, ?_, ?_, r6, k6, by omega, by omega, by omega, by omega⟩, c16⟩
    · rw [List.length_append, List.length_singleton, o3]; exact m6
    · rw [← hl1]; exact v6
  · obtain ⟨o1, o2, o3, o5⟩ := hlo (by omega)
    obtain rfl : q = false := by rw [hq]; simp <;> omega
    (repeat(first|refine pSeq ?_|refine pReg ?_|refine sCons ?_|refine sNil ?_|refine rCons ?_|refine rNil ?_|refine kNo ?_|refine pRow ?_|refine pSkip ?_|refine pCond ?_|refine gNone ?_))
    have hl1 := outB_len z (p ++ [d])
    rw [o5, hl0] at hl1
    refine ⟨rfl, ⟨?_, ?_, ?_, ?_, k2, by omega, by omega, by omega, by omega⟩, c12⟩
    · rw [o1]; exact a2
    · rw [List.length_append, List.length_singleton, o3]; exact x2
    · rw [← hl1]; exact v2
    · rw [o5]; exact r2
end Go.Vf.S

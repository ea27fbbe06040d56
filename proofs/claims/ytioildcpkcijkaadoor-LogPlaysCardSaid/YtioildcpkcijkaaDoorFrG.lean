import Derived.Test.YtioildcpkcijkaaDoorFrF
/- The document's answers: its check, its bytes, its sum and form. -/
namespace Go.Vf.S
open Go Go.Vf Go.Vf.Fr
attribute [local irreducible] wSeq wRow wp wG
set_option linter.unusedVariables false
set_option linter.unusedSimpArgs false
set_option maxRecDepth 10000

def bsN : Nat → BitVec 32 → BitVec 32
  | 0, r => r
  | n + 1, r => bs (bsN n r)

theorem bit0 (x : BitVec 32) : (x.toNat : Int).tmod 2 = bif x.getLsbD 0 then 1 else 0 := by
  rw [Int.tmod_eq_emod_of_nonneg (by omega)]
  have : x.getLsbD 0 = decide (x.toNat % 2 = 1) := by rw [BitVec.getLsbD, Nat.testBit_zero]
  rw [this]
  by_cases h : x.toNat % 2 = 1
  · simp [h]; omega
  · simp [h]; omega
theorem half_u32 (x : BitVec 32) : IntKind.wrap .u32 ((x.toNat : Int).tdiv 2) = ((x >>> 1).toNat : Int) := by
  rw [Int.tdiv_eq_ediv_of_nonneg (by omega), BitVec.toNat_ushiftRight, Nat.shiftRight_eq_div_pow, wrap_u32]
  have := x.isLt
  omega
theorem inv_u32 (x : BitVec 32) : IntKind.wrap .u32 (4294967295 - (x.toNat : Int)) = ((~~~ x).toNat : Int) := by
  rw [BitVec.toNat_not, wrap_u32]
  have := x.isLt
  omega

theorem refCrc_w (s : SS) (base : Option Addr) (n c : Nat) (l : List UInt8) (h : Rdb s base n l) (hb : n < 2 ^ 40) :
    CallW pr n_ref02_Crc [.slice base n c] s fun v s' => v = .int .u32 (crc l).toNat ∧ s' = s := by
  have hnl := h.1
  refine CallW.run good ok_ref02_Crc (by simp) rfl ?_
  (repeat(first|refine pSeq ?_|refine pReg ?_|refine sCons ?_|refine sNil ?_|refine pBlock ?_|refine pSkip ?_|refine pExit ?_|refine pRet ?_|refine pCond ?_|refine gNone ?_))
  refine pLoop (MW.head good (fun i => n - i) (fun i => i ≤ n) (fun i => [(0, .slice base n c), (3, .int .u32 (reg (BitVec.allOnes 32) (l.take i)).toNat), (4, .int .i64 i)]) (fun _ => s) 0 (Nat.zero_le _) ?_ ?_)
  · exact Wk.same ⟨rfl, rfl, rfl, trivial⟩
  intro i hi
  (repeat(first|refine pSeq ?_|refine pReg ?_|refine sCons ?_|refine sNil ?_|refine pBlock ?_|refine pSkip ?_|refine pExit ?_|refine pRet ?_|refine pCond ?_|refine gNone ?_))
  intro q hq
  by_cases hlt : i < n
  · obtain rfl : q = true := by rw [hq]; simpa using hlt
    (repeat(first|refine pSeq ?_|refine pReg ?_|refine sCons ?_|refine sNil ?_|refine pBlock ?_|refine pSkip ?_|refine pExit ?_|refine pRet ?_|refine pCond ?_|refine gNone ?_))
    cases base with
    | none => exact absurd hnl (by have := h.2; simp only at this; subst this; simp; omega)
    | some a =>
      obtain ⟨b, off, sp⟩ := a
      obtain ⟨rfl, cc, t, g, rr, hb1, hat⟩ := h.at
      refine ⟨by omega, ?_⟩
      intro m hm o ho
      obtain rfl : m = i := by omega
      (repeat(first|refine pSeq ?_|refine pReg ?_|refine sCons ?_|refine sNil ?_|refine pBlock ?_|refine pSkip ?_|refine pExit ?_|refine pRet ?_|refine pCond ?_|refine gNone ?_))
      refine ldI_at rfl hb1 (by rw [ho, Nat.mul_one]; exact hat _ hlt) ?_
      (repeat(first|refine pSeq ?_|refine pReg ?_|refine sCons ?_|refine sNil ?_|refine pBlock ?_|refine pSkip ?_|refine pExit ?_|refine pRet ?_|refine pCond ?_|refine gNone ?_))
      intro z hz; rw [u8_u32] at hz; subst hz
      (repeat(first|refine pSeq ?_|refine pReg ?_|refine sCons ?_|refine sNil ?_|refine pBlock ?_|refine pSkip ?_|refine pExit ?_|refine pRet ?_|refine pCond ?_|refine gNone ?_))
      intro z hz; rw [xor_u32] at hz; subst hz
      (repeat(first|refine pSeq ?_|refine pReg ?_|refine sCons ?_|refine sNil ?_|refine pBlock ?_|refine pSkip ?_|refine pExit ?_|refine pRet ?_|refine pCond ?_|refine gNone ?_))
      refine pLoop (MW.head good (fun k => 8 - k) (fun k => k ≤ 8) (fun k => [(0, .slice (some ⟨b, off, none⟩) n c), (3, .int .u32 (bsN k (reg (BitVec.allOnes 32) (l.take m) ^^^ (l.getD m 0).toBitVec.setWidth 32)).toNat), (4, .int .i64 m), (5, .int .i64 k)]) (fun _ => s) 0 (Nat.zero_le _) ?_ ?_)
      · exact Wk.same ⟨rfl, rfl, rfl, rfl, trivial⟩
      intro k hk
      (repeat(first|refine pSeq ?_|refine pReg ?_|refine sCons ?_|refine sNil ?_|refine pBlock ?_|refine pSkip ?_|refine pExit ?_|refine pRet ?_|refine pCond ?_|refine gNone ?_))
      intro q2 hq2
      by_cases hk8 : k < 8
      · obtain rfl : q2 = true := by rw [hq2]; simp; omega
        (repeat(first|refine pSeq ?_|refine pReg ?_|refine sCons ?_|refine sNil ?_|refine pBlock ?_|refine pSkip ?_|refine pExit ?_|refine pRet ?_|refine pCond ?_|refine gNone ?_))
        refine ⟨by decide, ?_⟩
        intro z hz; rw [bit0] at hz
        (repeat(first|refine pSeq ?_|refine pReg ?_|refine sCons ?_|refine sNil ?_|refine pBlock ?_|refine pSkip ?_|refine pExit ?_|refine pRet ?_|refine pCond ?_|refine gNone ?_))
        refine ⟨by decide, ?_⟩
        intro z2 hz2; rw [half_u32] at hz2; subst hz2
        (repeat(first|refine pSeq ?_|refine pReg ?_|refine sCons ?_|refine sNil ?_|refine pBlock ?_|refine pSkip ?_|refine pExit ?_|refine pRet ?_|refine pCond ?_|refine gNone ?_))
        intro c3 hc3
        by_cases hbit : (bsN k (reg (BitVec.allOnes 32) (l.take m) ^^^ (l.getD m 0).toBitVec.setWidth 32)).getLsbD 0 = true
        · rw [hbit] at hz
          obtain rfl : c3 = true := by rw [hc3, hz]; rfl
          (repeat(first|refine pSeq ?_|refine pReg ?_|refine sCons ?_|refine sNil ?_|refine pBlock ?_|refine pSkip ?_|refine pExit ?_|refine pRet ?_|refine pCond ?_|refine gNone ?_))
          intro z3 hz3; rw [xorC_u32] at hz3
          (repeat(first|refine pSeq ?_|refine pReg ?_|refine sCons ?_|refine sNil ?_|refine pBlock ?_|refine pSkip ?_|refine pExit ?_|refine pRet ?_|refine pCond ?_|refine gNone ?_))
          intro z4 hz4
          (repeat(first|refine pSeq ?_|refine pReg ?_|refine sCons ?_|refine sNil ?_|refine pBlock ?_|refine pSkip ?_|refine pExit ?_|refine pRet ?_|refine pCond ?_|refine gNone ?_))
          refine ⟨k + 1, by dsimp only; omega, by dsimp only; omega, Wk.same ⟨rfl, ?_, rfl, ?_, trivial⟩⟩
          · rw [hz3]
            simp only [bsN, bs, hbit, cond_true]
            rfl
          · rw [hz4, i64_id (by omega)]
            rfl
        · have hbit := (Bool.not_eq_true _).mp hbit
          rw [hbit] at hz
          obtain rfl : c3 = false := by rw [hc3, hz]; rfl
          (repeat(first|refine pSeq ?_|refine pReg ?_|refine sCons ?_|refine sNil ?_|refine pBlock ?_|refine pSkip ?_|refine pExit ?_|refine pRet ?_|refine pCond ?_|refine gNone ?_))
          intro z4 hz4
          (repeat(first|refine pSeq ?_|refine pReg ?_|refine sCons ?_|refine sNil ?_|refine pBlock ?_|refine pSkip ?_|refine pExit ?_|refine pRet ?_|refine pCond ?_|refine gNone ?_))
          refine ⟨k + 1, by dsimp only; omega, by dsimp only; omega, Wk.same ⟨rfl, ?_, rfl, ?_, trivial⟩⟩
          · simp only [bsN, bs_even hbit]
            rfl
          · rw [hz4, i64_id (by omega)]
            rfl
      · obtain rfl : q2 = false := by rw [hq2]; simp; omega
        obtain rfl : k = 8 := by omega
        (repeat(first|refine pSeq ?_|refine pReg ?_|refine sCons ?_|refine sNil ?_|refine pBlock ?_|refine pSkip ?_|refine pExit ?_|refine pRet ?_|refine pCond ?_|refine gNone ?_))
        intro z4 hz4
        (repeat(first|refine pSeq ?_|refine pReg ?_|refine sCons ?_|refine sNil ?_|refine pBlock ?_|refine pSkip ?_|refine pExit ?_|refine pRet ?_|refine pCond ?_|refine gNone ?_))
        refine ⟨m + 1, by dsimp only; omega, by dsimp only; omega, Wk.same ⟨rfl, ?_, ?_, trivial⟩⟩
        · rw [reg_take (by omega)]
          rfl
        · rw [hz4, i64_id (by omega)]
          rfl
  · obtain rfl : q = false := by rw [hq]; simpa using hlt
    obtain rfl : i = n := by omega
    (repeat(first|refine pSeq ?_|refine pReg ?_|refine sCons ?_|refine sNil ?_|refine pBlock ?_|refine pSkip ?_|refine pExit ?_|refine pRet ?_|refine pCond ?_|refine gNone ?_))
    intro z hz
    (repeat(first|refine pSeq ?_|refine pReg ?_|refine sCons ?_|refine sNil ?_|refine pBlock ?_|refine pSkip ?_|refine pExit ?_|refine pRet ?_|refine pCond ?_|refine gNone ?_))
    refine ⟨?_, rfl⟩
    rw [hz, List.take_of_length_le (by omega)]
    exact congrArg (fun x => Value.int .u32 x) (inv_u32 _)


theorem refCrc_ok {s : SS} {base : Option Addr} {n c : Nat} {l : List UInt8} (h : Pre s base n l) (hb : n < 2 ^ 40) : CallOk pr n_ref02_Crc [.slice base n c] s.st (.int .u32 (crc l).toNat) s.st := by
  obtain ⟨h1, h2⟩ := h.part
  refine CallOk.reads (needOf base) h2 ?_ (by have := h.next; have := h.gl; omega) rfl ((refCrc_w _ _ _ _ _ h1.rd hb).mono fun v s' q => q.1)
  simp only [rnL, rn_base h.rd]

/-- The last bytes of a number. -/
def tailB (x : BitVec 32) : Nat → List UInt8
  | 0 => []
  | j + 1 => byteOf (x >>> (8 * j)) :: tailB x j

theorem tailB_len (x : BitVec 32) : ∀ j, (tailB x j).length = j
  | 0 => rfl
  | j + 1 => by simp [tailB, tailB_len x j]

theorem mod_u8 (x : BitVec 32) : IntKind.wrap .u8 ((x.toNat : Int).tmod 256) = ((byteOf x).toNat : Int) := by
  rw [Int.tmod_eq_emod_of_nonneg (by omega), wrap_u8]
  simp [byteOf]
theorem div_u32 (x : BitVec 32) : IntKind.wrap .u32 ((x.toNat : Int).tdiv 256) = ((x >>> 8).toNat : Int) := by
  rw [Int.tdiv_eq_ediv_of_nonneg (by omega), BitVec.toNat_ushiftRight, Nat.shiftRight_eq_div_pow, wrap_u32]
  have := x.isLt
  omega

theorem set_tail (x : BitVec 32) {many j : Nat} (h : j < many) : List.take (many - 1 - j) (List.replicate (many - j) 0 ++ tailB x j) ++ [byteOf (x >>> (8 * j))] ++ List.drop (many - 1 - j + 1) (List.replicate (many - j) (0 : UInt8) ++ tailB x j) = List.replicate (many - (j + 1)) 0 ++ tailB x (j + 1) := by
  have e : many - j = (many - (j + 1)) + 1 := by omega
  have e2 : many - 1 - j = many - (j + 1) := by omega
  rw [e, e2]
  generalize many - (j + 1) = d
  rw [List.take_append_of_le_length (by simp), List.take_replicate, List.drop_append_of_le_length (by simp), List.drop_replicate]
  simp [tailB]

theorem refBytes_w (s : SS) (x : BitVec 32) (many : Nat) (hm : many ≤ 8) :
    CallW pr n_ref02_bytes [.int .u32 x.toNat, .int .i64 many] s fun v s' => ∃ b, v = .slice (some ⟨b, 0, none⟩) many many ∧ Rdb s' (some ⟨b, 0, none⟩) many (tailB x many) ∧ Old s s' := by
  obtain ⟨heap, next, gl⟩ := s
  refine CallW.run good ok_ref02_bytes (by simp) rfl ?_
  (repeat(first|refine pSeq ?_|refine pReg ?_|refine sCons ?_|refine sNil ?_|refine pBlock ?_|refine pSkip ?_|refine pExit ?_|refine pRet ?_|refine pCond ?_|refine gNone ?_))
  refine ⟨by omega, ?_⟩
  intro m m' h1 h2 cs hcs
  obtain rfl : m = many := by omega
  obtain rfl : m' = m := by omega
  rw [repeat_bytes] at hcs
  subst hcs
  (repeat(first|refine pSeq ?_|refine pReg ?_|refine sCons ?_|refine sNil ?_|refine pBlock ?_|refine pSkip ?_|refine pExit ?_|refine pRet ?_|refine pCond ?_|refine gNone ?_))
  intro z hz
  rw [i64_id (by omega)] at hz
  (repeat(first|refine pSeq ?_|refine pReg ?_|refine sCons ?_|refine sNil ?_|refine pBlock ?_|refine pSkip ?_|refine pExit ?_|refine pRet ?_|refine pCond ?_|refine gNone ?_))
  refine pLoop (MW.head good (fun j => m' - j) (fun j => j ≤ m') (fun j => [(0, .int .u32 (x >>> (8 * j)).toNat), (5, .slice (some ⟨next, 0, none⟩) m' m'), (6, .int .i64 ((m' : Int) - 1 - j))]) (fun j => ⟨(next, some (.cells (bytesV (List.replicate (m' - j) 0 ++ tailB x j)) 5 false false)) :: heap, next + 1, gl⟩) 0 (Nat.zero_le _) ?_ ?_)
  · refine Wk.less ⟨?_, rfl, ?_, trivial⟩ (fun id b hb => ?_) (Nat.le_refl _) rfl
    · simp; rfl
    · rw [hz]; simp; rfl
    · simpa [tailB] using hb
  intro j hj
  (repeat(first|refine pSeq ?_|refine pReg ?_|refine sCons ?_|refine sNil ?_|refine pBlock ?_|refine pSkip ?_|refine pExit ?_|refine pRet ?_|refine pCond ?_|refine gNone ?_))
  intro q hq
  by_cases hlt : j < m'
  · obtain rfl : q = true := by rw [hq]; simp; omega
    (repeat(first|refine pSeq ?_|refine pReg ?_|refine sCons ?_|refine sNil ?_|refine pBlock ?_|refine pSkip ?_|refine pExit ?_|refine pRet ?_|refine pCond ?_|refine gNone ?_))
    refine ⟨by decide, ?_⟩
    intro z1 hz1
    (repeat(first|refine pSeq ?_|refine pReg ?_|refine sCons ?_|refine sNil ?_|refine pBlock ?_|refine pSkip ?_|refine pExit ?_|refine pRet ?_|refine pCond ?_|refine gNone ?_))
    intro z2 hz2
    rw [hz1, mod_u8] at hz2
    subst hz2
    (repeat(first|refine pSeq ?_|refine pReg ?_|refine sCons ?_|refine sNil ?_|refine pBlock ?_|refine pSkip ?_|refine pExit ?_|refine pRet ?_|refine pCond ?_|refine gNone ?_))
    refine ⟨by omega, ?_⟩
    intro i hi o ho
    have ho' : o = m' - 1 - j := by omega
    subst ho'
    (repeat(first|refine pSeq ?_|refine pReg ?_|refine sCons ?_|refine sNil ?_|refine pBlock ?_|refine pSkip ?_|refine pExit ?_|refine pRet ?_|refine pCond ?_|refine gNone ?_))
    have hs := setRow_bytes (List.replicate (m' - j) 0 ++ tailB x j) [byteOf (x >>> (8 * j))] (m' - 1 - j) (by simp [tailB_len]; omega)
    rw [List.length_singleton, set_tail x hlt] at hs
    refine st_at rfl rfl look_head hs ?_
    (repeat(first|refine pSeq ?_|refine pReg ?_|refine sCons ?_|refine sNil ?_|refine pBlock ?_|refine pSkip ?_|refine pExit ?_|refine pRet ?_|refine pCond ?_|refine gNone ?_))
    refine ⟨by decide, ?_⟩
    intro z3 hz3
    rw [div_u32] at hz3
    (repeat(first|refine pSeq ?_|refine pReg ?_|refine sCons ?_|refine sNil ?_|refine pBlock ?_|refine pSkip ?_|refine pExit ?_|refine pRet ?_|refine pCond ?_|refine gNone ?_))
    intro z4 hz4
    (repeat(first|refine pSeq ?_|refine pReg ?_|refine sCons ?_|refine sNil ?_|refine pBlock ?_|refine pSkip ?_|refine pExit ?_|refine pRet ?_|refine pCond ?_|refine gNone ?_))
    refine ⟨j + 1, by dsimp only; omega, by dsimp only; omega, Wk.less ⟨?_, rfl, ?_, trivial⟩ look_shadow (Nat.le_refl _) rfl⟩
    · rw [hz3, ← BitVec.shiftRight_add]
      rfl
    · rw [hz4, i64_id (by omega)]
      show some (Value.int .i64 _) = some (Value.int .i64 _)
      congr 2
      omega
  · obtain rfl : q = false := by rw [hq]; simp; omega
    obtain rfl : j = m' := by omega
    (repeat(first|refine pSeq ?_|refine pReg ?_|refine sCons ?_|refine sNil ?_|refine pBlock ?_|refine pSkip ?_|refine pExit ?_|refine pRet ?_|refine pCond ?_|refine gNone ?_))
    refine ⟨next, rfl, ⟨(tailB_len x j).symm, rfl, Nat.lt_succ_self _, _, _, _, _, look_head, ?_, bytesV_plain _⟩, rfl, Nat.le_succ _, fun id b hid hb => look_tail' (Nat.ne_of_gt hid) hb, fun f id hid => by
      have hid' : next + 1 ≤ id := hid
      exact lkN (by omega) (f id (by show next ≤ id; omega))⟩
    simp only [Nat.sub_self, List.replicate_zero, List.nil_append]
    rw [takeN_bytes (by rw [tailB_len]; omega), List.drop_zero, List.take_of_length_le (by rw [tailB_len]; omega)]

end Go.Vf.S

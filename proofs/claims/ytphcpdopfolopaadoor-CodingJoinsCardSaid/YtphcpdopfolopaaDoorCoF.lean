import Derived.Test.YtphcpdopfolopaaDoorCoE
import Derived.Test.YtphcpdopfolopaaDoorTxN
/- The program's small functions. -/
namespace Go.Vf.S
open Go Go.Vf Go.Proofs Go.RowKit
attribute [local irreducible] wSeq wRow wp wG
set_option linter.unusedVariables false
set_option linter.unusedSimpArgs false
set_option maxRecDepth 10000

theorem kv0 (z : Nat) : (kV z)[0]? = some (str (lets z)) := rfl
theorem kv1 (z : Nat) : (kV z)[1]? = some (Value.int .u64 (z : Nat)) := rfl
theorem kv2 (z : Nat) : (kV z)[2]? = some (Value.int .i64 (rowN z : Nat)) := rfl
theorem kv3 (z : Nat) : (kV z)[3]? = some (Value.bool (decide (z ≠ 6))) := rfl
theorem kv_take (z : Nat) : takeN 4 ((kV z).drop 0) = some (kV z) := rfl
theorem row_pos (z : Nat) : 0 < rowN z ∧ rowN z ≤ 4 := by unfold rowN; split <;> omega
theorem tdivN (a b : Nat) : ((a : Int)).tdiv (b : Int) = ((a / b : Nat) : Int) := by rw [Int.ofNat_tdiv]
theorem upTo_w {s : SS} {a b : Nat} (ha : a ≤ 2 ^ 40) (hb : 0 < b ∧ b ≤ 64) : CallW pr n_coding_upTo [.int .i64 a, .int .i64 b] s fun v s' => v = .int .i64 ((a + b - 1) / b * b : Nat) ∧ s' = s := by
  have hd : (a + b - 1) / b * b ≤ a + b - 1 := Nat.div_mul_le_self _ _
  have hd2 : (a + b - 1) / b ≤ a + b - 1 := Nat.div_le_self _ _
  obtain ⟨q, hq⟩ : ∃ q, q = (a + b - 1) / b := ⟨_, rfl⟩
  rw [← hq] at hd hd2 ⊢
  refine CallW.run good ok_coding_upTo (by simp) rfl ?_
  (repeat(first|refine pSeq ?_|refine pReg ?_|refine sCons ?_|refine sNil ?_|refine pRet ?_|refine gNone ?_))
  intro z1 h1
  rw [i64_id (by omega)] at h1
  (repeat(first|refine pSeq ?_|refine pReg ?_|refine sCons ?_|refine sNil ?_|refine pRet ?_|refine gNone ?_))
  intro z2 h2
  rw [i64_id (by omega)] at h2
  obtain rfl : z2 = ((a + b - 1 : Nat) : Int) := by omega
  (repeat(first|refine pSeq ?_|refine pReg ?_|refine sCons ?_|refine sNil ?_|refine pRet ?_|refine gNone ?_))
  refine ⟨by omega, ?_⟩
  intro z3 h3
  rw [tdivN, ← hq, i64_id (by omega)] at h3
  subst h3
  (repeat(first|refine pSeq ?_|refine pReg ?_|refine sCons ?_|refine sNil ?_|refine pRet ?_|refine gNone ?_))
  intro z4 h4
  rw [← Int.natCast_mul, i64_id (by omega)] at h4
  subst h4
  (repeat(first|refine pSeq ?_|refine pReg ?_|refine sCons ?_|refine sNil ?_|refine pRet ?_|refine gNone ?_))
  exact ⟨rfl, rfl⟩

theorem size_eq {z n : Nat} (hz : 4 ≤ z ∧ z ≤ 6) : ((n * 8 + z - 1) / z * z / z + rowN z - 1) / rowN z * rowN z = sizeF z n := by
  have e : (n * 8 + z - 1) / z * z / z = cnt z n := by
    rw [Nat.mul_div_cancel _ (by omega)]
    unfold cnt
    rw [Nat.mul_comm]
  rw [e]
  unfold sizeF padN rowN
  by_cases h : z = 6
  · rw [if_pos h, if_pos h]; omega
  · rw [if_neg h, if_neg h]; omega
theorem size_le {z n : Nat} (hz : 4 ≤ z ∧ z ≤ 6) (hn : n ≤ 1000000) : sizeF z n ≤ 2000003 ∧ cnt z n ≤ 2000000 := by
  unfold sizeF padN
  have : cnt z n ≤ 2 * n := by
    unfold cnt
    rcases (show z = 4 ∨ z = 5 ∨ z = 6 by omega) with rfl | rfl | rfl <;> omega
  split <;> omega
theorem size_w {s : SS} {z n : Nat} (f : Fine s) (hz : 4 ≤ z ∧ z ≤ 6) (hn : n ≤ 1000000) : CallW pr n_coding_kind_size [kA z, .int .i64 n] s fun v s' => v = .int .i64 (sizeF z n : Nat) ∧ Chg s s' [] := by
  refine CallW.run good ok_coding_kind_size (by simp) rfl ?_
  obtain ⟨h0, c0, f0⟩ := new1_at f (.cells (kV z) tKd false false)
  (repeat(first|refine pSeq ?_|refine pReg ?_|refine sCons ?_|refine sNil ?_|refine rCons ?_|refine rNil ?_|refine kNo ?_|refine pRow ?_|refine pRet ?_|refine gNone ?_))
  intro z1 h1
  rw [i64_id (by omega)] at h1
  obtain rfl : z1 = ((n * 8 : Nat) : Int) := by omega
  (repeat(first|refine pSeq ?_|refine pReg ?_|refine sCons ?_|refine sNil ?_|refine rCons ?_|refine rNil ?_|refine kNo ?_|refine pRow ?_|refine pRet ?_|refine gNone ?_))
  refine ldI_is rfl h0 (kv1 z) ?_
  (repeat(first|refine pSeq ?_|refine pReg ?_|refine sCons ?_|refine sNil ?_|refine rCons ?_|refine rNil ?_|refine kNo ?_|refine pRow ?_|refine pRet ?_|refine gNone ?_))
  intro z2 h2
  rw [i64_id (by omega)] at h2
  subst h2
  (repeat(first|refine pSeq ?_|refine pReg ?_|refine sCons ?_|refine sNil ?_|refine rCons ?_|refine rNil ?_|refine kNo ?_|refine pRow ?_|refine pRet ?_|refine gNone ?_))
  refine ldI_is rfl h0 (kv1 z) ?_
  (repeat(first|refine pSeq ?_|refine pReg ?_|refine sCons ?_|refine sNil ?_|refine rCons ?_|refine rNil ?_|refine kNo ?_|refine pRow ?_|refine pRet ?_|refine gNone ?_))
  intro z3 h3
  rw [i64_id (by omega)] at h3
  subst h3
  (repeat(first|refine pSeq ?_|refine pReg ?_|refine sCons ?_|refine sNil ?_|refine rCons ?_|refine rNil ?_|refine kNo ?_|refine pRow ?_|refine pRet ?_|refine gNone ?_))
  refine ldI_is rfl h0 (kv2 z) ?_
  (repeat(first|refine pSeq ?_|refine pReg ?_|refine sCons ?_|refine sNil ?_|refine rCons ?_|refine rNil ?_|refine kNo ?_|refine pRow ?_|refine pRet ?_|refine gNone ?_))
  refine (upTo_w (by omega) (by omega)).mono fun v s1 q => ?_
  obtain ⟨rfl, rfl⟩ := q
  refine kAll .refl ?_
  (repeat(first|refine pSeq ?_|refine pReg ?_|refine sCons ?_|refine sNil ?_|refine rCons ?_|refine rNil ?_|refine kNo ?_|refine pRow ?_|refine pRet ?_|refine gNone ?_))
  refine ⟨by omega, ?_⟩
  intro z4 h4
  have hle : (n * 8 + z - 1) / z * z ≤ n * 8 + z - 1 := Nat.div_mul_le_self _ _
  have hle2 : (n * 8 + z - 1) / z * z / z ≤ (n * 8 + z - 1) / z * z := Nat.div_le_self _ _
  obtain ⟨q, hq⟩ : ∃ q, q = (n * 8 + z - 1) / z * z / z := ⟨_, rfl⟩
  rw [← hq] at hle2
  rw [tdivN, ← hq, i64_id (by omega)] at h4
  subst h4
  (repeat(first|refine pSeq ?_|refine pReg ?_|refine sCons ?_|refine sNil ?_|refine rCons ?_|refine rNil ?_|refine kNo ?_|refine pRow ?_|refine pRet ?_|refine gNone ?_))
  refine (upTo_w (by omega) ⟨(row_pos z).1, by have := (row_pos z).2; omega⟩).mono fun v s1 q => ?_
  obtain ⟨rfl, rfl⟩ := q
  (repeat(first|refine pSeq ?_|refine pReg ?_|refine sCons ?_|refine sNil ?_|refine rCons ?_|refine rNil ?_|refine kNo ?_|refine pRow ?_|refine pRet ?_|refine gNone ?_))
  refine ⟨?_, c0⟩
  rw [hq, size_eq hz]
  rfl

/-! ### Cases, places -/
def turnF (c : UInt8) : UInt8 := if 97 ≤ c.toNat ∧ c.toNat ≤ 122 then c - 32 else if 65 ≤ c.toNat ∧ c.toNat ≤ 90 then c + 32 else c
theorem turned_w {s : SS} {c : UInt8} : CallW pr n_coding_turned [.int .u8 c.toNat] s fun v s' => v = .int .u8 (turnF c).toNat ∧ s' = s := by
  have hc := c.toNat_lt
  refine CallW.run good ok_coding_turned (by simp) rfl ?_
  (repeat(first|refine pSeq ?_|refine pReg ?_|refine sCons ?_|refine sNil ?_|refine pBlock ?_|refine pSkip ?_|refine pRet ?_|refine pCond ?_|refine gNone ?_|refine gOn rfl ?_|refine gOff rfl rfl ?_|refine gTup rfl ?_))
  intro q hq
  by_cases h1 : 97 ≤ c.toNat ∧ c.toNat ≤ 122
  · have e : turnF c = c - 32 := if_pos h1
    obtain rfl : q = true := by rw [hq]; simp; omega
    (repeat(first|refine pSeq ?_|refine pReg ?_|refine sCons ?_|refine sNil ?_|refine pBlock ?_|refine pSkip ?_|refine pRet ?_|refine pCond ?_|refine gNone ?_|refine gOn rfl ?_|refine gOff rfl rfl ?_|refine gTup rfl ?_))
    intro q hq
    obtain rfl : q = true := by rw [hq]; simp; omega
    (repeat(first|refine pSeq ?_|refine pReg ?_|refine sCons ?_|refine sNil ?_|refine pBlock ?_|refine pSkip ?_|refine pRet ?_|refine pCond ?_|refine gNone ?_|refine gOn rfl ?_|refine gOff rfl rfl ?_|refine gTup rfl ?_))
    intro z hz
    (repeat(first|refine pSeq ?_|refine pReg ?_|refine sCons ?_|refine sNil ?_|refine pBlock ?_|refine pSkip ?_|refine pRet ?_|refine pCond ?_|refine gNone ?_|refine gOn rfl ?_|refine gOff rfl rfl ?_|refine gTup rfl ?_))
    intro z1 hz1
    (repeat(first|refine pSeq ?_|refine pReg ?_|refine sCons ?_|refine sNil ?_|refine pBlock ?_|refine pSkip ?_|refine pRet ?_|refine pCond ?_|refine gNone ?_|refine gOn rfl ?_|refine gOff rfl rfl ?_|refine gTup rfl ?_))
    refine ⟨?_, rfl⟩
    rw [e]
    have : (c - 32).toNat = c.toNat - 32 := by rw [UInt8.toNat_sub]; show (2 ^ 8 - 32 + c.toNat) % 2 ^ 8 = _; omega
    rw [wrap_u8] at hz hz1
    rw [this]
    obtain rfl : z1 = ((c.toNat - 32 : Nat) : Int) := by omega
    rfl
  · by_cases h2 : 65 ≤ c.toNat ∧ c.toNat ≤ 90
    · have e : turnF c = c + 32 := by unfold turnF; rw [if_neg h1, if_pos h2]
      obtain rfl : q = false := by rw [hq]; simp; omega
      (repeat(first|refine pSeq ?_|refine pReg ?_|refine sCons ?_|refine sNil ?_|refine pBlock ?_|refine pSkip ?_|refine pRet ?_|refine pCond ?_|refine gNone ?_|refine gOn rfl ?_|refine gOff rfl rfl ?_|refine gTup rfl ?_))
      intro q hq
      obtain rfl : q = true := by rw [hq]; simp; omega
      (repeat(first|refine pSeq ?_|refine pReg ?_|refine sCons ?_|refine sNil ?_|refine pBlock ?_|refine pSkip ?_|refine pRet ?_|refine pCond ?_|refine gNone ?_|refine gOn rfl ?_|refine gOff rfl rfl ?_|refine gTup rfl ?_))
      intro q hq
      obtain rfl : q = true := by rw [hq]; simp; omega
      (repeat(first|refine pSeq ?_|refine pReg ?_|refine sCons ?_|refine sNil ?_|refine pBlock ?_|refine pSkip ?_|refine pRet ?_|refine pCond ?_|refine gNone ?_|refine gOn rfl ?_|refine gOff rfl rfl ?_|refine gTup rfl ?_))
      intro z hz
      (repeat(first|refine pSeq ?_|refine pReg ?_|refine sCons ?_|refine sNil ?_|refine pBlock ?_|refine pSkip ?_|refine pRet ?_|refine pCond ?_|refine gNone ?_|refine gOn rfl ?_|refine gOff rfl rfl ?_|refine gTup rfl ?_))
      intro z1 hz1
      (repeat(first|refine pSeq ?_|refine pReg ?_|refine sCons ?_|refine sNil ?_|refine pBlock ?_|refine pSkip ?_|refine pRet ?_|refine pCond ?_|refine gNone ?_|refine gOn rfl ?_|refine gOff rfl rfl ?_|refine gTup rfl ?_))
      refine ⟨?_, rfl⟩
      rw [e]
      have : (c + 32).toNat = c.toNat + 32 := by rw [UInt8.toNat_add]; show (c.toNat + 32) % 2 ^ 8 = _; omega
      rw [wrap_u8] at hz hz1
      rw [this]
      obtain rfl : z1 = ((c.toNat + 32 : Nat) : Int) := by omega
      rfl
    · have e : turnF c = c := by unfold turnF; rw [if_neg h1, if_neg h2]
      by_cases h3 : 97 ≤ c.toNat
      · obtain rfl : q = true := by rw [hq]; simp; omega
        (repeat(first|refine pSeq ?_|refine pReg ?_|refine sCons ?_|refine sNil ?_|refine pBlock ?_|refine pSkip ?_|refine pRet ?_|refine pCond ?_|refine gNone ?_|refine gOn rfl ?_|refine gOff rfl rfl ?_|refine gTup rfl ?_))
        intro q hq
        obtain rfl : q = false := by rw [hq]; simp; omega
        (repeat(first|refine pSeq ?_|refine pReg ?_|refine sCons ?_|refine sNil ?_|refine pBlock ?_|refine pSkip ?_|refine pRet ?_|refine pCond ?_|refine gNone ?_|refine gOn rfl ?_|refine gOff rfl rfl ?_|refine gTup rfl ?_))
        intro q hq
        obtain rfl : q = true := by rw [hq]; simp; omega
        (repeat(first|refine pSeq ?_|refine pReg ?_|refine sCons ?_|refine sNil ?_|refine pBlock ?_|refine pSkip ?_|refine pRet ?_|refine pCond ?_|refine gNone ?_|refine gOn rfl ?_|refine gOff rfl rfl ?_|refine gTup rfl ?_))
        intro q hq
        obtain rfl : q = false := by rw [hq]; simp; omega
        (repeat(first|refine pSeq ?_|refine pReg ?_|refine sCons ?_|refine sNil ?_|refine pBlock ?_|refine pSkip ?_|refine pRet ?_|refine pCond ?_|refine gNone ?_|refine gOn rfl ?_|refine gOff rfl rfl ?_|refine gTup rfl ?_))
        exact ⟨by rw [e]; rfl, rfl⟩
      · obtain rfl : q = false := by rw [hq]; simp; omega
        (repeat(first|refine pSeq ?_|refine pReg ?_|refine sCons ?_|refine sNil ?_|refine pBlock ?_|refine pSkip ?_|refine pRet ?_|refine pCond ?_|refine gNone ?_|refine gOn rfl ?_|refine gOff rfl rfl ?_|refine gTup rfl ?_))
        intro q hq
        by_cases h4 : 65 ≤ c.toNat
        · obtain rfl : q = true := by rw [hq]; simp; omega
          (repeat(first|refine pSeq ?_|refine pReg ?_|refine sCons ?_|refine sNil ?_|refine pBlock ?_|refine pSkip ?_|refine pRet ?_|refine pCond ?_|refine gNone ?_|refine gOn rfl ?_|refine gOff rfl rfl ?_|refine gTup rfl ?_))
          intro q hq
          obtain rfl : q = false := by rw [hq]; simp; omega
          (repeat(first|refine pSeq ?_|refine pReg ?_|refine sCons ?_|refine sNil ?_|refine pBlock ?_|refine pSkip ?_|refine pRet ?_|refine pCond ?_|refine gNone ?_|refine gOn rfl ?_|refine gOff rfl rfl ?_|refine gTup rfl ?_))
          exact ⟨by rw [e]; rfl, rfl⟩
        · obtain rfl : q = false := by rw [hq]; simp; omega
          (repeat(first|refine pSeq ?_|refine pReg ?_|refine sCons ?_|refine sNil ?_|refine pBlock ?_|refine pSkip ?_|refine pRet ?_|refine pCond ?_|refine gNone ?_|refine gOn rfl ?_|refine gOff rfl rfl ?_|refine gTup rfl ?_))
          exact ⟨by rw [e]; rfl, rfl⟩

def plcI (z : Nat) (c : UInt8) : Int := match plcF z c with | some d => (d : Int) | none => -1
theorem plc_idx {z : Nat} (hz : 4 ≤ z ∧ z ≤ 6) (c : UInt8) : plcI z c = if Lib.indexByte (lets z) c < 0 ∧ z ≠ 6 then Lib.indexByte (lets z) (turnF c) else Lib.indexByte (lets z) c := by
  have h : ∀ z, (z = 4 ∨ z = 5 ∨ z = 6) → (List.range 256).all (fun n => plcI z (UInt8.ofNat n) == if Lib.indexByte (lets z) (UInt8.ofNat n) < 0 ∧ z ≠ 6 then Lib.indexByte (lets z) (turnF (UInt8.ofNat n)) else Lib.indexByte (lets z) (UInt8.ofNat n)) = true := by
    intro z hz
    rcases hz with rfl | rfl | rfl <;> decide +kernel
  have := List.all_eq_true.1 (h z (by omega)) c.toNat (List.mem_range.2 c.toNat_lt)
  rw [show UInt8.ofNat c.toNat = c by simp] at this
  exact eq_of_beq this
theorem place_w {s : SS} {z : Nat} {c : UInt8} (f : Fine s) (hz : 4 ≤ z ∧ z ≤ 6) : CallW pr n_coding_kind_place [kA z, .int .u8 c.toNat] s fun v s' => v = .int .i64 (plcI z c) ∧ Chg s s' [] := by
  refine CallW.run good ok_coding_kind_place (by simp) rfl ?_
  obtain ⟨h0, c0, f0⟩ := new1_at f (.cells (kV z) tKd false false)
  have hi := plc_idx hz c
  (repeat(first|refine pSeq ?_|refine pReg ?_|refine sCons ?_|refine sNil ?_|refine rCons ?_|refine rNil ?_|refine kNo ?_|refine pRow ?_|refine pSkip ?_|refine pRet ?_|refine pCond ?_|refine gNone ?_|refine gOn rfl ?_|refine gOff rfl rfl ?_|refine gTup rfl ?_))
  refine ldS_is rfl h0 (kv0 z) ?_
  (repeat(first|refine pSeq ?_|refine pReg ?_|refine sCons ?_|refine sNil ?_|refine rCons ?_|refine rNil ?_|refine kNo ?_|refine pRow ?_|refine pSkip ?_|refine pRet ?_|refine pCond ?_|refine gNone ?_|refine gOn rfl ?_|refine gOff rfl rfl ?_|refine gTup rfl ?_))
  refine IndexByte_w.mono fun v s1 q => ?_
  obtain ⟨rfl, rfl⟩ := q
  (repeat(first|refine pSeq ?_|refine pReg ?_|refine sCons ?_|refine sNil ?_|refine rCons ?_|refine rNil ?_|refine kNo ?_|refine pRow ?_|refine pSkip ?_|refine pRet ?_|refine pCond ?_|refine gNone ?_|refine gOn rfl ?_|refine gOff rfl rfl ?_|refine gTup rfl ?_))
  intro q hq
  by_cases h1 : Lib.indexByte (lets z) c < 0
  · obtain rfl : q = true := by rw [hq]; simp <;> omega
    (repeat(first|refine pSeq ?_|refine pReg ?_|refine sCons ?_|refine sNil ?_|refine rCons ?_|refine rNil ?_|refine kNo ?_|refine pRow ?_|refine pSkip ?_|refine pRet ?_|refine pCond ?_|refine gNone ?_|refine gOn rfl ?_|refine gOff rfl rfl ?_|refine gTup rfl ?_))
    refine ldB_is rfl h0 (kv3 z) ?_
    (repeat(first|refine pSeq ?_|refine pReg ?_|refine sCons ?_|refine sNil ?_|refine rCons ?_|refine rNil ?_|refine kNo ?_|refine pRow ?_|refine pSkip ?_|refine pRet ?_|refine pCond ?_|refine gNone ?_|refine gOn rfl ?_|refine gOff rfl rfl ?_|refine gTup rfl ?_))
    by_cases h6 : z = 6
    · rw [show decide (z ≠ 6) = false from by simp [h6]]
      (repeat(first|refine pSeq ?_|refine pReg ?_|refine sCons ?_|refine sNil ?_|refine rCons ?_|refine rNil ?_|refine kNo ?_|refine pRow ?_|refine pSkip ?_|refine pRet ?_|refine pCond ?_|refine gNone ?_|refine gOn rfl ?_|refine gOff rfl rfl ?_|refine gTup rfl ?_))
      refine ⟨?_, c0⟩
      rw [hi, if_neg (fun h => h.2 h6)]; rfl
    · rw [show decide (z ≠ 6) = true from by simp [h6]]
      (repeat(first|refine pSeq ?_|refine pReg ?_|refine sCons ?_|refine sNil ?_|refine rCons ?_|refine rNil ?_|refine kNo ?_|refine pRow ?_|refine pSkip ?_|refine pRet ?_|refine pCond ?_|refine gNone ?_|refine gOn rfl ?_|refine gOff rfl rfl ?_|refine gTup rfl ?_))
      refine ldS_is rfl h0 (kv0 z) ?_
      (repeat(first|refine pSeq ?_|refine pReg ?_|refine sCons ?_|refine sNil ?_|refine rCons ?_|refine rNil ?_|refine kNo ?_|refine pRow ?_|refine pSkip ?_|refine pRet ?_|refine pCond ?_|refine gNone ?_|refine gOn rfl ?_|refine gOff rfl rfl ?_|refine gTup rfl ?_))
      refine turned_w.mono fun v s1 q => ?_
      obtain ⟨rfl, rfl⟩ := q
      refine kAll .refl ?_
      (repeat(first|refine pSeq ?_|refine pReg ?_|refine sCons ?_|refine sNil ?_|refine rCons ?_|refine rNil ?_|refine kNo ?_|refine pRow ?_|refine pSkip ?_|refine pRet ?_|refine pCond ?_|refine gNone ?_|refine gOn rfl ?_|refine gOff rfl rfl ?_|refine gTup rfl ?_))
      refine IndexByte_w.mono fun v s1 q => ?_
      obtain ⟨rfl, rfl⟩ := q
      (repeat(first|refine pSeq ?_|refine pReg ?_|refine sCons ?_|refine sNil ?_|refine rCons ?_|refine rNil ?_|refine kNo ?_|refine pRow ?_|refine pSkip ?_|refine pRet ?_|refine pCond ?_|refine gNone ?_|refine gOn rfl ?_|refine gOff rfl rfl ?_|refine gTup rfl ?_))
      refine ⟨?_, c0⟩
      rw [hi, if_pos ⟨h1, h6⟩]; rfl
  · obtain rfl : q = false := by rw [hq]; simp <;> omega
    (repeat(first|refine pSeq ?_|refine pReg ?_|refine sCons ?_|refine sNil ?_|refine rCons ?_|refine rNil ?_|refine kNo ?_|refine pRow ?_|refine pSkip ?_|refine pRet ?_|refine pCond ?_|refine gNone ?_|refine gOn rfl ?_|refine gOff rfl rfl ?_|refine gTup rfl ?_))
    refine ⟨?_, c0⟩
    rw [hi, if_neg (fun h => h1 h.1)]; rfl
end Go.Vf.S

import Derived.Test.YtphcpdopfolopaaDoorCoM
/- The document's own: bits, letters, places. -/
namespace Go.Vf.S
open Go Go.Vf Go.Proofs Go.RowKit
attribute [local irreducible] wSeq wRow wp wG
set_option linter.unusedVariables false
set_option linter.unusedSimpArgs false
set_option maxRecDepth 10000

theorem tmodN (a b : Nat) : ((a : Int)).tmod (b : Int) = ((a % b : Nat) : Int) := by rw [Int.ofNat_tmod]
theorem rletters_w {s : SS} {z : Nat} (hz : 4 ≤ z ∧ z ≤ 6) : CallW pr n_ref11_letters [.int .i64 z] s fun v s' => v = str (lets z) ∧ s' = s := by
  refine CallW.run good ok_ref11_letters (by simp) rfl ?_
  (repeat(first|refine pSeq ?_|refine pReg ?_|refine sCons ?_|refine sNil ?_|refine pBlock ?_|refine pSkip ?_|refine pRet ?_|refine pCond ?_|refine gNone ?_))
  intro q hq
  by_cases h5 : z = 5
  · subst h5
    obtain rfl : q = true := by rw [hq]; rfl
    (repeat(first|refine pSeq ?_|refine pReg ?_|refine sCons ?_|refine sNil ?_|refine pBlock ?_|refine pSkip ?_|refine pRet ?_|refine pCond ?_|refine gNone ?_))
    exact ⟨rfl, rfl⟩
  obtain rfl : q = false := by rw [hq]; simp; omega
  (repeat(first|refine pSeq ?_|refine pReg ?_|refine sCons ?_|refine sNil ?_|refine pBlock ?_|refine pSkip ?_|refine pRet ?_|refine pCond ?_|refine gNone ?_))
  intro q hq
  by_cases h6 : z = 6
  · subst h6
    obtain rfl : q = true := by rw [hq]; rfl
    (repeat(first|refine pSeq ?_|refine pReg ?_|refine sCons ?_|refine sNil ?_|refine pBlock ?_|refine pSkip ?_|refine pRet ?_|refine pCond ?_|refine gNone ?_))
    exact ⟨rfl, rfl⟩
  obtain rfl : q = false := by rw [hq]; simp; omega
  (repeat(first|refine pSeq ?_|refine pReg ?_|refine sCons ?_|refine sNil ?_|refine pBlock ?_|refine pSkip ?_|refine pRet ?_|refine pCond ?_|refine gNone ?_))
  obtain rfl : z = 4 := by omega
  exact ⟨rfl, rfl⟩

theorem i64_nat {n : Nat} (h : n < 2 ^ 62) : IntKind.wrap .i64 (n : Int) = (n : Int) := i64_id (by omega)
theorem half_pow (c j : Nat) : c / 2 ^ j / 2 = c / 2 ^ (j + 1) := by rw [Nat.div_div_eq_div_mul, Nat.pow_succ]
theorem rbit_w {s : SS} {base : Option Addr} {n cap k : Nat} {b : List UInt8} (hr : Rdb s base n b) (hl : n ≤ 1000000) (hk : k ≤ 100000000) : CallW pr n_ref11_bit [.slice base n cap, .int .i64 k] s fun v s' => v = .int .i64 (bitF b k : Nat) ∧ s' = s := by
  have hn := hr.1
  refine CallW.run good ok_ref11_bit (by simp) rfl ?_
  (repeat(first|refine pSeq ?_|refine pReg ?_|refine sCons ?_|refine sNil ?_|refine pBlock ?_|refine pSkip ?_|refine pExit ?_|refine pRet ?_|refine pCond ?_|refine gNone ?_))
  refine ⟨by decide, ?_⟩
  intro w hw
  rw [show (8 : Int) = ((8 : Nat) : Int) from rfl, tdivN, i64_id (by omega)] at hw
  subst hw
  (repeat(first|refine pSeq ?_|refine pReg ?_|refine sCons ?_|refine sNil ?_|refine pBlock ?_|refine pSkip ?_|refine pExit ?_|refine pRet ?_|refine pCond ?_|refine gNone ?_))
  intro q hq
  by_cases hge : n ≤ k / 8
  · obtain rfl : q = true := by rw [hq]; simp; omega
    (repeat(first|refine pSeq ?_|refine pReg ?_|refine sCons ?_|refine sNil ?_|refine pBlock ?_|refine pSkip ?_|refine pExit ?_|refine pRet ?_|refine pCond ?_|refine gNone ?_))
    have e : bitF b k = 0 := by
      unfold bitF
      rw [List.getD_eq_getElem?_getD, List.getElem?_eq_none (by omega)]
      simp
    rw [e]
    exact ⟨rfl, rfl⟩
  obtain rfl : q = false := by rw [hq]; simp; omega
  (repeat(first|refine pSeq ?_|refine pReg ?_|refine sCons ?_|refine sNil ?_|refine pBlock ?_|refine pSkip ?_|refine pExit ?_|refine pRet ?_|refine pCond ?_|refine gNone ?_))
  refine ⟨by decide, ?_⟩
  intro w hw
  rw [show (8 : Int) = ((8 : Nat) : Int) from rfl, tdivN, i64_id (by omega)] at hw
  subst hw
  (repeat(first|refine pSeq ?_|refine pReg ?_|refine sCons ?_|refine sNil ?_|refine pBlock ?_|refine pSkip ?_|refine pExit ?_|refine pRet ?_|refine pCond ?_|refine gNone ?_))
  cases base with
  | none => exact absurd hn (by have := hr.2; simp only at this; subst this; simp; omega)
  | some a =>
  obtain ⟨bk, off, sp⟩ := a
  obtain ⟨rfl, cc, t, g, rr, hb1, hat⟩ := hr.at
  refine ⟨by omega, ?_⟩
  intro w hw o ho
  obtain rfl : w = k / 8 := by omega
  (repeat(first|refine pSeq ?_|refine pReg ?_|refine sCons ?_|refine sNil ?_|refine pBlock ?_|refine pSkip ?_|refine pExit ?_|refine pRet ?_|refine pCond ?_|refine gNone ?_))
  refine ldI_is rfl hb1 (by rw [ho, Nat.mul_one]; exact hat _ (by omega)) ?_
  have hcn := (b.getD (k / 8) 0).toNat_lt
  obtain ⟨C, hC⟩ : ∃ C, C = (b.getD (k / 8) 0).toNat := ⟨_, rfl⟩
  rw [← hC] at hcn ⊢
  (repeat(first|refine pSeq ?_|refine pReg ?_|refine sCons ?_|refine sNil ?_|refine pBlock ?_|refine pSkip ?_|refine pExit ?_|refine pRet ?_|refine pCond ?_|refine gNone ?_))
  intro w hw
  rw [i64_id (by omega)] at hw
  subst hw
  (repeat(first|refine pSeq ?_|refine pReg ?_|refine sCons ?_|refine sNil ?_|refine pBlock ?_|refine pSkip ?_|refine pExit ?_|refine pRet ?_|refine pCond ?_|refine gNone ?_))
  refine ⟨by decide, ?_⟩
  intro w hw
  rw [show (8 : Int) = ((8 : Nat) : Int) from rfl, tmodN] at hw
  subst hw
  have hk8 : k % 8 < 8 := Nat.mod_lt _ (by decide)
  (repeat(first|refine pSeq ?_|refine pReg ?_|refine sCons ?_|refine sNil ?_|refine pBlock ?_|refine pSkip ?_|refine pExit ?_|refine pRet ?_|refine pCond ?_|refine gNone ?_))
  refine pLoop (MW.head good (fun j : Nat => 7 - k % 8 - j) (fun j => j ≤ 7 - k % 8) (fun j => [(5, .int .i64 (C / 2 ^ j : Nat)), (6, .int .i64 (k % 8 + j : Nat))]) (fun _ => s) 0 (Nat.zero_le _) (Wk.same ⟨by rw [Nat.pow_zero, Nat.div_one]; rfl, rfl, trivial⟩) ?_)
  intro j hj
  have hcj : C / 2 ^ j ≤ C := Nat.div_le_self _ _
  (repeat(first|refine pSeq ?_|refine pReg ?_|refine sCons ?_|refine sNil ?_|refine pBlock ?_|refine pSkip ?_|refine pExit ?_|refine pRet ?_|refine pCond ?_|refine gNone ?_))
  intro q hq
  by_cases h7 : j = 7 - k % 8
  · subst h7
    obtain rfl : q = false := by rw [hq]; simp; omega
    (repeat(first|refine pSeq ?_|refine pReg ?_|refine sCons ?_|refine sNil ?_|refine pBlock ?_|refine pSkip ?_|refine pExit ?_|refine pRet ?_|refine pCond ?_|refine gNone ?_))
    refine ⟨by decide, ?_⟩
    intro w hw
    rw [show (2 : Int) = ((2 : Nat) : Int) from rfl, tmodN] at hw
    subst hw
    (repeat(first|refine pSeq ?_|refine pReg ?_|refine sCons ?_|refine sNil ?_|refine pBlock ?_|refine pSkip ?_|refine pExit ?_|refine pRet ?_|refine pCond ?_|refine gNone ?_))
    refine ⟨?_, rfl⟩
    unfold bitF
    rw [← hC]
    rfl
  · obtain rfl : q = true := by rw [hq]; simp; omega
    (repeat(first|refine pSeq ?_|refine pReg ?_|refine sCons ?_|refine sNil ?_|refine pBlock ?_|refine pSkip ?_|refine pExit ?_|refine pRet ?_|refine pCond ?_|refine gNone ?_))
    refine ⟨by decide, ?_⟩
    intro w hw
    rw [show (2 : Int) = ((2 : Nat) : Int) from rfl, tdivN, half_pow, i64_nat (Nat.lt_of_le_of_lt (Nat.div_le_self _ _) (by omega))] at hw
    subst hw
    (repeat(first|refine pSeq ?_|refine pReg ?_|refine sCons ?_|refine sNil ?_|refine pBlock ?_|refine pSkip ?_|refine pExit ?_|refine pRet ?_|refine pCond ?_|refine gNone ?_))
    intro w hw
    rw [i64_id (by omega)] at hw
    obtain rfl : w = ((k % 8 + (j + 1) : Nat) : Int) := by omega
    (repeat(first|refine pSeq ?_|refine pReg ?_|refine sCons ?_|refine sNil ?_|refine pBlock ?_|refine pSkip ?_|refine pExit ?_|refine pRet ?_|refine pCond ?_|refine gNone ?_))
    exact ⟨j + 1, by omega, by show 7 - k % 8 - (j + 1) < 7 - k % 8 - j; omega, Wk.same ⟨rfl, rfl, trivial⟩⟩

/-! ### A letter's place -/
theorem idxOf_at {l : List UInt8} {x : UInt8} : ∀ {i : Nat}, l[i]? = some x → (∀ j, j < i → l[j]? ≠ some x) → l.idxOf? x = some i := by
  intro i h1 h2
  rw [List.idxOf?, List.findIdx?_eq_some_iff_getElem]
  obtain ⟨hi, e⟩ := List.getElem?_eq_some_iff.1 h1
  refine ⟨hi, by simp [e], fun j hj => ?_⟩
  have := h2 j hj
  rw [List.getElem?_eq_getElem (by omega)] at this
  simpa using fun q => this (by rw [q])
theorem idxOf_no {l : List UInt8} {x : UInt8} (h : ∀ j, j < l.length → l[j]? ≠ some x) : l.idxOf? x = none := by
  rw [List.idxOf?, List.findIdx?_eq_none_iff]
  intro y hy
  obtain ⟨j, hj, rfl⟩ := List.mem_iff_getElem.1 hy
  have := h j hj
  rw [List.getElem?_eq_getElem hj] at this
  simpa using fun q => this (by rw [q])
theorem rplace_w {s : SS} {z : Nat} {c : UInt8} (hz : 4 ≤ z ∧ z ≤ 6) : CallW pr n_ref11_place [.int .u8 c.toNat, .int .i64 z] s fun v s' => v = .int .i64 (plcI z c) ∧ s' = s := by
  have hc := c.toNat_lt
  have hlen : (lets z).length ≤ 64 := by rw [lets_len hz]; rcases (show z = 4 ∨ z = 5 ∨ z = 6 by omega) with rfl | rfl | rfl <;> decide
  refine CallW.run good ok_ref11_place (by simp) rfl ?_
  (repeat(first|refine pSeq ?_|refine pReg ?_|refine sCons ?_|refine sNil ?_|refine pBlock ?_|refine pSkip ?_|refine pExit ?_|refine pRet ?_|refine pCond ?_|refine gNone ?_|refine gOn rfl ?_|refine gOff rfl rfl ?_|refine gTup rfl ?_))
  intro q hq
  by_cases h5 : z = 5
  · have e4 : z ≠ 4 := by omega
    obtain rfl : q = true := by rw [hq, h5]; rfl
    (repeat(first|refine pSeq ?_|refine pReg ?_|refine sCons ?_|refine sNil ?_|refine pBlock ?_|refine pSkip ?_|refine pExit ?_|refine pRet ?_|refine pCond ?_|refine gNone ?_|refine gOn rfl ?_|refine gOff rfl rfl ?_|refine gTup rfl ?_))
    intro q hq
    by_cases h1 : 97 ≤ c.toNat
    · obtain rfl : q = true := by rw [hq]; simp; omega
      (repeat(first|refine pSeq ?_|refine pReg ?_|refine sCons ?_|refine sNil ?_|refine pBlock ?_|refine pSkip ?_|refine pExit ?_|refine pRet ?_|refine pCond ?_|refine gNone ?_|refine gOn rfl ?_|refine gOff rfl rfl ?_|refine gTup rfl ?_))
      intro q hq
      by_cases h2 : c.toNat ≤ 122
      · obtain rfl : q = true := by rw [hq]; simp; omega
        (repeat(first|refine pSeq ?_|refine pReg ?_|refine sCons ?_|refine sNil ?_|refine pBlock ?_|refine pSkip ?_|refine pExit ?_|refine pRet ?_|refine pCond ?_|refine gNone ?_|refine gOn rfl ?_|refine gOff rfl rfl ?_|refine gTup rfl ?_))
        intro w hw
        have e : caseF z c = c - 32 := by unfold caseF; rw [if_pos ⟨h5, h1, h2⟩]
        have e2 : (c - 32).toNat = c.toNat - 32 := by rw [UInt8.toNat_sub]; show (2 ^ 8 - 32 + c.toNat) % 2 ^ 8 = _; omega
        obtain rfl : w = ((caseF z c).toNat : Int) := by rw [hw, wrap_u8, e, e2]; omega
        (repeat(first|refine pSeq ?_|refine pReg ?_|refine sCons ?_|refine sNil ?_|refine pBlock ?_|refine pSkip ?_|refine pExit ?_|refine pRet ?_|refine pCond ?_|refine gNone ?_|refine gOn rfl ?_|refine gOff rfl rfl ?_|refine gTup rfl ?_))
        intro q hq
        obtain rfl : q = false := by rw [hq]; simp; omega
        (repeat(first|refine pSeq ?_|refine pReg ?_|refine sCons ?_|refine sNil ?_|refine pBlock ?_|refine pSkip ?_|refine pExit ?_|refine pRet ?_|refine pCond ?_|refine gNone ?_|refine gOn rfl ?_|refine gOff rfl rfl ?_|refine gTup rfl ?_))
        refine pLoop (MW.head good (fun j : Nat => (lets z).length - j) (fun j => j ≤ (lets z).length ∧ ∀ k, k < j → (lets z)[k]? ≠ some (caseF z c)) (fun j => [(0, .int .u8 (caseF z c).toNat), (1, .int .i64 z), (5, .int .i64 j)]) (fun _ => s) 0 ⟨Nat.zero_le _, fun k h => absurd h (by omega)⟩ (Wk.same ⟨by first | rfl | (rw [e]; rfl), rfl, rfl, trivial⟩) ?_)
        intro j ⟨hj, hno⟩
        (repeat(first|refine pSeq ?_|refine pReg ?_|refine sCons ?_|refine sNil ?_|refine pBlock ?_|refine pSkip ?_|refine pExit ?_|refine pRet ?_|refine pCond ?_|refine gNone ?_|refine gOn rfl ?_|refine gOff rfl rfl ?_|refine gTup rfl ?_))
        refine (rletters_w hz).mono fun v s' q => ?_
        obtain ⟨rfl, rfl⟩ := q
        (repeat(first|refine pSeq ?_|refine pReg ?_|refine sCons ?_|refine sNil ?_|refine pBlock ?_|refine pSkip ?_|refine pExit ?_|refine pRet ?_|refine pCond ?_|refine gNone ?_|refine gOn rfl ?_|refine gOff rfl rfl ?_|refine gTup rfl ?_))
        intro nn hnn
        subst hnn
        (repeat(first|refine pSeq ?_|refine pReg ?_|refine sCons ?_|refine sNil ?_|refine pBlock ?_|refine pSkip ?_|refine pExit ?_|refine pRet ?_|refine pCond ?_|refine gNone ?_|refine gOn rfl ?_|refine gOff rfl rfl ?_|refine gTup rfl ?_))
        intro q hq
        by_cases hje : j = (lets z).length
        · obtain rfl : q = false := by rw [hq]; simp; omega
          (repeat(first|refine pSeq ?_|refine pReg ?_|refine sCons ?_|refine sNil ?_|refine pBlock ?_|refine pSkip ?_|refine pExit ?_|refine pRet ?_|refine pCond ?_|refine gNone ?_|refine gOn rfl ?_|refine gOff rfl rfl ?_|refine gTup rfl ?_))
          refine ⟨?_, rfl⟩
          have : plcF z c = none := idxOf_no (fun k hk => hno k (by omega))
          rw [plcI_none this]
          rfl
        · obtain rfl : q = true := by rw [hq]; simp; omega
          (repeat(first|refine pSeq ?_|refine pReg ?_|refine sCons ?_|refine sNil ?_|refine pBlock ?_|refine pSkip ?_|refine pExit ?_|refine pRet ?_|refine pCond ?_|refine gNone ?_|refine gOn rfl ?_|refine gOff rfl rfl ?_|refine gTup rfl ?_))
          refine (rletters_w hz).mono fun v s' q => ?_
          obtain ⟨rfl, rfl⟩ := q
          (repeat(first|refine pSeq ?_|refine pReg ?_|refine sCons ?_|refine sNil ?_|refine pBlock ?_|refine pSkip ?_|refine pExit ?_|refine pRet ?_|refine pCond ?_|refine gNone ?_|refine gOn rfl ?_|refine gOff rfl rfl ?_|refine gTup rfl ?_))
          obtain ⟨d, hd⟩ : ∃ d, (lets z)[j]? = some d := ⟨_, List.getElem?_eq_getElem (show j < (lets z).length by omega)⟩
          refine ⟨by omega, ?_⟩
          intro m hm
          obtain rfl : m = j := by omega
          refine ⟨d, hd, ?_⟩
          (repeat(first|refine pSeq ?_|refine pReg ?_|refine sCons ?_|refine sNil ?_|refine pBlock ?_|refine pSkip ?_|refine pExit ?_|refine pRet ?_|refine pCond ?_|refine gNone ?_|refine gOn rfl ?_|refine gOff rfl rfl ?_|refine gTup rfl ?_))
          intro q hq
          by_cases hdc : d = caseF z c
          · obtain rfl : q = true := by rw [hq, hdc]; simp
            (repeat(first|refine pSeq ?_|refine pReg ?_|refine sCons ?_|refine sNil ?_|refine pBlock ?_|refine pSkip ?_|refine pExit ?_|refine pRet ?_|refine pCond ?_|refine gNone ?_|refine gOn rfl ?_|refine gOff rfl rfl ?_|refine gTup rfl ?_))
            refine ⟨?_, rfl⟩
            have : plcF z c = some m := idxOf_at (by rw [hd, hdc]) hno
            rw [plcI_some this]
            rfl
          · obtain rfl : q = false := by rw [hq]; have := byte_ne11 hdc; simp; omega
            (repeat(first|refine pSeq ?_|refine pReg ?_|refine sCons ?_|refine sNil ?_|refine pBlock ?_|refine pSkip ?_|refine pExit ?_|refine pRet ?_|refine pCond ?_|refine gNone ?_|refine gOn rfl ?_|refine gOff rfl rfl ?_|refine gTup rfl ?_))
            intro w hw
            rw [i64_id (by omega)] at hw
            obtain rfl : w = ((m + 1 : Nat) : Int) := by omega
            (repeat(first|refine pSeq ?_|refine pReg ?_|refine sCons ?_|refine sNil ?_|refine pBlock ?_|refine pSkip ?_|refine pExit ?_|refine pRet ?_|refine pCond ?_|refine gNone ?_|refine gOn rfl ?_|refine gOff rfl rfl ?_|refine gTup rfl ?_))
            refine ⟨m + 1, ⟨by omega, fun k hk => ?_⟩, by show (lets z).length - (m + 1) < (lets z).length - m; omega, Wk.same ⟨rfl, rfl, rfl, trivial⟩⟩
            by_cases hkm : k = m
            · subst hkm; rw [hd]; exact fun e => hdc (Option.some.inj e)
            · exact hno k (by omega)
      · obtain rfl : q = false := by rw [hq]; simp; omega
        have e : caseF z c = c := by unfold caseF; rw [if_neg (by omega), if_neg (by omega)]
        (repeat(first|refine pSeq ?_|refine pReg ?_|refine sCons ?_|refine sNil ?_|refine pBlock ?_|refine pSkip ?_|refine pExit ?_|refine pRet ?_|refine pCond ?_|refine gNone ?_|refine gOn rfl ?_|refine gOff rfl rfl ?_|refine gTup rfl ?_))
        intro q hq
        obtain rfl : q = false := by rw [hq]; simp; omega
        (repeat(first|refine pSeq ?_|refine pReg ?_|refine sCons ?_|refine sNil ?_|refine pBlock ?_|refine pSkip ?_|refine pExit ?_|refine pRet ?_|refine pCond ?_|refine gNone ?_|refine gOn rfl ?_|refine gOff rfl rfl ?_|refine gTup rfl ?_))
        refine pLoop (MW.head good (fun j : Nat => (lets z).length - j) (fun j => j ≤ (lets z).length ∧ ∀ k, k < j → (lets z)[k]? ≠ some (caseF z c)) (fun j => [(0, .int .u8 (caseF z c).toNat), (1, .int .i64 z), (5, .int .i64 j)]) (fun _ => s) 0 ⟨Nat.zero_le _, fun k h => absurd h (by omega)⟩ (Wk.same ⟨by first | rfl | (rw [e]; rfl), rfl, rfl, trivial⟩) ?_)
        intro j ⟨hj, hno⟩
        (repeat(first|refine pSeq ?_|refine pReg ?_|refine sCons ?_|refine sNil ?_|refine pBlock ?_|refine pSkip ?_|refine pExit ?_|refine pRet ?_|refine pCond ?_|refine gNone ?_|refine gOn rfl ?_|refine gOff rfl rfl ?_|refine gTup rfl ?_))
        refine (rletters_w hz).mono fun v s' q => ?_
        obtain ⟨rfl, rfl⟩ := q
        (repeat(first|refine pSeq ?_|refine pReg ?_|refine sCons ?_|refine sNil ?_|refine pBlock ?_|refine pSkip ?_|refine pExit ?_|refine pRet ?_|refine pCond ?_|refine gNone ?_|refine gOn rfl ?_|refine gOff rfl rfl ?_|refine gTup rfl ?_))
        intro nn hnn
        subst hnn
        (repeat(first|refine pSeq ?_|refine pReg ?_|refine sCons ?_|refine sNil ?_|refine pBlock ?_|refine pSkip ?_|refine pExit ?_|refine pRet ?_|refine pCond ?_|refine gNone ?_|refine gOn rfl ?_|refine gOff rfl rfl ?_|refine gTup rfl ?_))
        intro q hq
        by_cases hje : j = (lets z).length
        · obtain rfl : q = false := by rw [hq]; simp; omega
          (repeat(first|refine pSeq ?_|refine pReg ?_|refine sCons ?_|refine sNil ?_|refine pBlock ?_|refine pSkip ?_|refine pExit ?_|refine pRet ?_|refine pCond ?_|refine gNone ?_|refine gOn rfl ?_|refine gOff rfl rfl ?_|refine gTup rfl ?_))
          refine ⟨?_, rfl⟩
          have : plcF z c = none := idxOf_no (fun k hk => hno k (by omega))
          rw [plcI_none this]
          rfl
        · obtain rfl : q = true := by rw [hq]; simp; omega
          (repeat(first|refine pSeq ?_|refine pReg ?_|refine sCons ?_|refine sNil ?_|refine pBlock ?_|refine pSkip ?_|refine pExit ?_|refine pRet ?_|refine pCond ?_|refine gNone ?_|refine gOn rfl ?_|refine gOff rfl rfl ?_|refine gTup rfl ?_))
          refine (rletters_w hz).mono fun v s' q => ?_
          obtain ⟨rfl, rfl⟩ := q
          (repeat(first|refine pSeq ?_|refine pReg ?_|refine sCons ?_|refine sNil ?_|refine pBlock ?_|refine pSkip ?_|refine pExit ?_|refine pRet ?_|refine pCond ?_|refine gNone ?_|refine gOn rfl ?_|refine gOff rfl rfl ?_|refine gTup rfl ?_))
          obtain ⟨d, hd⟩ : ∃ d, (lets z)[j]? = some d := ⟨_, List.getElem?_eq_getElem (show j < (lets z).length by omega)⟩
          refine ⟨by omega, ?_⟩
          intro m hm
          obtain rfl : m = j := by omega
          refine ⟨d, hd, ?_⟩
          (repeat(first|refine pSeq ?_|refine pReg ?_|refine sCons ?_|refine sNil ?_|refine pBlock ?_|refine pSkip ?_|refine pExit ?_|refine pRet ?_|refine pCond ?_|refine gNone ?_|refine gOn rfl ?_|refine gOff rfl rfl ?_|refine gTup rfl ?_))
          intro q hq
          by_cases hdc : d = caseF z c
          · obtain rfl : q = true := by rw [hq, hdc]; simp
            (repeat(first|refine pSeq ?_|refine pReg ?_|refine sCons ?_|refine sNil ?_|refine pBlock ?_|refine pSkip ?_|refine pExit ?_|refine pRet ?_|refine pCond ?_|refine gNone ?_|refine gOn rfl ?_|refine gOff rfl rfl ?_|refine gTup rfl ?_))
            refine ⟨?_, rfl⟩
            have : plcF z c = some m := idxOf_at (by rw [hd, hdc]) hno
            rw [plcI_some this]
            rfl
          · obtain rfl : q = false := by rw [hq]; have := byte_ne11 hdc; simp; omega
            (repeat(first|refine pSeq ?_|refine pReg ?_|refine sCons ?_|refine sNil ?_|refine pBlock ?_|refine pSkip ?_|refine pExit ?_|refine pRet ?_|refine pCond ?_|refine gNone ?_|refine gOn rfl ?_|refine gOff rfl rfl ?_|refine gTup rfl ?_))
            intro w hw
            rw [i64_id (by omega)] at hw
            obtain rfl : w = ((m + 1 : Nat) : Int) := by omega
            (repeat(first|refine pSeq ?_|refine pReg ?_|refine sCons ?_|refine sNil ?_|refine pBlock ?_|refine pSkip ?_|refine pExit ?_|refine pRet ?_|refine pCond ?_|refine gNone ?_|refine gOn rfl ?_|refine gOff rfl rfl ?_|refine gTup rfl ?_))
            refine ⟨m + 1, ⟨by omega, fun k hk => ?_⟩, by show (lets z).length - (m + 1) < (lets z).length - m; omega, Wk.same ⟨rfl, rfl, rfl, trivial⟩⟩
            by_cases hkm : k = m
            · subst hkm; rw [hd]; exact fun e => hdc (Option.some.inj e)
            · exact hno k (by omega)
    · obtain rfl : q = false := by rw [hq]; simp; omega
      have e : caseF z c = c := by unfold caseF; rw [if_neg (by omega), if_neg (by omega)]
      (repeat(first|refine pSeq ?_|refine pReg ?_|refine sCons ?_|refine sNil ?_|refine pBlock ?_|refine pSkip ?_|refine pExit ?_|refine pRet ?_|refine pCond ?_|refine gNone ?_|refine gOn rfl ?_|refine gOff rfl rfl ?_|refine gTup rfl ?_))
      intro q hq
      obtain rfl : q = false := by rw [hq]; simp; omega
      (repeat(first|refine pSeq ?_|refine pReg ?_|refine sCons ?_|refine sNil ?_|refine pBlock ?_|refine pSkip ?_|refine pExit ?_|refine pRet ?_|refine pCond ?_|refine gNone ?_|refine gOn rfl ?_|refine gOff rfl rfl ?_|refine gTup rfl ?_))
      refine pLoop (MW.head good (fun j : Nat => (lets z).length - j) (fun j => j ≤ (lets z).length ∧ ∀ k, k < j → (lets z)[k]? ≠ some (caseF z c)) (fun j => [(0, .int .u8 (caseF z c).toNat), (1, .int .i64 z), (5, .int .i64 j)]) (fun _ => s) 0 ⟨Nat.zero_le _, fun k h => absurd h (by omega)⟩ (Wk.same ⟨by first | rfl | (rw [e]; rfl), rfl, rfl, trivial⟩) ?_)
      intro j ⟨hj, hno⟩
      (repeat(first|refine pSeq ?_|refine pReg ?_|refine sCons ?_|refine sNil ?_|refine pBlock ?_|refine pSkip ?_|refine pExit ?_|refine pRet ?_|refine pCond ?_|refine gNone ?_|refine gOn rfl ?_|refine gOff rfl rfl ?_|refine gTup rfl ?_))
      refine (rletters_w hz).mono fun v s' q => ?_
      obtain ⟨rfl, rfl⟩ := q
      (repeat(first|refine pSeq ?_|refine pReg ?_|refine sCons ?_|refine sNil ?_|refine pBlock ?_|refine pSkip ?_|refine pExit ?_|refine pRet ?_|refine pCond ?_|refine gNone ?_|refine gOn rfl ?_|refine gOff rfl rfl ?_|refine gTup rfl ?_))
      intro nn hnn
      subst hnn
      (repeat(first|refine pSeq ?_|refine pReg ?_|refine sCons ?_|refine sNil ?_|refine pBlock ?_|refine pSkip ?_|refine pExit ?_|refine pRet ?_|refine pCond ?_|refine gNone ?_|refine gOn rfl ?_|refine gOff rfl rfl ?_|refine gTup rfl ?_))
      intro q hq
      by_cases hje : j = (lets z).length
      · obtain rfl : q = false := by rw [hq]; simp; omega
        (repeat(first|refine pSeq ?_|refine pReg ?_|refine sCons ?_|refine sNil ?_|refine pBlock ?_|refine pSkip ?_|refine pExit ?_|refine pRet ?_|refine pCond ?_|refine gNone ?_|refine gOn rfl ?_|refine gOff rfl rfl ?_|refine gTup rfl ?_))
        refine ⟨?_, rfl⟩
        have : plcF z c = none := idxOf_no (fun k hk => hno k (by omega))
        rw [plcI_none this]
        rfl
      · obtain rfl : q = true := by rw [hq]; simp; omega
        (repeat(first|refine pSeq ?_|refine pReg ?_|refine sCons ?_|refine sNil ?_|refine pBlock ?_|refine pSkip ?_|refine pExit ?_|refine pRet ?_|refine pCond ?_|refine gNone ?_|refine gOn rfl ?_|refine gOff rfl rfl ?_|refine gTup rfl ?_))
        refine (rletters_w hz).mono fun v s' q => ?_
        obtain ⟨rfl, rfl⟩ := q
        (repeat(first|refine pSeq ?_|refine pReg ?_|refine sCons ?_|refine sNil ?_|refine pBlock ?_|refine pSkip ?_|refine pExit ?_|refine pRet ?_|refine pCond ?_|refine gNone ?_|refine gOn rfl ?_|refine gOff rfl rfl ?_|refine gTup rfl ?_))
        obtain ⟨d, hd⟩ : ∃ d, (lets z)[j]? = some d := ⟨_, List.getElem?_eq_getElem (show j < (lets z).length by omega)⟩
        refine ⟨by omega, ?_⟩
        intro m hm
        obtain rfl : m = j := by omega
        refine ⟨d, hd, ?_⟩
        (repeat(first|refine pSeq ?_|refine pReg ?_|refine sCons ?_|refine sNil ?_|refine pBlock ?_|refine pSkip ?_|refine pExit ?_|refine pRet ?_|refine pCond ?_|refine gNone ?_|refine gOn rfl ?_|refine gOff rfl rfl ?_|refine gTup rfl ?_))
        intro q hq
        by_cases hdc : d = caseF z c
        · obtain rfl : q = true := by rw [hq, hdc]; simp
          (repeat(first|refine pSeq ?_|refine pReg ?_|refine sCons ?_|refine sNil ?_|refine pBlock ?_|refine pSkip ?_|refine pExit ?_|refine pRet ?_|refine pCond ?_|refine gNone ?_|refine gOn rfl ?_|refine gOff rfl rfl ?_|refine gTup rfl ?_))
          refine ⟨?_, rfl⟩
          have : plcF z c = some m := idxOf_at (by rw [hd, hdc]) hno
          rw [plcI_some this]
          rfl
        · obtain rfl : q = false := by rw [hq]; have := byte_ne11 hdc; simp; omega
          (repeat(first|refine pSeq ?_|refine pReg ?_|refine sCons ?_|refine sNil ?_|refine pBlock ?_|refine pSkip ?_|refine pExit ?_|refine pRet ?_|refine pCond ?_|refine gNone ?_|refine gOn rfl ?_|refine gOff rfl rfl ?_|refine gTup rfl ?_))
          intro w hw
          rw [i64_id (by omega)] at hw
          obtain rfl : w = ((m + 1 : Nat) : Int) := by omega
          (repeat(first|refine pSeq ?_|refine pReg ?_|refine sCons ?_|refine sNil ?_|refine pBlock ?_|refine pSkip ?_|refine pExit ?_|refine pRet ?_|refine pCond ?_|refine gNone ?_|refine gOn rfl ?_|refine gOff rfl rfl ?_|refine gTup rfl ?_))
          refine ⟨m + 1, ⟨by omega, fun k hk => ?_⟩, by show (lets z).length - (m + 1) < (lets z).length - m; omega, Wk.same ⟨rfl, rfl, rfl, trivial⟩⟩
          by_cases hkm : k = m
          · subst hkm; rw [hd]; exact fun e => hdc (Option.some.inj e)
          · exact hno k (by omega)
  obtain rfl : q = false := by rw [hq]; simp; omega
  (repeat(first|refine pSeq ?_|refine pReg ?_|refine sCons ?_|refine sNil ?_|refine pBlock ?_|refine pSkip ?_|refine pExit ?_|refine pRet ?_|refine pCond ?_|refine gNone ?_|refine gOn rfl ?_|refine gOff rfl rfl ?_|refine gTup rfl ?_))
  intro q hq
  by_cases h4 : z = 4
  · obtain rfl : q = true := by rw [hq, h4]; rfl
    (repeat(first|refine pSeq ?_|refine pReg ?_|refine sCons ?_|refine sNil ?_|refine pBlock ?_|refine pSkip ?_|refine pExit ?_|refine pRet ?_|refine pCond ?_|refine gNone ?_|refine gOn rfl ?_|refine gOff rfl rfl ?_|refine gTup rfl ?_))
    intro q hq
    by_cases h1 : 65 ≤ c.toNat
    · obtain rfl : q = true := by rw [hq]; simp; omega
      (repeat(first|refine pSeq ?_|refine pReg ?_|refine sCons ?_|refine sNil ?_|refine pBlock ?_|refine pSkip ?_|refine pExit ?_|refine pRet ?_|refine pCond ?_|refine gNone ?_|refine gOn rfl ?_|refine gOff rfl rfl ?_|refine gTup rfl ?_))
      intro q hq
      by_cases h2 : c.toNat ≤ 90
      · obtain rfl : q = true := by rw [hq]; simp; omega
        (repeat(first|refine pSeq ?_|refine pReg ?_|refine sCons ?_|refine sNil ?_|refine pBlock ?_|refine pSkip ?_|refine pExit ?_|refine pRet ?_|refine pCond ?_|refine gNone ?_|refine gOn rfl ?_|refine gOff rfl rfl ?_|refine gTup rfl ?_))
        intro w hw
        have e : caseF z c = c + 32 := by unfold caseF; rw [if_neg (by omega), if_pos ⟨h4, h1, h2⟩]
        have e2 : (c + 32).toNat = c.toNat + 32 := by rw [UInt8.toNat_add]; show (c.toNat + 32) % 2 ^ 8 = _; omega
        obtain rfl : w = ((caseF z c).toNat : Int) := by rw [hw, wrap_u8, e, e2]; omega
        (repeat(first|refine pSeq ?_|refine pReg ?_|refine sCons ?_|refine sNil ?_|refine pBlock ?_|refine pSkip ?_|refine pExit ?_|refine pRet ?_|refine pCond ?_|refine gNone ?_|refine gOn rfl ?_|refine gOff rfl rfl ?_|refine gTup rfl ?_))
        refine pLoop (MW.head good (fun j : Nat => (lets z).length - j) (fun j => j ≤ (lets z).length ∧ ∀ k, k < j → (lets z)[k]? ≠ some (caseF z c)) (fun j => [(0, .int .u8 (caseF z c).toNat), (1, .int .i64 z), (5, .int .i64 j)]) (fun _ => s) 0 ⟨Nat.zero_le _, fun k h => absurd h (by omega)⟩ (Wk.same ⟨by first | rfl | (rw [e]; rfl), rfl, rfl, trivial⟩) ?_)
        intro j ⟨hj, hno⟩
        (repeat(first|refine pSeq ?_|refine pReg ?_|refine sCons ?_|refine sNil ?_|refine pBlock ?_|refine pSkip ?_|refine pExit ?_|refine pRet ?_|refine pCond ?_|refine gNone ?_|refine gOn rfl ?_|refine gOff rfl rfl ?_|refine gTup rfl ?_))
        refine (rletters_w hz).mono fun v s' q => ?_
        obtain ⟨rfl, rfl⟩ := q
        (repeat(first|refine pSeq ?_|refine pReg ?_|refine sCons ?_|refine sNil ?_|refine pBlock ?_|refine pSkip ?_|refine pExit ?_|refine pRet ?_|refine pCond ?_|refine gNone ?_|refine gOn rfl ?_|refine gOff rfl rfl ?_|refine gTup rfl ?_))
        intro nn hnn
        subst hnn
        (repeat(first|refine pSeq ?_|refine pReg ?_|refine sCons ?_|refine sNil ?_|refine pBlock ?_|refine pSkip ?_|refine pExit ?_|refine pRet ?_|refine pCond ?_|refine gNone ?_|refine gOn rfl ?_|refine gOff rfl rfl ?_|refine gTup rfl ?_))
        intro q hq
        by_cases hje : j = (lets z).length
        · obtain rfl : q = false := by rw [hq]; simp; omega
          (repeat(first|refine pSeq ?_|refine pReg ?_|refine sCons ?_|refine sNil ?_|refine pBlock ?_|refine pSkip ?_|refine pExit ?_|refine pRet ?_|refine pCond ?_|refine gNone ?_|refine gOn rfl ?_|refine gOff rfl rfl ?_|refine gTup rfl ?_))
          refine ⟨?_, rfl⟩
          have : plcF z c = none := idxOf_no (fun k hk => hno k (by omega))
          rw [plcI_none this]
          rfl
        · obtain rfl : q = true := by rw [hq]; simp; omega
          (repeat(first|refine pSeq ?_|refine pReg ?_|refine sCons ?_|refine sNil ?_|refine pBlock ?_|refine pSkip ?_|refine pExit ?_|refine pRet ?_|refine pCond ?_|refine gNone ?_|refine gOn rfl ?_|refine gOff rfl rfl ?_|refine gTup rfl ?_))
          refine (rletters_w hz).mono fun v s' q => ?_
          obtain ⟨rfl, rfl⟩ := q
          (repeat(first|refine pSeq ?_|refine pReg ?_|refine sCons ?_|refine sNil ?_|refine pBlock ?_|refine pSkip ?_|refine pExit ?_|refine pRet ?_|refine pCond ?_|refine gNone ?_|refine gOn rfl ?_|refine gOff rfl rfl ?_|refine gTup rfl ?_))
          obtain ⟨d, hd⟩ : ∃ d, (lets z)[j]? = some d := ⟨_, List.getElem?_eq_getElem (show j < (lets z).length by omega)⟩
          refine ⟨by omega, ?_⟩
          intro m hm
          obtain rfl : m = j := by omega
          refine ⟨d, hd, ?_⟩
          (repeat(first|refine pSeq ?_|refine pReg ?_|refine sCons ?_|refine sNil ?_|refine pBlock ?_|refine pSkip ?_|refine pExit ?_|refine pRet ?_|refine pCond ?_|refine gNone ?_|refine gOn rfl ?_|refine gOff rfl rfl ?_|refine gTup rfl ?_))
          intro q hq
          by_cases hdc : d = caseF z c
          · obtain rfl : q = true := by rw [hq, hdc]; simp
            (repeat(first|refine pSeq ?_|refine pReg ?_|refine sCons ?_|refine sNil ?_|refine pBlock ?_|refine pSkip ?_|refine pExit ?_|refine pRet ?_|refine pCond ?_|refine gNone ?_|refine gOn rfl ?_|refine gOff rfl rfl ?_|refine gTup rfl ?_))
            refine ⟨?_, rfl⟩
            have : plcF z c = some m := idxOf_at (by rw [hd, hdc]) hno
            rw [plcI_some this]
            rfl
          · obtain rfl : q = false := by rw [hq]; have := byte_ne11 hdc; simp; omega
            (repeat(first|refine pSeq ?_|refine pReg ?_|refine sCons ?_|refine sNil ?_|refine pBlock ?_|refine pSkip ?_|refine pExit ?_|refine pRet ?_|refine pCond ?_|refine gNone ?_|refine gOn rfl ?_|refine gOff rfl rfl ?_|refine gTup rfl ?_))
            intro w hw
            rw [i64_id (by omega)] at hw
            obtain rfl : w = ((m + 1 : Nat) : Int) := by omega
            (repeat(first|refine pSeq ?_|refine pReg ?_|refine sCons ?_|refine sNil ?_|refine pBlock ?_|refine pSkip ?_|refine pExit ?_|refine pRet ?_|refine pCond ?_|refine gNone ?_|refine gOn rfl ?_|refine gOff rfl rfl ?_|refine gTup rfl ?_))
            refine ⟨m + 1, ⟨by omega, fun k hk => ?_⟩, by show (lets z).length - (m + 1) < (lets z).length - m; omega, Wk.same ⟨rfl, rfl, rfl, trivial⟩⟩
            by_cases hkm : k = m
            · subst hkm; rw [hd]; exact fun e => hdc (Option.some.inj e)
            · exact hno k (by omega)
      · obtain rfl : q = false := by rw [hq]; simp; omega
        have e : caseF z c = c := by unfold caseF; rw [if_neg (by omega), if_neg (by omega)]
        (repeat(first|refine pSeq ?_|refine pReg ?_|refine sCons ?_|refine sNil ?_|refine pBlock ?_|refine pSkip ?_|refine pExit ?_|refine pRet ?_|refine pCond ?_|refine gNone ?_|refine gOn rfl ?_|refine gOff rfl rfl ?_|refine gTup rfl ?_))
        refine pLoop (MW.head good (fun j : Nat => (lets z).length - j) (fun j => j ≤ (lets z).length ∧ ∀ k, k < j → (lets z)[k]? ≠ some (caseF z c)) (fun j => [(0, .int .u8 (caseF z c).toNat), (1, .int .i64 z), (5, .int .i64 j)]) (fun _ => s) 0 ⟨Nat.zero_le _, fun k h => absurd h (by omega)⟩ (Wk.same ⟨by first | rfl | (rw [e]; rfl), rfl, rfl, trivial⟩) ?_)
        intro j ⟨hj, hno⟩
        (repeat(first|refine pSeq ?_|refine pReg ?_|refine sCons ?_|refine sNil ?_|refine pBlock ?_|refine pSkip ?_|refine pExit ?_|refine pRet ?_|refine pCond ?_|refine gNone ?_|refine gOn rfl ?_|refine gOff rfl rfl ?_|refine gTup rfl ?_))
        refine (rletters_w hz).mono fun v s' q => ?_
        obtain ⟨rfl, rfl⟩ := q
        (repeat(first|refine pSeq ?_|refine pReg ?_|refine sCons ?_|refine sNil ?_|refine pBlock ?_|refine pSkip ?_|refine pExit ?_|refine pRet ?_|refine pCond ?_|refine gNone ?_|refine gOn rfl ?_|refine gOff rfl rfl ?_|refine gTup rfl ?_))
        intro nn hnn
        subst hnn
        (repeat(first|refine pSeq ?_|refine pReg ?_|refine sCons ?_|refine sNil ?_|refine pBlock ?_|refine pSkip ?_|refine pExit ?_|refine pRet ?_|refine pCond ?_|refine gNone ?_|refine gOn rfl ?_|refine gOff rfl rfl ?_|refine gTup rfl ?_))
        intro q hq
        by_cases hje : j = (lets z).length
        · obtain rfl : q = false := by rw [hq]; simp; omega
          (repeat(first|refine pSeq ?_|refine pReg ?_|refine sCons ?_|refine sNil ?_|refine pBlock ?_|refine pSkip ?_|refine pExit ?_|refine pRet ?_|refine pCond ?_|refine gNone ?_|refine gOn rfl ?_|refine gOff rfl rfl ?_|refine gTup rfl ?_))
          refine ⟨?_, rfl⟩
          have : plcF z c = none := idxOf_no (fun k hk => hno k (by omega))
          rw [plcI_none this]
          rfl
        · obtain rfl : q = true := by rw [hq]; simp; omega
          (repeat(first|refine pSeq ?_|refine pReg ?_|refine sCons ?_|refine sNil ?_|refine pBlock ?_|refine pSkip ?_|refine pExit ?_|refine pRet ?_|refine pCond ?_|refine gNone ?_|refine gOn rfl ?_|refine gOff rfl rfl ?_|refine gTup rfl ?_))
          refine (rletters_w hz).mono fun v s' q => ?_
          obtain ⟨rfl, rfl⟩ := q
          (repeat(first|refine pSeq ?_|refine pReg ?_|refine sCons ?_|refine sNil ?_|refine pBlock ?_|refine pSkip ?_|refine pExit ?_|refine pRet ?_|refine pCond ?_|refine gNone ?_|refine gOn rfl ?_|refine gOff rfl rfl ?_|refine gTup rfl ?_))
          obtain ⟨d, hd⟩ : ∃ d, (lets z)[j]? = some d := ⟨_, List.getElem?_eq_getElem (show j < (lets z).length by omega)⟩
          refine ⟨by omega, ?_⟩
          intro m hm
          obtain rfl : m = j := by omega
          refine ⟨d, hd, ?_⟩
          (repeat(first|refine pSeq ?_|refine pReg ?_|refine sCons ?_|refine sNil ?_|refine pBlock ?_|refine pSkip ?_|refine pExit ?_|refine pRet ?_|refine pCond ?_|refine gNone ?_|refine gOn rfl ?_|refine gOff rfl rfl ?_|refine gTup rfl ?_))
          intro q hq
          by_cases hdc : d = caseF z c
          · obtain rfl : q = true := by rw [hq, hdc]; simp
            (repeat(first|refine pSeq ?_|refine pReg ?_|refine sCons ?_|refine sNil ?_|refine pBlock ?_|refine pSkip ?_|refine pExit ?_|refine pRet ?_|refine pCond ?_|refine gNone ?_|refine gOn rfl ?_|refine gOff rfl rfl ?_|refine gTup rfl ?_))
            refine ⟨?_, rfl⟩
            have : plcF z c = some m := idxOf_at (by rw [hd, hdc]) hno
            rw [plcI_some this]
            rfl
          · obtain rfl : q = false := by rw [hq]; have := byte_ne11 hdc; simp; omega
            (repeat(first|refine pSeq ?_|refine pReg ?_|refine sCons ?_|refine sNil ?_|refine pBlock ?_|refine pSkip ?_|refine pExit ?_|refine pRet ?_|refine pCond ?_|refine gNone ?_|refine gOn rfl ?_|refine gOff rfl rfl ?_|refine gTup rfl ?_))
            intro w hw
            rw [i64_id (by omega)] at hw
            obtain rfl : w = ((m + 1 : Nat) : Int) := by omega
            (repeat(first|refine pSeq ?_|refine pReg ?_|refine sCons ?_|refine sNil ?_|refine pBlock ?_|refine pSkip ?_|refine pExit ?_|refine pRet ?_|refine pCond ?_|refine gNone ?_|refine gOn rfl ?_|refine gOff rfl rfl ?_|refine gTup rfl ?_))
            refine ⟨m + 1, ⟨by omega, fun k hk => ?_⟩, by show (lets z).length - (m + 1) < (lets z).length - m; omega, Wk.same ⟨rfl, rfl, rfl, trivial⟩⟩
            by_cases hkm : k = m
            · subst hkm; rw [hd]; exact fun e => hdc (Option.some.inj e)
            · exact hno k (by omega)
    · obtain rfl : q = false := by rw [hq]; simp; omega
      have e : caseF z c = c := by unfold caseF; rw [if_neg (by omega), if_neg (by omega)]
      (repeat(first|refine pSeq ?_|refine pReg ?_|refine sCons ?_|refine sNil ?_|refine pBlock ?_|refine pSkip ?_|refine pExit ?_|refine pRet ?_|refine pCond ?_|refine gNone ?_|refine gOn rfl ?_|refine gOff rfl rfl ?_|refine gTup rfl ?_))
      refine pLoop (MW.head good (fun j : Nat => (lets z).length - j) (fun j => j ≤ (lets z).length ∧ ∀ k, k < j → (lets z)[k]? ≠ some (caseF z c)) (fun j => [(0, .int .u8 (caseF z c).toNat), (1, .int .i64 z), (5, .int .i64 j)]) (fun _ => s) 0 ⟨Nat.zero_le _, fun k h => absurd h (by omega)⟩ (Wk.same ⟨by first | rfl | (rw [e]; rfl), rfl, rfl, trivial⟩) ?_)
      intro j ⟨hj, hno⟩
      (repeat(first|refine pSeq ?_|refine pReg ?_|refine sCons ?_|refine sNil ?_|refine pBlock ?_|refine pSkip ?_|refine pExit ?_|refine pRet ?_|refine pCond ?_|refine gNone ?_|refine gOn rfl ?_|refine gOff rfl rfl ?_|refine gTup rfl ?_))
      refine (rletters_w hz).mono fun v s' q => ?_
      obtain ⟨rfl, rfl⟩ := q
      (repeat(first|refine pSeq ?_|refine pReg ?_|refine sCons ?_|refine sNil ?_|refine pBlock ?_|refine pSkip ?_|refine pExit ?_|refine pRet ?_|refine pCond ?_|refine gNone ?_|refine gOn rfl ?_|refine gOff rfl rfl ?_|refine gTup rfl ?_))
      intro nn hnn
      subst hnn
      (repeat(first|refine pSeq ?_|refine pReg ?_|refine sCons ?_|refine sNil ?_|refine pBlock ?_|refine pSkip ?_|refine pExit ?_|refine pRet ?_|refine pCond ?_|refine gNone ?_|refine gOn rfl ?_|refine gOff rfl rfl ?_|refine gTup rfl ?_))
      intro q hq
      by_cases hje : j = (lets z).length
      · obtain rfl : q = false := by rw [hq]; simp; omega
        (repeat(first|refine pSeq ?_|refine pReg ?_|refine sCons ?_|refine sNil ?_|refine pBlock ?_|refine pSkip ?_|refine pExit ?_|refine pRet ?_|refine pCond ?_|refine gNone ?_|refine gOn rfl ?_|refine gOff rfl rfl ?_|refine gTup rfl ?_))
        refine ⟨?_, rfl⟩
        have : plcF z c = none := idxOf_no (fun k hk => hno k (by omega))
        rw [plcI_none this]
        rfl
      · obtain rfl : q = true := by rw [hq]; simp; omega
        (repeat(first|refine pSeq ?_|refine pReg ?_|refine sCons ?_|refine sNil ?_|refine pBlock ?_|refine pSkip ?_|refine pExit ?_|refine pRet ?_|refine pCond ?_|refine gNone ?_|refine gOn rfl ?_|refine gOff rfl rfl ?_|refine gTup rfl ?_))
        refine (rletters_w hz).mono fun v s' q => ?_
        obtain ⟨rfl, rfl⟩ := q
        (repeat(first|refine pSeq ?_|refine pReg ?_|refine sCons ?_|refine sNil ?_|refine pBlock ?_|refine pSkip ?_|refine pExit ?_|refine pRet ?_|refine pCond ?_|refine gNone ?_|refine gOn rfl ?_|refine gOff rfl rfl ?_|refine gTup rfl ?_))
        obtain ⟨d, hd⟩ : ∃ d, (lets z)[j]? = some d := ⟨_, List.getElem?_eq_getElem (show j < (lets z).length by omega)⟩
        refine ⟨by omega, ?_⟩
        intro m hm
        obtain rfl : m = j := by omega
        refine ⟨d, hd, ?_⟩
        (repeat(first|refine pSeq ?_|refine pReg ?_|refine sCons ?_|refine sNil ?_|refine pBlock ?_|refine pSkip ?_|refine pExit ?_|refine pRet ?_|refine pCond ?_|refine gNone ?_|refine gOn rfl ?_|refine gOff rfl rfl ?_|refine gTup rfl ?_))
        intro q hq
        by_cases hdc : d = caseF z c
        · obtain rfl : q = true := by rw [hq, hdc]; simp
          (repeat(first|refine pSeq ?_|refine pReg ?_|refine sCons ?_|refine sNil ?_|refine pBlock ?_|refine pSkip ?_|refine pExit ?_|refine pRet ?_|refine pCond ?_|refine gNone ?_|refine gOn rfl ?_|refine gOff rfl rfl ?_|refine gTup rfl ?_))
          refine ⟨?_, rfl⟩
          have : plcF z c = some m := idxOf_at (by rw [hd, hdc]) hno
          rw [plcI_some this]
          rfl
        · obtain rfl : q = false := by rw [hq]; have := byte_ne11 hdc; simp; omega
          (repeat(first|refine pSeq ?_|refine pReg ?_|refine sCons ?_|refine sNil ?_|refine pBlock ?_|refine pSkip ?_|refine pExit ?_|refine pRet ?_|refine pCond ?_|refine gNone ?_|refine gOn rfl ?_|refine gOff rfl rfl ?_|refine gTup rfl ?_))
          intro w hw
          rw [i64_id (by omega)] at hw
          obtain rfl : w = ((m + 1 : Nat) : Int) := by omega
          (repeat(first|refine pSeq ?_|refine pReg ?_|refine sCons ?_|refine sNil ?_|refine pBlock ?_|refine pSkip ?_|refine pExit ?_|refine pRet ?_|refine pCond ?_|refine gNone ?_|refine gOn rfl ?_|refine gOff rfl rfl ?_|refine gTup rfl ?_))
          refine ⟨m + 1, ⟨by omega, fun k hk => ?_⟩, by show (lets z).length - (m + 1) < (lets z).length - m; omega, Wk.same ⟨rfl, rfl, rfl, trivial⟩⟩
          by_cases hkm : k = m
          · subst hkm; rw [hd]; exact fun e => hdc (Option.some.inj e)
          · exact hno k (by omega)
  · obtain rfl : q = false := by rw [hq]; simp; omega
    have e : caseF z c = c := by unfold caseF; rw [if_neg (by omega), if_neg (by omega)]
    (repeat(first|refine pSeq ?_|refine pReg ?_|refine sCons ?_|refine sNil ?_|refine pBlock ?_|refine pSkip ?_|refine pExit ?_|refine pRet ?_|refine pCond ?_|refine gNone ?_|refine gOn rfl ?_|refine gOff rfl rfl ?_|refine gTup rfl ?_))
    refine pLoop (MW.head good (fun j : Nat => (lets z).length - j) (fun j => j ≤ (lets z).length ∧ ∀ k, k < j → (lets z)[k]? ≠ some (caseF z c)) (fun j => [(0, .int .u8 (caseF z c).toNat), (1, .int .i64 z), (5, .int .i64 j)]) (fun _ => s) 0 ⟨Nat.zero_le _, fun k h => absurd h (by omega)⟩ (Wk.same ⟨by first | rfl | (rw [e]; rfl), rfl, rfl, trivial⟩) ?_)
    intro j ⟨hj, hno⟩
    (repeat(first|refine pSeq ?_|refine pReg ?_|refine sCons ?_|refine sNil ?_|refine pBlock ?_|refine pSkip ?_|refine pExit ?_|refine pRet ?_|refine pCond ?_|refine gNone ?_|refine gOn rfl ?_|refine gOff rfl rfl ?_|refine gTup rfl ?_))
    refine (rletters_w hz).mono fun v s' q => ?_
    obtain ⟨rfl, rfl⟩ := q
    (repeat(first|refine pSeq ?_|refine pReg ?_|refine sCons ?_|refine sNil ?_|refine pBlock ?_|refine pSkip ?_|refine pExit ?_|refine pRet ?_|refine pCond ?_|refine gNone ?_|refine gOn rfl ?_|refine gOff rfl rfl ?_|refine gTup rfl ?_))
    intro nn hnn
    subst hnn
    (repeat(first|refine pSeq ?_|refine pReg ?_|refine sCons ?_|refine sNil ?_|refine pBlock ?_|refine pSkip ?_|refine pExit ?_|refine pRet ?_|refine pCond ?_|refine gNone ?_|refine gOn rfl ?_|refine gOff rfl rfl ?_|refine gTup rfl ?_))
    intro q hq
    by_cases hje : j = (lets z).length
    · obtain rfl : q = false := by rw [hq]; simp; omega
      (repeat(first|refine pSeq ?_|refine pReg ?_|refine sCons ?_|refine sNil ?_|refine pBlock ?_|refine pSkip ?_|refine pExit ?_|refine pRet ?_|refine pCond ?_|refine gNone ?_|refine gOn rfl ?_|refine gOff rfl rfl ?_|refine gTup rfl ?_))
      refine ⟨?_, rfl⟩
      have : plcF z c = none := idxOf_no (fun k hk => hno k (by omega))
      rw [plcI_none this]
      rfl
    · obtain rfl : q = true := by rw [hq]; simp; omega
      (repeat(first|refine pSeq ?_|refine pReg ?_|refine sCons ?_|refine sNil ?_|refine pBlock ?_|refine pSkip ?_|refine pExit ?_|refine pRet ?_|refine pCond ?_|refine gNone ?_|refine gOn rfl ?_|refine gOff rfl rfl ?_|refine gTup rfl ?_))
      refine (rletters_w hz).mono fun v s' q => ?_
      obtain ⟨rfl, rfl⟩ := q
      (repeat(first|refine pSeq ?_|refine pReg ?_|refine sCons ?_|refine sNil ?_|refine pBlock ?_|refine pSkip ?_|refine pExit ?_|refine pRet ?_|refine pCond ?_|refine gNone ?_|refine gOn rfl ?_|refine gOff rfl rfl ?_|refine gTup rfl ?_))
      obtain ⟨d, hd⟩ : ∃ d, (lets z)[j]? = some d := ⟨_, List.getElem?_eq_getElem (show j < (lets z).length by omega)⟩
      refine ⟨by omega, ?_⟩
      intro m hm
      obtain rfl : m = j := by omega
      refine ⟨d, hd, ?_⟩
      (repeat(first|refine pSeq ?_|refine pReg ?_|refine sCons ?_|refine sNil ?_|refine pBlock ?_|refine pSkip ?_|refine pExit ?_|refine pRet ?_|refine pCond ?_|refine gNone ?_|refine gOn rfl ?_|refine gOff rfl rfl ?_|refine gTup rfl ?_))
      intro q hq
      by_cases hdc : d = caseF z c
      · obtain rfl : q = true := by rw [hq, hdc]; simp
        (repeat(first|refine pSeq ?_|refine pReg ?_|refine sCons ?_|refine sNil ?_|refine pBlock ?_|refine pSkip ?_|refine pExit ?_|refine pRet ?_|refine pCond ?_|refine gNone ?_|refine gOn rfl ?_|refine gOff rfl rfl ?_|refine gTup rfl ?_))
        refine ⟨?_, rfl⟩
        have : plcF z c = some m := idxOf_at (by rw [hd, hdc]) hno
        rw [plcI_some this]
        rfl
      · obtain rfl : q = false := by rw [hq]; have := byte_ne11 hdc; simp; omega
        (repeat(first|refine pSeq ?_|refine pReg ?_|refine sCons ?_|refine sNil ?_|refine pBlock ?_|refine pSkip ?_|refine pExit ?_|refine pRet ?_|refine pCond ?_|refine gNone ?_|refine gOn rfl ?_|refine gOff rfl rfl ?_|refine gTup rfl ?_))
        intro w hw
        rw [i64_id (by omega)] at hw
        obtain rfl : w = ((m + 1 : Nat) : Int) := by omega
        (repeat(first|refine pSeq ?_|refine pReg ?_|refine sCons ?_|refine sNil ?_|refine pBlock ?_|refine pSkip ?_|refine pExit ?_|refine pRet ?_|refine pCond ?_|refine gNone ?_|refine gOn rfl ?_|refine gOff rfl rfl ?_|refine gTup rfl ?_))
        refine ⟨m + 1, ⟨by omega, fun k hk => ?_⟩, by show (lets z).length - (m + 1) < (lets z).length - m; omega, Wk.same ⟨rfl, rfl, rfl, trivial⟩⟩
        by_cases hkm : k = m
        · subst hkm; rw [hd]; exact fun e => hdc (Option.some.inj e)
        · exact hno k (by omega)
end Go.Vf.S

import Derived.Test.YtfccipbogdmbnaaDoorSmO
/- Days: the law, from any state. -/
namespace Go.Vf.S
open Go Go.Vf Go.Proofs
attribute [local irreducible] wSeq wRow wp wG
set_option linter.unusedVariables false
set_option linter.unusedSimpArgs false
set_option maxRecDepth 10000

/-- A number handed in, brought to ticks. -/
theorem tick_in (a : Int) : ∃ A : Nat, A ≤ Mx ∧ IntKind.wrap .i64 ((IntKind.wrap .u64 a).tmod 1099511627777) = (A : Int) ∧ (IntKind.wrap .u64 a).tmod 1099511627777 = (A : Int) := by
  rw [wrap_u64]
  have h : 0 ≤ a % 18446744073709551616 := Int.emod_nonneg _ (by decide)
  have e : (a % 18446744073709551616).tmod 1099511627777 = (((a % 18446744073709551616).toNat % 1099511627777 : Nat) : Int) := by
    rw [show (1099511627777 : Int) = ((1099511627777 : Nat) : Int) from rfl, tmod_nn h]
  refine ⟨(a % 18446744073709551616).toNat % 1099511627777, by unfold Mx; omega, ?_, e⟩
  rw [e, i64_id (by omega)]

theorem midnight (d : Nat) : [32, 48, 48, 58, 48, 48, 58, 48, 48, 32, 43, 48, 48, 48, 48] <:+ dateL (d * 86400) := by
  rw [date_parts, show d * 86400 % 86400 = 0 by omega]
  rw [show dg (0 / 3600) 2 = [48, 48] by decide +kernel]
  simp only [List.append_assoc]
  generalize wkT _ = X1
  generalize dg ((calD _).2.2 + 1) 2 = X2
  generalize moT _ = X3
  generalize dg (calD _).1 4 = X4
  refine ⟨X1 ++ ([44, 32] ++ (X2 ++ ([32] ++ (X3 ++ ([32] ++ X4))))), ?_⟩
  simp only [List.append_assoc]
  rfl

set_option maxHeartbeats 1000000 in
theorem sdays_w {s : SS} {a : Int} (hG : Gst s) (hF : Fine s) : CallW pr n_law09_StampDays [.int .i64 a] s fun v s' => v = .bool true := by
  refine CallW.run good ok_law09_StampDays (by simp) rfl ?_
  obtain ⟨A, hA, e1, e2⟩ := tick_in a
  have hA' : A ≤ 1099511627776 := hA
  (repeat(first|refine pSeq ?_|refine pReg ?_|refine sCons ?_|refine sNil ?_|refine pSkip ?_|refine pRet ?_|refine pCond ?_|refine gNone ?_|refine gOn rfl ?_|refine gOff rfl rfl ?_|refine gTup rfl ?_))
  intro z1 h1
  (repeat(first|refine pSeq ?_|refine pReg ?_|refine sCons ?_|refine sNil ?_|refine pSkip ?_|refine pRet ?_|refine pCond ?_|refine gNone ?_|refine gOn rfl ?_|refine gOff rfl rfl ?_|refine gTup rfl ?_))
  refine ⟨by decide, ?_⟩
  intro z2 h2
  rw [h1, e2] at h2
  subst h2
  (repeat(first|refine pSeq ?_|refine pReg ?_|refine sCons ?_|refine sNil ?_|refine pSkip ?_|refine pRet ?_|refine pCond ?_|refine gNone ?_|refine gOn rfl ?_|refine gOff rfl rfl ?_|refine gTup rfl ?_))
  intro z3 h3
  rw [i64_id (by omega)] at h3
  subst h3
  (repeat(first|refine pSeq ?_|refine pReg ?_|refine sCons ?_|refine sNil ?_|refine pSkip ?_|refine pRet ?_|refine pCond ?_|refine gNone ?_|refine gOn rfl ?_|refine gOff rfl rfl ?_|refine gTup rfl ?_))
  refine day_w.mono fun v s q => ?_
  obtain ⟨rfl, rfl⟩ := q
  rw [clamp_id hA]
  (repeat(first|refine pSeq ?_|refine pReg ?_|refine sCons ?_|refine sNil ?_|refine pSkip ?_|refine pRet ?_|refine pCond ?_|refine gNone ?_|refine gOn rfl ?_|refine gOff rfl rfl ?_|refine gTup rfl ?_))
  intro z4 h4
  rw [i64_id (by omega)] at h4
  obtain rfl : z4 = ((A / 86400 * 86400 : Nat) : Int) := by omega
  (repeat(first|refine pSeq ?_|refine pReg ?_|refine sCons ?_|refine sNil ?_|refine pSkip ?_|refine pRet ?_|refine pCond ?_|refine gNone ?_|refine gOn rfl ?_|refine gOff rfl rfl ?_|refine gTup rfl ?_))
  intro q hq; obtain rfl : q = false := (by rw [hq]; simp <;> omega); (repeat(first|refine pSeq ?_|refine pReg ?_|refine sCons ?_|refine sNil ?_|refine pSkip ?_|refine pRet ?_|refine pCond ?_|refine gNone ?_|refine gOn rfl ?_|refine gOff rfl rfl ?_|refine gTup rfl ?_))
  intro z5 h5
  rw [i64_id (by omega)] at h5
  (repeat(first|refine pSeq ?_|refine pReg ?_|refine sCons ?_|refine sNil ?_|refine pSkip ?_|refine pRet ?_|refine pCond ?_|refine gNone ?_|refine gOn rfl ?_|refine gOff rfl rfl ?_|refine gTup rfl ?_))
  intro z6 h6
  rw [i64_id (by omega)] at h6
  (repeat(first|refine pSeq ?_|refine pReg ?_|refine sCons ?_|refine sNil ?_|refine pSkip ?_|refine pRet ?_|refine pCond ?_|refine gNone ?_|refine gOn rfl ?_|refine gOff rfl rfl ?_|refine gTup rfl ?_))
  intro q hq; obtain rfl : q = false := (by rw [hq]; simp <;> omega); (repeat(first|refine pSeq ?_|refine pReg ?_|refine sCons ?_|refine sNil ?_|refine pSkip ?_|refine pRet ?_|refine pCond ?_|refine gNone ?_|refine gOn rfl ?_|refine gOff rfl rfl ?_|refine gTup rfl ?_))
  intro z7 h7
  rw [i64_id (by omega)] at h7
  obtain rfl : z7 = ((A / 86400 * 86400 : Nat) : Int) := by omega
  have hd : A / 86400 * 86400 ≤ Mx := by unfold Mx; omega
  (repeat(first|refine pSeq ?_|refine pReg ?_|refine sCons ?_|refine sNil ?_|refine pSkip ?_|refine pRet ?_|refine pCond ?_|refine gNone ?_|refine gOn rfl ?_|refine gOff rfl rfl ?_|refine gTup rfl ?_))
  refine day_w.mono fun v s q => ?_
  obtain ⟨rfl, rfl⟩ := q
  rw [clamp_id hd, show A / 86400 * 86400 / 86400 = A / 86400 by omega]
  (repeat(first|refine pSeq ?_|refine pReg ?_|refine sCons ?_|refine sNil ?_|refine pSkip ?_|refine pRet ?_|refine pCond ?_|refine gNone ?_|refine gOn rfl ?_|refine gOff rfl rfl ?_|refine gTup rfl ?_))
  intro q hq
  obtain rfl : q = false := by rw [hq]; exact decide_eq_false (fun h => h rfl)
  (repeat(first|refine pSeq ?_|refine pReg ?_|refine sCons ?_|refine sNil ?_|refine pSkip ?_|refine pRet ?_|refine pCond ?_|refine gNone ?_|refine gOn rfl ?_|refine gOff rfl rfl ?_|refine gTup rfl ?_))
  intro q hq
  by_cases h0 : 0 < A / 86400
  rotate_left
  obtain rfl : q = false := by rw [hq]; simp <;> omega
  (repeat(first|refine pSeq ?_|refine pReg ?_|refine sCons ?_|refine sNil ?_|refine pSkip ?_|refine pRet ?_|refine pCond ?_|refine gNone ?_|refine gOn rfl ?_|refine gOff rfl rfl ?_|refine gTup rfl ?_))
  rotate_left
  obtain rfl : q = true := by rw [hq]; simp <;> omega
  (repeat(first|refine pSeq ?_|refine pReg ?_|refine sCons ?_|refine sNil ?_|refine pSkip ?_|refine pRet ?_|refine pCond ?_|refine gNone ?_|refine gOn rfl ?_|refine gOff rfl rfl ?_|refine gTup rfl ?_))
  intro z8 h8
  rw [i64_id (by omega)] at h8
  (repeat(first|refine pSeq ?_|refine pReg ?_|refine sCons ?_|refine sNil ?_|refine pSkip ?_|refine pRet ?_|refine pCond ?_|refine gNone ?_|refine gOn rfl ?_|refine gOff rfl rfl ?_|refine gTup rfl ?_))
  intro z9 h9
  rw [i64_id (by omega)] at h9
  obtain rfl : z9 = ((A / 86400 * 86400 - 1 : Nat) : Int) := by omega
  (repeat(first|refine pSeq ?_|refine pReg ?_|refine sCons ?_|refine sNil ?_|refine pSkip ?_|refine pRet ?_|refine pCond ?_|refine gNone ?_|refine gOn rfl ?_|refine gOff rfl rfl ?_|refine gTup rfl ?_))
  refine day_w.mono fun v s q => ?_
  obtain ⟨rfl, rfl⟩ := q
  rw [clamp_id (by unfold Mx; omega), show (A / 86400 * 86400 - 1) / 86400 = A / 86400 - 1 by omega]
  (repeat(first|refine pSeq ?_|refine pReg ?_|refine sCons ?_|refine sNil ?_|refine pSkip ?_|refine pRet ?_|refine pCond ?_|refine gNone ?_|refine gOn rfl ?_|refine gOff rfl rfl ?_|refine gTup rfl ?_))
  intro z10 h10
  rw [i64_id (by omega)] at h10
  obtain rfl : z10 = ((A / 86400 - 1 : Nat) : Int) := by omega
  (repeat(first|refine pSeq ?_|refine pReg ?_|refine sCons ?_|refine sNil ?_|refine pSkip ?_|refine pRet ?_|refine pCond ?_|refine gNone ?_|refine gOn rfl ?_|refine gOff rfl rfl ?_|refine gTup rfl ?_))
  intro q hq
  obtain rfl : q = false := by rw [hq]; exact decide_eq_false (fun h => h rfl)
  (repeat(first|refine pSeq ?_|refine pReg ?_|refine sCons ?_|refine sNil ?_|refine pSkip ?_|refine pRet ?_|refine pCond ?_|refine gNone ?_|refine gOn rfl ?_|refine gOff rfl rfl ?_|refine gTup rfl ?_))
  all_goals (
    intro z11 h11
    rw [i64_id (by omega)] at h11
    obtain rfl : z11 = ((A / 86400 * 86400 : Nat) : Int) := by omega
    (repeat(first|refine pSeq ?_|refine pReg ?_|refine sCons ?_|refine sNil ?_|refine pSkip ?_|refine pRet ?_|refine pCond ?_|refine gNone ?_|refine gOn rfl ?_|refine gOff rfl rfl ?_|refine gTup rfl ?_))
    refine (date_w hG hF).mono fun v s1 q => ?_
    obtain ⟨rfl, c1⟩ := q
    rw [clamp_id hd]
    have hl := date_len hd
    (repeat(first|refine pSeq ?_|refine pReg ?_|refine sCons ?_|refine sNil ?_|refine pSkip ?_|refine pRet ?_|refine pCond ?_|refine gNone ?_|refine gOn rfl ?_|refine gOff rfl rfl ?_|refine gTup rfl ?_))
    refine (hasSuffix_w (by omega)).mono fun v s2 q => ?_
    obtain ⟨rfl, rfl⟩ := q
    rw [decide_eq_true (midnight (A / 86400))]
    (repeat(first|refine pSeq ?_|refine pReg ?_|refine sCons ?_|refine sNil ?_|refine pSkip ?_|refine pRet ?_|refine pCond ?_|refine gNone ?_|refine gOn rfl ?_|refine gOff rfl rfl ?_|refine gTup rfl ?_))
    refine (swakes_w (hG.chg0 c1) (c1.fine hF)).mono fun v s3 q => ?_
    obtain ⟨rfl, c3⟩ := q
    (repeat(first|refine pSeq ?_|refine pReg ?_|refine sCons ?_|refine sNil ?_|refine pSkip ?_|refine pRet ?_|refine pCond ?_|refine gNone ?_|refine gOn rfl ?_|refine gOff rfl rfl ?_|refine gTup rfl ?_))
    rfl)
end Go.Vf.S

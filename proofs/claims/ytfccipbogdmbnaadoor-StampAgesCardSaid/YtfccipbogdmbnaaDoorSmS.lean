import Derived.Test.YtfccipbogdmbnaaDoorSmO
import Derived.Test.YtfccipbogdmbnaaDoorLbD
/- Ages: the law, from any state. -/
namespace Go.Vf.S
open Go Go.Vf Go.Proofs
attribute [local irreducible] wSeq wRow wp wG
set_option linter.unusedVariables false
set_option linter.unusedSimpArgs false
set_option maxRecDepth 10000

theorem day_in (a : Int) : ∃ A : Nat, A < 1099511627776 ∧ (IntKind.wrap .u64 a).tmod 1099511627776 = (A : Int) := by
  rw [wrap_u64]
  have h : 0 ≤ a % 18446744073709551616 := Int.emod_nonneg _ (by decide)
  refine ⟨(a % 18446744073709551616).toNat % 1099511627776, by omega, ?_⟩
  rw [show (1099511627776 : Int) = ((1099511627776 : Nat) : Int) from rfl, tmod_nn h]
theorem sn_nat (D : Nat) : sn (D : Int) = D % 1024 := by
  unfold sn
  rw [show (max (D : Int) 0).toNat = D by omega]
theorem low_st {n : Nat} (h : n < 1024) : pstF ((stT n).map Lib.lowerB) = (n, 0) := by
  have : (List.range 1024).all (fun n => pstF ((stT n).map Lib.lowerB) == (n, 0)) = true := by decide +kernel
  simpa using List.all_eq_true.1 this n (List.mem_range.2 h)
theorem st_asc {n : Nat} (h : n < 1024) : asc (stT n) := by
  intro c hc
  unfold stT at hc
  simp only [List.mem_cons, List.not_mem_nil, or_false] at hc
  rcases hc with rfl | rfl
  · have := le_is (n := n / 32) (by omega)
    split at this <;> omega
  · have := le_is (n := n % 32) (by omega)
    split at this <;> omega
theorem st_one {a b : Nat} (ha : a < 1024) (hb : b < 1024) : stT a = stT b ↔ a = b := by
  constructor
  · intro h
    have := pst_text ha
    rw [h, pst_text hb] at this
    exact (Prod.mk.inj this).1.symm
  · intro h; rw [h]
theorem up_va {c : UInt8} (h : 0 ≤ vaB c) : leB (vaB c).toNat = Lib.upperB c ∧ c.toNat < 128 := by
  have : (List.range 256).all (fun n => decide (0 ≤ vaB (UInt8.ofNat n) → leB (vaB (UInt8.ofNat n)).toNat = Lib.upperB (UInt8.ofNat n) ∧ (UInt8.ofNat n).toNat < 128)) = true := by decide +kernel
  have h2 := List.all_eq_true.1 this c.toNat (List.mem_range.2 c.toNat_lt)
  rw [UInt8.ofNat_toNat] at h2
  exact of_decide_eq_true h2 h
theorem pst_up {l : List UInt8} (h : (pstF l).2 = 0) : stT (pstF l).1 = l.map Lib.upperB ∧ asc l := by
  unfold pstF at h
  split at h
  · rename_i a b
    split at h
    · cases h
    · rename_i hn
      have va := va_lt a
      have vb := va_lt b
      obtain ⟨a1, a2⟩ := up_va (c := a) (by omega)
      obtain ⟨b1, b2⟩ := up_va (c := b) (by omega)
      rw [pst_two hn]
      refine ⟨?_, fun c hc => by simp only [List.mem_cons, List.not_mem_nil, or_false] at hc; rcases hc with rfl | rfl <;> assumption⟩
      show [leB ((32 * vaB a + vaB b).toNat / 32), leB ((32 * vaB a + vaB b).toNat % 32)] = [Lib.upperB a, Lib.upperB b]
      rw [← a1, ← b1, show (32 * vaB a + vaB b).toNat / 32 = (vaB a).toNat by omega, show (32 * vaB a + vaB b).toNat % 32 = (vaB b).toNat by omega]
  · cases h
theorem pst_err (l : List UInt8) : (pstF l).2 = 0 ∨ pstF l = (0, 5) := by
  unfold pstF
  split
  · split
    · exact .inr rfl
    · exact .inl rfl
  · exact .inr rfl

set_option maxHeartbeats 1000000 in
theorem sages_w {s : SS} {a : Int} {L : Nat} {l : List UInt8} (hG : Gst s) (hF : Fine s) (hL : L < 65536) : CallW pr n_law09_StampAges [.int .i64 a, .int .u16 L, str l] s fun v s' => v = .bool true := by
  refine CallW.run good ok_law09_StampAges (by simp) rfl ?_
  obtain ⟨D, hD, e2⟩ := day_in a
  have hs1 : D % 1024 < 1024 := Nat.mod_lt _ (by omega)
  (repeat(first|refine pSeq ?_|refine pReg ?_|refine sCons ?_|refine sNil ?_|refine pSkip ?_|refine pRet ?_|refine pCond ?_|refine gNone ?_|refine gOn rfl ?_|refine gOff rfl rfl ?_|refine gTup rfl ?_))
  intro z1 h1
  (repeat(first|refine pSeq ?_|refine pReg ?_|refine sCons ?_|refine sNil ?_|refine pSkip ?_|refine pRet ?_|refine pCond ?_|refine gNone ?_|refine gOn rfl ?_|refine gOff rfl rfl ?_|refine gTup rfl ?_))
  refine ⟨by decide, ?_⟩
  intro z2 h2
  rw [h1, e2] at h2
  subst h2
  (repeat(first|refine pSeq ?_|refine pReg ?_|refine sCons ?_|refine sNil ?_|refine pSkip ?_|refine pRet ?_|refine pCond ?_|refine gNone ?_|refine gOn rfl ?_|refine gOff rfl rfl ?_|refine gTup rfl ?_))
  intro z3 h3
  rw [i64_id (by omega)] at h3
  subst h3
  (repeat(first|refine pSeq ?_|refine pReg ?_|refine sCons ?_|refine sNil ?_|refine pSkip ?_|refine pRet ?_|refine pCond ?_|refine gNone ?_|refine gOn rfl ?_|refine gOff rfl rfl ?_|refine gTup rfl ?_))
  refine ⟨by decide, ?_⟩
  intro z4 h4
  rw [show (1024 : Int) = ((1024 : Nat) : Int) from rfl, tmod_nat] at h4
  subst h4
  (repeat(first|refine pSeq ?_|refine pReg ?_|refine sCons ?_|refine sNil ?_|refine pSkip ?_|refine pRet ?_|refine pCond ?_|refine gNone ?_|refine gOn rfl ?_|refine gOff rfl rfl ?_|refine gTup rfl ?_))
  intro z5 h5
  rw [i64_id (by omega)] at h5
  subst h5
  (repeat(first|refine pSeq ?_|refine pReg ?_|refine sCons ?_|refine sNil ?_|refine pSkip ?_|refine pRet ?_|refine pCond ?_|refine gNone ?_|refine gOn rfl ?_|refine gOff rfl rfl ?_|refine gTup rfl ?_))
  refine (stext_w hF (by omega)).mono fun v s1 q => ?_
  obtain ⟨rfl, c1⟩ := q
  have d1 := c1
  rw [sn_nat]
  (repeat(first|refine pSeq ?_|refine pReg ?_|refine sCons ?_|refine sNil ?_|refine pSkip ?_|refine pRet ?_|refine pCond ?_|refine gNone ?_|refine gOn rfl ?_|refine gOff rfl rfl ?_|refine gTup rfl ?_))
  refine (pst_w (d1.fine hF) (by simp [stT])).mono fun v s1 q => ?_
  obtain ⟨rfl, rfl⟩ := q
  rw [pst_text hs1]
  (repeat(first|refine pSeq ?_|refine pReg ?_|refine sCons ?_|refine sNil ?_|refine pSkip ?_|refine pRet ?_|refine pCond ?_|refine gNone ?_|refine gOn rfl ?_|refine gOff rfl rfl ?_|refine gTup rfl ?_))
  refine (stext_w (d1.fine hF) (by omega)).mono fun v s2 q => ?_
  obtain ⟨rfl, c2⟩ := q
  have d2 := d1.nil c2
  rw [sn_nat]
  (repeat(first|refine pSeq ?_|refine pReg ?_|refine sCons ?_|refine sNil ?_|refine pSkip ?_|refine pRet ?_|refine pCond ?_|refine gNone ?_|refine gOn rfl ?_|refine gOff rfl rfl ?_|refine gTup rfl ?_))
  refine (toLower_w (by simp [stT]) (st_asc hs1)).mono fun v s2 q => ?_
  obtain ⟨rfl, rfl⟩ := q
  (repeat(first|refine pSeq ?_|refine pReg ?_|refine sCons ?_|refine sNil ?_|refine pSkip ?_|refine pRet ?_|refine pCond ?_|refine gNone ?_|refine gOn rfl ?_|refine gOff rfl rfl ?_|refine gTup rfl ?_))
  refine (pst_w (d2.fine hF) (by simp [stT])).mono fun v s2 q => ?_
  obtain ⟨rfl, rfl⟩ := q
  rw [low_st hs1]
  (repeat(first|refine pSeq ?_|refine pReg ?_|refine sCons ?_|refine sNil ?_|refine pSkip ?_|refine pRet ?_|refine pCond ?_|refine gNone ?_|refine gOn rfl ?_|refine gOff rfl rfl ?_|refine gTup rfl ?_))
  intro q hq; obtain rfl : q = false := (by rw [hq]; simp <;> omega); (repeat(first|refine pSeq ?_|refine pReg ?_|refine sCons ?_|refine sNil ?_|refine pSkip ?_|refine pRet ?_|refine pCond ?_|refine gNone ?_|refine gOn rfl ?_|refine gOff rfl rfl ?_|refine gTup rfl ?_))
  intro q hq; obtain rfl : q = false := (by rw [hq]; simp <;> omega); (repeat(first|refine pSeq ?_|refine pReg ?_|refine sCons ?_|refine sNil ?_|refine pSkip ?_|refine pRet ?_|refine pCond ?_|refine gNone ?_|refine gOn rfl ?_|refine gOff rfl rfl ?_|refine gTup rfl ?_))
  intro q hq; obtain rfl : q = false := (by rw [hq]; simp <;> omega); (repeat(first|refine pSeq ?_|refine pReg ?_|refine sCons ?_|refine sNil ?_|refine pSkip ?_|refine pRet ?_|refine pCond ?_|refine gNone ?_|refine gOn rfl ?_|refine gOff rfl rfl ?_|refine gTup rfl ?_))
  refine ⟨by decide, ?_⟩
  intro z6 h6
  rw [show (1024 : Int) = ((1024 : Nat) : Int) from rfl, tmod_nat] at h6
  subst h6
  (repeat(first|refine pSeq ?_|refine pReg ?_|refine sCons ?_|refine sNil ?_|refine pSkip ?_|refine pRet ?_|refine pCond ?_|refine gNone ?_|refine gOn rfl ?_|refine gOff rfl rfl ?_|refine gTup rfl ?_))
  intro q hq; obtain rfl : q = false := (by rw [hq]; simp <;> omega); (repeat(first|refine pSeq ?_|refine pReg ?_|refine sCons ?_|refine sNil ?_|refine pSkip ?_|refine pRet ?_|refine pCond ?_|refine gNone ?_|refine gOn rfl ?_|refine gOff rfl rfl ?_|refine gTup rfl ?_))
  refine (age_w (k := ((D % 1024 : Nat) : Int)) (d := (D : Int)) (by omega) (by omega)).mono fun v s2 q => ?_
  obtain ⟨rfl, rfl⟩ := q
  rw [show agF ((D % 1024 : Nat) : Int) (D : Int) = 0 by unfold agF; rw [sn_nat, sn_nat]; omega]
  (repeat(first|refine pSeq ?_|refine pReg ?_|refine sCons ?_|refine sNil ?_|refine pSkip ?_|refine pRet ?_|refine pCond ?_|refine gNone ?_|refine gOn rfl ?_|refine gOff rfl rfl ?_|refine gTup rfl ?_))
  intro q hq; obtain rfl : q = false := (by rw [hq]; simp <;> omega); (repeat(first|refine pSeq ?_|refine pReg ?_|refine sCons ?_|refine sNil ?_|refine pSkip ?_|refine pRet ?_|refine pCond ?_|refine gNone ?_|refine gOn rfl ?_|refine gOff rfl rfl ?_|refine gTup rfl ?_))
  intro z7 h7
  rw [i64_id (by omega)] at h7
  obtain rfl : z7 = ((D + L % 1024 : Nat) : Int) := by omega
  (repeat(first|refine pSeq ?_|refine pReg ?_|refine sCons ?_|refine sNil ?_|refine pSkip ?_|refine pRet ?_|refine pCond ?_|refine gNone ?_|refine gOn rfl ?_|refine gOff rfl rfl ?_|refine gTup rfl ?_))
  refine (age_w (k := ((D % 1024 : Nat) : Int)) (d := ((D + L % 1024 : Nat) : Int)) (by omega) (by omega)).mono fun v s2 q => ?_
  obtain ⟨rfl, rfl⟩ := q
  rw [show agF ((D % 1024 : Nat) : Int) ((D + L % 1024 : Nat) : Int) = L % 1024 by unfold agF; rw [sn_nat, sn_nat]; omega]
  (repeat(first|refine pSeq ?_|refine pReg ?_|refine sCons ?_|refine sNil ?_|refine pSkip ?_|refine pRet ?_|refine pCond ?_|refine gNone ?_|refine gOn rfl ?_|refine gOff rfl rfl ?_|refine gTup rfl ?_))
  intro q hq; obtain rfl : q = false := (by rw [hq]; simp <;> omega); (repeat(first|refine pSeq ?_|refine pReg ?_|refine sCons ?_|refine sNil ?_|refine pSkip ?_|refine pRet ?_|refine pCond ?_|refine gNone ?_|refine gOn rfl ?_|refine gOff rfl rfl ?_|refine gTup rfl ?_))
  refine (stext_w (d2.fine hF) (by omega)).mono fun v s3 q => ?_
  obtain ⟨rfl, c3⟩ := q
  have d3 := d2.nil c3
  rw [sn_nat]
  (repeat(first|refine pSeq ?_|refine pReg ?_|refine sCons ?_|refine sNil ?_|refine pSkip ?_|refine pRet ?_|refine pCond ?_|refine gNone ?_|refine gOn rfl ?_|refine gOff rfl rfl ?_|refine gTup rfl ?_))
  intro z8 h8
  rw [i64_id (by omega)] at h8
  subst h8
  (repeat(first|refine pSeq ?_|refine pReg ?_|refine sCons ?_|refine sNil ?_|refine pSkip ?_|refine pRet ?_|refine pCond ?_|refine gNone ?_|refine gOn rfl ?_|refine gOff rfl rfl ?_|refine gTup rfl ?_))
  intro z9 h9
  rw [i64_id (by omega)] at h9
  obtain rfl : z9 = ((D + L : Nat) : Int) := by omega
  (repeat(first|refine pSeq ?_|refine pReg ?_|refine sCons ?_|refine sNil ?_|refine pSkip ?_|refine pRet ?_|refine pCond ?_|refine gNone ?_|refine gOn rfl ?_|refine gOff rfl rfl ?_|refine gTup rfl ?_))
  refine (stext_w (d3.fine hF) (by omega)).mono fun v s4 q => ?_
  obtain ⟨rfl, c4⟩ := q
  have d4 := d3.nil c4
  rw [sn_nat]
  (repeat(first|refine pSeq ?_|refine pReg ?_|refine sCons ?_|refine sNil ?_|refine pSkip ?_|refine pRet ?_|refine pCond ?_|refine gNone ?_|refine gOn rfl ?_|refine gOff rfl rfl ?_|refine gTup rfl ?_))
  intro q1 hq1
  (repeat(first|refine pSeq ?_|refine pReg ?_|refine sCons ?_|refine sNil ?_|refine pSkip ?_|refine pRet ?_|refine pCond ?_|refine gNone ?_|refine gOn rfl ?_|refine gOff rfl rfl ?_|refine gTup rfl ?_))
  refine ⟨by decide, ?_⟩
  intro z10 h10
  rw [show (1024 : Int) = ((1024 : Nat) : Int) from rfl, tmod_nat] at h10
  subst h10
  (repeat(first|refine pSeq ?_|refine pReg ?_|refine sCons ?_|refine sNil ?_|refine pSkip ?_|refine pRet ?_|refine pCond ?_|refine gNone ?_|refine gOn rfl ?_|refine gOff rfl rfl ?_|refine gTup rfl ?_))
  intro q2 hq2
  have e12 : q1 = q2 := by
    rw [hq1, hq2, decide_eq_decide, st_one hs1 (Nat.mod_lt _ (by omega))]
    omega
  (repeat(first|refine pSeq ?_|refine pReg ?_|refine sCons ?_|refine sNil ?_|refine pSkip ?_|refine pRet ?_|refine pCond ?_|refine gNone ?_|refine gOn rfl ?_|refine gOff rfl rfl ?_|refine gTup rfl ?_))
  intro q hq
  obtain rfl : q = false := by rw [hq, e12]; simp
  (repeat(first|refine pSeq ?_|refine pReg ?_|refine sCons ?_|refine sNil ?_|refine pSkip ?_|refine pRet ?_|refine pCond ?_|refine gNone ?_|refine gOn rfl ?_|refine gOff rfl rfl ?_|refine gTup rfl ?_))
  intro n hn
  (repeat(first|refine pSeq ?_|refine pReg ?_|refine sCons ?_|refine sNil ?_|refine pSkip ?_|refine pRet ?_|refine pCond ?_|refine gNone ?_|refine gOn rfl ?_|refine gOff rfl rfl ?_|refine gTup rfl ?_))
  intro z11 h11
  (repeat(first|refine pSeq ?_|refine pReg ?_|refine sCons ?_|refine sNil ?_|refine pSkip ?_|refine pRet ?_|refine pCond ?_|refine gNone ?_|refine gOn rfl ?_|refine gOff rfl rfl ?_|refine gTup rfl ?_))
  refine ⟨by omega, ?_⟩
  intro k hk r hr
  have hlen : r.length ≤ 10 := by rw [hr, List.length_take]; omega
  clear hr
  (repeat(first|refine pSeq ?_|refine pReg ?_|refine sCons ?_|refine sNil ?_|refine pSkip ?_|refine pRet ?_|refine pCond ?_|refine gNone ?_|refine gOn rfl ?_|refine gOff rfl rfl ?_|refine gTup rfl ?_))
  refine (pst_w (d4.fine hF) (by omega)).mono fun v s4 q => ?_
  obtain ⟨rfl, rfl⟩ := q
  have hp := pst_lt r
  rcases pst_err r with h0 | h0
  · obtain ⟨u1, u2⟩ := pst_up h0
    obtain ⟨c, hc⟩ : ∃ c, pstF r = (c, 0) := ⟨_, Prod.ext rfl h0⟩
    rw [hc] at u1 hp ⊢
    have u1 : stT c = r.map Lib.upperB := u1
    have hp : c < 1024 := hp
    (repeat(first|refine pSeq ?_|refine pReg ?_|refine sCons ?_|refine sNil ?_|refine pSkip ?_|refine pRet ?_|refine pCond ?_|refine gNone ?_|refine gOn rfl ?_|refine gOff rfl rfl ?_|refine gTup rfl ?_))
    intro q hq; obtain rfl : q = false := (by rw [hq]; simp <;> omega); (repeat(first|refine pSeq ?_|refine pReg ?_|refine sCons ?_|refine sNil ?_|refine pSkip ?_|refine pRet ?_|refine pCond ?_|refine gNone ?_|refine gOn rfl ?_|refine gOff rfl rfl ?_|refine gTup rfl ?_))
    refine (stext_w (d4.fine hF) (by omega)).mono fun v s5 q => ?_
    obtain ⟨rfl, c5⟩ := q
    have d5 := d4.nil c5
    rw [sn_nat, Nat.mod_eq_of_lt hp, u1]
    (repeat(first|refine pSeq ?_|refine pReg ?_|refine sCons ?_|refine sNil ?_|refine pSkip ?_|refine pRet ?_|refine pCond ?_|refine gNone ?_|refine gOn rfl ?_|refine gOff rfl rfl ?_|refine gTup rfl ?_))
    refine (toUpper_w (by omega) u2).mono fun v s5 q => ?_
    obtain ⟨rfl, rfl⟩ := q
    (repeat(first|refine pSeq ?_|refine pReg ?_|refine sCons ?_|refine sNil ?_|refine pSkip ?_|refine pRet ?_|refine pCond ?_|refine gNone ?_|refine gOn rfl ?_|refine gOff rfl rfl ?_|refine gTup rfl ?_))
    intro q hq
    obtain rfl : q = true := by rw [hq]; exact decide_eq_true rfl
    (repeat(first|refine pSeq ?_|refine pReg ?_|refine sCons ?_|refine sNil ?_|refine pSkip ?_|refine pRet ?_|refine pCond ?_|refine gNone ?_|refine gOn rfl ?_|refine gOff rfl rfl ?_|refine gTup rfl ?_))
    refine (swakes_w (hG.chg0 d5) (d5.fine hF)).mono fun v s6 q => ?_
    obtain ⟨rfl, c6⟩ := q
    (repeat(first|refine pSeq ?_|refine pReg ?_|refine sCons ?_|refine sNil ?_|refine pSkip ?_|refine pRet ?_|refine pCond ?_|refine gNone ?_|refine gOn rfl ?_|refine gOff rfl rfl ?_|refine gTup rfl ?_))
    rfl
  · rw [h0]
    (repeat(first|refine pSeq ?_|refine pReg ?_|refine sCons ?_|refine sNil ?_|refine pSkip ?_|refine pRet ?_|refine pCond ?_|refine gNone ?_|refine gOn rfl ?_|refine gOff rfl rfl ?_|refine gTup rfl ?_))
    intro q hq; obtain rfl : q = true := (by rw [hq]; simp <;> omega); (repeat(first|refine pSeq ?_|refine pReg ?_|refine sCons ?_|refine sNil ?_|refine pSkip ?_|refine pRet ?_|refine pCond ?_|refine gNone ?_|refine gOn rfl ?_|refine gOff rfl rfl ?_|refine gTup rfl ?_))
    intro q hq; obtain rfl : q = true := (by rw [hq]; simp <;> omega); (repeat(first|refine pSeq ?_|refine pReg ?_|refine sCons ?_|refine sNil ?_|refine pSkip ?_|refine pRet ?_|refine pCond ?_|refine gNone ?_|refine gOn rfl ?_|refine gOff rfl rfl ?_|refine gTup rfl ?_))
    intro q hq; obtain rfl : q = true := (by rw [hq]; simp <;> omega); (repeat(first|refine pSeq ?_|refine pReg ?_|refine sCons ?_|refine sNil ?_|refine pSkip ?_|refine pRet ?_|refine pCond ?_|refine gNone ?_|refine gOn rfl ?_|refine gOff rfl rfl ?_|refine gTup rfl ?_))
    refine (swakes_w (hG.chg0 d4) (d4.fine hF)).mono fun v s6 q => ?_
    obtain ⟨rfl, c6⟩ := q
    (repeat(first|refine pSeq ?_|refine pReg ?_|refine sCons ?_|refine sNil ?_|refine pSkip ?_|refine pRet ?_|refine pCond ?_|refine gNone ?_|refine gOn rfl ?_|refine gOff rfl rfl ?_|refine gTup rfl ?_))
    rfl
end Go.Vf.S

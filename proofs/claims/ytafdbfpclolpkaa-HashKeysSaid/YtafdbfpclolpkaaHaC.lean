import Derived.Test.YtafdbfpclolpkaaTxA
import Derived.Test.YtafdbfpclolpkaaHaA
/- Words: what each round asks. -/
namespace Go.Vf.S
open Go Go.Vf
attribute [local irreducible] wSeq wRow wp wG
set_option linter.unusedVariables false
set_option linter.unusedSimpArgs false
set_option maxRecDepth 10000

abbrev wv (x : Wd) : Value := .int .u32 x.toNat
def wdsV (l : List Wd) : List Value := l.map wv
def W5.V (s : W5) : Value := .agg ⟨wdsV s.l⟩

theorem rotl_w {s : SS} {x : Wd} {k : Nat} (hk : k = 1 ∨ k = 5 ∨ k = 30) : CallW pr n_math_bits_RotateLeft32 [wv x, .int .i64 k] s fun v s' => v = wv (rl x k) ∧ s' = s := by
  refine CallW.run good ok_math_bits_RotateLeft32 (by simp) rfl ?_
  (repeat(first|refine pSeq ?_|refine pReg ?_|refine sCons ?_|refine sNil ?_|refine pRet ?_|refine gNone ?_))
  intro z hz
  (repeat(first|refine pSeq ?_|refine pReg ?_|refine sCons ?_|refine sNil ?_|refine pRet ?_|refine gNone ?_))
  intro z1 hz1
  obtain rfl : z1 = (k : Int) := by
    rw [hz1, hz]
    rcases hk with rfl | rfl | rfl <;> rfl
  (repeat(first|refine pSeq ?_|refine pReg ?_|refine sCons ?_|refine sNil ?_|refine pRet ?_|refine gNone ?_))
  refine ⟨by omega, ?_⟩
  intro z2 hz2
  rw [show min (k : Int).toNat IntKind.u32.bits = k from by rcases hk with rfl | rfl | rfl <;> rfl, shl_u32] at hz2
  subst hz2
  (repeat(first|refine pSeq ?_|refine pReg ?_|refine sCons ?_|refine sNil ?_|refine pRet ?_|refine gNone ?_))
  intro z3 hz3
  obtain rfl : z3 = ((32 - k : Nat) : Int) := by
    rw [hz3]
    rcases hk with rfl | rfl | rfl <;> rfl
  (repeat(first|refine pSeq ?_|refine pReg ?_|refine sCons ?_|refine sNil ?_|refine pRet ?_|refine gNone ?_))
  refine ⟨by omega, ?_⟩
  intro z4 hz4
  rw [show min ((32 - k : Nat) : Int).toNat IntKind.u32.bits = 32 - k from by rcases hk with rfl | rfl | rfl <;> rfl, shr_u32] at hz4
  subst hz4
  (repeat(first|refine pSeq ?_|refine pReg ?_|refine sCons ?_|refine sNil ?_|refine pRet ?_|refine gNone ?_))
  intro z5 hz5
  rw [or_u32] at hz5
  subst hz5
  (repeat(first|refine pSeq ?_|refine pReg ?_|refine sCons ?_|refine sNil ?_|refine pRet ?_|refine gNone ?_))
  exact ⟨rfl, rfl⟩

theorem choice_w {s : SS} {b c d : Wd} : CallW pr n_hash_choice [wv b, wv c, wv d] s fun v s' => v = wv (choF b c d) ∧ s' = s := by
  refine CallW.run good ok_hash_choice (by simp) rfl ?_
  (repeat(first|refine pSeq ?_|refine pReg ?_|refine sCons ?_|refine sNil ?_|refine pRet ?_|refine gNone ?_))
  intro z hz; rw [and_u32] at hz; subst hz
  (repeat(first|refine pSeq ?_|refine pReg ?_|refine sCons ?_|refine sNil ?_|refine pRet ?_|refine gNone ?_))
  intro z hz; rw [notC_u32] at hz; subst hz
  (repeat(first|refine pSeq ?_|refine pReg ?_|refine sCons ?_|refine sNil ?_|refine pRet ?_|refine gNone ?_))
  intro z hz; rw [and_u32] at hz; subst hz
  (repeat(first|refine pSeq ?_|refine pReg ?_|refine sCons ?_|refine sNil ?_|refine pRet ?_|refine gNone ?_))
  intro z hz; rw [or_u32] at hz; subst hz
  (repeat(first|refine pSeq ?_|refine pReg ?_|refine sCons ?_|refine sNil ?_|refine pRet ?_|refine gNone ?_))
  exact ⟨rfl, rfl⟩
theorem odd_w {s : SS} {b c d : Wd} : CallW pr n_hash_oddness [wv b, wv c, wv d] s fun v s' => v = wv (oddF b c d) ∧ s' = s := by
  refine CallW.run good ok_hash_oddness (by simp) rfl ?_
  (repeat(first|refine pSeq ?_|refine pReg ?_|refine sCons ?_|refine sNil ?_|refine pRet ?_|refine gNone ?_))
  intro z hz; rw [xor_u32] at hz; subst hz
  (repeat(first|refine pSeq ?_|refine pReg ?_|refine sCons ?_|refine sNil ?_|refine pRet ?_|refine gNone ?_))
  intro z hz; rw [xor_u32] at hz; subst hz
  (repeat(first|refine pSeq ?_|refine pReg ?_|refine sCons ?_|refine sNil ?_|refine pRet ?_|refine gNone ?_))
  exact ⟨rfl, rfl⟩
theorem maj_w {s : SS} {b c d : Wd} : CallW pr n_hash_majority [wv b, wv c, wv d] s fun v s' => v = wv (majF b c d) ∧ s' = s := by
  refine CallW.run good ok_hash_majority (by simp) rfl ?_
  (repeat(first|refine pSeq ?_|refine pReg ?_|refine sCons ?_|refine sNil ?_|refine pRet ?_|refine gNone ?_))
  intro z hz; rw [and_u32] at hz; subst hz
  (repeat(first|refine pSeq ?_|refine pReg ?_|refine sCons ?_|refine sNil ?_|refine pRet ?_|refine gNone ?_))
  intro z hz; rw [and_u32] at hz; subst hz
  (repeat(first|refine pSeq ?_|refine pReg ?_|refine sCons ?_|refine sNil ?_|refine pRet ?_|refine gNone ?_))
  intro z hz; rw [or_u32] at hz; subst hz
  (repeat(first|refine pSeq ?_|refine pReg ?_|refine sCons ?_|refine sNil ?_|refine pRet ?_|refine gNone ?_))
  intro z hz; rw [and_u32] at hz; subst hz
  (repeat(first|refine pSeq ?_|refine pReg ?_|refine sCons ?_|refine sNil ?_|refine pRet ?_|refine gNone ?_))
  intro z hz; rw [or_u32] at hz; subst hz
  (repeat(first|refine pSeq ?_|refine pReg ?_|refine sCons ?_|refine sNil ?_|refine pRet ?_|refine gNone ?_))
  exact ⟨rfl, rfl⟩

/-! ### Arrays -/
abbrev tA20 : TypeId := 23
abbrev tW5 : TypeId := 36
theorem agg_W5 : aggB pr tW5 = some true := by kernel_rfl
theorem sz_W5 : sizeB pr tW5 = some 5 := by kernel_rfl
theorem agg_A20 : aggB pr tA20 = some true := by kernel_rfl
theorem sz_A20 : sizeB pr tA20 = some 20 := by kernel_rfl
theorem wds_len (l : List Wd) : (wdsV l).length = l.length := List.length_map ..
theorem wds_get {l : List Wd} {i : Nat} (h : i < l.length) : (wdsV l)[i]? = some (wv (l.getD i 0)) := by
  unfold wdsV
  rw [List.getElem?_map, List.getElem?_eq_getElem h, List.getD_eq_getElem?_getD, List.getElem?_eq_getElem h]; rfl
theorem wds_take {l : List Wd} {n : Nat} (h : l.length = n) : takeN n ((wdsV l).drop 0) = some (wdsV l) := by
  rw [List.drop_zero, takeN_take _ _ (by rw [wds_len]; omega), List.take_of_length_le (by rw [wds_len]; omega)]
theorem wds_all (l : List Wd) : all1 (wdsV l) = true := by
  induction l with
  | nil => rfl
  | cons a l ih => exact ih

theorem start10_w {s : SS} (f : Fine s) : CallW pr n_hash_start [] s fun v s' => v = ini5.V ∧ Chg s s' [] := by
  refine CallW.run good ok_hash_start (by simp) rfl ?_
  (repeat(first|refine pSeq ?_|refine pReg ?_|refine sCons ?_|refine sNil ?_|refine pRet ?_|refine gNone ?_))
  refine st_abs (cs' := wdsV ini5.l) rfl rfl lkH (Nat.lt_succ_self _) rfl rfl fun s1 e1 c1 n1 => ?_
  (repeat(first|refine pSeq ?_|refine pReg ?_|refine sCons ?_|refine sNil ?_|refine pRet ?_|refine gNone ?_))
  (repeat (first | with_reducible refine sqRet ?_ | with_reducible refine bkRet ?_ | with_reducible refine hdRet ?_))
  exact ret_cell1 agg_W5 sz_W5 rfl e1 (wds_take rfl) ⟨rfl, (Chg.new []).fresh c1 (by simp)⟩
end Go.Vf.S

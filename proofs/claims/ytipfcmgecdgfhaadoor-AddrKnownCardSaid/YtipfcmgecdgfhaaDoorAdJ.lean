import Derived.Test.YtipfcmgecdgfhaaDoorAdI
/- Which of two addresses stands ahead: the law of the order. -/
namespace Go.Vf.S
open Go Go.Vf
attribute [local irreducible] wSeq wRow wp wG
set_option linter.unusedVariables false
set_option linter.unusedSimpArgs false
set_option maxRecDepth 10000

abbrev cmpB := Lib.compareBytes
theorem cmp_self : ∀ a : List UInt8, cmpB a a = 0
  | [] => rfl
  | x :: a => by
    show Lib.compareBytes (x :: a) (x :: a) = 0
    rw [Lib.compareBytes, if_neg (UInt8.lt_irrefl x), if_neg (UInt8.lt_irrefl x)]
    exact cmp_self a
theorem cmp_vals : ∀ a b : List UInt8, cmpB a b = -1 ∨ cmpB a b = 0 ∨ cmpB a b = 1
  | [], [] => by simp [cmpB, Lib.compareBytes]
  | [], _ :: _ => by simp [cmpB, Lib.compareBytes]
  | _ :: _, [] => by simp [cmpB, Lib.compareBytes]
  | x :: a, y :: b => by
    show Lib.compareBytes (x :: a) (y :: b) = -1 ∨ Lib.compareBytes (x :: a) (y :: b) = 0 ∨ Lib.compareBytes (x :: a) (y :: b) = 1
    rw [Lib.compareBytes]
    split
    · simp
    · split
      · simp
      · exact cmp_vals a b
theorem cmp_turn : ∀ a b : List UInt8, cmpB b a = -cmpB a b
  | [], [] => rfl
  | [], _ :: _ => by simp [cmpB, Lib.compareBytes]
  | _ :: _, [] => by simp [cmpB, Lib.compareBytes]
  | x :: a, y :: b => by
    show Lib.compareBytes (y :: b) (x :: a) = -Lib.compareBytes (x :: a) (y :: b)
    rw [Lib.compareBytes, Lib.compareBytes]
    by_cases h1 : x < y
    · have h2 : ¬y < x := fun h => UInt8.lt_irrefl x (UInt8.lt_trans h1 h)
      rw [if_neg h2, if_pos h1, if_pos h1]
      rfl
    · by_cases h2 : y < x
      · rw [if_pos h2, if_neg h1, if_pos h2]
      · rw [if_neg h2, if_neg h1, if_neg h1, if_neg h2]
        exact cmp_turn a b
theorem byte_eq {x y : UInt8} (h1 : ¬x < y) (h2 : ¬y < x) : x = y := UInt8.le_antisymm (UInt8.not_lt.1 h2) (UInt8.not_lt.1 h1)
theorem cmp_zero : ∀ {a b : List UInt8}, cmpB a b = 0 → a = b
  | [], [], _ => rfl
  | [], _ :: _, h => by simp [cmpB, Lib.compareBytes] at h
  | _ :: _, [], h => by simp [cmpB, Lib.compareBytes] at h
  | x :: a, y :: b, h => by
    have h : Lib.compareBytes (x :: a) (y :: b) = 0 := h
    rw [Lib.compareBytes] at h
    split at h
    · simp at h
    · split at h
      · simp at h
      · rename_i h1 h2
        rw [byte_eq h1 h2, cmp_zero h]
theorem cmp_trans : ∀ {a b c : List UInt8}, cmpB a b ≤ 0 → cmpB b c ≤ 0 → cmpB a c ≤ 0
  | [], _, [], _, _ => by simp [cmpB, Lib.compareBytes]
  | [], _, _ :: _, _, _ => by simp [cmpB, Lib.compareBytes]
  | _ :: _, [], _, h, _ => by simp [cmpB, Lib.compareBytes] at h
  | _ :: _, _ :: _, [], _, h => by simp [cmpB, Lib.compareBytes] at h
  | x :: a, y :: b, z :: c, h, k => by
    have h : Lib.compareBytes (x :: a) (y :: b) ≤ 0 := h
    have k : Lib.compareBytes (y :: b) (z :: c) ≤ 0 := k
    show Lib.compareBytes (x :: a) (z :: c) ≤ 0
    rw [Lib.compareBytes] at h k ⊢
    have tr : ∀ {p q r : UInt8}, p < q → q < r → p < r := fun h1 h2 => UInt8.lt_trans h1 h2
    by_cases h1 : x < y
    · by_cases k1 : y < z
      · rw [if_pos (tr h1 k1)]; simp
      · by_cases k2 : z < y
        · rw [if_neg k1, if_pos k2] at k; simp at k
        · rw [← byte_eq k1 k2, if_pos h1]; simp
    · by_cases h2 : y < x
      · rw [if_neg h1, if_pos h2] at h; simp at h
      · have e := byte_eq h1 h2
        subst e
        rw [if_neg h1, if_neg h2] at h
        by_cases k1 : x < z
        · rw [if_pos k1]; simp
        · by_cases k2 : z < x
          · rw [if_neg k1, if_pos k2] at k; simp at k
          · rw [if_neg k1, if_neg k2] at k ⊢
            exact cmp_trans h k

def compF2 (x y : List UInt8 × List UInt8) : Int := if cmpB x.2 y.2 ≠ 0 then cmpB x.2 y.2 else cmpB x.1 y.1
theorem comp_self (x : List UInt8 × List UInt8) : compF2 x x = 0 := by unfold compF2; rw [cmp_self, cmp_self]; rfl
theorem comp_vals (x y : List UInt8 × List UInt8) : compF2 x y = -1 ∨ compF2 x y = 0 ∨ compF2 x y = 1 := by
  unfold compF2
  split
  · exact cmp_vals _ _
  · exact cmp_vals _ _
theorem comp_turn (x y : List UInt8 × List UInt8) : compF2 y x = -compF2 x y := by
  unfold compF2
  rw [cmp_turn x.2 y.2, cmp_turn x.1 y.1]
  by_cases h : cmpB x.2 y.2 = 0
  · rw [h]; rfl
  · rw [if_pos (by omega), if_pos h]
theorem comp_zero {x y : List UInt8 × List UInt8} : compF2 x y = 0 ↔ x = y := by
  constructor
  · intro h
    unfold compF2 at h
    split at h
    · contradiction
    · rename_i h1
      exact Prod.ext (cmp_zero h) (cmp_zero (by omega))
  · rintro rfl
    exact comp_self _
theorem comp_trans {x y z : List UInt8 × List UInt8} (h : compF2 x y ≤ 0) (k : compF2 y z ≤ 0) : compF2 x z ≤ 0 := by
  unfold compF2 at h k ⊢
  by_cases h1 : cmpB x.2 y.2 = 0
  · rw [if_neg (by omega)] at h
    have e1 := cmp_zero h1
    by_cases k1 : cmpB y.2 z.2 = 0
    · rw [if_neg (by omega)] at k
      have e2 := cmp_zero k1
      rw [e1, e2, cmp_self]
      exact cmp_trans h k
    · rw [if_pos k1] at k
      rw [e1, if_pos k1]
      exact k
  · rw [if_pos h1] at h
    by_cases k1 : cmpB y.2 z.2 = 0
    · have e2 := cmp_zero k1
      rw [← e2, if_pos h1]
      exact h
    · rw [if_pos k1] at k
      have h3 := cmp_trans h k
      have : cmpB x.2 z.2 ≠ 0 := fun h0 => by
        have e := cmp_zero h0
        have t := cmp_turn y.2 z.2
        rw [← e] at t k k1
        omega
      rw [if_pos this]
      exact h3

/-- An address's normal form. -/
def nF (a d : List UInt8) : List UInt8 × List UInt8 := (nrmL a, d.map lowB)
theorem same_nF (a d b e : List UInt8) : sameF a d b e = decide (nF a d = nF b e) := by
  unfold sameF nF
  rw [Bool.eq_iff_iff]
  simp

theorem scompare_w {s : SS} {a b : List UInt8} : CallW pr n_strings_Compare [str a, str b] s fun v s' => v = .int .i64 (cmpB a b) ∧ s' = s := by
  refine CallW.run good ok_strings_Compare (by simp) rfl ?_
  (repeat(first|refine pSeq ?_|refine pReg ?_|refine sRaw ?_|refine sCons ?_|refine sNil ?_|refine pRet ?_|refine gNone ?_))
  refine (show CallW pr n_internal_bytealg_CompareString [str a, str b] s fun v s' => v = .int .i64 (cmpB a b) ∧ s' = s from ?_).mono fun v s q => ?_
  · refine CallW.run good ok_internal_bytealg_CompareString (by simp) rfl ?_
    (repeat(first|refine pSeq ?_|refine pReg ?_|refine sRaw ?_|refine sCons ?_|refine sNil ?_|refine pRet ?_|refine gNone ?_))
    refine xtnS_W Go.Proofs.Tryd.func103 (by kernel_rfl) (by kernel_rfl) (by kernel_rfl) (by kernel_rfl) rfl rfl rfl rfl (fun w => by rw [Lib.run_compareString]) ?_
    (repeat(first|refine pSeq ?_|refine pReg ?_|refine sRaw ?_|refine sCons ?_|refine sNil ?_|refine pRet ?_|refine gNone ?_))
    exact ⟨rfl, rfl⟩
  obtain ⟨rfl, rfl⟩ := q
  (repeat(first|refine pSeq ?_|refine pReg ?_|refine sRaw ?_|refine sCons ?_|refine sNil ?_|refine pRet ?_|refine gNone ?_))
  exact ⟨rfl, rfl⟩

theorem or_w {s : SS} {b : Nat} {x y : Int} {t : TypeId} {g r : Bool} (hb : lookH s.heap b = some (.cells [.int .i64 x, .int .i64 y] t g r)) : CallW pr n_cmp_Or_int [.slice (some ⟨b, 0, none⟩) 2 2] s fun v s' => v = .int .i64 (if x ≠ 0 then x else y) ∧ s' = s := by
  refine CallW.run good ok_cmp_Or_int (by simp) rfl ?_
  (repeat(first|refine pSeq ?_|refine pReg ?_|refine sCons ?_|refine sNil ?_|refine pBlock ?_|refine pSkip ?_|refine pExit ?_|refine pRet ?_|refine pCond ?_|refine gNone ?_))
  refine pLoop (MW.head good (fun i : Nat => 2 - i) (fun i => i ≤ 2 ∧ (0 < i → x = 0) ∧ (1 < i → y = 0)) (fun i => [(3, .int .i64 0), (6, .slice (some ⟨b, 0, none⟩) 2 2), (7, .int .i64 2), (8, .int .i64 i)]) (fun i => s) 0 ⟨Nat.zero_le _, fun h => absurd h (by omega), fun h => absurd h (by omega)⟩ (Wk.same ⟨rfl, rfl, rfl, rfl, trivial⟩) ?_)
  intro i ⟨hi, hx, hy⟩
  (repeat(first|refine pSeq ?_|refine pReg ?_|refine sCons ?_|refine sNil ?_|refine pBlock ?_|refine pSkip ?_|refine pExit ?_|refine pRet ?_|refine pCond ?_|refine gNone ?_))
  intro q hq
  by_cases hlt : i < 2
  · obtain rfl : q = true := by rw [hq]; simp <;> omega
    (repeat(first|refine pSeq ?_|refine pReg ?_|refine sCons ?_|refine sNil ?_|refine pBlock ?_|refine pSkip ?_|refine pExit ?_|refine pRet ?_|refine pCond ?_|refine gNone ?_))
    refine ⟨by omega, ?_⟩
    intro m hm o ho
    obtain rfl : m = i := by omega
    (repeat(first|refine pSeq ?_|refine pReg ?_|refine sCons ?_|refine sNil ?_|refine pBlock ?_|refine pSkip ?_|refine pExit ?_|refine pRet ?_|refine pCond ?_|refine gNone ?_))
    refine ldI_is (z := if m = 0 then x else y) rfl hb (by
      rw [ho, Nat.zero_add, Nat.mul_one]
      obtain rfl | rfl : m = 0 ∨ m = 1 := by omega
      · rfl
      · rfl) ?_
    (repeat(first|refine pSeq ?_|refine pReg ?_|refine sCons ?_|refine sNil ?_|refine pBlock ?_|refine pSkip ?_|refine pExit ?_|refine pRet ?_|refine pCond ?_|refine gNone ?_))
    intro q hq
    by_cases h0 : (if m = 0 then x else y) = 0
    · rw [h0] at hq ⊢
      obtain rfl : q = false := by rw [hq]; rfl
      (repeat(first|refine pSeq ?_|refine pReg ?_|refine sCons ?_|refine sNil ?_|refine pBlock ?_|refine pSkip ?_|refine pExit ?_|refine pRet ?_|refine pCond ?_|refine gNone ?_))
      intro z hz
      rw [i64_id (by omega)] at hz
      obtain rfl : z = ((m + 1 : Nat) : Int) := by omega
      (repeat(first|refine pSeq ?_|refine pReg ?_|refine sCons ?_|refine sNil ?_|refine pBlock ?_|refine pSkip ?_|refine pExit ?_|refine pRet ?_|refine pCond ?_|refine gNone ?_))
      refine ⟨m + 1, ⟨hlt, fun _ => ?_, fun _ => ?_⟩, by show 2 - (m + 1) < 2 - m; omega, Wk.same ⟨rfl, rfl, rfl, rfl, trivial⟩⟩
      · obtain rfl | rfl : m = 0 ∨ m = 1 := by omega
        · exact h0
        · exact hx (by omega)
      · rw [if_neg (by omega)] at h0
        exact h0
    · obtain rfl : q = true := by rw [hq]; simpa using h0
      (repeat(first|refine pSeq ?_|refine pReg ?_|refine sCons ?_|refine sNil ?_|refine pBlock ?_|refine pSkip ?_|refine pExit ?_|refine pRet ?_|refine pCond ?_|refine gNone ?_))
      refine ⟨?_, rfl⟩
      obtain rfl | rfl : m = 0 ∨ m = 1 := by omega
      · rw [if_pos rfl] at h0 ⊢
        rw [if_pos h0]; rfl
      · rw [if_neg (by omega)] at h0 ⊢
        rw [if_neg (by simpa using hx (by omega))]; rfl
  · obtain rfl : q = false := by rw [hq]; simp <;> omega
    (repeat(first|refine pSeq ?_|refine pReg ?_|refine sCons ?_|refine sNil ?_|refine pBlock ?_|refine pSkip ?_|refine pExit ?_|refine pRet ?_|refine pCond ?_|refine gNone ?_))
    refine ⟨?_, rfl⟩
    rw [hx (by omega), hy (by omega)]
    rfl

theorem acompare_w {s : SS} {a d b e : List UInt8} (hF : Fine s) (ha : a.length ≤ 1000000) (hd : d.length ≤ 1000000) (hb : b.length ≤ 1000000) (he : e.length ≤ 1000000) : CallW pr n_addr_Compare [adV a d, adV b e] s fun v s' => v = .int .i64 (compF2 (nF a d) (nF b e)) ∧ Chg s s' [] := by
  refine CallW.run good ok_addr_Compare (by simp) rfl ?_
  (repeat(first|refine pSeq ?_|refine pReg ?_|refine sCons ?_|refine sNil ?_|refine rCons ?_|refine rNil ?_|refine kNo ?_|refine pRow ?_|refine pRet ?_|refine gNone ?_))
  have c0 : Chg s ⟨(s.next + 1, some (.cells [str b, str e] tAd false false)) :: (s.next, some (.cells [str a, str d] tAd false false)) :: s.heap, s.next + 1 + 1, s.gl⟩ [] := (Chg.new []).nil (.new _)
  refine ldN_is rfl (lkT (show s.next + 1 ≠ s.next by omega) lkH) agg2 ?_
  (repeat(first|refine pSeq ?_|refine pReg ?_|refine sCons ?_|refine sNil ?_|refine rCons ?_|refine rNil ?_|refine kNo ?_|refine pRow ?_|refine pRet ?_|refine gNone ?_))
  refine ldN_is rfl lkH agg2 ?_
  (repeat(first|refine pSeq ?_|refine pReg ?_|refine sCons ?_|refine sNil ?_|refine rCons ?_|refine rNil ?_|refine kNo ?_|refine pRow ?_|refine pRet ?_|refine gNone ?_))
  refine (normal_w ha hd).mono fun v s1 q => ?_
  obtain ⟨rfl, c1⟩ := q
  have hk : lookH s1.heap (s.next + 1) = some (.cells [str b, str e] tAd false false) := c1.blk _ _ (show s.next + 1 < s.next + 1 + 1 by omega) (by simp) lkH
  have hj : lookH s1.heap s.next = some (.cells [str a, str d] tAd false false) := c1.blk _ _ (show s.next < s.next + 1 + 1 by omega) (by simp) (lkT (show s.next + 1 ≠ s.next by omega) lkH)
  have n1 : s.next + 1 + 1 ≤ s1.next := c1.next
  refine kEach ⟨fun _ => ldN_is rfl hk agg2 rfl, trivial⟩ ?_
  (repeat(first|refine pSeq ?_|refine pReg ?_|refine sCons ?_|refine sNil ?_|refine rCons ?_|refine rNil ?_|refine kNo ?_|refine pRow ?_|refine pRet ?_|refine gNone ?_))
  refine (normal_w hb he).mono fun v s2 q => ?_
  obtain ⟨rfl, c2⟩ := q
  have n2 := c2.next
  have hk2 := c2.blk _ _ (show s.next + 1 < s1.next by omega) (by simp) hk
  have hj2 := c2.blk _ _ (show s.next < s1.next by omega) (by simp) hj
  (repeat(first|refine pSeq ?_|refine pReg ?_|refine sCons ?_|refine sNil ?_|refine rCons ?_|refine rNil ?_|refine kNo ?_|refine pRow ?_|refine pRet ?_|refine gNone ?_))
  refine st_abs (cs' := [str (nrmL a), str (d.map lowB)]) rfl rfl hj2 (by omega) rfl rfl fun s3 e3 c3 n3 => ?_
  (repeat(first|refine pSeq ?_|refine pReg ?_|refine sCons ?_|refine sNil ?_|refine rCons ?_|refine rNil ?_|refine kNo ?_|refine pRow ?_|refine pRet ?_|refine gNone ?_))
  refine st_abs (cs' := [str (nrmL b), str (e.map lowB)]) rfl rfl (c3.blk (s.next + 1) _ (show s.next + 1 < s2.next by omega) (by simp) hk2) (show s.next + 1 < s3.next by omega) rfl rfl fun s4 e4 c4 n4 => ?_
  have e4 : lookH s4.heap (s.next + 1) = some (.cells [str (nrmL b), str (e.map lowB)] tAd false false) := e4
  have e5 := c4.blk s.next _ (by omega) (by simp) e3
  have d4 : Chg s s4 [] := (((c0.nil c1).nil c2).fresh c3 (by simp)).fresh c4 (by simp)
  have f4 := d4.fine hF
  (repeat(first|refine pSeq ?_|refine pReg ?_|refine sCons ?_|refine sNil ?_|refine rCons ?_|refine rNil ?_|refine kNo ?_|refine pRow ?_|refine pRet ?_|refine gNone ?_))
  refine ldS_is rfl e5 rfl ?_
  (repeat(first|refine pSeq ?_|refine pReg ?_|refine sCons ?_|refine sNil ?_|refine rCons ?_|refine rNil ?_|refine kNo ?_|refine pRow ?_|refine pRet ?_|refine gNone ?_))
  refine ldS_is rfl e4 rfl ?_
  (repeat(first|refine pSeq ?_|refine pReg ?_|refine sCons ?_|refine sNil ?_|refine rCons ?_|refine rNil ?_|refine kNo ?_|refine pRow ?_|refine pRet ?_|refine gNone ?_))
  refine ldS_is rfl e5 rfl ?_
  (repeat(first|refine pSeq ?_|refine pReg ?_|refine sCons ?_|refine sNil ?_|refine rCons ?_|refine rNil ?_|refine kNo ?_|refine pRow ?_|refine pRet ?_|refine gNone ?_))
  refine ldS_is rfl e4 rfl ?_
  (repeat(first|refine pSeq ?_|refine pReg ?_|refine sCons ?_|refine sNil ?_|refine rCons ?_|refine rNil ?_|refine kNo ?_|refine pRow ?_|refine pRet ?_|refine gNone ?_))
  refine scompare_w.mono fun v s5 q => ?_
  obtain ⟨rfl, rfl⟩ := q
  refine kAll .refl ?_
  (repeat(first|refine pSeq ?_|refine pReg ?_|refine sCons ?_|refine sNil ?_|refine rCons ?_|refine rNil ?_|refine kNo ?_|refine pRow ?_|refine pRet ?_|refine gNone ?_))
  refine scompare_w.mono fun v s5 q => ?_
  obtain ⟨rfl, rfl⟩ := q
  (repeat(first|refine pSeq ?_|refine pReg ?_|refine sCons ?_|refine sNil ?_|refine rCons ?_|refine rNil ?_|refine kNo ?_|refine pRow ?_|refine pRet ?_|refine gNone ?_))
  refine mkS_is rfl rfl (rNew f4.at ?_)
  (repeat(first|refine pSeq ?_|refine pReg ?_|refine sCons ?_|refine sNil ?_|refine rCons ?_|refine rNil ?_|refine kNo ?_|refine pRow ?_|refine pRet ?_|refine gNone ?_))
  refine (or_w lkH).mono fun v s6 q => ?_
  obtain ⟨rfl, rfl⟩ := q
  (repeat(first|refine pSeq ?_|refine pReg ?_|refine sCons ?_|refine sNil ?_|refine rCons ?_|refine rNil ?_|refine kNo ?_|refine pRow ?_|refine pRet ?_|refine gNone ?_))
  exact ⟨rfl, d4.nil (.new _)⟩

theorem few_w {s : SS} {a d : List UInt8} : CallW pr n_law05_Few [adV a d] s fun v s' => v = adV (a.take 80) (d.take 300) ∧ Chg s s' [] := by
  refine CallW.run good ok_law05_Few (by simp) rfl ?_
  (repeat(first|refine pSeq ?_|refine pReg ?_|refine sCons ?_|refine sNil ?_|refine rCons ?_|refine rNil ?_|refine kNo ?_|refine pRow ?_|refine pRet ?_|refine gNone ?_))
  have hk : lookH ((s.next + 1, some (.cells [str [], str []] tAd false false)) :: (s.next, some (.cells [str a, str d] tAd false false)) :: s.heap) s.next = some (.cells [str a, str d] tAd false false) := lkT (show s.next + 1 ≠ s.next by omega) lkH
  refine ldS_is rfl hk rfl ?_
  (repeat(first|refine pSeq ?_|refine pReg ?_|refine sCons ?_|refine sNil ?_|refine rCons ?_|refine rNil ?_|refine kNo ?_|refine pRow ?_|refine pRet ?_|refine gNone ?_))
  refine ldS_is rfl hk rfl ?_
  (repeat(first|refine pSeq ?_|refine pReg ?_|refine sCons ?_|refine sNil ?_|refine rCons ?_|refine rNil ?_|refine kNo ?_|refine pRow ?_|refine pRet ?_|refine gNone ?_))
  intro n hn
  (repeat(first|refine pSeq ?_|refine pReg ?_|refine sCons ?_|refine sNil ?_|refine rCons ?_|refine rNil ?_|refine kNo ?_|refine pRow ?_|refine pRet ?_|refine gNone ?_))
  intro z hz
  (repeat(first|refine pSeq ?_|refine pReg ?_|refine sCons ?_|refine sNil ?_|refine rCons ?_|refine rNil ?_|refine kNo ?_|refine pRow ?_|refine pRet ?_|refine gNone ?_))
  refine ⟨by omega, ?_⟩
  intro m hm x hx
  have ex : x = a.take 80 := by
    rw [hx, List.drop_zero, Nat.sub_zero]
    rcases Nat.lt_or_ge a.length 80 with q | q
    · rw [List.take_of_length_le (by omega), List.take_of_length_le (by omega)]
    · rw [show m = 80 by omega]
  clear hx
  subst ex
  (repeat(first|refine pSeq ?_|refine pReg ?_|refine sCons ?_|refine sNil ?_|refine rCons ?_|refine rNil ?_|refine kNo ?_|refine pRow ?_|refine pRet ?_|refine gNone ?_))
  refine ldS_is rfl hk rfl ?_
  (repeat(first|refine pSeq ?_|refine pReg ?_|refine sCons ?_|refine sNil ?_|refine rCons ?_|refine rNil ?_|refine kNo ?_|refine pRow ?_|refine pRet ?_|refine gNone ?_))
  refine ldS_is rfl hk rfl ?_
  (repeat(first|refine pSeq ?_|refine pReg ?_|refine sCons ?_|refine sNil ?_|refine rCons ?_|refine rNil ?_|refine kNo ?_|refine pRow ?_|refine pRet ?_|refine gNone ?_))
  intro n2 hn2
  (repeat(first|refine pSeq ?_|refine pReg ?_|refine sCons ?_|refine sNil ?_|refine rCons ?_|refine rNil ?_|refine kNo ?_|refine pRow ?_|refine pRet ?_|refine gNone ?_))
  intro z2 hz2
  (repeat(first|refine pSeq ?_|refine pReg ?_|refine sCons ?_|refine sNil ?_|refine rCons ?_|refine rNil ?_|refine kNo ?_|refine pRow ?_|refine pRet ?_|refine gNone ?_))
  refine ⟨by omega, ?_⟩
  intro m2 hm2 y hy
  have ey : y = d.take 300 := by
    rw [hy, List.drop_zero, Nat.sub_zero]
    rcases Nat.lt_or_ge d.length 300 with q | q
    · rw [List.take_of_length_le (by omega), List.take_of_length_le (by omega)]
    · rw [show m2 = 300 by omega]
  clear hy
  subst ey
  (repeat(first|refine pSeq ?_|refine pReg ?_|refine sCons ?_|refine sNil ?_|refine rCons ?_|refine rNil ?_|refine kNo ?_|refine pRow ?_|refine pRet ?_|refine gNone ?_))
  refine st_abs (cs' := [str (a.take 80), str (d.take 300)]) rfl rfl lkH (show s.next + 1 < s.next + 1 + 1 by omega) rfl rfl fun s5 e5 c5 n5 => ?_
  (repeat(first|refine pSeq ?_|refine pReg ?_|refine sCons ?_|refine sNil ?_|refine rCons ?_|refine rNil ?_|refine kNo ?_|refine pRow ?_|refine pRet ?_|refine gNone ?_))
  (repeat (first | with_reducible refine sqRet ?_ | with_reducible refine bkRet ?_ | with_reducible refine hdRet ?_))
  exact ret_cell1 agg_Ad sz_Ad rfl e5 agg2 ⟨rfl, ((Chg.new []).nil (.new _)).fresh c5 (by simp)⟩

theorem sign_w {s : SS} {n : Int} : CallW pr n_law05_sign [.int .i64 n] s fun v s' => v = .int .i64 (max (min n 1) (-1)) ∧ s' = s := by
  refine CallW.run good ok_law05_sign (by simp) rfl ?_
  (repeat(first|refine pSeq ?_|refine pReg ?_|refine sCons ?_|refine sNil ?_|refine pRet ?_|refine gNone ?_))
  intro z hz
  (repeat(first|refine pSeq ?_|refine pReg ?_|refine sCons ?_|refine sNil ?_|refine pRet ?_|refine gNone ?_))
  intro z2 hz2
  (repeat(first|refine pSeq ?_|refine pReg ?_|refine sCons ?_|refine sNil ?_|refine pRet ?_|refine gNone ?_))
  subst hz2 hz
  exact ⟨rfl, rfl⟩
end Go.Vf.S

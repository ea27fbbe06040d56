import Derived.Test.YtphcpdopfolopaaDoorCoG
/- Letters gone through, bytes gone through: what is done with the bits is a function that is handed in, with what it caught. -/
namespace Go.Vf.S
open Go Go.Vf Go.Proofs Go.RowKit
attribute [local irreducible] wSeq wRow wp wG
set_option linter.unusedVariables false
set_option linter.unusedSimpArgs false
set_option maxRecDepth 10000

abbrev u64V (n : Nat) : Value := .int .u64 (n : Int)
/-- A function and what it caught. -/
abbrev clV (f : Nat) (cs : List Value) : Value := .func (.func f) ⟨[]⟩ ⟨cs⟩
theorem callV_cs {f : FuncId} {m : MF} (h : compF pr f = some m) (cs : List Value) (x : Value) : callV pr (clV f cs) [x] = some (.enter f (x :: cs)) := by
  have e := h
  unfold compF at e
  unfold callV clV
  split at e
  · cases e
  · rename_i fn hfn
    split at e
    · cases e
    · rename_i code hcode
      simp only [hfn, hcode, Option.isSome_some, cond_true, List.nil_append, List.cons_append]

theorem plcI_some {z : Nat} {c : UInt8} {d : Nat} (h : plcF z c = some d) : plcI z c = (d : Int) := by unfold plcI; rw [h]
theorem plcI_none {z : Nat} {c : UInt8} (h : plcF z c = none) : plcI z c = -1 := by unfold plcI; rw [h]

theorem chg_same {a b c : SS} {A : List Nat} (h : Chg a b A) (k : Chg b c A) : Chg a c A := h.trans' k (fun _ q _ => q) fun _ q _ => q
/-- Letters, one by one: what is done with each one's place. -/
theorem each_w {s : SS} {z : Nat} {l : List UInt8} {g : Nat} {cs : List Value} {A : List Nat} (f : Fine s) (hz : 4 ≤ z ∧ z ≤ 6) (hl : l.length ≤ 1000000) (J : List Nat → SS → Prop)
    (hf : ∀ x, callV pr (clV g cs) [x] = some (.enter g (x :: cs))) (hA : ∀ id ∈ A, id < s.next) (h0 : J [] s) (hJ : ∀ p s1 s2, J p s1 → Chg s1 s2 [] → J p s2)
    (hc : ∀ p d s1, p.length < l.length → d < 2 ^ z → J p s1 → Fine s1 → Chg s s1 A → CallW pr g (u64V d :: cs) s1 fun v s2 => v = .tuple #[] ∧ J (p ++ [d]) s2 ∧ Chg s1 s2 A) :
    CallW pr n_coding_kind_each [kA z, str l, clV g cs] s fun v s' => Chg s s' A ∧ match plcs z l with | some p => v = .bool true ∧ J p s' | none => v = .bool false := by
  refine CallW.run good ok_coding_kind_each (by simp) rfl ?_
  obtain ⟨k0, c0, f0⟩ := new1_at f (.cells (kV z) tKd false false)
  have j0 := hJ _ _ _ h0 c0
  (repeat(first|refine pSeq ?_|refine pReg ?_|refine sCons ?_|refine sNil ?_|refine rCons ?_|refine rNil ?_|refine kNo ?_|refine pRow ?_|refine pBlock ?_|refine pSkip ?_|refine pExit ?_|refine pRet ?_|refine pCond ?_|refine gNone ?_))
  intro n hn
  subst hn
  (repeat(first|refine pSeq ?_|refine pReg ?_|refine sCons ?_|refine sNil ?_|refine rCons ?_|refine rNil ?_|refine kNo ?_|refine pRow ?_|refine pBlock ?_|refine pSkip ?_|refine pExit ?_|refine pRet ?_|refine pCond ?_|refine gNone ?_))
  refine pLoop (MW.head good (fun x : Nat × SS => l.length - x.1) (fun x => x.1 ≤ l.length ∧ Chg s x.2 A ∧ lookH x.2.heap s.next = some (.cells (kV z) tKd false false) ∧ s.next < x.2.next ∧ ∃ p, plcs z (l.take x.1) = some p ∧ J p x.2)
    (fun x => [(1, str l), (2, clV g cs), (3, ptrV s.next), (10, .int .i64 l.length), (11, .int .i64 x.1)]) (fun x => x.2) (0, _) ⟨Nat.zero_le _, c0.sub (by simp), k0, Nat.lt_succ_self _, [], rfl, j0⟩ (Wk.same ⟨rfl, rfl, rfl, rfl, rfl, trivial⟩) ?_)
  clear k0 c0 f0 j0
  intro ⟨i, s1⟩ ⟨hi, c1, k1, n1, p, hp, j1⟩
  dsimp only at hi c1 k1 n1 hp j1 ⊢
  have f1 := c1.fine f
  (repeat(first|refine pSeq ?_|refine pReg ?_|refine sCons ?_|refine sNil ?_|refine rCons ?_|refine rNil ?_|refine kNo ?_|refine pRow ?_|refine pBlock ?_|refine pSkip ?_|refine pExit ?_|refine pRet ?_|refine pCond ?_|refine gNone ?_))
  intro q hq
  by_cases h5 : i = l.length
  · subst h5
    rw [List.take_length] at hp
    obtain rfl : q = false := by rw [hq]; simp <;> omega
    (repeat(first|refine pSeq ?_|refine pReg ?_|refine sCons ?_|refine sNil ?_|refine rCons ?_|refine rNil ?_|refine kNo ?_|refine pRow ?_|refine pBlock ?_|refine pSkip ?_|refine pExit ?_|refine pRet ?_|refine pCond ?_|refine gNone ?_))
    rw [hp]
    exact ⟨c1, rfl, j1⟩
  obtain rfl : q = true := by rw [hq]; simp <;> omega
  (repeat(first|refine pSeq ?_|refine pReg ?_|refine sCons ?_|refine sNil ?_|refine rCons ?_|refine rNil ?_|refine kNo ?_|refine pRow ?_|refine pBlock ?_|refine pSkip ?_|refine pExit ?_|refine pRet ?_|refine pCond ?_|refine gNone ?_))
  obtain ⟨c, hcc⟩ : ∃ c, l[i]? = some c := ⟨_, List.getElem?_eq_getElem (by omega)⟩
  refine ldN_is rfl k1 (kv_take z) ?_
  (repeat(first|refine pSeq ?_|refine pReg ?_|refine sCons ?_|refine sNil ?_|refine rCons ?_|refine rNil ?_|refine kNo ?_|refine pRow ?_|refine pBlock ?_|refine pSkip ?_|refine pExit ?_|refine pRet ?_|refine pCond ?_|refine gNone ?_))
  refine ⟨by omega, ?_⟩
  intro m hm
  obtain rfl : m = i := by omega
  refine ⟨c, hcc, ?_⟩
  (repeat(first|refine pSeq ?_|refine pReg ?_|refine sCons ?_|refine sNil ?_|refine rCons ?_|refine rNil ?_|refine kNo ?_|refine pRow ?_|refine pBlock ?_|refine pSkip ?_|refine pExit ?_|refine pRet ?_|refine pCond ?_|refine gNone ?_))
  refine (place_w (c := c) f1 hz).mono fun v s2 q => ?_
  obtain ⟨rfl, c2⟩ := q
  have f2 := c2.fine f1
  have n2 : s.next < s2.next := Nat.lt_of_lt_of_le n1 c2.next
  have k2 := c2.blk _ _ n1 (by simp) k1
  have j2 := hJ _ _ _ j1 c2
  have c12 : Chg s s2 A := chg_same c1 (c2.sub (by simp))
  (repeat(first|refine pSeq ?_|refine pReg ?_|refine sCons ?_|refine sNil ?_|refine rCons ?_|refine rNil ?_|refine kNo ?_|refine pRow ?_|refine pBlock ?_|refine pSkip ?_|refine pExit ?_|refine pRet ?_|refine pCond ?_|refine gNone ?_))
  have hpn : l.take (m + 1) = l.take m ++ [c] := take_next hcc
  intro q hq
  cases hd : plcF z c with
  | none =>
    obtain rfl : q = true := by rw [hq, plcI_none hd]; simp
    (repeat(first|refine pSeq ?_|refine pReg ?_|refine sCons ?_|refine sNil ?_|refine rCons ?_|refine rNil ?_|refine kNo ?_|refine pRow ?_|refine pBlock ?_|refine pSkip ?_|refine pExit ?_|refine pRet ?_|refine pCond ?_|refine gNone ?_))
    rw [plcs_none hcc hd]
    exact ⟨c12, rfl⟩
  | some d =>
    have hdl := (let_plc hz hd).1
    have h64 : 2 ^ z ≤ 64 := by rcases (show z = 4 ∨ z = 5 ∨ z = 6 by omega) with rfl | rfl | rfl <;> decide
    have hplen : p.length = m := by rw [plcs_len hp, List.length_take]; omega
    obtain rfl : q = false := by rw [hq, plcI_some hd]; simp
    (repeat(first|refine pSeq ?_|refine pReg ?_|refine sCons ?_|refine sNil ?_|refine rCons ?_|refine rNil ?_|refine kNo ?_|refine pRow ?_|refine pBlock ?_|refine pSkip ?_|refine pExit ?_|refine pRet ?_|refine pCond ?_|refine gNone ?_))
    intro w hw
    rw [plcI_some hd, u64_id (by omega)] at hw
    subst hw
    (repeat(first|refine pSeq ?_|refine pReg ?_|refine sCons ?_|refine sNil ?_|refine rCons ?_|refine rNil ?_|refine kNo ?_|refine pRow ?_|refine pBlock ?_|refine pSkip ?_|refine pExit ?_|refine pRet ?_|refine pCond ?_|refine gNone ?_))
    refine ⟨.call g (u64V d :: cs), hf _, ?_⟩
    refine (hc p d s2 (by omega) hdl j2 f2 c12).mono fun v s3 q => ?_
    obtain ⟨rfl, j3, c3⟩ := q
    have c13 : Chg s s3 A := chg_same c12 c3
    have k3 := c3.blk _ _ n2 (fun h => by have := hA _ h; omega) k2
    (repeat(first|refine pSeq ?_|refine pReg ?_|refine sCons ?_|refine sNil ?_|refine rCons ?_|refine rNil ?_|refine kNo ?_|refine pRow ?_|refine pBlock ?_|refine pSkip ?_|refine pExit ?_|refine pRet ?_|refine pCond ?_|refine gNone ?_))
    intro w hw
    rw [i64_id (by omega)] at hw
    obtain rfl : w = ((m + 1 : Nat) : Int) := by omega
    (repeat(first|refine pSeq ?_|refine pReg ?_|refine sCons ?_|refine sNil ?_|refine rCons ?_|refine rNil ?_|refine kNo ?_|refine pRow ?_|refine pBlock ?_|refine pSkip ?_|refine pExit ?_|refine pRet ?_|refine pCond ?_|refine gNone ?_))
    exact ⟨(m + 1, s3), ⟨by omega, c13, k3, Nat.lt_of_lt_of_le n2 c3.next, p ++ [d], by rw [hpn, plcs_snoc, hp, hd], j3⟩, by show l.length - (m + 1) < l.length - m; omega, Wk.same ⟨rfl, rfl, rfl, rfl, rfl, trivial⟩⟩

/-- Bytes, one by one: what is done with the bits of each letter. -/
theorem part_w {s : SS} {z : Nat} {base : Option Addr} {n cap : Nat} {b : List UInt8} {g : Nat} {cs : List Value} {A : List Nat} (f : Fine s) (hz : 4 ≤ z ∧ z ≤ 6) (hr : Rdb s base n b) (hl : n ≤ 1000000) (J : List Nat → SS → Prop)
    (hf : ∀ x, callV pr (clV g cs) [x] = some (.enter g (x :: cs))) (hA : ∀ id ∈ A, id < s.next) (hbA : ∀ id ∈ blkOf base, id ∉ A) (h0 : J [] s) (hJ : ∀ p s1 s2, J p s1 → Chg s1 s2 [] → J p s2)
    (hc : ∀ p d s1, p.length < cnt z b.length → d < 2 ^ z → J p s1 → Fine s1 → Chg s s1 A → CallW pr g (u64V d :: cs) s1 fun v s2 => v = .tuple #[] ∧ J (p ++ [d]) s2 ∧ Chg s1 s2 A) :
    CallW pr n_coding_kind_part [kA z, .slice base n cap, clV g cs] s fun v s' => v = .tuple #[] ∧ Chg s s' A ∧ J (tellP z b) s' := by
  have hn := hr.1
  refine CallW.run good ok_coding_kind_part (by simp) rfl ?_
  obtain ⟨k0, c0, f0⟩ := new1_at f (.cells (kV z) tKd false false)
  have j0 := hJ _ _ _ h0 c0
  (repeat(first|refine pSeq ?_|refine pReg ?_|refine sCons ?_|refine sNil ?_|refine pBlock ?_|refine pSkip ?_|refine pExit ?_|refine pCond ?_|refine gNone ?_))
  refine pLoop (MW.head good (fun x : Nat × Nat × SS => n - x.1) (fun x => x.1 ≤ n ∧ x.2.1 < z ∧ Chg s x.2.2 A ∧ lookH x.2.2.heap s.next = some (.cells (kV z) tKd false false) ∧ s.next < x.2.2.next ∧ ∃ e, z * e + x.2.1 = 8 * x.1 ∧ J (tlO z (b.take x.1) x.2.1 e) x.2.2)
    (fun x => [(2, clV g cs), (3, ptrV s.next), (6, u64V (tlN (b.take x.1) x.2.1)), (7, u64V x.2.1), (10, .slice base n cap), (11, .int .i64 n), (12, .int .i64 x.1)]) (fun x => x.2.2) (0, 0, _) ⟨Nat.zero_le _, by show 0 < z; omega, c0.sub (by simp), k0, Nat.lt_succ_self _, 0, rfl, j0⟩ (Wk.same ⟨rfl, rfl, rfl, rfl, rfl, rfl, rfl, trivial⟩) ?_)
  clear k0 c0 f0 j0
  intro ⟨i, m, s1⟩ ⟨hi, hm, c1, k1, n1, e, he8, j1⟩
  dsimp only at hi hm c1 k1 n1 he8 j1 ⊢
  have f1 := c1.fine f
  (repeat(first|refine pSeq ?_|refine pReg ?_|refine sCons ?_|refine sNil ?_|refine pBlock ?_|refine pSkip ?_|refine pExit ?_|refine pCond ?_|refine gNone ?_))
  intro q hq
  by_cases h5 : i = n
  · subst h5
    rw [List.take_of_length_le (by omega)] at j1
    rw [List.take_of_length_le (by omega)]
    rw [hn] at he8
    obtain rfl : q = false := by rw [hq]; simp <;> omega
    (repeat(first|refine pSeq ?_|refine pReg ?_|refine sCons ?_|refine sNil ?_|refine pBlock ?_|refine pSkip ?_|refine pExit ?_|refine pCond ?_|refine gNone ?_))
    intro q hq
    by_cases h0 : m = 0
    · subst h0
      obtain rfl : q = false := by rw [hq]; rfl
      (repeat(first|refine pSeq ?_|refine pReg ?_|refine sCons ?_|refine sNil ?_|refine pBlock ?_|refine pSkip ?_|refine pExit ?_|refine pCond ?_|refine gNone ?_))
      refine ⟨rfl, c1, ?_⟩
      rw [← tl_end hz b he8]
      exact j1
    · obtain ⟨l1, l2⟩ := tl_last hz b he8 (by omega) hm
      have l3 := tl_lt b m
      have h64 : 2 ^ z ≤ 64 := by rcases (show z = 4 ∨ z = 5 ∨ z = 6 by omega) with rfl | rfl | rfl <;> decide
      obtain rfl : q = true := by rw [hq]; simp; omega
      (repeat(first|refine pSeq ?_|refine pReg ?_|refine sCons ?_|refine sNil ?_|refine pBlock ?_|refine pSkip ?_|refine pExit ?_|refine pCond ?_|refine gNone ?_))
      refine ldI_is rfl k1 (kv1 z) ?_
      (repeat(first|refine pSeq ?_|refine pReg ?_|refine sCons ?_|refine sNil ?_|refine pBlock ?_|refine pSkip ?_|refine pExit ?_|refine pCond ?_|refine gNone ?_))
      intro w hw
      rw [u64_id (by omega)] at hw
      obtain rfl : w = ((z - m : Nat) : Int) := by omega
      (repeat(first|refine pSeq ?_|refine pReg ?_|refine sCons ?_|refine sNil ?_|refine pBlock ?_|refine pSkip ?_|refine pExit ?_|refine pCond ?_|refine gNone ?_))
      refine ⟨by omega, ?_⟩
      intro w hw
      obtain rfl := shl_64 (by omega) (by omega) hw
      (repeat(first|refine pSeq ?_|refine pReg ?_|refine sCons ?_|refine sNil ?_|refine pBlock ?_|refine pSkip ?_|refine pExit ?_|refine pCond ?_|refine gNone ?_))
      refine ⟨.call g (u64V (tlN b m * 2 ^ (z - m)) :: cs), hf _, ?_⟩
      refine (hc _ _ s1 ?_ l2 j1 f1 c1).mono fun v s3 q => ?_
      · rw [← tellP_len, ← l1, List.length_append, List.length_singleton]; exact Nat.lt_succ_self _
      obtain ⟨rfl, j3, c3⟩ := q
      (repeat(first|refine pSeq ?_|refine pReg ?_|refine sCons ?_|refine sNil ?_|refine pBlock ?_|refine pSkip ?_|refine pExit ?_|refine pCond ?_|refine gNone ?_))
      refine ⟨rfl, chg_same c1 c3, ?_⟩
      rw [← l1]
      exact j3
  obtain rfl : q = true := by rw [hq]; simp <;> omega
  (repeat(first|refine pSeq ?_|refine pReg ?_|refine sCons ?_|refine sNil ?_|refine pBlock ?_|refine pSkip ?_|refine pExit ?_|refine pCond ?_|refine gNone ?_))
  have hin : i < b.length := by omega
  obtain ⟨c, hcc⟩ : ∃ c, b[i]? = some c := ⟨_, List.getElem?_eq_getElem hin⟩
  have hcn := c.toNat_lt
  have hpn : b.take (i + 1) = b.take i ++ [c] := take_next hcc
  have l3 := tl_lt (b.take i) m
  have h64 : 2 ^ m ≤ 32 := by rcases (show m = 0 ∨ m = 1 ∨ m = 2 ∨ m = 3 ∨ m = 4 ∨ m = 5 by omega) with rfl | rfl | rfl | rfl | rfl | rfl <;> decide
  obtain ⟨t1, t2⟩ := tl_in z (b.take i) m e c
  rw [← hpn] at t1 t2
  cases base with
  | none => exact absurd hn (by have := hr.2; simp only at this; subst this; simp at hin)
  | some a =>
  obtain ⟨bk, off, sp⟩ := a
  have hr1 := hr.chg c1 hbA
  obtain ⟨rfl, cc, t, gg, rr, hb1, hat⟩ := hr1.at
  have hby : cc[off + i]? = some (.int .u8 c.toNat) := by
    rw [hat i (by omega), List.getD_eq_getElem?_getD, hcc]; rfl
  refine ⟨by omega, ?_⟩
  intro w hw o ho
  obtain rfl : w = i := by omega
  (repeat(first|refine pSeq ?_|refine pReg ?_|refine sCons ?_|refine sNil ?_|refine pBlock ?_|refine pSkip ?_|refine pExit ?_|refine pCond ?_|refine gNone ?_))
  refine ldI_is rfl hb1 (by rw [ho, Nat.mul_one]; exact hby) ?_
  (repeat(first|refine pSeq ?_|refine pReg ?_|refine sCons ?_|refine sNil ?_|refine pBlock ?_|refine pSkip ?_|refine pExit ?_|refine pCond ?_|refine gNone ?_))
  intro w1 hw1
  have h5b : tlN (b.take w) m * 2 ^ 8 + c.toNat < 2 ^ 14 := by omega
  obtain rfl : w1 = ((tlN (b.take w) m * 2 ^ 8 : Nat) : Int) := by rw [hw1, pow_cast, ← Int.natCast_mul, u64_id (by omega)]
  (repeat(first|refine pSeq ?_|refine pReg ?_|refine sCons ?_|refine sNil ?_|refine pBlock ?_|refine pSkip ?_|refine pExit ?_|refine pCond ?_|refine gNone ?_))
  intro w2 hw2
  rw [u64_id (by omega)] at hw2
  subst hw2
  (repeat(first|refine pSeq ?_|refine pReg ?_|refine sCons ?_|refine sNil ?_|refine pBlock ?_|refine pSkip ?_|refine pExit ?_|refine pCond ?_|refine gNone ?_))
  intro w3 hw3
  obtain rfl := or_64 hcn (by omega) hw3
  (repeat(first|refine pSeq ?_|refine pReg ?_|refine sCons ?_|refine sNil ?_|refine pBlock ?_|refine pSkip ?_|refine pExit ?_|refine pCond ?_|refine gNone ?_))
  intro w4 hw4
  rw [u64_id (by omega)] at hw4
  obtain rfl : w4 = ((m + 8 : Nat) : Int) := by omega
  rw [← t1]
  rw [← t2] at j1
  (repeat(first|refine pSeq ?_|refine pReg ?_|refine sCons ?_|refine sNil ?_|refine pBlock ?_|refine pSkip ?_|refine pExit ?_|refine pCond ?_|refine gNone ?_))
  refine pLoop (MW.head good (fun x : Nat × Nat × SS => x.1) (fun x => x.1 < z + 8 ∧ z * x.2.1 + x.1 = 8 * (w + 1) ∧ Chg s x.2.2 A ∧ lookH x.2.2.heap s.next = some (.cells (kV z) tKd false false) ∧ s.next < x.2.2.next ∧ J (tlO z (b.take (w + 1)) x.1 x.2.1) x.2.2)
    (fun x => [(2, clV g cs), (3, ptrV s.next), (6, u64V (tlN (b.take (w + 1)) x.1)), (7, u64V x.1), (10, .slice (some ⟨bk, off, none⟩) n cap), (11, .int .i64 n), (12, .int .i64 w)]) (fun x => x.2.2) (m + 8, e, s1) ⟨by show m + 8 < z + 8; omega, by show z * e + (m + 8) = 8 * (w + 1); omega, c1, k1, n1, j1⟩ (Wk.same ⟨rfl, rfl, rfl, rfl, rfl, rfl, rfl, trivial⟩) ?_)
  clear c1 k1 n1 j1 hb1 hat hr1 f1 he8 t1 t2 hby l3 h5b hw1
  intro ⟨m1, e1, s2⟩ ⟨hm1, he1, c1, k1, n1, j1⟩
  dsimp only at hm1 he1 c1 k1 n1 j1 ⊢
  have f2 := c1.fine f
  (repeat(first|refine pSeq ?_|refine pReg ?_|refine sCons ?_|refine sNil ?_|refine pBlock ?_|refine pSkip ?_|refine pExit ?_|refine pCond ?_|refine gNone ?_))
  refine ldI_is rfl k1 (kv1 z) ?_
  (repeat(first|refine pSeq ?_|refine pReg ?_|refine sCons ?_|refine sNil ?_|refine pBlock ?_|refine pSkip ?_|refine pExit ?_|refine pCond ?_|refine gNone ?_))
  intro q hq
  by_cases hzm : z ≤ m1
  · obtain ⟨o1, o2, o3⟩ := tl_out (b.take (w + 1)) e1 hzm
    have l3 := tl_lt (b.take (w + 1)) m1
    have h14 : 2 ^ m1 ≤ 2 ^ 14 := Nat.pow_le_pow_right (by decide) (by omega)
    have h11 : 2 ^ (m1 - z) ≤ 2 ^ 14 := Nat.pow_le_pow_right (by decide) (by omega)
    have h12 : 0 < 2 ^ (m1 - z) := Nat.two_pow_pos _
    obtain rfl : q = true := by rw [hq]; simp <;> omega
    (repeat(first|refine pSeq ?_|refine pReg ?_|refine sCons ?_|refine sNil ?_|refine pBlock ?_|refine pSkip ?_|refine pExit ?_|refine pCond ?_|refine gNone ?_))
    refine ldI_is rfl k1 (kv1 z) ?_
    (repeat(first|refine pSeq ?_|refine pReg ?_|refine sCons ?_|refine sNil ?_|refine pBlock ?_|refine pSkip ?_|refine pExit ?_|refine pCond ?_|refine gNone ?_))
    intro w5 hw5
    rw [u64_id (by omega)] at hw5
    obtain rfl : w5 = ((m1 - z : Nat) : Int) := by omega
    (repeat(first|refine pSeq ?_|refine pReg ?_|refine sCons ?_|refine sNil ?_|refine pBlock ?_|refine pSkip ?_|refine pExit ?_|refine pCond ?_|refine gNone ?_))
    refine ⟨by omega, ?_⟩
    intro w6 hw6
    obtain rfl := shr_64 (by omega) hw6
    (repeat(first|refine pSeq ?_|refine pReg ?_|refine sCons ?_|refine sNil ?_|refine pBlock ?_|refine pSkip ?_|refine pExit ?_|refine pCond ?_|refine gNone ?_))
    refine ⟨.call g (u64V (tlN (b.take (w + 1)) m1 / 2 ^ (m1 - z)) :: cs), hf _, ?_⟩
    refine (hc _ _ s2 ?_ o3 j1 f2 c1).mono fun v s3 q => ?_
    · have hlen : (tlO z (b.take (w + 1)) m1 e1).length = e1 := dgs_len _ _ _
      rw [hlen]
      unfold cnt
      rcases (show z = 4 ∨ z = 5 ∨ z = 6 by omega) with rfl | rfl | rfl <;> omega
    obtain ⟨rfl, j3, c3⟩ := q
    rw [← o2] at j3
    have k3 := c3.blk _ _ n1 (fun h => by have := hA _ h; omega) k1
    (repeat(first|refine pSeq ?_|refine pReg ?_|refine sCons ?_|refine sNil ?_|refine pBlock ?_|refine pSkip ?_|refine pExit ?_|refine pCond ?_|refine gNone ?_))
    refine ⟨by omega, ?_⟩
    intro w7 hw7
    obtain rfl := shl_64 (a := 1) (by omega) (by omega) hw7
    (repeat(first|refine pSeq ?_|refine pReg ?_|refine sCons ?_|refine sNil ?_|refine pBlock ?_|refine pSkip ?_|refine pExit ?_|refine pCond ?_|refine gNone ?_))
    intro w8 hw8
    rw [u64_id (by omega)] at hw8
    obtain rfl : w8 = ((2 ^ (m1 - z) - 1 : Nat) : Int) := by omega
    (repeat(first|refine pSeq ?_|refine pReg ?_|refine sCons ?_|refine sNil ?_|refine pBlock ?_|refine pSkip ?_|refine pExit ?_|refine pCond ?_|refine gNone ?_))
    intro w9 hw9
    obtain rfl := and_64 (by omega) (by omega) hw9
    rw [← o1]
    (repeat(first|refine pSeq ?_|refine pReg ?_|refine sCons ?_|refine sNil ?_|refine pBlock ?_|refine pSkip ?_|refine pExit ?_|refine pCond ?_|refine gNone ?_))
    exact ⟨(m1 - z, e1 + 1, s3), ⟨by show m1 - z < z + 8; omega, by show z * (e1 + 1) + (m1 - z) = _; rw [Nat.mul_succ]; omega, chg_same c1 c3, k3, Nat.lt_of_lt_of_le n1 c3.next, j3⟩, by show m1 - z < m1; omega, Wk.same ⟨rfl, rfl, rfl, rfl, rfl, rfl, rfl, trivial⟩⟩
  · obtain rfl : q = false := by rw [hq]; simp <;> omega
    (repeat(first|refine pSeq ?_|refine pReg ?_|refine sCons ?_|refine sNil ?_|refine pBlock ?_|refine pSkip ?_|refine pExit ?_|refine pCond ?_|refine gNone ?_))
    intro w5 hw5
    rw [i64_id (by omega)] at hw5
    obtain rfl : w5 = ((w + 1 : Nat) : Int) := by omega
    (repeat(first|refine pSeq ?_|refine pReg ?_|refine sCons ?_|refine sNil ?_|refine pBlock ?_|refine pSkip ?_|refine pExit ?_|refine pCond ?_|refine gNone ?_))
    exact ⟨(w + 1, m1, s2), ⟨by show w + 1 ≤ n; omega, by show m1 < z; omega, c1, k1, n1, e1, he1, j1⟩, by show n - (w + 1) < n - w; omega, Wk.same ⟨rfl, rfl, rfl, rfl, rfl, rfl, rfl, trivial⟩⟩
end Go.Vf.S

import Derived.Test.YtipfcmgecdgfhaaDoorAdE
import Derived.Test.YtipfcmgecdgfhaaDoorTxL
import Derived.Lib.Replace
import Derived.Lib.CountLaws
/- Two bytes replaced wherever they stand; what a domain must be, byte by byte. -/
namespace Go.Vf.S
open Go Go.Vf
set_option linter.unusedVariables false
set_option linter.unusedSimpArgs false

/-- Two bytes replaced, from the left. -/
def rep (a b : UInt8) (new : List UInt8) : List UInt8 → List UInt8
  | x :: y :: r => if x = a ∧ y = b then new ++ rep a b new r else x :: rep a b new (y :: r)
  | l => l

theorem pre_two (a b x : UInt8) (l : List UInt8) : [a, b].isPrefixOf (x :: l) = decide (x = a ∧ l.head? = some b) := by
  cases l with
  | nil => simp [List.isPrefixOf]
  | cons y r =>
    simp only [List.isPrefixOf, List.head?_cons, Bool.and_true]
    rw [Bool.eq_iff_iff]
    simp only [Bool.and_eq_true, beq_iff_eq, decide_eq_true_eq, Option.some.injEq]
    exact ⟨fun h => ⟨h.1.symm, h.2.symm⟩, fun h => ⟨h.1.symm, h.2.symm⟩⟩

theorem repK_skip {a b x : UInt8} {l new : List UInt8} (h : ¬(x = a ∧ l.head? = some b)) : ∀ k, Lib.replaceK [a, b] new k (x :: l) = x :: Lib.replaceK [a, b] new k l
  | 0 => rfl
  | k + 1 => by
    have hp : [a, b].isPrefixOf (x :: l) = false := by rw [pre_two]; exact decide_eq_false h
    have hge := Lib.index_ge l [a, b]
    have hi : Lib.index (x :: l) [a, b] = if Lib.index l [a, b] == -1 then -1 else Lib.index l [a, b] + 1 := by
      rw [Lib.index, hp]
      simp
    rw [Lib.replaceK, Lib.replaceK, hi]
    by_cases hm : Lib.index l [a, b] = -1
    · rw [hm]
      simp
    · have e1 : (Lib.index l [a, b] == -1) = false := by simpa using hm
      have e2 : ((Lib.index l [a, b] + 1) == -1) = false := by simp; omega
      rw [e1]
      simp only [Bool.false_eq_true, if_false, e2]
      rw [show (Lib.index l [a, b] + 1).toNat = (Lib.index l [a, b]).toNat + 1 by omega, List.take_succ_cons, show (Lib.index l [a, b]).toNat + 1 + [a, b].length = ((Lib.index l [a, b]).toNat + [a, b].length) + 1 by omega, List.drop_succ_cons]
      rfl
theorem count_skip {a b x : UInt8} {l : List UInt8} (h : ¬(x = a ∧ l.head? = some b)) : Lib.count (x :: l) [a, b] = Lib.count l [a, b] := by
  have hp : [a, b].isPrefixOf (x :: l) = false := by rw [pre_two]; exact decide_eq_false h
  have hge := Lib.index_ge l [a, b]
  have hi : Lib.index (x :: l) [a, b] = if Lib.index l [a, b] == -1 then -1 else Lib.index l [a, b] + 1 := by
    rw [Lib.index, hp]
    simp
  by_cases hm : Lib.index l [a, b] = -1
  · rw [Lib.count_miss hm, Lib.count_miss (by rw [hi, hm]; rfl)]
  · have e1 : (Lib.index l [a, b] == -1) = false := by simpa using hm
    obtain ⟨i, hi2⟩ : ∃ i : Nat, Lib.index l [a, b] = i := ⟨(Lib.index l [a, b]).toNat, by omega⟩
    rw [Lib.count_hit (i := i) (by simp) hi2, Lib.count_hit (i := i + 1) (by simp) (by rw [hi, e1, hi2]; simp)]
    rw [show i + 1 + [a, b].length = (i + [a, b].length) + 1 by omega, List.drop_succ_cons]

theorem repK_rep {a b : UInt8} {new : List UInt8} : ∀ (n : Nat) (l : List UInt8), l.length ≤ n → Lib.replaceK [a, b] new (Lib.count l [a, b]) l = rep a b new l
  | 0, l, h => by
    obtain rfl : l = [] := List.length_eq_zero_iff.1 (by omega)
    rfl
  | n + 1, [], _ => rfl
  | n + 1, [x], _ => by
    rw [count_skip (by simp), repK_skip (by simp)]
    rfl
  | n + 1, x :: y :: r, h => by
    simp only [List.length_cons] at h
    rw [rep]
    by_cases hxy : x = a ∧ y = b
    · obtain ⟨rfl, rfl⟩ := hxy
      rw [if_pos ⟨rfl, rfl⟩]
      have hi : Lib.index (x :: y :: r) [x, y] = (0 : Nat) := by
        rw [Lib.index, pre_two]
        simp
      rw [Lib.count_hit (by simp) hi, Nat.add_comm, Lib.replaceK_hit _ _ _ _ 0 hi]
      simp only [List.take_zero, List.nil_append, Nat.zero_add, List.length_cons, List.length_nil]
      rw [show (x :: y :: r).drop 2 = r from rfl, repK_rep n r (by omega)]
    · rw [if_neg hxy]
      have hno : ¬(x = a ∧ (y :: r).head? = some b) := by simpa using hxy
      rw [count_skip hno, repK_skip hno, repK_rep n (y :: r) (by simp; omega)]

theorem replace_rep {a b : UInt8} {new l : List UInt8} (h : [a, b] ≠ new) : Lib.replaceAll l [a, b] new = rep a b new l := by
  unfold Lib.replaceAll Lib.replace Lib.replaceNum
  rw [if_neg (by simpa using h), if_pos (.inl (by omega))]
  exact repK_rep _ l (Nat.le_refl _)

/-! ### What stands beside what -/

/-- No byte of the first kind stands just ahead of one of the second. -/
def noAdj (a b : UInt8) : List UInt8 → Bool
  | x :: y :: r => !(x == a && y == b) && noAdj a b (y :: r)
  | _ => true
theorem noAdj_cons {a b x : UInt8} {l : List UInt8} : noAdj a b (x :: l) = (!(x == a && decide (l.head? = some b)) && noAdj a b l) := by
  cases l with
  | nil => simp [noAdj]
  | cons y r =>
    rw [noAdj]
    have : (y == b) = decide ((y :: r).head? = some b) := by rw [Bool.eq_iff_iff]; simp
    rw [this]
theorem noAdj_tail {a b x : UInt8} {l : List UInt8} (h : noAdj a b (x :: l) = true) : noAdj a b l = true := by
  rw [noAdj_cons, Bool.and_eq_true] at h
  exact h.2
theorem noAdj_front {a b : UInt8} : ∀ {l m : List UInt8}, noAdj a b (l ++ m) = true → noAdj a b l = true
  | [], _, _ => rfl
  | [x], _, _ => rfl
  | x :: y :: r, m, h => by
    have h : noAdj a b (x :: y :: (r ++ m)) = true := h
    rw [noAdj, Bool.and_eq_true] at h ⊢
    exact ⟨h.1, noAdj_front (l := y :: r) (m := m) h.2⟩

/-- The first byte of what was replaced. -/
theorem rep_head {a b n : UInt8} {new : List UInt8} (l : List UInt8) : (rep a b (n :: new) l).head? = (match l with | x :: y :: _ => if x = a ∧ y = b then some n else some x | [x] => some x | [] => none) := by
  match l with
  | [] => rfl
  | [x] => rfl
  | x :: y :: r =>
    rw [rep]
    by_cases h : x = a ∧ y = b
    · rw [if_pos h]
      exact (if_pos h).symm
    · rw [if_neg h]
      exact (if_neg h).symm

theorem rep_cons {a b : UInt8} {new : List UInt8} {x y : UInt8} {r : List UInt8} : rep a b new (x :: y :: r) = if x = a ∧ y = b then new ++ rep a b new r else x :: rep a b new (y :: r) := by rw [rep]

/-- Dots. -/
def isD (c : UInt8) : Bool := c == 46
def okC (c : UInt8) : Bool := labB c || isD c

/-! ### The three replacements -/
def repA (l : List UInt8) := rep 45 46 [120, 46] l
def repB (l : List UInt8) := rep 46 45 [46, 121] l
def repC (l : List UInt8) := rep 46 46 [46, 122, 46] l

theorem headB (l : List UInt8) : (repB l).head? = l.head? := by
  unfold repB
  rw [rep_head]
  match l with
  | [] => rfl
  | [x] => rfl
  | x :: y :: r =>
    show (if x = 46 ∧ y = 45 then some 46 else some x) = some x
    by_cases h : x = 46 ∧ y = 45
    · rw [if_pos h, h.1]
    · rw [if_neg h]
theorem headC (l : List UInt8) : (repC l).head? = l.head? := by
  unfold repC
  rw [rep_head]
  match l with
  | [] => rfl
  | [x] => rfl
  | x :: y :: r =>
    show (if x = 46 ∧ y = 46 then some 46 else some x) = some x
    by_cases h : x = 46 ∧ y = 46
    · rw [if_pos h, h.1]
    · rw [if_neg h]

theorem adj_out {a b : UInt8} {x : UInt8} {l : List UInt8} (h : ¬(x = a ∧ l.head? = some b)) (hl : noAdj a b l = true) : noAdj a b (x :: l) = true := by
  have e : (x == a && decide (l.head? = some b)) = false := by
    rw [Bool.eq_false_iff]
    intro q
    rw [Bool.and_eq_true, beq_iff_eq, decide_eq_true_eq] at q
    exact h q
  rw [noAdj_cons, hl, e]
  rfl
theorem adj_in {a b : UInt8} {x : UInt8} {l : List UInt8} (h : noAdj a b (x :: l) = true) : ¬(x = a ∧ l.head? = some b) := by
  intro q
  have e : (x == a && decide (l.head? = some b)) = true := by rw [Bool.and_eq_true]; exact ⟨beq_iff_eq.2 q.1, decide_eq_true q.2⟩
  rw [noAdj_cons, e] at h
  cases h

theorem adjA : ∀ (n : Nat) (l : List UInt8), l.length ≤ n → noAdj 45 46 (repA l) = true
  | 0, l, h => by obtain rfl : l = [] := List.length_eq_zero_iff.1 (by omega); rfl
  | n + 1, [], _ => rfl
  | n + 1, [x], _ => rfl
  | n + 1, x :: y :: r, h => by
    simp only [List.length_cons] at h
    unfold repA
    rw [rep_cons]
    by_cases hm : x = 45 ∧ y = 46
    · rw [if_pos hm]
      exact adj_out (x := 120) (fun q => absurd q.1 (by decide)) (adj_out (x := 46) (fun q => absurd q.1 (by decide)) (adjA n r (by omega)))
    · rw [if_neg hm]
      refine adj_out (fun q => ?_) (adjA n (y :: r) (by simp; omega))
      have q2 := q.2
      rw [rep_head] at q2
      match r, q2 with
      | [], q2 => exact hm ⟨q.1, Option.some.inj q2⟩
      | z :: r, q2 =>
        simp only at q2
        split at q2
        · cases q2
        · exact hm ⟨q.1, Option.some.inj q2⟩
theorem adjB : ∀ (n : Nat) (l : List UInt8), l.length ≤ n → noAdj 45 46 l = true → noAdj 45 46 (repB l) = true ∧ noAdj 46 45 (repB l) = true
  | 0, l, h, _ => by obtain rfl : l = [] := List.length_eq_zero_iff.1 (by omega); exact ⟨rfl, rfl⟩
  | n + 1, [], _, _ => ⟨rfl, rfl⟩
  | n + 1, [x], _, _ => ⟨rfl, rfl⟩
  | n + 1, x :: y :: r, h, ha => by
    simp only [List.length_cons] at h
    have hh := headB (y :: r)
    unfold repB at hh ⊢
    rw [rep_cons]
    by_cases hm : x = 46 ∧ y = 45
    · rw [if_pos hm]
      obtain ⟨i1, i2⟩ := adjB n r (by omega) (noAdj_tail (noAdj_tail ha))
      exact ⟨adj_out (x := 46) (fun q => absurd q.1 (by decide)) (adj_out (x := 121) (fun q => absurd q.1 (by decide)) i1), adj_out (x := 46) (by simp) (adj_out (x := 121) (fun q => absurd q.1 (by decide)) i2)⟩
    · rw [if_neg hm]
      obtain ⟨i1, i2⟩ := adjB n (y :: r) (by simp; omega) (noAdj_tail ha)
      refine ⟨adj_out (fun q => ?_) i1, adj_out (fun q => ?_) i2⟩
      · rw [hh] at q
        exact adj_in ha q
      · rw [hh] at q
        exact hm ⟨q.1, Option.some.inj q.2⟩

/-- No three dots in a row. -/
def no3 : List Bool → Bool
  | a :: b :: c :: r => !(a && b && c) && no3 (b :: c :: r)
  | _ => true
theorem no3_tail {a : Bool} {l : List Bool} (h : no3 (a :: l) = true) : no3 l = true := by
  match l with
  | [] => rfl
  | [b] => rfl
  | b :: c :: r =>
    rw [no3, Bool.and_eq_true] at h
    exact h.2
def len3 : List Bool → Nat
  | true :: true :: r => 3 + len3 r
  | _ :: r => 1 + len3 r
  | [] => 0

theorem adjC : ∀ (n : Nat) (l : List UInt8), l.length ≤ n → noAdj 45 46 l = true → noAdj 46 45 l = true → no3 (l.map isD) = true → noAdj 45 46 (repC l) = true ∧ noAdj 46 45 (repC l) = true ∧ noAdj 46 46 (repC l) = true
  | 0, l, h, _, _, _ => by obtain rfl : l = [] := List.length_eq_zero_iff.1 (by omega); exact ⟨rfl, rfl, rfl⟩
  | n + 1, [], _, _, _, _ => ⟨rfl, rfl, rfl⟩
  | n + 1, [x], _, _, _, _ => ⟨rfl, rfl, rfl⟩
  | n + 1, x :: y :: r, h, ha, hb, h3 => by
    simp only [List.length_cons] at h
    have hh := headC (y :: r)
    have hr := headC r
    unfold repC at hh hr ⊢
    rw [rep_cons]
    by_cases hm : x = 46 ∧ y = 46
    · rw [if_pos hm]
      obtain ⟨i1, i2, i3⟩ := adjC n r (by omega) (noAdj_tail (noAdj_tail ha)) (noAdj_tail (noAdj_tail hb)) (no3_tail (no3_tail h3))
      refine ⟨adj_out (x := 46) (fun q => absurd q.1 (by decide)) (adj_out (x := 122) (fun q => absurd q.1 (by decide)) (adj_out (x := 46) (fun q => absurd q.1 (by decide)) i1)), adj_out (x := 46) (by simp) (adj_out (x := 122) (fun q => absurd q.1 (by decide)) (adj_out (x := 46) (fun q => ?_) i2)), adj_out (x := 46) (by simp) (adj_out (x := 122) (fun q => absurd q.1 (by decide)) (adj_out (x := 46) (fun q => ?_) i3))⟩
      · have q2 : (rep 46 46 [46, 122, 46] r).head? = some 45 := q.2
        rw [hr] at q2
        exact adj_in (noAdj_tail hb) ⟨hm.2, q2⟩
      · have q2 : (rep 46 46 [46, 122, 46] r).head? = some 46 := q.2
        rw [hr] at q2
        match r, q2 with
        | z :: r, q2 =>
          have ez := Option.some.inj q2
          rw [hm.1, hm.2, ez] at h3
          cases h3
    · rw [if_neg hm]
      obtain ⟨i1, i2, i3⟩ := adjC n (y :: r) (by simp; omega) (noAdj_tail ha) (noAdj_tail hb) (no3_tail h3)
      refine ⟨adj_out (fun q => ?_) i1, adj_out (fun q => ?_) i2, adj_out (fun q => ?_) i3⟩
      · unfold repC at q; rw [hh] at q
        exact adj_in ha q
      · unfold repC at q; rw [hh] at q
        exact adj_in hb q
      · unfold repC at q; rw [hh] at q
        exact hm ⟨q.1, Option.some.inj q.2⟩

theorem dotsA : ∀ (n : Nat) (l : List UInt8), l.length ≤ n → (repA l).map isD = l.map isD
  | 0, l, h => by obtain rfl : l = [] := List.length_eq_zero_iff.1 (by omega); rfl
  | n + 1, [], _ => rfl
  | n + 1, [x], _ => rfl
  | n + 1, x :: y :: r, h => by
    simp only [List.length_cons] at h
    unfold repA
    rw [rep_cons]
    by_cases hm : x = 45 ∧ y = 46
    · rw [if_pos hm, hm.1, hm.2]
      show isD 120 :: isD 46 :: (repA r).map isD = isD 45 :: isD 46 :: r.map isD
      rw [dotsA n r (by omega)]
      rfl
    · rw [if_neg hm, List.map_cons, List.map_cons]
      congr 1
      exact dotsA n (y :: r) (by simp; omega)
theorem dotsB : ∀ (n : Nat) (l : List UInt8), l.length ≤ n → (repB l).map isD = l.map isD
  | 0, l, h => by obtain rfl : l = [] := List.length_eq_zero_iff.1 (by omega); rfl
  | n + 1, [], _ => rfl
  | n + 1, [x], _ => rfl
  | n + 1, x :: y :: r, h => by
    simp only [List.length_cons] at h
    unfold repB
    rw [rep_cons]
    by_cases hm : x = 46 ∧ y = 45
    · rw [if_pos hm, hm.1, hm.2]
      show isD 46 :: isD 121 :: (repB r).map isD = isD 46 :: isD 45 :: r.map isD
      rw [dotsB n r (by omega)]
      rfl
    · rw [if_neg hm, List.map_cons, List.map_cons]
      congr 1
      exact dotsB n (y :: r) (by simp; omega)
theorem isD_is {c : UInt8} : isD c = true ↔ c = 46 := by unfold isD; exact beq_iff_eq
theorem lenC : ∀ (n : Nat) (l : List UInt8), l.length ≤ n → (repC l).length = len3 (l.map isD)
  | 0, l, h => by obtain rfl : l = [] := List.length_eq_zero_iff.1 (by omega); rfl
  | n + 1, [], _ => rfl
  | n + 1, [x], _ => by
    show 1 = len3 [isD x]
    cases isD x <;> rfl
  | n + 1, x :: y :: r, h => by
    simp only [List.length_cons] at h
    unfold repC
    rw [rep_cons]
    by_cases hm : x = 46 ∧ y = 46
    · rw [if_pos hm, List.length_append, hm.1, hm.2]
      show 3 + (repC r).length = 3 + len3 (r.map isD)
      rw [lenC n r (by omega)]
    · rw [if_neg hm, List.length_cons]
      have ih := lenC n (y :: r) (by simp; omega)
      unfold repC at ih
      rw [ih]
      show len3 (isD y :: r.map isD) + 1 = len3 (isD x :: isD y :: r.map isD)
      cases hx : isD x with
      | false => exact Nat.add_comm _ _
      | true =>
        cases hy : isD y with
        | true => exact absurd ⟨isD_is.1 hx, isD_is.1 hy⟩ hm
        | false => exact Nat.add_comm _ _

theorem rep_all {a b : UInt8} {new : List UInt8} {f : UInt8 → Bool} (hn : new.all f = true) : ∀ (n : Nat) (l : List UInt8), l.length ≤ n → l.all f = true → (rep a b new l).all f = true
  | 0, l, h, _ => by obtain rfl : l = [] := List.length_eq_zero_iff.1 (by omega); rfl
  | n + 1, [], _, _ => rfl
  | n + 1, [x], _, hl => hl
  | n + 1, x :: y :: r, h, hl => by
    simp only [List.length_cons] at h
    rw [List.all_cons, List.all_cons, Bool.and_eq_true, Bool.and_eq_true] at hl
    rw [rep_cons]
    split
    · rw [List.all_append, hn, rep_all hn n r (by omega) hl.2.2]
      rfl
    · rw [List.all_cons, hl.1, rep_all hn n (y :: r) (by simp; omega) (by rw [List.all_cons, hl.2.1, hl.2.2]; rfl)]
      rfl
theorem rep_last {a b : UInt8} {new : List UInt8} (hn : b = 46 → ∃ m, new = m ++ [46]) : ∀ (n : Nat) (l : List UInt8), l.length ≤ n → (∃ m, l = m ++ [46]) → ∃ m, rep a b new l = m ++ [46]
  | 0, l, h, hl => by
    obtain ⟨m, rfl⟩ := hl
    simp at h
  | n + 1, [], _, hl => by
    obtain ⟨m, hm⟩ := hl
    simp at hm
  | n + 1, [x], _, hl => hl
  | n + 1, x :: y :: r, h, hl => by
    simp only [List.length_cons] at h
    have hl2 : ∃ m, y :: r = m ++ [46] := by
      obtain ⟨m, hm⟩ := hl
      cases m with
      | nil => simp at hm
      | cons u m => exact ⟨m, by simpa using (List.cons.inj hm).2⟩
    rw [rep_cons]
    split
    · rename_i hm
      cases r with
      | nil =>
        obtain ⟨m, hm2⟩ := hl2
        have : y = 46 := by
          cases m with
          | nil => simpa using hm2
          | cons u m => simp at hm2
        obtain ⟨k, hk⟩ := hn (by rw [← hm.2]; exact this)
        exact ⟨k, by rw [hk]; simp [rep]⟩
      | cons z r =>
        have hl3 : ∃ m, z :: r = m ++ [46] := by
          obtain ⟨m, hm2⟩ := hl2
          cases m with
          | nil => simp at hm2
          | cons u m => exact ⟨m, by simpa using (List.cons.inj hm2).2⟩
        obtain ⟨m, hm2⟩ := rep_last hn n (z :: r) (by simp at h ⊢; omega) hl3
        exact ⟨new ++ m, by rw [hm2]; simp⟩
    · obtain ⟨m, hm2⟩ := rep_last hn n (y :: r) (by simp; omega) hl2
      exact ⟨x :: m, by rw [hm2]; rfl⟩

/-! ### Labels, byte by byte -/
mutual
def okS : List UInt8 → Bool
  | [] => false
  | x :: r => labB x && (decide (x ≠ 45) && okI x r)
def okI (c : UInt8) : List UInt8 → Bool
  | [] => decide (c ≠ 45)
  | x :: r => if x = 46 then decide (c ≠ 45) && okS r else labB x && okI x r
end
end Go.Vf.S

import Derived.Test.YtgdkekacalmjoaaDoorTxH
/- There and back. -/
namespace Go.Vf.S
open Go Go.Vf
attribute [local irreducible] wSeq wRow wp wG
set_option linter.unusedVariables false
set_option linter.unusedSimpArgs false
set_option maxRecDepth 10000

def eL (l : List UInt8) : Nat := (l.flatMap escB).length
theorem esc_one (c : UInt8) : (escB c).length = if needs c then 2 else 1 := by unfold escB; split <;> rfl
theorem eL_cons (c : UInt8) (l : List UInt8) : eL (c :: l) = (escB c).length + eL l := by simp [eL]
theorem eL_append (a b : List UInt8) : eL (a ++ b) = eL a + eL b := by simp [eL]
theorem plain_34 {c : UInt8} (h : c.toNat = 34) : plainB c = true := by unfold plainB; simp; omega
theorem plain_92 {c : UInt8} (h : c.toNat = 92) : plainB c = true := by unfold plainB; simp; omega

/-- What was quoted, read again. -/
theorem qd_esc : ∀ (l o r : List UInt8) (i : Nat), l.all plainB = true → qd (l.flatMap escB ++ 34 :: r) false o i = (o ++ l, i + eL l + 2, 0)
  | [], o, r, i, _ => by
    have h34 : (34 : UInt8).toNat = 34 := rfl
    show qd (34 :: r) false o i = _
    rw [qd, if_pos (plain_34 h34), if_pos ⟨rfl, h34⟩, List.append_nil]
    rfl
  | c :: l, o, r, i, h => by
    rw [List.all_cons, Bool.and_eq_true] at h
    rw [List.flatMap_cons, List.append_assoc, eL_cons]
    by_cases hn : needs c = true
    · have e : escB c = [92, c] := by unfold escB; rw [if_pos hn]
      have h92 : (92 : UInt8).toNat = 92 := rfl
      rw [e]
      show qd (92 :: c :: (l.flatMap escB ++ 34 :: r)) false o i = _
      rw [qd, if_pos (plain_92 h92), if_neg (fun q => by omega), if_pos ⟨rfl, h92⟩, qd, if_pos h.1, if_neg (fun q => by cases q.1), if_neg (fun q => by cases q.1), qd_esc l _ r _ h.2]
      simp only [List.append_assoc, List.singleton_append, List.length_cons, List.length_nil, Prod.mk.injEq, true_and, and_true]
      omega
    · have e : escB c = [c] := by unfold escB; rw [if_neg hn]
      have hc : ¬c.toNat = 34 ∧ ¬c.toNat = 92 := by simpa [needs] using hn
      rw [e]
      show qd (c :: (l.flatMap escB ++ 34 :: r)) false o i = _
      rw [qd, if_pos h.1, if_neg (fun q => hc.1 q.2), if_neg (fun q => hc.2 q.2), qd_esc l _ r _ h.2]
      simp only [List.append_assoc, List.singleton_append, List.length_cons, List.length_nil, Prod.mk.injEq, true_and, and_true]
      omega

/-- What was quoted, cut short. -/
theorem qd_cut : ∀ (l o : List UInt8) (i k : Nat), l.all plainB = true → k ≤ eL l → qd ((l.flatMap escB ++ [34]).take k) false o i = ([], 0, 4)
  | l, o, i, 0, _, _ => by rw [List.take_zero, qd]
  | [], o, i, k + 1, _, hk => by simp [eL] at hk
  | c :: l, o, i, k + 1, h, hk => by
    rw [List.all_cons, Bool.and_eq_true] at h
    rw [eL_cons] at hk
    rw [List.flatMap_cons, List.append_assoc]
    by_cases hn : needs c = true
    · have e : escB c = [92, c] := by unfold escB; rw [if_pos hn]
      have h92 : (92 : UInt8).toNat = 92 := rfl
      rw [e] at hk ⊢
      show qd (92 :: (c :: (l.flatMap escB ++ [34])).take k) false o i = _
      rw [qd, if_pos (plain_92 h92), if_neg (fun q => by omega), if_pos ⟨rfl, h92⟩]
      cases k with
      | zero => rw [List.take_zero, qd]
      | succ k =>
        rw [List.take_succ_cons, qd, if_pos h.1, if_neg (fun q => by cases q.1), if_neg (fun q => by cases q.1), qd_cut l _ _ k h.2 (by simp only [List.length_cons, List.length_nil] at hk; omega)]
    · have e : escB c = [c] := by unfold escB; rw [if_neg hn]
      have hc : ¬c.toNat = 34 ∧ ¬c.toNat = 92 := by simpa [needs] using hn
      rw [e] at hk ⊢
      show qd (c :: (l.flatMap escB ++ [34]).take k) false o i = _
      rw [qd, if_pos h.1, if_neg (fun q => hc.1 q.2), if_neg (fun q => hc.2 q.2), qd_cut l _ _ k h.2 (by simp only [List.length_cons, List.length_nil] at hk; omega)]

/-- What is told of a text that is quoted: plain, no longer than it stood there. -/
theorem qd_is : ∀ (l : List UInt8) (e : Bool) (o : List UInt8) (i : Nat) (t : List UInt8) (n : Nat), o.all plainB = true → qd l e o i = (t, n, 0) →
    t.all plainB = true ∧ i + 2 ≤ n ∧ n ≤ i + 1 + l.length ∧ l[n - 2 - i]? = some 34 ∧ eL t + i + (if e then 1 else 2) ≤ n + eL o
  | [], e, o, i, t, n, ho, h => by rw [qd] at h; cases h
  | c :: l, e, o, i, t, n, ho, h => by
    rw [qd] at h
    by_cases hp : plainB c = true
    · rw [if_pos hp] at h
      have next : ∀ (e' : Bool) (o' : List UInt8), o'.all plainB = true → qd l e' o' (i + 1) = (t, n, 0) → (eL o' + (if e then 1 else 2) ≤ eL o + 1 + (if e' then 1 else 2)) →
          t.all plainB = true ∧ i + 2 ≤ n ∧ n ≤ i + 1 + (c :: l).length ∧ (c :: l)[n - 2 - i]? = some 34 ∧ eL t + i + (if e then 1 else 2) ≤ n + eL o := fun e' o' ho' h' he => by
        obtain ⟨q1, q2, q3, q4, q5⟩ := qd_is l e' o' (i + 1) t n ho' h'
        refine ⟨q1, by omega, by simp; omega, ?_, by omega⟩
        rw [show n - 2 - i = n - 2 - (i + 1) + 1 by omega, List.getElem?_cons_succ]
        exact q4
      by_cases h34 : e = false ∧ c.toNat = 34
      · rw [if_pos h34] at h
        obtain ⟨rfl, hc⟩ := h34
        cases h
        refine ⟨ho, Nat.le_refl _, by simp only [List.length_cons]; omega, ?_, by show eL o + i + 2 ≤ i + 2 + eL o; omega⟩
        rw [show i + 2 - 2 - i = 0 by omega, List.getElem?_cons_zero, UInt8.toNat_inj.1 (show c.toNat = (34 : UInt8).toNat from hc)]
      · rw [if_neg h34] at h
        by_cases h92 : e = false ∧ c.toNat = 92
        · rw [if_pos h92] at h
          obtain ⟨rfl, hc⟩ := h92
          exact next true o ho h (by simp only [if_true, Bool.false_eq_true, if_false]; omega)
        · rw [if_neg h92] at h
          refine next false (o ++ [c]) (by rw [List.all_append, ho]; simp [hp]) h ?_
          have : eL (o ++ [c]) = eL o + (escB c).length := by rw [eL_append, eL_cons]; rfl
          rw [this, esc_one]
          cases e with
          | false =>
            have hn : needs c = false := by simp only [needs, decide_eq_false_iff_not]; intro q; rcases q with q | q; exact h34 ⟨rfl, q⟩; exact h92 ⟨rfl, q⟩
            rw [hn]
            simp only [Bool.false_eq_true, if_false]
            omega
          | true => simp only [if_true, Bool.false_eq_true, if_false]; split <;> omega
    · rw [if_neg hp] at h; cases h

theorem quoteL_len (l : List UInt8) : (quoteL l).length = eL l + 2 := by simp [quoteL, eL]
theorem quoted_of {l : List UInt8} (r : List UInt8) (h : l.all plainB = true) : quotedF (quoteL l ++ r) = (l, (quoteL l).length, 0) := by
  have e : quoteL l ++ r = 34 :: (l.flatMap escB ++ 34 :: r) := by simp [quoteL]
  unfold quotedF
  rw [e, if_pos (by rfl), quoteL_len]
  show qd (l.flatMap escB ++ 34 :: r) false [] 0 = _
  rw [qd_esc l [] r 0 h, List.nil_append, Nat.zero_add]
theorem quoted_cut {l : List UInt8} {k : Nat} (h : l.all plainB = true) (h0 : 0 < k) (hk : k < (quoteL l).length) : quotedF ((quoteL l).take k) = ([], 0, 4) := by
  cases k with
  | zero => omega
  | succ k =>
    rw [quoteL_len] at hk
    unfold quotedF quoteL
    rw [List.cons_append, List.take_succ_cons, if_pos (by rfl)]
    show qd ((l.flatMap escB ++ [34]).take k) false [] 0 = _
    exact qd_cut l [] 0 k h (by omega)
theorem quoted_is {l t : List UInt8} {n : Nat} (h : quotedF l = (t, n, 0)) : t.all plainB = true ∧ 2 ≤ n ∧ n ≤ l.length ∧ l[n - 1]? = some 34 ∧ (quoteL t).length ≤ n := by
  unfold quotedF at h
  split at h
  · rename_i hf
    cases l with
    | nil => simp at hf
    | cons c l =>
      obtain ⟨q1, q2, q3, q4, q5⟩ := qd_is l false [] 0 t n rfl h
      refine ⟨q1, q2, by simp; omega, ?_, ?_⟩
      · rw [show n - 1 = n - 2 - 0 + 1 by omega, List.getElem?_cons_succ]
        exact q4
      · rw [quoteL_len]
        have e0 : eL [] = 0 := rfl
        simp only [Bool.false_eq_true, if_false, e0, Nat.add_zero] at q5
        exact q5
  · cases h

theorem qd_err : ∀ (l : List UInt8) (e : Bool) (o : List UInt8) (i : Nat), (qd l e o i).2.2 ≠ 0 → (qd l e o i).1 = [] ∧ (qd l e o i).2.1 = 0
  | [], e, o, i, _ => ⟨rfl, rfl⟩
  | c :: l, e, o, i, h => by
    rw [qd] at h ⊢
    by_cases h1 : plainB c = true
    · rw [if_pos h1] at h ⊢
      by_cases h2 : e = false ∧ c.toNat = 34
      · rw [if_pos h2] at h; exact absurd rfl h
      · rw [if_neg h2] at h ⊢
        by_cases h3 : e = false ∧ c.toNat = 92
        · rw [if_pos h3] at h ⊢; exact qd_err l _ _ _ h
        · rw [if_neg h3] at h ⊢; exact qd_err l _ _ _ h
    · rw [if_neg h1]; exact ⟨rfl, rfl⟩
theorem quoted_err {l t : List UInt8} {n e : Nat} (h : quotedF l = (t, n, e)) (he : e ≠ 0) : t = [] ∧ n = 0 := by
  unfold quotedF at h
  split at h
  · have := qd_err (l.drop 1) false [] 0 (by rw [h]; exact he)
    rw [h] at this
    exact this
  · cases h; exact ⟨rfl, rfl⟩
end Go.Vf.S

import Derived.Test.YthhcngkblihliaaDoorHdY
/- Lines that are folded: how each ends, and that none of more than 78 bytes could be folded. (No program.) -/
namespace Go.Vf.S
open Go Go.Vf Go.Proofs
set_option linter.unusedVariables false
set_option linter.unusedSimpArgs false

theorem fp_some {l : List UInt8} : ∀ (n i b : Nat), ∃ a, fpF l n i (some b) = some a ∧ (a = b ∨ a ≤ 78)
  | 0, i, b => ⟨b, rfl, .inl rfl⟩
  | n + 1, i, b => by
    rw [fpF]
    split
    · rename_i h
      split
      · obtain ⟨a, h1, h2⟩ := fp_some (l := l) n (i + 1) i
        refine ⟨a, h1, .inr ?_⟩
        rcases h2 with rfl | h2
        · exact h.2.resolve_right (by simp)
        · exact h2
      · exact fp_some n (i + 1) b
    · exact ⟨b, rfl, .inl rfl⟩
theorem fp_none {l : List UInt8} : ∀ (n i : Nat), l.length ≤ i + n → fpF l n i none = none → ∀ j, i ≤ j → comB l j = false
  | 0, i, h, _, j, hj => by
    rw [Bool.eq_false_iff]
    intro q
    have := (com_lt q).2.1
    omega
  | n + 1, i, h, hr, j, hj => by
    by_cases hi : i < l.length
    · rw [fpF, if_pos ⟨hi, .inr rfl⟩] at hr
      by_cases hc : comB l i = true
      · rw [if_pos hc] at hr
        obtain ⟨a, h1, -⟩ := fp_some (l := l) n (i + 1) i
        rw [h1] at hr
        cases hr
      · rw [if_neg hc] at hr
        rcases Nat.eq_or_lt_of_le hj with rfl | hj
        · exact Bool.eq_false_iff.2 hc
        · exact fp_none n (i + 1) (by omega) hr j hj
    · rw [Bool.eq_false_iff]
      intro q
      have := (com_lt q).2.1
      omega
theorem fp_first {l : List UInt8} : ∀ (n i a : Nat), fpF l n i none = some a → 78 < a → ∀ j, i ≤ j → j < a → comB l j = false
  | 0, i, a, hr, _, _, _, _ => by cases hr
  | n + 1, i, a, hr, h78, j, h1, h2 => by
    rw [fpF] at hr
    split at hr
    · by_cases hc : comB l i = true
      · rw [if_pos hc] at hr
        obtain ⟨b, h3, h4⟩ := fp_some (l := l) n (i + 1) i
        rw [h3] at hr
        cases hr
        omega
      · rw [if_neg hc] at hr
        rcases Nat.eq_or_lt_of_le h1 with rfl | h1
        · exact Bool.eq_false_iff.2 hc
        · exact fp_first n (i + 1) a hr h78 j h1 h2
    · cases hr
theorem place_none {l : List UInt8} {z : Nat} (h : placeF l z = none) : ∀ j, z ≤ j → comB l j = false := fp_none _ _ (by omega) h
theorem place_first {l : List UInt8} {z a : Nat} (h : placeF l z = some a) (h78 : 78 < a) : ∀ j, z ≤ j → j < a → comB l j = false := fp_first _ _ _ h h78
theorem com_take {l : List UInt8} {a i : Nat} (h : comB (l.take a) i = true) : comB l i = true ∧ i < a := by
  obtain ⟨h1, h2, h3, h4⟩ := com_lt h
  rw [List.length_take] at h2
  rw [List.getElem?_take] at h3 h4
  split at h3
  · split at h4
    · refine ⟨?_, by omega⟩
      unfold comB
      rw [h3, h4]
      simp [h1]
    · cases h4
  · cases h3

/-- No line of more than 78 bytes could be folded: the first one from its place on, the others from theirs. -/
theorem fold_long (y : Nat) : ∀ (n z : Nat) (l : List UInt8), l.length ≤ n → ∀ (k : Nat) (x : List UInt8), (foldF y n z l)[k]? = some x → 78 < x.length → ∀ i, (if k = 0 then z else y) ≤ i → comB x i = false
  | 0, z, l, hn, k, x, hx, h78, i, hi => by
    rw [foldF] at hx
    have hl : l = [] := List.eq_nil_of_length_eq_zero (by omega)
    subst hl
    cases k with
    | zero => cases hx; simp at h78
    | succ k => simp at hx
  | n + 1, z, l, hn, k, x, hx, h78, i, hi => by
    rw [foldF] at hx
    split at hx
    · rename_i hl
      cases hp : placeF l z with
      | none =>
        rw [hp] at hx
        cases k with
        | zero =>
          cases hx
          exact place_none hp i hi
        | succ k => simp at hx
      | some a =>
        rw [hp] at hx
        obtain ⟨p1, p2⟩ := place_is hp
        obtain ⟨p3, p4, -⟩ := com_lt p1
        cases k with
        | zero =>
          have hx : l.take a = x := by simpa using hx
          subst hx
          rw [List.length_take] at h78
          rw [Bool.eq_false_iff]
          intro q
          obtain ⟨q1, q2⟩ := com_take q
          rw [place_first hp (by omega) i hi q2] at q1
          cases q1
        | succ k =>
          have hx : (foldF y n y (l.drop a))[k]? = some x := by simpa using hx
          refine fold_long y n y (l.drop a) (by rw [List.length_drop]; omega) k x hx h78 i ?_
          rw [if_neg (by omega)] at hi
          split <;> exact hi
    · rename_i hl
      cases k with
      | zero =>
        cases hx
        exact absurd h78 hl
      | succ k => simp at hx
/-- Each line but the last one ends with a comma; each but the first one begins with a blank. -/
theorem fold_ends (y : Nat) : ∀ (n z : Nat) (l : List UInt8) (k : Nat) (x : List UInt8), (foldF y n z l)[k]? = some x → k + 1 < (foldF y n z l).length → ∃ t, x = t ++ [44]
  | 0, z, l, k, x, hx, hk => by
    simp [foldF] at hk
  | n + 1, z, l, k, x, hx, hk => by
    rw [foldF] at hx hk
    split at hx
    · rename_i hl
      rw [if_pos hl] at hk
      cases hp : placeF l z with
      | none => rw [hp] at hk; simp at hk
      | some a =>
        rw [hp] at hx hk
        obtain ⟨p3, p4, p5, p6⟩ := com_lt (place_is hp).1
        cases k with
        | zero =>
          have hx : l.take a = x := by simpa using hx
          refine ⟨l.take (a - 1), ?_⟩
          rw [← hx]
          have := take_next p6
          rw [show a - 1 + 1 = a by omega] at this
          exact this
        | succ k =>
          have hx : (foldF y n y (l.drop a))[k]? = some x := by simpa using hx
          exact fold_ends y n y (l.drop a) k x hx (by simpa using hk)
    · rename_i hl
      rw [if_neg hl] at hk
      simp at hk
theorem fold_begins (y : Nat) (n z : Nat) (l : List UInt8) (k : Nat) (x : List UInt8) (hx : (foldF y n z l)[k + 1]? = some x) : ∃ t, x = 32 :: t := by
  obtain ⟨a, r, e⟩ := fold_cons y n z l
  rw [e] at hx
  exact (fold_tail y n z l a r e).1 x (List.mem_of_getElem? (by simpa using hx))
end Go.Vf.S

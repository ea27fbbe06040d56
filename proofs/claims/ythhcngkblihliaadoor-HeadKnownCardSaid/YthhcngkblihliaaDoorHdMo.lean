import Derived.Test.YthhcngkblihliaaDoorBnH
/- What is told of a text, gone through byte by byte: so that it can be run. (No program.) -/
namespace Go.Vf.S
open Go Go.Vf Go.Proofs
set_option linter.unusedVariables false
set_option linter.unusedSimpArgs false

/-- A text's lines, ahead of which stand so many bytes of the first one (turned round). -/
def spl : List UInt8 → List UInt8 → Option (List (List UInt8))
  | cur, [] => if cur = [] then some [] else none
  | _, [_] => none
  | cur, c :: d :: t => if c = 13 ∧ d = 10 then (spl [] t).map (cur.reverse :: ·) else if okB c = true then spl (c :: cur) (d :: t) else none
theorem spl_is : ∀ (cur l : List UInt8) (ls : List (List UInt8)), cur.all okB = true → spl cur l = some ls → Okl ls ∧ cur.reverse ++ l = jn ls
  | cur, [], ls, hc, h => by
    rw [spl] at h
    split at h
    · rename_i e
      subst e
      cases h
      exact ⟨Okl.nil, rfl⟩
    · cases h
  | cur, [c], ls, hc, h => by rw [spl] at h; cases h
  | cur, c :: d :: t, ls, hc, h => by
    rw [spl] at h
    split at h
    · rename_i e
      obtain ⟨rfl, rfl⟩ := e
      cases hs : spl [] t with
      | none => rw [hs] at h; cases h
      | some r =>
        rw [hs] at h
        cases h
        obtain ⟨h1, h2⟩ := spl_is [] t r rfl hs
        refine ⟨Okl.mk (by rw [List.all_reverse]; exact hc) h1, ?_⟩
        rw [jn_cons, ← h2]
        rfl
    · split at h
      · rename_i e
        obtain ⟨h1, h2⟩ := spl_is (c :: cur) (d :: t) ls (by rw [List.all_cons, e, hc]; rfl) h
        exact ⟨h1, by rw [← h2]; simp⟩
      · cases h
theorem spl_no : ∀ (cur l : List UInt8), cur.all okB = true → spl cur l = none → ¬IsT (cur.reverse ++ l)
  | cur, [], hc, h => by
    rintro ⟨ls, hk, e⟩
    have hr : cur.reverse.all okB = true := by rw [List.all_reverse]; exact hc
    rw [spl] at h
    split at h
    · cases h
    · rename_i hne
      cases ls with
      | nil => simp [jn] at e; exact hne e
      | cons a r =>
        rw [jn_cons, List.append_nil] at e
        exact ok_13 hr (by rw [e]; simp)
  | cur, [c], hc, h => by
    rintro ⟨ls, hk, e⟩
    have hr : cur.reverse.all okB = true := by rw [List.all_reverse]; exact hc
    cases ls with
    | nil => simp [jn] at e
    | cons a r =>
      rw [jn_cons] at e
      have hm : (13 : UInt8) ∈ cur.reverse ++ [c] := by rw [e]; simp
      rcases List.mem_append.1 hm with q | q
      · exact ok_13 hr q
      · obtain rfl : 13 = c := by simpa using q
        have := (first_eq (ok_13 hr) (ok_13 (hk.cons).1) e).2
        cases this
  | cur, c :: d :: t, hc, h => by
    have hr : cur.reverse.all okB = true := by rw [List.all_reverse]; exact hc
    rw [spl] at h
    split at h
    · rename_i e
      obtain ⟨rfl, rfl⟩ := e
      have hs : spl [] t = none := by
        cases hs : spl [] t with
        | none => rfl
        | some r => rw [hs] at h; cases h
      have ih := spl_no [] t rfl hs
      rintro ⟨ls, hk, e⟩
      cases ls with
      | nil => simp [jn] at e
      | cons a r =>
        rw [jn_cons] at e
        have := (first_eq (ok_13 hr) (ok_13 (hk.cons).1) e).2
        exact ih ⟨r, hk.cons.2, by simpa using this⟩
    · rename_i hcd
      split at h
      · rename_i e
        have ih := spl_no (c :: cur) (d :: t) (by rw [List.all_cons, e, hc]; rfl) h
        rw [List.reverse_cons, List.append_assoc] at ih
        exact ih
      · rename_i hno
        rintro ⟨ls, hk, e⟩
        cases ls with
        | nil => simp [jn] at e
        | cons a r =>
          rw [jn_cons] at e
          rcases List.append_eq_append_iff.1 e with ⟨x, h1, h2⟩ | ⟨x, h1, h2⟩
          · cases x with
            | nil =>
              simp only [List.nil_append, List.cons.injEq] at h2
              exact hcd ⟨h2.1, h2.2.1⟩
            | cons y x =>
              simp only [List.cons_append, List.cons.injEq] at h2
              obtain ⟨rfl, -⟩ := h2
              have := hk.cons.1
              rw [h1] at this
              exact hno (List.all_eq_true.1 this c (by simp))
          · cases x with
            | nil =>
              simp only [List.nil_append, List.cons.injEq] at h2
              exact hcd ⟨h2.1.symm, h2.2.1.symm⟩
            | cons y x =>
              simp only [List.cons_append, List.cons.injEq] at h2
              obtain ⟨rfl, -⟩ := h2
              exact ok_13 hr (by rw [h1]; simp)
/-- What is told of a text. -/
def parsD (l : List UInt8) : Msg × Nat :=
  if 8192 < l.length then (msZ, 3) else match spl [] l with
    | none => (msZ, 5)
    | some ls => match mesF ls with
      | none => (msZ, 5)
      | some m => (m, 0)
theorem pars_D (l : List UInt8) : parsF l = parsD l := by
  unfold parsD
  split
  · rename_i h; exact pars_long h
  · rename_i h
    cases hs : spl [] l with
    | none => exact pars_no h (spl_no [] l rfl hs)
    | some ls =>
      obtain ⟨h1, h2⟩ := spl_is [] l ls rfl hs
      have h2 : l = jn ls := h2
      subst h2
      exact pars_jn h h1
end Go.Vf.S

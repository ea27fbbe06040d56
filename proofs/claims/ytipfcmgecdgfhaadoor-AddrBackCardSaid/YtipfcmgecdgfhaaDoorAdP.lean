import Derived.Test.YtipfcmgecdgfhaaDoorAdO
import Derived.Test.YtipfcmgecdgfhaaDoorAdJ
/- There and back: what is read and what is told. -/
namespace Go.Vf.S
open Go Go.Vf Go.Proofs Go.RowKit
set_option linter.unusedVariables false
set_option linter.unusedSimpArgs false

theorem may_parts {a d : List UInt8} (h : mayF a d = true) : a ≠ [] ∧ a.length ≤ 64 ∧ a.all plainB = true ∧ domF d = 0 := of_decide_eq_true h
theorem dot_chars {a : List UInt8} (h : dotF a = true) : ∀ c ∈ a, letB c = true ∨ c = 46 := by
  intro c hc
  by_cases h46 : c = 46
  · exact .inr h46
  · obtain ⟨p, hp, hq⟩ := mem_part h46 hc
    unfold dotF at h
    rw [List.all_eq_true] at h
    have := h p hp
    unfold atomF at this
    rw [Bool.and_eq_true, List.all_eq_true] at this
    exact .inl (this.1 c hq)
theorem dot_no {a : List UInt8} (h : dotF a = true) {c : UInt8} (hc : letB c = false) (h46 : c ≠ 46) : c ∉ a := fun q => by
  rcases dot_chars h c q with h1 | h1
  · rw [hc] at h1; cases h1
  · exact h46 h1
theorem let_plain (c : UInt8) : letB c = true → plainB c = true := fun h => by
  have := all_bytes (p := fun c => !letB c || plainB c) (by decide +kernel) c
  rw [h] at this
  simpa using this
theorem dot_plain {a : List UInt8} (h : dotF a = true) : a.all plainB = true := by
  rw [List.all_eq_true]
  intro c hc
  rcases dot_chars h c hc with h1 | h1
  · exact let_plain c h1
  · rw [h1]; decide
theorem cut_at {f r : List UInt8} (h : (64 : UInt8) ∉ f) : cutF 64 (f ++ 64 :: r) = (f, r, true) := by
  unfold cutF
  rw [if_pos (by simp), while_first h, show f ++ 64 :: r = (f ++ [64]) ++ r by simp, show f.length + 1 = (f ++ [64]).length by simp, List.drop_left]

theorem parse_text {a d : List UInt8} (h : mayF a d = true) : parseF (textF a d) = (a, d, 0) := by
  obtain ⟨h1, h2, h3, h4⟩ := may_parts h
  have key : partsF (textF a d) = (a, d, true) := by
    unfold textF
    rw [if_pos h]
    unfold wordF
    by_cases hd : dotF a = true
    · rw [if_pos hd]
      have n34 : ¬(a ++ 64 :: d).take 1 = [34] := by
        match a, h1, hd with
        | x :: a, _, hd =>
          intro q
          have : x = 34 := by simpa using q
          exact dot_no hd (c := 34) (by decide) (by decide) (by rw [this]; exact List.mem_cons_self ..)
      unfold partsF
      rw [if_neg n34, cut_at (dot_no hd (by decide) (by decide)), hd]
      rfl
    · rw [if_neg hd]
      have eq : (quoteF a).1 = quoteL a := by unfold quoteF; rw [if_pos h3]
      rw [eq]
      have e34 : (quoteL a ++ 64 :: d).take 1 = [34] := rfl
      unfold partsF
      rw [if_pos e34, quoted_of (64 :: d) h3]
      simp only [List.drop_left]
      have : atRest (64 :: d) = d := by unfold atRest; rw [if_pos (by rfl)]; rfl
      rw [this]
      simp [h1]
  unfold parseF
  rw [key]
  simp only [Bool.true_eq_false, if_false, h4, ne_eq, not_true_eq_false]
  rw [if_neg (by omega)]

theorem parse_err {s : List UInt8} (h : (parseF s).2.2 ≠ 0) : parseF s = ([], [], 3) ∨ parseF s = ([], [], 5) := by
  unfold parseF at h ⊢
  by_cases h1 : (partsF s).2.2 = false
  · rw [if_pos h1]; exact .inr rfl
  · rw [if_neg h1] at h ⊢
    by_cases h2 : domF (partsF s).2.1 ≠ 0
    · rw [if_pos h2] at h ⊢
      rcases dom_vals (partsF s).2.1 with q | q | q
      · exact absurd q h2
      · rw [q]; exact .inl rfl
      · rw [q]; exact .inr rfl
    · rw [if_neg h2] at h ⊢
      by_cases h3 : 64 < (partsF s).1.length
      · rw [if_pos h3]; exact .inl rfl
      · rw [if_neg h3] at h; exact absurd rfl h
theorem dot_nil : dotF [] = false := by decide +kernel
theorem parse_may {s : List UInt8} (h : (parseF s).2.2 = 0) : mayF (parseF s).1 (parseF s).2.1 = true := by
  unfold parseF at h ⊢
  by_cases h1 : (partsF s).2.2 = false
  · rw [if_pos h1] at h; cases h
  · rw [if_neg h1] at h ⊢
    by_cases h2 : domF (partsF s).2.1 ≠ 0
    · rw [if_pos h2] at h; exact absurd h h2
    · rw [if_neg h2] at h ⊢
      by_cases h3 : 64 < (partsF s).1.length
      · rw [if_pos h3] at h; cases h
      · rw [if_neg h3]
        have hp : (partsF s).1 ≠ [] ∧ (partsF s).1.all plainB = true := by
          have h1 : (partsF s).2.2 = true := by simpa using h1
          clear h2 h3 h
          unfold partsF at h1 ⊢
          split at h1
          · rename_i h34
            rw [if_pos h34]
            have := of_decide_eq_true h1
            exact ⟨this.2.2, (quoted_is (l := s) (t := (quotedF s).1) (n := (quotedF s).2.1) (by rw [← this.2.1])).1⟩
          · rename_i h34
            rw [if_neg h34]
            have h1 : ((cutF 64 s).2.2 && dotF (cutF 64 s).1) = true := h1
            rw [Bool.and_eq_true] at h1
            refine ⟨fun e => ?_, dot_plain h1.2⟩
            have e : (cutF 64 s).1 = [] := e
            rw [e, dot_nil] at h1
            cases h1.2
        exact decide_eq_true ⟨hp.1, (by show (partsF s).1.length ≤ 64; omega), hp.2, by simpa using h2⟩

theorem low_idemB (c : UInt8) : lowB (lowB c) = lowB c := by
  have := all_bytes (p := fun c => lowB (lowB c) == lowB c) (by decide +kernel) c
  simpa using this
theorem low_two (l : List UInt8) : (l.map lowB).map lowB = l.map lowB := by simp [List.map_map, Function.comp_def, low_idemB]
theorem post_low : postL.map lowB = postL := by decide
theorem isPost_post : isPost postL = true := by decide
theorem nrm_two (a : List UInt8) : nrmL (nrmL a) = nrmL a := by
  unfold nrmL
  by_cases h : isPost a = true
  · rw [if_pos h, if_pos isPost_post]
  · rw [if_neg h, if_neg h]
theorem nrm_eq (a b : List UInt8) : decide (nrmL a = nrmL b) = (decide (a = b) || (isPost a && isPost b)) := by
  have hp : ∀ x : List UInt8, x = postL → isPost x = true := fun x e => by rw [e]; exact isPost_post
  rw [Bool.eq_iff_iff, Bool.or_eq_true, Bool.and_eq_true, decide_eq_true_eq, decide_eq_true_eq]
  unfold nrmL
  by_cases h1 : isPost a = true
  · rw [if_pos h1]
    by_cases h2 : isPost b = true
    · rw [if_pos h2]; simp [h1, h2]
    · rw [if_neg h2]
      refine ⟨fun e => absurd (hp b e.symm) h2, fun e => ?_⟩
      rcases e with e | e
      · rw [e] at h1; exact absurd h1 h2
      · exact absurd e.2 h2
  · rw [if_neg h1]
    by_cases h2 : isPost b = true
    · rw [if_pos h2]
      refine ⟨fun e => absurd (hp a e) h1, fun e => ?_⟩
      rcases e with e | e
      · rw [e] at h1; exact absurd h2 h1
      · exact absurd e.1 h1
    · rw [if_neg h2]
      refine ⟨.inl, fun e => ?_⟩
      rcases e with e | e
      · exact e
      · exact absurd e.1 h1
theorem nrm_may {a d : List UInt8} (h : a ≠ [] ∧ a.length ≤ 64 ∧ a.all plainB = true) (hd : domF (d.map lowB) = 0) : mayF (nrmL a) (d.map lowB) = true := by
  unfold nrmL
  split
  · exact decide_eq_true ⟨by decide, by decide, by decide, hd⟩
  · exact decide_eq_true ⟨h.1, h.2.1, h.2.2, hd⟩
theorem fold_low : ∀ {l m : List UInt8}, (∀ y ∈ m, 97 ≤ y.toNat ∧ y.toNat ≤ 122) → Lib.equalFold l m = decide (l.map lowB = m)
  | [], [], _ => by decide
  | [], y :: m, _ => by simp [Lib.equalFold]
  | x :: l, [], _ => by simp [Lib.equalFold]
  | x :: l, y :: m, h => by
    have hy := h y (List.mem_cons_self ..)
    have e : Lib.foldEq x y = decide (lowB x = y) := by
      unfold Lib.foldEq
      rw [decide_eq_decide]
      have hb : lowB x = y ↔ (lowB x).toNat = y.toNat := by rw [UInt8.toNat_inj]
      rw [hb]
      by_cases hu : upB x = true
      · have h1 := lowB_up hu
        have h2 : 65 ≤ x.toNat ∧ x.toNat ≤ 90 := by simpa [upB] using hu
        omega
      · rw [lowB_no hu]
        have h2 : ¬(65 ≤ x.toNat ∧ x.toNat ≤ 90) := by simpa [upB] using hu
        omega
    rw [Lib.equalFold, e, fold_low fun z hz => h z (List.mem_cons_of_mem _ hz), List.map_cons, Bool.eq_iff_iff]
    simp
theorem fold_post (l : List UInt8) : Lib.equalFold l postL = isPost l := fold_low (by decide)
theorem plain_asc {l : List UInt8} (h : l.all plainB = true) : asc l := by
  intro c hc
  rw [List.all_eq_true] at h
  have := h c hc
  unfold plainB at this
  simp at this
  omega
theorem text_len {a d : List UInt8} (ha : a.length ≤ 64) : (textF a d).length ≤ 132 + d.length := by
  unfold textF
  split
  · have : (wordF a).length ≤ 130 := by
      unfold wordF
      split
      · omega
      · have := quote_len a; omega
    rw [List.length_append, List.length_cons]
    omega
  · simp
end Go.Vf.S

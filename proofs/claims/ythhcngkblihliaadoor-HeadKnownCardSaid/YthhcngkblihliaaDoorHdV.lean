import Derived.Test.YthhcngkblihliaaDoorBnI
import Derived.Test.YthhcngkblihliaaDoorLbE
import Derived.Lib.IndexAny
/- What is told of a message's fields. (No program.) -/
namespace Go.Vf.S
open Go Go.Vf Go.Proofs
set_option linter.unusedVariables false
set_option linter.unusedSimpArgs false

theorem field_raw {raw : List UInt8} {f : Fld} (h : fieldF raw = some f) : f.r = raw ∧ isNm f.n = true ∧ f.v = trimF (noE (cutF 58 raw).2.1) := by
  unfold fieldF at h
  split at h
  · rename_i hq
    cases h
    exact ⟨rfl, hq.2, rfl⟩
  · cases h
theorem fields_text : ∀ (n : Nat) (l : List (List UInt8)) (fs : List Fld), fieldsF n l = some fs → txtF fs = jn l
  | n, [], fs, h => by
    unfold fieldsF at h
    cases h
    rfl
  | 0, a :: t, fs, h => by
    unfold fieldsF at h
    cases h
  | n + 1, a :: t, fs, h => by
    rw [fieldsF] at h
    cases hf : fieldF (jn (grp a t)) with
    | none => rw [hf] at h; cases h
    | some f =>
      rw [hf] at h
      dsimp only at h
      cases hg : fieldsF n (t.dropWhile stW) with
      | none => rw [hg] at h; cases h
      | some g =>
        rw [hg] at h
        cases h
        have ih := fields_text n _ g hg
        have e := congrArg jn (grp_split a t)
        rw [jn_app] at e
        unfold txtF at ih ⊢
        rw [List.flatMap_cons, ih, (field_raw hf).1, e]
theorem fields_all {Q : Fld → Prop} (hQ : ∀ raw f, fieldF raw = some f → Q f) : ∀ (n : Nat) (l : List (List UInt8)) (fs : List Fld), fieldsF n l = some fs → ∀ f ∈ fs, Q f
  | n, [], fs, h => by
    unfold fieldsF at h
    cases h
    simp
  | 0, a :: t, fs, h => by
    unfold fieldsF at h
    cases h
  | n + 1, a :: t, fs, h => by
    rw [fieldsF] at h
    cases hf : fieldF (jn (grp a t)) with
    | none => rw [hf] at h; cases h
    | some f =>
      rw [hf] at h
      dsimp only at h
      cases hg : fieldsF n (t.dropWhile stW) with
      | none => rw [hg] at h; cases h
      | some g =>
        rw [hg] at h
        cases h
        have ih := fields_all hQ n _ g hg
        intro x hx
        rcases List.mem_cons.1 hx with rfl | q
        · exact hQ _ _ hf
        · exact ih x q
theorem mes_fields {ls : List (List UInt8)} {m : Msg} (h : mesF ls = some m) : fieldsF (hdr ls).length (hdr ls) = some m.fs ∧ m.b = bdy ls ∧ m.e = early ls := by
  unfold mesF at h
  cases hf : fieldsF (hdr ls).length (hdr ls) with
  | none => rw [hf] at h; cases h
  | some fs => rw [hf] at h; cases h; exact ⟨rfl, rfl, rfl⟩
/-- Byte by byte: a message's text is the text that it was read of. -/
theorem mes_text {ls : List (List UInt8)} {m : Msg} (h : mesF ls = some m) : textM m = jn ls := by
  obtain ⟨h1, h2, h3⟩ := mes_fields h
  unfold textM
  rw [fields_text _ _ _ h1, h2, h3]
  conv => rhs; rw [← hdr_beh ls, jn_app]
  congr 1
  cases he : early ls with
  | true =>
    have hb : beh ls = [] := by unfold early at he; simpa using he
    rw [hb]
    rfl
  | false =>
    obtain ⟨r, hr⟩ := beh_cons he
    unfold bdy
    rw [hr]
    rfl
theorem mes_may {ls : List (List UInt8)} {m : Msg} (hk : Okl ls) (hl : ¬8192 < (jn ls).length) (h : mesF ls = some m) : mayM m = true := by
  unfold mayM
  rw [mes_text h, pars_jn hl hk, h]
  simp
theorem pars_cases {l : List UInt8} (h : ¬8192 < l.length) : parsF l = (msZ, 5) ∨ ∃ ls m, Okl ls ∧ l = jn ls ∧ mesF ls = some m ∧ parsF l = (m, 0) := by
  by_cases hT : IsT l
  · obtain ⟨ls, hk, rfl⟩ := hT
    rw [pars_jn h hk]
    cases hm : mesF ls with
    | none => exact .inl rfl
    | some m => exact .inr ⟨ls, m, hk, rfl, hm, rfl⟩
  · exact .inl (pars_no h hT)

/-! ### Names -/

theorem nm_byte {c : UInt8} (h : nameB c = true) : c.toNat < 128 ∧ c ∉ ([58, 32, 9, 13, 10] : List UInt8) := by
  have := all_bytes (p := fun c => !nameB c || (decide (c.toNat < 128) && decide (c ∉ ([58, 32, 9, 13, 10] : List UInt8)))) (by decide +kernel) c
  rw [h] at this
  simpa using this
theorem nm_asc {l : List UInt8} (h : isNm l = true) : asc l := by
  unfold isNm at h
  simp only [Bool.and_eq_true] at h
  exact fun c hc => (nm_byte (List.all_eq_true.1 h.2 c hc)).1
theorem nm_ne {l : List UInt8} (h : isNm l = true) : l ≠ [] := fun e => by rw [e] at h; cases h
theorem any_none {chars : List UInt8} : ∀ {l : List UInt8}, (∀ c ∈ l, c ∉ chars) → Lib.indexAny l chars = -1
  | [], _ => rfl
  | c :: l, h => by
    have hc : chars.contains c = false := by
      rw [Bool.eq_false_iff]
      intro q
      exact h c (by simp) (by simpa using q)
    rw [Lib.indexAny, hc, any_none fun d hd => h d (by simp [hd])]
    rfl
theorem any_no {l chars : List UInt8} (h : ∀ c ∈ l, c ∉ chars) : Lib.containsAny l chars = false := by
  unfold Lib.containsAny
  rw [any_none h]
  rfl
theorem nm_any {l : List UInt8} (h : isNm l = true) : Lib.containsAny l [58, 32, 9, 13, 10] = false := by
  refine any_no fun c hc => ?_
  unfold isNm at h
  simp only [Bool.and_eq_true] at h
  exact (nm_byte (List.all_eq_true.1 h.2 c hc)).2
theorem find_same {fs : List Fld} {a b : List UInt8} (h : a.map lowB = b.map lowB) : findF fs a = findF fs b := by
  unfold findF
  congr 2
  funext f
  unfold isNamed
  rw [h]
theorem find_upper (fs : List Fld) (n : List UInt8) : findF fs (n.map Lib.upperB) = findF fs n := find_same (low_up_map n)
theorem find_lower (fs : List Fld) (n : List UInt8) : findF fs (n.map Lib.lowerB) = findF fs n := by
  refine find_same ?_
  rw [lower_map, List.map_map]
  congr 1
  funext c
  have := all_bytes (p := fun c => lowB (lowB c) == lowB c) (by decide +kernel) c
  simpa using this
theorem find_has {fs : List Fld} {f : Fld} (h : f ∈ fs) : f.v ∈ findF fs f.n := by
  unfold findF
  refine List.mem_map.2 ⟨f, List.mem_filter.2 ⟨h, ?_⟩, rfl⟩
  unfold isNamed
  exact decide_eq_true rfl
theorem find_empty {fs : List Fld} (h : ∀ f ∈ fs, isNm f.n = true) : findF fs [] = [] := by
  unfold findF
  rw [List.map_eq_nil_iff, List.filter_eq_nil_iff]
  intro f hf q
  unfold isNamed at q
  rw [decide_eq_true_eq] at q
  have := nm_ne (h f hf)
  cases hn : f.n with
  | nil => exact this hn
  | cons c r => rw [hn] at q; simp at q
theorem mes_names {ls : List (List UInt8)} {m : Msg} (h : mesF ls = some m) : ∀ f ∈ m.fs, isNm f.n = true := fields_all (fun raw f hf => (field_raw hf).2.1) _ _ _ (mes_fields h).1
end Go.Vf.S

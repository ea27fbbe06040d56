import Derived.Test.YtgdkekacalmjoaaDoorBnC
import Derived.Lib.Case
/- Paths: what parameters in any order say. -/
namespace Go.Vf.S
open Go Go.Vf
set_option linter.unusedVariables false
set_option linter.unusedSimpArgs false
set_option maxRecDepth 10000

/-! Digits -/
def digC (k : Nat) : UInt8 := UInt8.ofNat (48 + k)
def digs (n : Nat) : List UInt8 := if h : n < 10 then [digC n] else digs (n / 10) ++ [digC (n % 10)]
termination_by n
decreasing_by omega
theorem dig_byte {k : Nat} (h : k < 10) : (digC k).toNat = 48 + k := by unfold digC; rw [UInt8.toNat_ofNat']; omega
theorem digs_lt {n : Nat} (h : n < 10) : digs n = [digC n] := by rw [digs, dif_pos h]
theorem digs_ge {n : Nat} (h : ¬n < 10) : digs n = digs (n / 10) ++ [digC (n % 10)] := by rw [digs, dif_neg h]
theorem digs_all : ∀ (w n : Nat), n < 10 ^ w → 0 < w → (digs n).all digB = true ∧ 1 ≤ (digs n).length ∧ (digs n).length ≤ w ∧ numL (digs n) = n
  | 0, n, _, h0 => by omega
  | w + 1, n, h, _ => by
    have hd : ∀ k, k < 10 → digB (digC k) = true := fun k hk => by unfold digB; rw [dig_byte hk]; exact decide_eq_true (by omega)
    by_cases h10 : n < 10
    · rw [digs_lt h10]
      refine ⟨by simp [hd n h10], by simp, by simp, ?_⟩
      unfold numL numFrom
      simp only [List.foldl_cons, List.foldl_nil, dig_byte h10]
      omega
    · rw [digs_ge h10]
      have hp : 10 ^ (w + 1) = 10 ^ w * 10 := by rw [Nat.pow_succ]
      rcases Nat.eq_zero_or_pos w with hw | hw
      · subst hw
        simp at h
        omega
      · obtain ⟨q1, q2, q3, q4⟩ := digs_all w (n / 10) (by omega) hw
        have hm : n % 10 < 10 := Nat.mod_lt _ (by omega)
        refine ⟨by rw [List.all_append, q1]; simp [hd _ hm], by simp, by simp; omega, ?_⟩
        unfold numL numFrom at q4 ⊢
        rw [List.foldl_append, q4]
        simp only [List.foldl_cons, List.foldl_nil, dig_byte hm]
        omega

/-! One parameter -/
/-- Says a size. -/
structure IsO (o : List UInt8) (n : Nat) : Prop where
  e : ∀ p k, sayE p k o = if p.has then 1 else 0
  v : ∀ p, sayV p o = ⟨true, p.eight, n⟩
  k : ∀ k, sayK k o = k
  b : (32 : UInt8) ∉ o
/-- Says a body. -/
structure IsT (t : List UInt8) (bd : Bool) : Prop where
  e : ∀ p k, sayE p k t = if 1 ≤ k then 1 else 0
  v : ∀ p, sayV p t = ⟨p.has, bd, p.size⟩
  k : ∀ k, sayK k t = k + 1
  b : (32 : UInt8) ∉ t

theorem cut_nm {nm v : List UInt8} (h : (61 : UInt8) ∉ nm) : nameP (nm ++ 61 :: v) = nm ∧ valP (nm ++ 61 :: v) = v ∧ hasP (nm ++ 61 :: v) = true := by
  unfold nameP valP hasP
  rw [cut_is h]
  exact ⟨rfl, rfl, rfl⟩
theorem dig_val {l : List UInt8} (h : l.all digB = true) (h1 : 1 ≤ l.length) : rowF valN l = true := by
  unfold rowF
  rw [Bool.and_eq_true]
  refine ⟨by cases l with | nil => simp at h1 | cons => rfl, ?_⟩
  rw [List.all_eq_true] at h ⊢
  intro c hc
  have := of_decide_eq_true (h c hc)
  unfold valN
  exact decide_eq_true (by omega)
theorem isO {nm D : List UInt8} {n : Nat} (h1 : nm.map lowB = sizeL) (h2 : (61 : UInt8) ∉ nm ∧ (32 : UInt8) ∉ nm) (h3 : rowF namN nm = true) (hD : D.all digB = true) (hl : 1 ≤ D.length ∧ D.length ≤ 9) (hn : numL D = n) : IsO (nm ++ 61 :: D) n := by
  obtain ⟨e1, e2, e3⟩ := cut_nm (v := D) h2.1
  have hf : formP (nm ++ 61 :: D) = true := by unfold formP; rw [e1, e2, e3, h3, dig_val hD hl.1]; rfl
  have hN : numberF D 9 = (n, 0) := by
    unfold numberF
    have : clamp 9 = 9 := by decide
    rw [this, if_pos ⟨hl.1, hl.2, hD⟩, hn]
  have hsb : sizeL ≠ bodyL := by decide
  refine ⟨fun p k => ?_, fun p => ?_, fun k => ?_, ?_⟩
  · unfold sayE sizeE
    rw [if_neg (by simp [hf]), if_neg (by simp [e3]), if_pos (by rw [e1, h1]), e2, hN]
    rfl
  · unfold sayV
    rw [if_pos ⟨hf, e3, by rw [e1, h1]⟩, e2, hN]
  · unfold sayK
    rw [if_neg (by rintro ⟨-, -, q⟩; rw [e1, h1] at q; exact hsb q)]
  · intro q
    rcases List.mem_append.1 q with q | q
    · exact h2.2 q
    · rcases List.mem_cons.1 q with q | q
      · cases q
      · have := (List.all_eq_true.1 hD) _ q
        revert this
        decide
theorem isT {nm V : List UInt8} {e : Bool} (h1 : nm.map lowB = bodyL) (h2 : (61 : UInt8) ∉ nm ∧ (32 : UInt8) ∉ nm) (h3 : rowF namN nm = true) (hV : rowF valN V = true) (h32 : (32 : UInt8) ∉ V) (h8 : eightB V = e) (h7 : eightB V = true ∨ sevenB V = true) : IsT (nm ++ 61 :: V) e := by
  obtain ⟨e1, e2, e3⟩ := cut_nm (v := V) h2.1
  have hf : formP (nm ++ 61 :: V) = true := by unfold formP; rw [e1, e2, e3, h3, hV]; rfl
  have hsb : bodyL ≠ sizeL := by decide
  refine ⟨fun p k => ?_, fun p => ?_, fun k => ?_, ?_⟩
  · unfold sayE bodyE
    rw [if_neg (by simp [hf]), if_neg (by simp [e3]), if_neg (by rw [e1, h1]; exact hsb), if_pos (by rw [e1, h1]), e2]
    by_cases hk : 1 ≤ k
    · rw [if_pos (.inl hk), if_pos hk]
    · rw [if_neg (by rintro (q | ⟨q1, q2⟩)
                     · exact hk q
                     · rcases h7 with q | q
                       · rw [q1] at q; cases q
                       · rw [q2] at q; cases q), if_neg hk]
  · unfold sayV
    rw [if_neg (by rintro ⟨-, -, q⟩; rw [e1, h1] at q; exact hsb q), if_pos ⟨hf, e3, by rw [e1, h1]⟩, e2, h8]
  · unfold sayK
    rw [if_pos ⟨hf, e3, by rw [e1, h1]⟩]
  · intro q
    rcases List.mem_append.1 q with q | q
    · exact h2.2 q
    · rcases List.mem_cons.1 q with q | q
      · cases q
      · exact h32 q

/-! Rows of them -/
/-- Each behind a blank. -/
def blanks (l : List (List UInt8)) : List UInt8 := l.flatMap fun x => 32 :: x
theorem sp_blanks : ∀ (l : List (List UInt8)), (∀ x ∈ l, (32 : UInt8) ∉ x) → sp 32 (blanks l) = ([], l)
  | [], _ => rfl
  | x :: l, h => by
    have ih := sp_blanks l fun y hy => h y (List.mem_cons_of_mem _ hy)
    have hx := h x (List.mem_cons_self ..)
    have e : blanks (x :: l) = 32 :: (x ++ blanks l) := rfl
    rw [e, sp, if_pos rfl]
    cases l with
    | nil =>
      have e2 : x ++ blanks [] = x := by simp [blanks]
      have := split_last (c := 32) (l := x) (List.count_eq_zero.2 hx)
      unfold splitF at this
      have h1 := (List.cons.inj this).1
      have h2 := (List.cons.inj this).2
      rw [e2, h1, h2]
    | cons y l =>
      have e2 : x ++ blanks (y :: l) = x ++ 32 :: (y ++ blanks l) := rfl
      have e3 : blanks (y :: l) = 32 :: (y ++ blanks l) := rfl
      rw [e3, sp, if_pos rfl] at ih
      have ih := (Prod.mk.inj ih).2
      rw [e2, sp_first hx, ih]
theorem params_blanks (l : List (List UInt8)) (h : ∀ x ∈ l, (32 : UInt8) ∉ x) : paramsF (blanks l) = goP pv0 0 0 l := by
  unfold paramsF
  rw [sp_blanks l h, if_pos rfl]

structure TwoOk (two : List UInt8) (e : Bool) : Prop where
  is : (two = [] ∧ e = false) ∨ ∃ t, two = 32 :: t ∧ IsT t e
def wantP (n : Nat) (e : Bool) : Pv := ⟨true, e, n⟩

theorem say_form {p : Pv} {k : Nat} {x : List UInt8} (h : formP x = false) : sayE p k x = 5 := by unfold sayE; rw [if_pos h]
theorem smtp_say (p : Pv) (k : Nat) : sayE p k [115, 109, 116, 112, 117, 116, 102, 56] = 1 ∧ sayV p [115, 109, 116, 112, 117, 116, 102, 56] = p ∧ sayK k [115, 109, 116, 112, 117, 116, 102, 56] = k := by
  have h1 : formP [115, 109, 116, 112, 117, 116, 102, 56] = true := by decide +kernel
  have h2 : hasP [115, 109, 116, 112, 117, 116, 102, 56] = false := by decide +kernel
  refine ⟨?_, ?_, ?_⟩
  · unfold sayE; rw [if_neg (by simp [h1]), if_pos h2]
  · unfold sayV; rw [if_neg (by simp [h2]), if_neg (by simp [h2])]
  · unfold sayK; rw [if_neg (by simp [h2])]
theorem none_say (p : Pv) (k : Nat) : sayE p k [] = 5 := say_form (by decide +kernel)

/-- All that the law asks of two parameters. -/
theorem two_all {o two : List UInt8} {n : Nat} {e : Bool} (ho : IsO o n) (ht : TwoOk two e) :
    paramsF ((32 :: o) ++ two) = (wantP n e, 0) ∧ paramsF (two ++ (32 :: o)) = (wantP n e, 0) ∧ paramsF ((32 :: o) ++ two ++ (32 :: o)) = (pv0, 1) ∧
    paramsF ((32 :: o) ++ [32, 115, 109, 116, 112, 117, 116, 102, 56] ++ two) = (pv0, 1) ∧ paramsF ((32 :: o) ++ [32] ++ two) = (pv0, 5) ∧ paramsF (32 :: o) = (wantP n false, 0) := by
  have he := fun p k => (smtp_say p k).1
  have hv := fun p => (smtp_say p 0).2.1
  have hk := fun k => (smtp_say pv0 k).2.2
  have sm : (32 : UInt8) ∉ ([115, 109, 116, 112, 117, 116, 102, 56] : List UInt8) := by decide
  have e1 : 32 :: o = blanks [o] := by simp [blanks]
  have p1 : paramsF (32 :: o) = (wantP n false, 0) := by
    rw [e1, params_blanks _ (by simp [ho.b])]
    simp [goP, ho.e, ho.v, ho.k, pv0, wantP]
  rcases ht.is with ⟨rfl, rfl⟩ | ⟨t, rfl, hT⟩
  · refine ⟨by rw [List.append_nil]; exact p1, p1, ?_, ?_, ?_, p1⟩
    · rw [show (32 :: o) ++ [] ++ (32 :: o) = blanks [o, o] by simp [blanks], params_blanks _ (by simp [ho.b])]
      simp [goP, ho.e, ho.v, ho.k, pv0]
    · rw [show (32 :: o) ++ [32, 115, 109, 116, 112, 117, 116, 102, 56] ++ [] = blanks [o, [115, 109, 116, 112, 117, 116, 102, 56]] by simp [blanks], params_blanks _ (by simp [ho.b])]
      simp [goP, ho.e, ho.v, ho.k, he, hv, hk, pv0]
    · rw [show (32 :: o) ++ [32] ++ [] = blanks [o, []] by simp [blanks], params_blanks _ (by simp [ho.b])]
      simp [goP, ho.e, ho.v, ho.k, none_say, pv0]
  · refine ⟨?_, ?_, ?_, ?_, ?_, p1⟩
    · rw [show (32 :: o) ++ (32 :: t) = blanks [o, t] by simp [blanks], params_blanks _ (by simp [ho.b, hT.b])]
      simp [goP, ho.e, ho.v, ho.k, hT.e, hT.v, hT.k, pv0, wantP]
    · rw [show (32 :: t) ++ (32 :: o) = blanks [t, o] by simp [blanks], params_blanks _ (by simp [ho.b, hT.b])]
      simp [goP, ho.e, ho.v, ho.k, hT.e, hT.v, hT.k, pv0, wantP]
    · rw [show (32 :: o) ++ (32 :: t) ++ (32 :: o) = blanks [o, t, o] by simp [blanks], params_blanks _ (by simp [ho.b, hT.b])]
      simp [goP, ho.e, ho.v, ho.k, hT.e, hT.v, hT.k, pv0]
    · rw [show (32 :: o) ++ [32, 115, 109, 116, 112, 117, 116, 102, 56] ++ (32 :: t) = blanks [o, [115, 109, 116, 112, 117, 116, 102, 56], t] by simp [blanks], params_blanks _ (by simp [ho.b, hT.b])]
      simp [goP, ho.e, ho.v, ho.k, hT.e, hT.v, hT.k, he, hv, hk, pv0]
    · rw [show (32 :: o) ++ [32] ++ (32 :: t) = blanks [o, [], t] by simp [blanks], params_blanks _ (by simp [ho.b, hT.b])]
      simp [goP, ho.e, ho.v, ho.k, none_say, pv0]

/-- A path of known text ahead. -/
theorem xy_path (r : List UInt8) : pathF ([60, 120, 64, 121, 62] ++ r) = (⟨false, false, [], [120], [121]⟩, r, 0) := by
  have hm : mayF [120] [121] = true := by decide +kernel
  have := path_text hm r
  rw [show textF [120] [121] = [120, 64, 121] by decide +kernel] at this
  exact this
theorem xy_from {r : List UInt8} {p : Pv} (h : paramsF r = (p, 0)) : fromF ([60, 120, 64, 121, 62] ++ r) = (⟨false, false, [], [120], [121]⟩, p, 0) := by
  unfold fromF
  rw [xy_path]
  simp [h]
theorem xy_to {r : List UInt8} {p : Pv} (h : paramsF r = (p, 0)) (hr : r ≠ []) : toF ([60, 120, 64, 121, 62] ++ r) = (ptZ, 1) := by
  unfold toF
  rw [xy_path]
  simp [h, hr]

/-! As the law lays them -/
def twoL (j : Nat) : List UInt8 := if j = 0 then [] else if j = 1 then [32, 98, 111, 100, 121, 61, 55, 98, 105, 116] else [32, 98, 111, 100, 121, 61, 56, 98, 105, 116, 109, 105, 109, 101]
def upL (g : Bool) (l : List UInt8) : List UInt8 := if g then l.map Lib.upperB else l
theorem one_ok (g : Bool) {n : Nat} (hn : n < 1000000000) : ∃ o, upL g ([32, 115, 105, 122, 101, 61] ++ digs n) = 32 :: o ∧ IsO o n ∧ o.length ≤ 14 := by
  obtain ⟨q1, q2, q3, q4⟩ := digs_all 9 n hn (by omega)
  cases g with
  | false => exact ⟨[115, 105, 122, 101] ++ 61 :: digs n, rfl, isO (by decide) (by decide) (by decide +kernel) q1 ⟨q2, q3⟩ q4, by simp; omega⟩
  | true =>
    have hu : (digs n).map Lib.upperB = digs n := by
      have : ∀ c ∈ digs n, Lib.upperB c = c := fun c hc => by
        have h1 := of_decide_eq_true ((List.all_eq_true.1 q1) c hc)
        have h2 := all_bytes (p := fun c => !digB c || Lib.upperB c == c) (by decide +kernel) c
        have h3 : digB c = true := (List.all_eq_true.1 q1) c hc
        rw [h3] at h2
        simpa using h2
      exact (List.map_congr_left this).trans (List.map_id _)
    refine ⟨[83, 73, 90, 69] ++ 61 :: digs n, ?_, isO (by decide) (by decide) (by decide +kernel) q1 ⟨q2, q3⟩ q4, by simp; omega⟩
    show ([32, 115, 105, 122, 101, 61] ++ digs n).map Lib.upperB = _
    rw [List.map_append, hu]
    have : ([32, 115, 105, 122, 101, 61] : List UInt8).map Lib.upperB = [32, 83, 73, 90, 69, 61] := by decide +kernel
    rw [this]
    rfl
theorem two_ok (g : Bool) {j : Nat} (hj : j < 3) : TwoOk (upL g (twoL j)) (decide (j = 2)) ∧ (upL g (twoL j)).length ≤ 14 := by
  have h : ∀ j, j < 3 → j = 0 ∨ j = 1 ∨ j = 2 := by omega
  rcases h j hj with rfl | rfl | rfl
  · cases g <;> exact ⟨⟨.inl ⟨rfl, rfl⟩⟩, by decide⟩
  · cases g
    · exact ⟨⟨.inr ⟨[98, 111, 100, 121] ++ 61 :: [55, 98, 105, 116], rfl, isT (by decide) (by decide) (by decide +kernel) (by decide +kernel) (by decide) (by decide +kernel) (.inr (by decide +kernel))⟩⟩, by decide⟩
    · exact ⟨⟨.inr ⟨[66, 79, 68, 89] ++ 61 :: [55, 66, 73, 84], by decide +kernel, isT (by decide) (by decide) (by decide +kernel) (by decide +kernel) (by decide) (by decide +kernel) (.inr (by decide +kernel))⟩⟩, by decide +kernel⟩
  · cases g
    · exact ⟨⟨.inr ⟨[98, 111, 100, 121] ++ 61 :: [56, 98, 105, 116, 109, 105, 109, 101], rfl, isT (by decide) (by decide) (by decide +kernel) (by decide +kernel) (by decide) (by decide +kernel) (.inl (by decide +kernel))⟩⟩, by decide⟩
    · exact ⟨⟨.inr ⟨[66, 79, 68, 89] ++ 61 :: [56, 66, 73, 84, 77, 73, 77, 69], by decide +kernel, isT (by decide) (by decide) (by decide +kernel) (by decide +kernel) (by decide) (by decide +kernel) (.inl (by decide +kernel))⟩⟩, by decide +kernel⟩
end Go.Vf.S

import Derived.Test.YtipfcmgecdgfhaaDoorAdL
import Derived.Test.YtipfcmgecdgfhaaDoorAdH
/- The addresses that the laws make: they may be. -/
namespace Go.Vf.S
open Go Go.Vf
set_option linter.unusedVariables false
set_option linter.unusedSimpArgs false

theorem lab_46 {c : UInt8} (h : labB c = true) : c ≠ 46 := fun e => by rw [e] at h; cases h
theorem labelF_of {p : List UInt8} {c : UInt8} (h1 : (p ++ [c]).all labB = true) (h2 : (p ++ [c]).head? ≠ some 45) (h3 : c ≠ 45) : labelF (p ++ [c]) = true := by
  unfold labelF endsF
  rw [h1, decide_eq_true h2, List.getLast?_append]
  simp [h3]
theorem okI_lab : ∀ (n : Nat) (r : List UInt8) (c : UInt8) (p : List UInt8), r.length ≤ n → (p ++ [c]).all labB = true → (p ++ [c]).head? ≠ some 45 → okI c r = true → labelF ((p ++ [c]) ++ (sp 46 r).1) = true ∧ (sp 46 r).2.all labelF = true
  | _, [], c, p, _, h1, h2, h3 => by
    unfold okI at h3
    exact ⟨by simpa [sp] using labelF_of h1 h2 (of_decide_eq_true h3), rfl⟩
  | 0, x :: r, c, p, h, _, _, _ => by simp at h
  | n + 1, x :: r, c, p, h, h1, h2, h3 => by
    simp only [List.length_cons] at h
    unfold okI at h3
    rw [sp]
    by_cases hx : x = 46
    · rw [if_pos hx, Bool.and_eq_true, decide_eq_true_eq] at h3
      rw [if_pos hx]
      refine ⟨by rw [List.append_nil]; exact labelF_of h1 h2 h3.1, ?_⟩
      match r, h3.2, h with
      | y :: r, h4, h =>
        unfold okS at h4
        rw [Bool.and_eq_true, Bool.and_eq_true, decide_eq_true_eq] at h4
        obtain ⟨g1, g2, g3⟩ := h4
        have ih := okI_lab n r y [] (by simp at h; omega) (by simpa using g1) (by simpa using g2) g3
        rw [sp, if_neg (lab_46 g1), List.all_cons, ih.2, Bool.and_true]
        exact ih.1
    · rw [if_neg hx, Bool.and_eq_true] at h3
      rw [if_neg hx]
      have ih := okI_lab n r x (p ++ [c]) (by omega) (by rw [List.all_append, h1, List.all_cons, h3.1]; rfl) (by
        intro q
        refine h2 ?_
        cases p with
        | nil => simpa using q
        | cons u p => simpa using q) h3.2
      exact ⟨by have := ih.1; simpa using this, ih.2⟩
theorem okS_lab {l : List UInt8} (h : okS l = true) : (splitF 46 l).all labelF = true := by
  match l, h with
  | y :: r, h4 =>
    unfold okS at h4
    rw [Bool.and_eq_true, Bool.and_eq_true, decide_eq_true_eq] at h4
    obtain ⟨g1, g2, g3⟩ := h4
    have ih := okI_lab _ r y [] (Nat.le_refl _) (by simpa using g1) (by simpa using g2) g3
    unfold splitF
    rw [sp, if_neg (lab_46 g1), List.all_cons, ih.2, Bool.and_true]
    exact ih.1

theorem adj_okI : ∀ (n : Nat) (r : List UInt8) (c : UInt8), r.length ≤ n → labB c = true → r.all okC = true → noAdj 45 46 (c :: r) = true → noAdj 46 45 (c :: r) = true → noAdj 46 46 (c :: r) = true → (∃ m z, c :: r = m ++ [z] ∧ z ≠ 45 ∧ z ≠ 46) → okI c r = true
  | _, [], c, _, _, _, _, _, _, ⟨m, z, hm, hz, _⟩ => by
    have : c = z := by
      cases m with
      | nil => simpa using hm
      | cons u m => simp at hm
    unfold okI
    rw [this]
    exact decide_eq_true hz
  | 0, x :: r, c, h, _, _, _, _, _, _ => by simp at h
  | n + 1, x :: r, c, h, hc, ha, h1, h2, h3, ⟨m, z, hm, hz, hz2⟩ => by
    simp only [List.length_cons] at h
    rw [List.all_cons, Bool.and_eq_true] at ha
    have hm2 : ∃ m2, x :: r = m2 ++ [z] := by
      cases m with
      | nil => simp at hm
      | cons u m => exact ⟨m, (List.cons.inj hm).2⟩
    obtain ⟨m2, hm2⟩ := hm2
    unfold okI
    by_cases hx : x = 46
    · rw [if_pos hx, Bool.and_eq_true, decide_eq_true_eq]
      refine ⟨fun e => adj_in h1 ⟨e, by rw [hx]; rfl⟩, ?_⟩
      match r, ha.2, noAdj_tail h1, noAdj_tail h2, noAdj_tail h3, hm2, h with
      | [], _, _, _, _, hm2, _ =>
        have : x = z := by
          cases m2 with
          | nil => simpa using hm2
          | cons u m => simp at hm2
        exact absurd (this.symm.trans hx) hz2
      | y :: r, ha, k1, k2, k3, hm2, h =>
        rw [List.all_cons, Bool.and_eq_true] at ha
        have y46 : y ≠ 46 := fun e => adj_in k3 ⟨hx, by rw [e]; rfl⟩
        have y45 : y ≠ 45 := fun e => adj_in k2 ⟨hx, by rw [e]; rfl⟩
        have hy : labB y = true := by
          have := ha.1
          unfold okC at this
          rw [Bool.or_eq_true, isD_is] at this
          exact this.resolve_right y46
        unfold okS
        rw [hy, decide_eq_true y45, Bool.true_and, Bool.true_and]
        refine adj_okI n r y (by simp at h; omega) hy ha.2 (noAdj_tail k1) (noAdj_tail k2) (noAdj_tail k3) ?_
        cases m2 with
        | nil => simp at hm2
        | cons u m => exact ⟨m, z, (List.cons.inj hm2).2, hz, hz2⟩
    · rw [if_neg hx, Bool.and_eq_true]
      have hxl : labB x = true := by
        have := ha.1
        unfold okC at this
        rw [Bool.or_eq_true, isD_is] at this
        exact this.resolve_right hx
      exact ⟨hxl, adj_okI n r x (by omega) hxl ha.2 (noAdj_tail h1) (noAdj_tail h2) (noAdj_tail h3) ⟨m2, z, hm2, hz, hz2⟩⟩

theorem low_lab (c : UInt8) : labB (lowB c) = labB c := by
  by_cases h : upB c = true
  · have h1 := lowB_up h
    have h2 : 65 ≤ c.toNat ∧ c.toNat ≤ 90 := by simpa [upB] using h
    unfold labB labN alnN
    rw [h1, Bool.eq_iff_iff]
    simp only [Bool.or_eq_true, decide_eq_true_eq, beq_iff_eq]
    omega
  · rw [lowB_no h]
theorem low_is {c d : UInt8} (hd : upB d = false) (hl : ¬(97 ≤ d.toNat ∧ d.toNat ≤ 122)) : lowB c = d ↔ c = d := by
  by_cases h : upB c = true
  · have h1 := lowB_up h
    have h2 : 65 ≤ c.toNat ∧ c.toNat ≤ 90 := by simpa [upB] using h
    constructor
    · intro e
      rw [e] at h1
      omega
    · intro e
      rw [e] at h
      rw [h] at hd
      cases hd
  · rw [lowB_no h]
theorem low_45 (c : UInt8) : lowB c = 45 ↔ c = 45 := low_is (by decide) (by decide)
theorem low_46 (c : UInt8) : lowB c = 46 ↔ c = 46 := low_is (by decide) (by decide)
theorem low_okI : ∀ (n : Nat) (r : List UInt8) (c : UInt8), r.length ≤ n → okI (lowB c) (r.map lowB) = okI c r
  | _, [], c, _ => by
    show decide _ = decide _
    rw [decide_eq_decide, ne_eq, ne_eq, low_45]
  | 0, x :: r, c, h => by simp at h
  | n + 1, x :: r, c, h => by
    simp only [List.length_cons] at h
    rw [List.map_cons]
    unfold okI
    have e45 : decide (lowB c ≠ 45) = decide (c ≠ 45) := by rw [decide_eq_decide, ne_eq, ne_eq, low_45]
    by_cases hx : x = 46
    · rw [if_pos hx, if_pos ((low_46 x).2 hx), e45]
      match r, h with
      | [], _ => rfl
      | y :: r, h =>
        rw [List.map_cons]
        unfold okS
        rw [low_lab, low_okI n r y (by simp at h; omega)]
        have : decide (lowB y ≠ 45) = decide (y ≠ 45) := by rw [decide_eq_decide, ne_eq, ne_eq, low_45]
        rw [this]
    · rw [if_neg hx, if_neg (fun q => hx ((low_46 x).1 q)), low_lab, low_okI n r x (by omega)]
theorem low_okS (l : List UInt8) : okS (l.map lowB) = okS l := by
  match l with
  | [] => rfl
  | y :: r =>
    rw [List.map_cons]
    unfold okS
    rw [low_lab, low_okI _ r y (Nat.le_refl _)]
    have : decide (lowB y ≠ 45) = decide (y ≠ 45) := by rw [decide_eq_decide, ne_eq, ne_eq, low_45]
    rw [this]

/-- A short name. -/
theorem dom_ok {l : List UInt8} (h : okS l = true) (hl : l.length ≤ 63) : domF l = 0 := by
  have hname : ∀ c, l[0]? = some c → c ≠ 91 := fun c hc e => by
    match l, h, hc with
    | y :: r, h, hc =>
      have : y = c := Option.some.inj hc
      rw [this, e] at h
      cases h
  have hlong : longF l = false := by
    unfold longF
    rw [decide_eq_false (by omega), Bool.false_or, List.any_eq_false]
    intro p hp
    have := part_len hp
    simp
    omega
  rw [dom_name hname, okS_lab h, hlong]
  rfl

/-! ### What is made -/
def alphaL : List UInt8 := [97, 98, 99, 100, 101, 65, 66, 67, 68, 69, 48, 49, 57, 45]
def alpha (c : UInt8) : UInt8 := alphaL.getD (c.toNat % 14) 0
def nameC (k : Nat) (c : UInt8) : UInt8 := if k % 9 = 8 then 46 else alpha c
def nameL (d : List UInt8) : List UInt8 := (d.take 60).mapIdx nameC
def replL (d : List UInt8) : List UInt8 := repC (repB (repA (nameL d ++ [46])))
def madeD (d : List UInt8) : List UInt8 := 100 :: (replL d).dropLast
def plainC (c : UInt8) : UInt8 := UInt8.ofNat (32 + c.toNat % 95)
def madeL (a : List UInt8) : List UInt8 := if a.take 64 = [] then [97] else (a.take 64).map plainC

theorem alpha_get (c : UInt8) : alphaL[c.toNat % 14]? = some (alpha c) := by
  have h : c.toNat % 14 < alphaL.length := Nat.mod_lt _ (by decide)
  unfold alpha
  rw [List.getD_eq_getElem?_getD, List.getElem?_eq_getElem h]
  rfl
theorem alpha_all : ∀ x ∈ alphaL, labB x = true ∧ isD x = false := by decide
theorem alpha_ok (c : UInt8) : labB (alpha c) = true ∧ isD (alpha c) = false := alpha_all _ (List.mem_of_getElem? (alpha_get c))
theorem name_len (d : List UInt8) : (nameL d).length = min 60 d.length := by simp [nameL]
theorem name_dots (d : List UInt8) : (nameL d).map isD = (List.range (min 60 d.length)).map fun k => k % 9 == 8 := by
  refine List.ext_getElem? fun i => ?_
  rw [List.getElem?_map, List.getElem?_map]
  rcases Nat.lt_or_ge i (min 60 d.length) with h | h
  · rw [List.getElem?_range h]
    obtain ⟨c, hc⟩ : ∃ c, (d.take 60)[i]? = some c := ⟨_, List.getElem?_eq_getElem (by rw [List.length_take]; exact h)⟩
    unfold nameL
    rw [List.getElem?_mapIdx, hc]
    simp only [Option.map_some, Option.some.injEq]
    unfold nameC
    split
    · rename_i h8; rw [h8]; rfl
    · rename_i h8
      rw [(alpha_ok c).2]
      symm
      simpa using h8
  · rw [List.getElem?_eq_none (by rw [name_len]; exact h), List.getElem?_eq_none (by simpa using h)]
    rfl
theorem name_all (d : List UInt8) : (nameL d).all okC = true := by
  rw [List.all_eq_true]
  intro x hx
  obtain ⟨i, hi⟩ := List.getElem?_of_mem hx
  unfold nameL at hi
  rw [List.getElem?_mapIdx] at hi
  cases hc : (d.take 60)[i]? with
  | none => rw [hc] at hi; cases hi
  | some c =>
    rw [hc] at hi
    simp only [Option.map_some, Option.some.injEq] at hi
    rw [← hi]
    unfold nameC okC
    split
    · rfl
    · rw [(alpha_ok c).1]; rfl
theorem dots_fine : ∀ n, n ≤ 60 → no3 ((List.range n).map (fun k => k % 9 == 8) ++ [true]) = true ∧ len3 ((List.range n).map (fun k => k % 9 == 8) ++ [true]) ≤ 62 := by
  have h : ((List.range 61).all fun n => no3 ((List.range n).map (fun k => k % 9 == 8) ++ [true]) && decide (len3 ((List.range n).map (fun k => k % 9 == 8) ++ [true]) ≤ 62)) = true := by decide +kernel
  intro n hn
  rw [List.all_eq_true] at h
  have := h n (List.mem_range.2 (by omega))
  rw [Bool.and_eq_true, decide_eq_true_eq] at this
  exact this

theorem repl_fine (d : List UInt8) : noAdj 45 46 (replL d) = true ∧ noAdj 46 45 (replL d) = true ∧ noAdj 46 46 (replL d) = true ∧ (replL d).length ≤ 62 ∧ (replL d).all okC = true ∧ ∃ m, replL d = m ++ [46] := by
  obtain ⟨f1, f2⟩ := dots_fine (min 60 d.length) (by omega)
  unfold replL
  generalize hu : nameL d ++ [46] = u
  have hdots : u.map isD = (List.range (min 60 d.length)).map (fun k => k % 9 == 8) ++ [true] := by rw [← hu, List.map_append, name_dots]; rfl
  have hall : u.all okC = true := by rw [← hu, List.all_append, name_all]; rfl
  have hlast : ∃ m, u = m ++ [46] := ⟨_, hu.symm⟩
  have a1 := adjA _ u (Nat.le_refl _)
  have dA := dotsA _ u (Nat.le_refl _)
  obtain ⟨b1, b2⟩ := adjB _ (repA u) (Nat.le_refl _) a1
  have dB := dotsB _ (repA u) (Nat.le_refl _)
  have e : (repB (repA u)).map isD = (List.range (min 60 d.length)).map (fun k => k % 9 == 8) ++ [true] := by rw [dB, dA, hdots]
  obtain ⟨c1, c2, c3⟩ := adjC _ (repB (repA u)) (Nat.le_refl _) b1 b2 (by rw [e]; exact f1)
  refine ⟨c1, c2, c3, by rw [lenC _ _ (Nat.le_refl _), e]; exact f2, ?_, ?_⟩
  · exact rep_all (by decide) _ _ (Nat.le_refl _) (rep_all (by decide) _ _ (Nat.le_refl _) (rep_all (by decide) _ _ (Nat.le_refl _) hall))
  · exact rep_last (fun _ => ⟨[46, 122], rfl⟩) _ _ (Nat.le_refl _) (rep_last (fun h => absurd h (by decide)) _ _ (Nat.le_refl _) (rep_last (fun _ => ⟨[120], rfl⟩) _ _ (Nat.le_refl _) hlast))

theorem adj_mid {a b z w : UInt8} : ∀ {m : List UInt8}, noAdj a b (m ++ [z, w]) = true → z = a → w = b → False
  | [], h, e, f => adj_in h ⟨e, by rw [f]; rfl⟩
  | x :: m, h, e, f => adj_mid (m := m) (noAdj_tail h) e f
theorem made_ok (d : List UInt8) : okS (madeD d) = true ∧ (madeD d).length ≤ 63 := by
  obtain ⟨h1, h2, h3, h4, h5, m, hm⟩ := repl_fine d
  unfold madeD
  rw [hm] at h1 h2 h3 h4 h5 ⊢
  rw [List.dropLast_concat]
  rw [List.length_append, List.length_singleton] at h4
  refine ⟨?_, by simp; omega⟩
  unfold okS
  rw [show labB 100 = true by decide, show decide ((100 : UInt8) ≠ 45) = true by decide, Bool.true_and, Bool.true_and]
  rw [List.all_append, Bool.and_eq_true] at h5
  have out : ∀ a b : UInt8, a ≠ 100 → noAdj a b (m ++ [46]) = true → noAdj a b (100 :: m) = true := fun a b ha h => adj_out (fun q => ha q.1.symm) (noAdj_front h)
  refine adj_okI _ m 100 (Nat.le_refl _) (by decide) h5.1 (out _ _ (by decide) h1) (out _ _ (by decide) h2) (out _ _ (by decide) h3) ?_
  rcases List.eq_nil_or_concat m with rfl | ⟨m', z, rfl⟩
  · exact ⟨[], 100, rfl, by decide, by decide⟩
  · refine ⟨100 :: m', z, by simp, fun e => ?_, fun e => ?_⟩
    · have : noAdj 45 46 (m' ++ [z, 46]) = true := by simpa using h1
      exact adj_mid this e rfl
    · have : noAdj 46 46 (m' ++ [z, 46]) = true := by simpa using h3
      exact adj_mid this e rfl
theorem madeL_ok (a : List UInt8) : madeL a ≠ [] ∧ (madeL a).length ≤ 64 ∧ (madeL a).all plainB = true := by
  unfold madeL
  split
  · decide
  · rename_i h
    refine ⟨by simpa using h, by simp; omega, ?_⟩
    rw [List.all_eq_true]
    intro x hx
    obtain ⟨c, _, rfl⟩ := List.mem_map.1 hx
    unfold plainB plainC
    have := Nat.mod_lt c.toNat (show 0 < 95 by omega)
    rw [UInt8.toNat_ofNat']
    simp
    omega
theorem made_may (a d : List UInt8) : mayF (madeL a) (madeD d) = true := by
  obtain ⟨h1, h2, h3⟩ := madeL_ok a
  obtain ⟨h4, h5⟩ := made_ok d
  exact decide_eq_true ⟨h1, h2, h3, dom_ok h4 h5⟩
end Go.Vf.S

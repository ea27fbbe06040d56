import Derived.Test.YtfccipbogdmbnaaDoorFn
import Derived.Test.YtfccipbogdmbnaaDoorBnA
import Derived.Test.YtfccipbogdmbnaaDoorLbF
import Derived.Test.YtfccipbogdmbnaaDoorAdS
import Derived.Test.YtfccipbogdmbnaaDoorEngBe
/- SmA -/
section
/- Years, months, days: a day has one date. -/
namespace Go.Vf.S
set_option linter.unusedVariables false
set_option linter.unusedSimpArgs false

/-- A year's day more. -/
def lpY (y : Nat) : Nat := if y % 4 = 0 ∧ y % 100 ≠ 0 ∨ y % 400 = 0 then 1 else 0
theorem lpY_le (y : Nat) : lpY y ≤ 1 := by unfold lpY; split <;> omega
/-- How many years ahead have a day more. -/
def leN (y : Nat) : Int := ((y + 3) / 4 : Nat) - ((y + 99) / 100 : Nat) + ((y + 399) / 400 : Nat)
theorem leN_succ (y : Nat) : leN (y + 1) = leN y + lpY y := by
  unfold leN lpY
  split <;> omega
/-- A year's first day. -/
def ys (y : Nat) : Int := ((y : Int) - 1970) * 365 + leN y - 478
theorem ys_succ (y : Nat) : ys (y + 1) = ys y + 365 + lpY y := by
  unfold ys
  rw [leN_succ]
  omega
theorem ys_1970 : ys 1970 = 0 := by decide
theorem ys_mono {a b : Nat} (h : a ≤ b) : ys a ≤ ys b := by
  induction b with
  | zero =>
      obtain rfl : a = 0 := by omega
      exact Int.le_refl _
  | succ b ih =>
    rcases Nat.lt_or_ge b a with q | q
    · obtain rfl : a = b + 1 := by omega
      exact Int.le_refl _
    · have := ih q
      rw [ys_succ]
      omega
theorem ys_ge (y : Nat) (h : 1970 ≤ y) : ((y : Int) - 1970) * 365 ≤ ys y := by unfold ys leN; omega
theorem ys_le (y : Nat) : ys y ≤ ((y : Int) - 1970) * 366 + 1 + 2000 := by unfold ys leN; omega
theorem ys_lo (y : Nat) : -720000 ≤ ys y := by unfold ys leN; omega
theorem ys_neg {y : Nat} (h : y < 1970) : ys y ≤ -365 := by unfold ys leN; omega
theorem ys_400 (y : Nat) : ys (y + 400) = ys y + 146097 := by unfold ys leN; omega
theorem ys_400k (k : Nat) : ys (1970 + 400 * k) = 146097 * k := by
  induction k with
  | zero => decide
  | succ k ih =>
    rw [show 1970 + 400 * (k + 1) = (1970 + 400 * k) + 400 by omega, ys_400, ih]
    omega

/-- A month's days in a year that has no day more. -/
def ml0 (m : Nat) : Nat := [31, 28, 31, 30, 31, 30, 31, 31, 30, 31, 30, 31].getD m 31
/-- A month's days. -/
def ml (y m : Nat) : Nat := if m = 1 then 28 + lpY y else ml0 m
theorem ml_le (y m : Nat) : ml y m ≤ 31 ∧ 28 ≤ ml y m := by
  have := lpY_le y
  unfold ml
  split
  · omega
  · unfold ml0
    rcases m with _ | _ | _ | _ | _ | _ | _ | _ | _ | _ | _ | _ | m <;> simp
/-- The days ahead of a month. -/
def mo (y : Nat) : Nat → Nat
  | 0 => 0
  | m + 1 => mo y m + ml y m
theorem mo_mono {y a b : Nat} (h : a ≤ b) : mo y a ≤ mo y b := by
  induction b with
  | zero =>
      obtain rfl : a = 0 := by omega
      exact Nat.le_refl _
  | succ b ih =>
    rcases Nat.lt_or_ge b a with q | q
    · obtain rfl : a = b + 1 := by omega
      exact Nat.le_refl _
    · have := ih q
      show _ ≤ mo y b + ml y b
      omega
theorem mo_12 (y : Nat) : mo y 12 = 365 + lpY y := by simp [mo, ml, ml0]; omega
/-- A day's year, month (from 0 on) and day of the month (from 0 on). -/
def Is (d y m o : Nat) : Prop := 1970 ≤ y ∧ m < 12 ∧ o < ml y m ∧ (d : Int) = ys y + mo y m + o
instance (d y m o : Nat) : Decidable (Is d y m o) := by unfold Is; infer_instance
theorem Is.in_year {d y m o : Nat} (h : Is d y m o) : ys y ≤ d ∧ (d : Int) < ys (y + 1) := by
  obtain ⟨_, h2, h3, h4⟩ := h
  have h5 := mo_mono (y := y) (show m + 1 ≤ 12 by omega)
  rw [mo_12] at h5
  have h6 : mo y (m + 1) = mo y m + ml y m := rfl
  rw [ys_succ]
  omega
theorem year_one {d : Int} {a b : Nat} (h1 : ys a ≤ d) (h2 : d < ys (a + 1)) (h3 : ys b ≤ d) (h4 : d < ys (b + 1)) : a = b := by
  rcases Nat.lt_trichotomy a b with q | q | q
  · have := ys_mono (show a + 1 ≤ b by omega)
    omega
  · exact q
  · have := ys_mono (show b + 1 ≤ a by omega)
    omega
theorem month_one {y d a b : Nat} (h1 : mo y a ≤ d) (h2 : d < mo y (a + 1)) (h3 : mo y b ≤ d) (h4 : d < mo y (b + 1)) : a = b := by
  rcases Nat.lt_trichotomy a b with q | q | q
  · have := mo_mono (y := y) (show a + 1 ≤ b by omega)
    omega
  · exact q
  · have := mo_mono (y := y) (show b + 1 ≤ a by omega)
    omega
theorem Is.one {d y m o y' m' o' : Nat} (h : Is d y m o) (h' : Is d y' m' o') : y = y' ∧ m = m' ∧ o = o' := by
  obtain rfl := year_one h.in_year.1 h.in_year.2 h'.in_year.1 h'.in_year.2
  obtain ⟨_, _, h3, h4⟩ := h
  obtain ⟨_, _, k3, k4⟩ := h'
  have e1 : mo y (m + 1) = mo y m + ml y m := rfl
  have e2 : mo y (m' + 1) = mo y m' + ml y m' := rfl
  obtain rfl := month_one (y := y) (d := mo y m + o) (a := m) (b := m') (by omega) (by omega) (by omega) (by omega)
  exact ⟨rfl, rfl, by omega⟩
theorem Is.back {d d' y m o : Nat} (h : Is d y m o) (h' : Is d' y m o) : d = d' := by
  obtain ⟨_, _, _, h4⟩ := h
  obtain ⟨_, _, _, k4⟩ := h'
  omega
/-- The year within 146097 days from 1970 on, and what is left of the year. -/
theorem has_date : ∀ d : Nat, ∃ y m o, Is d y m o
  | 0 => ⟨1970, 0, 0, by decide⟩
  | d + 1 => by
    obtain ⟨y, m, o, h1, h2, h3, h4⟩ := has_date d
    by_cases q : o + 1 < ml y m
    · exact ⟨y, m, o + 1, h1, h2, q, by omega⟩
    · have e1 : mo y (m + 1) = mo y m + ml y m := rfl
      by_cases q2 : m + 1 < 12
      · have := ml_le y (m + 1)
        exact ⟨y, m + 1, 0, h1, q2, by omega, by omega⟩
      · obtain rfl : m = 11 := by omega
        have := ml_le (y + 1) 0
        have e2 : mo y (11 + 1) = 365 + lpY y := mo_12 y
        refine ⟨y + 1, 0, 0, by omega, by omega, by omega, ?_⟩
        rw [ys_succ]
        show _ = _ + ((0 : Nat) : Int) + ((0 : Nat) : Int)
        omega
noncomputable def calD (d : Nat) : Nat × Nat × Nat := ⟨Classical.choose (has_date d), Classical.choose (Classical.choose_spec (has_date d)), Classical.choose (Classical.choose_spec (Classical.choose_spec (has_date d)))⟩
theorem calD_is (d : Nat) : Is d (calD d).1 (calD d).2.1 (calD d).2.2 := Classical.choose_spec (Classical.choose_spec (Classical.choose_spec (has_date d)))
theorem calD_eq {d y m o : Nat} (h : Is d y m o) : calD d = (y, m, o) := by
  obtain ⟨a, b, c⟩ := h.one (calD_is d)
  generalize calD d = p at *
  obtain ⟨p1, p2, p3⟩ := p
  dsimp only at a b c
  rw [a, b, c]
theorem Is.year_le {d y m o : Nat} (h : Is d y m o) : y ≤ 1970 + d / 365 := by
  have h1 := ys_ge y h.1
  have h2 := h.in_year.1
  omega

/-! ### Numbers in digits -/

def dgA : Nat → Nat → Nat → List UInt8
  | 0, _, _ => []
  | f + 1, n, k => if n = 0 ∧ k = 0 then [] else dgA f (n / 10) (k - 1) ++ [UInt8.ofNat (48 + n % 10)]
/-- A number in so many digits at least. -/
def dg (n k : Nat) : List UInt8 := dgA (n + k) n k
theorem dgA_more : ∀ (f n k : Nat), n + k ≤ f → ∀ g, n + k ≤ g → dgA f n k = dgA g n k
  | 0, n, k, h, g, _ => by
    obtain ⟨rfl, rfl⟩ : n = 0 ∧ k = 0 := by omega
    cases g <;> simp [dgA]
  | f + 1, n, k, h, 0, hg => by
    obtain ⟨rfl, rfl⟩ : n = 0 ∧ k = 0 := by omega
    simp [dgA]
  | f + 1, n, k, h, g + 1, hg => by
    unfold dgA
    by_cases q : n = 0 ∧ k = 0
    · rw [if_pos q, if_pos q]
    · rw [if_neg q, if_neg q, dgA_more f (n / 10) (k - 1) (by omega) g (by omega)]
theorem dg_next {n k : Nat} (h : ¬(n = 0 ∧ k = 0)) : dg n k = dg (n / 10) (k - 1) ++ [UInt8.ofNat (48 + n % 10)] := by
  unfold dg
  obtain ⟨f, hf⟩ : ∃ f, n + k = f + 1 := ⟨n + k - 1, by omega⟩
  rw [hf]
  show (if n = 0 ∧ k = 0 then [] else dgA f (n / 10) (k - 1) ++ [UInt8.ofNat (48 + n % 10)]) = _
  rw [if_neg h, dgA_more f _ _ (by omega) (n / 10 + (k - 1)) (Nat.le_refl _)]
theorem dg_00 : dg 0 0 = [] := rfl
def dgt (c : UInt8) : Bool := decide (48 ≤ c.toNat ∧ c.toNat ≤ 57)
def vlA (a : Nat) (l : List UInt8) : Nat := l.foldl (fun n c => 10 * n + (c.toNat - 48)) a
/-- The number that digits tell. -/
def vl (l : List UInt8) : Nat := vlA 0 l
theorem vl_next (l : List UInt8) (c : UInt8) : vl (l ++ [c]) = 10 * vl l + (c.toNat - 48) := by simp [vl, vlA]
theorem dgb (n : Nat) : (UInt8.ofNat (48 + n % 10)).toNat = 48 + n % 10 := by
  rw [UInt8.toNat_ofNat']
  have := Nat.mod_lt n (show 0 < 10 by omega)
  omega
theorem dg_all : ∀ (f n k : Nat), n + k ≤ f → (dg n k).all dgt = true ∧ vl (dg n k) = n
  | 0, n, k, h => by
    obtain ⟨rfl, rfl⟩ : n = 0 ∧ k = 0 := by omega
    exact ⟨rfl, rfl⟩
  | f + 1, n, k, h => by
    by_cases q : n = 0 ∧ k = 0
    · obtain ⟨rfl, rfl⟩ := q
      exact ⟨rfl, rfl⟩
    · obtain ⟨h1, h2⟩ := dg_all f (n / 10) (k - 1) (by omega)
      rw [dg_next q]
      refine ⟨?_, ?_⟩
      · rw [List.all_append, h1]
        simp [dgt, dgb]
        omega
      · rw [vl_next, h2, dgb]
        omega
theorem dg_dgt (n k : Nat) : (dg n k).all dgt = true := (dg_all (n + k) n k (Nat.le_refl _)).1
theorem dg_vl (n k : Nat) : vl (dg n k) = n := (dg_all (n + k) n k (Nat.le_refl _)).2
theorem dg_len : ∀ (k n : Nat), n < 10 ^ k → (dg n k).length = k
  | 0, n, h => by
    obtain rfl : n = 0 := by simpa using h
    rfl
  | k + 1, n, h => by
    rw [dg_next (by omega), List.length_append, Nat.add_sub_cancel, dg_len k (n / 10) (by
      rw [Nat.pow_succ] at h
      exact Nat.div_lt_of_lt_mul (by rw [Nat.mul_comm]; exact h))]
    rfl
theorem dg_long : ∀ (f n k : Nat), n + k ≤ f → k ≤ (dg n k).length
  | 0, n, k, h => by omega
  | f + 1, n, k, h => by
    by_cases q : n = 0 ∧ k = 0
    · omega
    · have := dg_long f (n / 10) (k - 1) (by omega)
      rw [dg_next q, List.length_append]
      simp
      omega
theorem dg_ge (n k : Nat) : k ≤ (dg n k).length := dg_long (n + k) n k (Nat.le_refl _)
theorem dg_most : ∀ (j n k : Nat), n < 10 ^ j → k ≤ j → (dg n k).length ≤ j
  | 0, n, k, h, hk => by
    obtain rfl : n = 0 := by simpa using h
    obtain rfl : k = 0 := by omega
    exact Nat.le_refl _
  | j + 1, n, k, h, hk => by
    by_cases q : n = 0 ∧ k = 0
    · obtain ⟨rfl, rfl⟩ := q
      exact Nat.zero_le _
    · have := dg_most j (n / 10) (k - 1) (by
        rw [Nat.pow_succ] at h
        exact Nat.div_lt_of_lt_mul (by rw [Nat.mul_comm]; exact h)) (by omega)
      rw [dg_next q, List.length_append]
      simp
      omega
theorem vlA_pos : ∀ (l : List UInt8) (a : Nat), 0 < a → 0 < vlA a l
  | [], a, h => h
  | c :: l, a, h => vlA_pos l (10 * a + (c.toNat - 48)) (by omega)
theorem vl_pos {c : UInt8} {l : List UInt8} (h : dgt c = true) (hc : c ≠ 48) : 0 < vl (c :: l) := by
  have h1 : 48 ≤ c.toNat ∧ c.toNat ≤ 57 := by simpa [dgt] using h
  have h2 : c.toNat ≠ 48 := fun e => hc (UInt8.toNat_inj.1 e)
  exact vlA_pos l (10 * 0 + (c.toNat - 48)) (by omega)
theorem dig_bt {c : UInt8} (h : dgt c = true) (x : Nat) : UInt8.ofNat (48 + (10 * x + (c.toNat - 48)) % 10) = c := by
  have h1 : 48 ≤ c.toNat ∧ c.toNat ≤ 57 := by simpa [dgt] using h
  refine UInt8.toNat_inj.1 ?_
  rw [dgb]
  omega
/-- Digits are those of the number that they tell. -/
theorem dg_of : ∀ (n : Nat) (l : List UInt8) (k : Nat), l.length = n → l.all dgt = true → k ≤ l.length → (k < l.length → l.head? ≠ some 48) → dg (vl l) k = l
  | 0, l, k, hl, _, hk, _ => by
    obtain rfl : l = [] := List.length_eq_zero_iff.1 hl
    obtain rfl : k = 0 := by simpa using hk
    rfl
  | n + 1, l, k, hl, ha, hk, hh => by
    obtain ⟨l', c, rfl⟩ : ∃ l' c, l = l' ++ [c] := ⟨l.dropLast, l.getLast (by intro e; rw [e] at hl; cases hl), (List.dropLast_concat_getLast _).symm⟩
    rw [List.all_append, Bool.and_eq_true] at ha
    have hc : dgt c = true := by simpa using ha.2
    have hn : l'.length = n := by simpa using hl
    simp only [List.length_append, List.length_cons, List.length_nil] at hk hh
    have h0 : ¬(vl (l' ++ [c]) = 0 ∧ k = 0) := fun q => by
      have h1 := hh (by omega)
      cases l' with
      | nil =>
        have : 0 < vl (c :: []) := vl_pos hc (fun e => h1 (by rw [e]; rfl))
        simp only [List.nil_append] at q
        omega
      | cons d r =>
        have hd : dgt d = true := by have := ha.1; rw [List.all_cons, Bool.and_eq_true] at this; exact this.1
        have : 0 < vl (d :: (r ++ [c])) := vl_pos hd (fun e => h1 (by rw [e]; rfl))
        simp only [List.cons_append] at q
        omega
    rw [dg_next h0, vl_next, dig_bt hc]
    congr 1
    have h2 : (10 * vl l' + (c.toNat - 48)) / 10 = vl l' := by
      have h1 : 48 ≤ c.toNat ∧ c.toNat ≤ 57 := by simpa [dgt] using hc
      omega
    rw [h2]
    refine dg_of n l' (k - 1) hn ha.1 (by omega) fun hlt => ?_
    cases l' with
    | nil => simp at hlt
    | cons d r =>
      have := hh (by simp at hlt ⊢; omega)
      simpa using this
theorem dg_head0 : ∀ (f n k : Nat), n + k ≤ f → k < (dg n k).length → (dg n k).head? ≠ some 48
  | 0, n, k, h, hl => by
    obtain ⟨rfl, rfl⟩ : n = 0 ∧ k = 0 := by omega
    simp [dg_00] at hl
  | f + 1, n, k, h, hl => by
    by_cases q : n = 0 ∧ k = 0
    · obtain ⟨rfl, rfl⟩ := q
      simp [dg_00] at hl
    · have ih := dg_head0 f (n / 10) (k - 1) (by omega)
      have hv := dg_vl (n / 10) (k - 1)
      have hg := dg_ge (n / 10) (k - 1)
      rw [dg_next q] at hl ⊢
      generalize dg (n / 10) (k - 1) = l' at *
      cases l' with
      | nil =>
        have hv' : n / 10 = 0 := hv.symm
        simp at hl
        intro e
        simp only [List.nil_append, List.head?_cons, Option.some.injEq] at e
        have := congrArg UInt8.toNat e
        rw [dgb] at this
        have h48 : (48 : UInt8).toNat = 48 := rfl
        omega
      | cons d r =>
        simp only [List.length_append, List.length_cons, List.length_nil] at hl
        exact ih (by simp; omega)
theorem dg_head {n k : Nat} (h : k < (dg n k).length) : (dg n k).head? ≠ some 48 := dg_head0 (n + k) n k (Nat.le_refl _) h
end Go.Vf.S
end
/- SmB -/
section
/- Dates as texts: what has a date's form, what there is. -/
namespace Go.Vf.S
set_option linter.unusedVariables false
set_option linter.unusedSimpArgs false

def wkL : List (List UInt8) := [[83, 117, 110], [77, 111, 110], [84, 117, 101], [87, 101, 100], [84, 104, 117], [70, 114, 105], [83, 97, 116]]
def moL : List (List UInt8) := [[74, 97, 110], [70, 101, 98], [77, 97, 114], [65, 112, 114], [77, 97, 121], [74, 117, 110], [74, 117, 108], [65, 117, 103], [83, 101, 112], [79, 99, 116], [78, 111, 118], [68, 101, 99]]
/-- A weekday's name; a month's. -/
def wkT (w : Nat) : List UInt8 := wkL.getD w []
def moT (m : Nat) : List UInt8 := moL.getD m []
theorem wk_len {w : Nat} (h : w < 7) : (wkT w).length = 3 := by
  have : (List.range 7).all (fun w => (wkT w).length == 3) = true := by decide
  simpa using List.all_eq_true.1 this w (List.mem_range.2 h)
theorem mo_len {m : Nat} (h : m < 12) : (moT m).length = 3 := by
  have : (List.range 12).all (fun m => (moT m).length == 3) = true := by decide
  simpa using List.all_eq_true.1 this m (List.mem_range.2 h)
theorem wk_one {a b : Nat} (ha : a < 7) (hb : b < 7) (h : wkT a = wkT b) : a = b := by
  have : (List.range 7).all (fun a => (List.range 7).all fun b => !(wkT a == wkT b) || (a == b)) = true := by decide
  have := List.all_eq_true.1 (List.all_eq_true.1 this a (List.mem_range.2 ha)) b (List.mem_range.2 hb)
  rw [h] at this
  simpa using this
theorem mo_one {a b : Nat} (ha : a < 12) (hb : b < 12) (h : moT a = moT b) : a = b := by
  have : (List.range 12).all (fun a => (List.range 12).all fun b => !(moT a == moT b) || (a == b)) = true := by decide
  have := List.all_eq_true.1 (List.all_eq_true.1 this a (List.mem_range.2 ha)) b (List.mem_range.2 hb)
  rw [h] at this
  simpa using this
def zoneT : List UInt8 := [32, 43, 48, 48, 48, 48]

/-- What a date's text has in it, its numbers as they stand there. -/
structure Fd where
  w : Nat
  M : Nat
  o : List UInt8
  y : List UInt8
  h : List UInt8
  mi : List UInt8
  se : List UInt8
def Fd.text (f : Fd) : List UInt8 := wkT f.w ++ ([44, 32] ++ (f.o ++ ([32] ++ (moT f.M ++ ([32] ++ (f.y ++ ([32] ++ (f.h ++ ([58] ++ (f.mi ++ ([58] ++ (f.se ++ zoneT))))))))))))
def D2 (l : List UInt8) : Prop := l.length = 2 ∧ l.all dgt = true
def Dy (l : List UInt8) : Prop := 4 ≤ l.length ∧ l.length ≤ 10 ∧ l.all dgt = true ∧ (4 < l.length → l.head? ≠ some 48)
structure Fd.ok (f : Fd) : Prop where
  w : f.w < 7
  M : f.M < 12
  o : D2 f.o
  y : Dy f.y
  h : D2 f.h
  mi : D2 f.mi
  se : D2 f.se
theorem dgt_blank : dgt 32 = false := rfl
/-- Digits, and a blank behind them. -/
theorem span_one : ∀ {l l' r r' : List UInt8}, l.all dgt = true → l'.all dgt = true → l ++ 32 :: r = l' ++ 32 :: r' → l = l' ∧ r = r'
  | [], [], _, _, _, _, h => ⟨rfl, (List.cons.inj h).2⟩
  | [], c :: l', _, _, _, h', h => by
    rw [List.nil_append, List.cons_append] at h
    have := (List.cons.inj h).1
    subst this
    rw [List.all_cons, dgt_blank] at h'
    cases h'
  | c :: l, [], _, _, h', _, h => by
    rw [List.nil_append, List.cons_append] at h
    have := (List.cons.inj h).1
    subst this
    rw [List.all_cons, dgt_blank] at h'
    cases h'
  | c :: l, d :: l', r, r', h1, h2, h => by
    rw [List.all_cons, Bool.and_eq_true] at h1 h2
    rw [List.cons_append, List.cons_append] at h
    obtain ⟨rfl, h3⟩ := List.cons.inj h
    obtain ⟨rfl, rfl⟩ := span_one h1.2 h2.2 h3
    exact ⟨rfl, rfl⟩
theorem Fd.one {f g : Fd} (hf : f.ok) (hg : g.ok) (h : f.text = g.text) : f = g := by
  obtain ⟨w, M, o, y, hh, mi, se⟩ := f
  obtain ⟨w', M', o', y', hh', mi', se'⟩ := g
  obtain ⟨a1, a2, a3, a4, a5, a6, a7⟩ := hf
  obtain ⟨b1, b2, b3, b4, b5, b6, b7⟩ := hg
  simp only at *
  simp only [Fd.text] at h
  obtain ⟨e1, k0⟩ := List.append_inj h (by rw [wk_len a1, wk_len b1])
  obtain rfl := wk_one a1 b1 e1
  obtain ⟨_, k1⟩ := List.append_inj k0 rfl
  obtain ⟨rfl, k2⟩ := List.append_inj k1 (by rw [a3.1, b3.1])
  obtain ⟨_, k3⟩ := List.append_inj k2 rfl
  obtain ⟨e2, k4⟩ := List.append_inj k3 (by rw [mo_len a2, mo_len b2])
  obtain rfl := mo_one a2 b2 e2
  obtain ⟨_, k5⟩ := List.append_inj k4 rfl
  obtain ⟨rfl, k6⟩ := span_one a4.2.2.1 b4.2.2.1 k5
  obtain ⟨rfl, k7⟩ := List.append_inj (s₁ := hh) (s₂ := hh') k6 (by rw [a5.1, b5.1])
  obtain ⟨_, k8⟩ := List.append_inj k7 rfl
  obtain ⟨rfl, k9⟩ := List.append_inj k8 (by rw [a6.1, b6.1])
  obtain ⟨_, k10⟩ := List.append_inj k9 rfl
  obtain ⟨rfl, k11⟩ := List.append_inj k10 (by rw [a7.1, b7.1])
  rfl
theorem Fd.len {f : Fd} (h : f.ok) : f.text.length = f.y.length + 27 := by
  simp only [Fd.text, List.length_append, wk_len h.w, mo_len h.M, h.o.1, h.h.1, h.mi.1, h.se.1, List.length_cons, List.length_nil, zoneT]
  omega

abbrev Mx : Nat := 1099511627776
/-- The day that a date's numbers tell; the tick. -/
def Fd.day (f : Fd) : Int := ys (vl f.y) + mo (vl f.y) f.M + vl f.o - 1
def Fd.tick (f : Fd) : Int := f.day * 86400 + vl f.h * 3600 + vl f.mi * 60 + vl f.se
/-- There is such a tick. -/
def Fd.there (f : Fd) : Prop := 1970 ≤ vl f.y ∧ 1 ≤ vl f.o ∧ vl f.o ≤ ml (vl f.y) f.M ∧ vl f.h < 24 ∧ vl f.mi < 60 ∧ vl f.se < 60 ∧ f.tick ≤ Mx ∧ (f.day + 4) % 7 = f.w
/-- A tick's date. -/
noncomputable def fdT (t : Nat) : Fd := ⟨(t / 86400 + 4) % 7, (calD (t / 86400)).2.1, dg ((calD (t / 86400)).2.2 + 1) 2, dg (calD (t / 86400)).1 4, dg (t % 86400 / 3600) 2, dg (t % 3600 / 60) 2, dg (t % 60) 2⟩
noncomputable def dateL (t : Nat) : List UInt8 := (fdT t).text
theorem dg_D2 {n : Nat} (h : n < 100) : D2 (dg n 2) := ⟨dg_len 2 n h, dg_dgt n 2⟩
theorem dg_Dy {n : Nat} (h : n < 10000000000) : Dy (dg n 4) := ⟨dg_ge n 4, dg_most 10 n 4 h (by omega), dg_dgt n 4, dg_head⟩
theorem year_max {t : Nat} (ht : t ≤ Mx) : (calD (t / 86400)).1 ≤ 36836 := by
  have := (calD_is (t / 86400)).year_le
  have h2 : t / 86400 / 365 ≤ 34866 := by
    unfold Mx at ht
    omega
  omega
theorem fdT_ok {t : Nat} (ht : t ≤ Mx) : (fdT t).ok := by
  have h1 := year_max ht
  have h2 := calD_is (t / 86400)
  have h3 := (ml_le (calD (t / 86400)).1 (calD (t / 86400)).2.1).1
  have h4 := h2.2.2.1
  exact ⟨Nat.mod_lt _ (by omega), h2.2.1, dg_D2 (n := (calD (t / 86400)).2.2 + 1) (by omega), dg_Dy (n := (calD (t / 86400)).1) (by omega), dg_D2 (n := t % 86400 / 3600) (by omega), dg_D2 (n := t % 3600 / 60) (by omega), dg_D2 (n := t % 60) (by omega)⟩
theorem fdT_day (t : Nat) : (fdT t).day = ((t / 86400 : Nat) : Int) := by
  have h2 := calD_is (t / 86400)
  obtain ⟨_, _, _, h⟩ := h2
  simp only [Fd.day, fdT, dg_vl]
  omega
theorem fdT_tick (t : Nat) : (fdT t).tick = t := by
  unfold Fd.tick
  rw [fdT_day]
  simp only [fdT, dg_vl]
  omega
theorem fdT_there {t : Nat} (ht : t ≤ Mx) : (fdT t).there := by
  have h2 := calD_is (t / 86400)
  refine ⟨?_, ?_, ?_, ?_, ?_, ?_, ?_, ?_⟩
  · simp only [fdT, dg_vl]; exact h2.1
  · simp only [fdT, dg_vl]; omega
  · simp only [fdT, dg_vl]; exact h2.2.2.1
  · simp only [fdT, dg_vl]; omega
  · simp only [fdT, dg_vl]; omega
  · simp only [fdT, dg_vl]; omega
  · rw [fdT_tick]; exact Int.ofNat_le.2 ht
  · rw [fdT_day]; simp only [fdT]; omega
theorem D2.back {l : List UInt8} (h : D2 l) : dg (vl l) 2 = l := dg_of 2 l 2 h.1 h.2 (by rw [h.1]; exact Nat.le_refl _) (by rw [h.1]; omega)
theorem Dy.back {l : List UInt8} (h : Dy l) : dg (vl l) 4 = l := dg_of _ l 4 rfl h.2.2.1 h.1 h.2.2.2
theorem ys_pos {y : Nat} (h : 1970 ≤ y) : 0 ≤ ys y := by have := ys_ge y h; omega
theorem Fd.there_day {f : Fd} (ht : f.there) : 0 ≤ f.day := by
  have := ys_pos ht.1
  have := ht.2.1
  unfold Fd.day
  omega
theorem Fd.there_tick {f : Fd} (ht : f.there) : 0 ≤ f.tick := by
  have := f.there_day ht
  unfold Fd.tick
  omega
theorem Fd.back {f : Fd} (hf : f.ok) (ht : f.there) : fdT f.tick.toNat = f := by
  have h0 := f.there_day ht
  have h1 := f.there_tick ht
  obtain ⟨t1, t2, t3, t4, t5, t6, t7, t8⟩ := ht
  have hd : ((f.tick.toNat / 86400 : Nat) : Int) = f.day := by unfold Fd.tick at h1 ⊢; omega
  have hI : Is (f.tick.toNat / 86400) (vl f.y) f.M (vl f.o - 1) := ⟨t1, hf.M, by omega, by rw [hd]; unfold Fd.day; omega⟩
  have hw : (f.tick.toNat / 86400 + 4) % 7 = f.w := by omega
  have hh : f.tick.toNat % 86400 / 3600 = vl f.h := by unfold Fd.tick at h1 ⊢; omega
  have hm : f.tick.toNat % 3600 / 60 = vl f.mi := by unfold Fd.tick at h1 ⊢; omega
  have hs : f.tick.toNat % 60 = vl f.se := by unfold Fd.tick at h1 ⊢; omega
  unfold fdT
  rw [calD_eq hI, hw, hh, hm, hs, hf.h.back, hf.mi.back, hf.se.back, hf.y.back]
  rw [show vl f.o - 1 + 1 = vl f.o by omega, hf.o.back]

/-- What is read of a text. -/
noncomputable def fmtF (s : List UInt8) : Option Fd := by
  classical exact if h : ∃ f : Fd, f.ok ∧ f.text = s then some (Classical.choose h) else none
theorem form_of {f : Fd} (hf : f.ok) : fmtF f.text = some f := by
  have hx : ∃ g : Fd, g.ok ∧ g.text = f.text := ⟨f, hf, rfl⟩
  unfold fmtF
  rw [dif_pos hx]
  have := Classical.choose_spec hx
  rw [Fd.one this.1 hf this.2]
theorem form_none {s : List UInt8} (h : ∀ f : Fd, f.ok → f.text ≠ s) : fmtF s = none := by
  unfold fmtF
  rw [dif_neg (fun ⟨f, a, b⟩ => h f a b)]
theorem form_is {s : List UInt8} {f : Fd} (h : fmtF s = some f) : f.ok ∧ f.text = s := by
  unfold fmtF at h
  split at h
  · rename_i hx
    rw [← Option.some.inj h]
    exact Classical.choose_spec hx
  · cases h
/-- The tick and whether the text has a date's form. -/
noncomputable def readF (s : List UInt8) : Int × Bool := match fmtF s with
  | some f => (f.tick, true)
  | none => (0, false)
instance (f : Fd) : Decidable f.there := by unfold Fd.there; infer_instance
noncomputable def pdF (s : List UInt8) : Nat × Nat := match fmtF s with
  | some f => if f.there then (f.tick.toNat, 0) else (0, 24)
  | none => (0, 5)
def clampT (t : Int) : Nat := (min (max t 0) Mx).toNat
theorem clamp_le (t : Int) : clampT t ≤ Mx := by unfold clampT Mx; omega
theorem date_eq {f : Fd} (hf : f.ok) : dateL (clampT f.tick) = f.text ↔ f.there := by
  constructor
  · intro h
    have := Fd.one (fdT_ok (clamp_le f.tick)) hf h
    rw [← this]
    exact fdT_there (clamp_le _)
  · intro h
    have h1 := f.there_tick h
    have h2 := h.2.2.2.2.2.2.1
    have : clampT f.tick = f.tick.toNat := by unfold clampT; omega
    unfold dateL
    rw [this, Fd.back hf h]
/-- There and back. -/
theorem pd_date {t : Nat} (ht : t ≤ Mx) : pdF (dateL t) = (t, 0) := by
  unfold pdF dateL
  rw [form_of (fdT_ok ht)]
  simp only [if_pos (fdT_there ht), fdT_tick, Int.toNat_natCast]
theorem date_one {a b : Nat} (ha : a ≤ Mx) (hb : b ≤ Mx) (h : dateL a = dateL b) : a = b := by
  have h1 := pd_date ha
  rw [h, pd_date hb] at h1
  exact (Prod.mk.inj h1).1.symm
theorem pd_back {s : List UInt8} (h : (pdF s).2 = 0) : (pdF s).1 ≤ Mx ∧ dateL (pdF s).1 = s := by
  unfold pdF at *
  split at h
  · rename_i f hf
    obtain ⟨hk, rfl⟩ := form_is hf
    split at h
    · rename_i ht
      simp only [form_of hk, if_pos ht]
      refine ⟨?_, ?_⟩
      · have := ht.2.2.2.2.2.2.1
        omega
      · unfold dateL
        rw [Fd.back hk ht]
    · cases h
  · cases h
theorem pd_err (s : List UInt8) : (pdF s).2 = 0 ∨ (pdF s).1 = 0 ∧ ((pdF s).2 = 5 ∨ (pdF s).2 = 24) := by
  unfold pdF
  split
  · split
    · exact .inl rfl
    · exact .inr ⟨rfl, .inr rfl⟩
  · exact .inr ⟨rfl, .inl rfl⟩
theorem date_len {t : Nat} (ht : t ≤ Mx) : 31 ≤ (dateL t).length ∧ (dateL t).length ≤ 37 := by
  unfold dateL
  rw [Fd.len (fdT_ok ht)]
  have q := (fdT_ok ht).y
  have := q.1
  have := q.2.1
  omega
end Go.Vf.S
end
/- SmC -/
section
/- Days, stamps, years: the program. -/
namespace Go.Vf.S
open Go Go.Vf
attribute [local irreducible] wSeq wRow wp wG
set_option linter.unusedVariables false
set_option linter.unusedSimpArgs false
set_option maxRecDepth 10000

theorem tdiv_nat (a b : Nat) : ((a : Int)).tdiv (b : Int) = ((a / b : Nat) : Int) := by rw [Int.ofNat_tdiv]
theorem tmod_nat (a b : Nat) : ((a : Int)).tmod (b : Int) = ((a % b : Nat) : Int) := by rw [Int.ofNat_tmod]

/-! ### The tables that the rows lay -/
abbrev gWk : Nat := 0
abbrev gMo : Nat := 1
abbrev gPw : Nat := 6
abbrev tMo : TypeId := 55
abbrev tU64 : TypeId := 37
def wkV : List Value := wkL.map str
def moV : List Value := (List.range 12).flatMap fun m => [str (moT m), .int .i64 (ml0 m)]
def pwV : List Value := (List.range 20).map fun k => .int .u64 ((10 ^ k : Nat) : Int)
theorem wk_get {w : Nat} (h : w < 7) : wkV[w]? = some (str (wkT w)) := by
  unfold wkV
  rw [List.getElem?_map]
  have : wkL[w]? = some (wkT w) := by
    unfold wkT
    rw [List.getD_eq_getElem?_getD, List.getElem?_eq_getElem (show w < wkL.length from h)]
    rfl
  rw [this]
  rfl
theorem mo_get {m : Nat} (h : m < 12) : moV[2 * m]? = some (str (moT m)) ∧ moV[2 * m + 1]? = some (.int .i64 (ml0 m)) := by
  have : m = 0 ∨ m = 1 ∨ m = 2 ∨ m = 3 ∨ m = 4 ∨ m = 5 ∨ m = 6 ∨ m = 7 ∨ m = 8 ∨ m = 9 ∨ m = 10 ∨ m = 11 := by omega
  rcases this with rfl | rfl | rfl | rfl | rfl | rfl | rfl | rfl | rfl | rfl | rfl | rfl <;> exact ⟨rfl, rfl⟩
theorem pw_get {k : Nat} (h : k < 20) : pwV[k]? = some (.int .u64 ((10 ^ k : Nat) : Int)) := by simp [pwV, h]

/-- They lie there. -/
structure Gst (s : SS) : Prop where
  g0 : gWk < s.gl
  g1 : gMo < s.gl
  g2 : gPw < s.gl
  n0 : gWk < s.next
  n1 : gMo < s.next
  n2 : gPw < s.next
  b0 : lookH s.heap gWk = some (.cells wkV tS false true)
  b1 : lookH s.heap gMo = some (.cells moV tMo false true)
  b2 : lookH s.heap gPw = some (.cells pwV tU64 false true)
theorem Gst.tab {s : SS} {A : List Nat} {t : TypeId} {c : List Value} {g : Bool} {i : Nat} (h : lookH s.heap i = some (.cells c t g true)) (hA : ∀ id ∈ A, ∃ c' t' g', lookH s.heap id = some (.cells c' t' g' false)) : i ∉ A := fun hi => by
  obtain ⟨c', t', g', h'⟩ := hA i hi
  rw [h] at h'
  cases h'
theorem Gst.chg {s s' : SS} {A : List Nat} (h : Gst s) (c : Chg s s' A) (hA : ∀ id ∈ A, s.next ≤ id ∨ ∃ c' t' g', lookH s.heap id = some (.cells c' t' g' false)) : Gst s' := by
  have no : ∀ {i : Nat} {t : TypeId} {cc : List Value} {g : Bool}, i < s.next → lookH s.heap i = some (.cells cc t g true) → i ∉ A := fun hi h hm => by
    rcases hA _ hm with q | ⟨c', t', g', h'⟩
    · omega
    · rw [h] at h'; cases h'
  exact ⟨by rw [c.gl]; exact h.g0, by rw [c.gl]; exact h.g1, by rw [c.gl]; exact h.g2, Nat.lt_of_lt_of_le h.n0 c.next, Nat.lt_of_lt_of_le h.n1 c.next, Nat.lt_of_lt_of_le h.n2 c.next,
    c.blk _ _ h.n0 (no h.n0 h.b0) h.b0, c.blk _ _ h.n1 (no h.n1 h.b1) h.b1, c.blk _ _ h.n2 (no h.n2 h.b2) h.b2⟩

/-! ### Ticks and days -/
theorem within_w {s : SS} {t : Int} : CallW pr n_stamp_within [.int .i64 t] s fun v s' => v = .int .i64 (clampT t) ∧ s' = s := by
  refine CallW.run good ok_stamp_within (by simp) rfl ?_
  (repeat(first|refine pSeq ?_|refine pReg ?_|refine sCons ?_|refine sNil ?_|refine pRet ?_|refine gNone ?_))
  intro z hz
  (repeat(first|refine pSeq ?_|refine pReg ?_|refine sCons ?_|refine sNil ?_|refine pRet ?_|refine gNone ?_))
  intro z1 hz1
  (repeat(first|refine pSeq ?_|refine pReg ?_|refine sCons ?_|refine sNil ?_|refine pRet ?_|refine gNone ?_))
  refine ⟨?_, rfl⟩
  obtain rfl : z1 = clampT t := by unfold clampT Mx; omega
  rfl
theorem rclean_w {s : SS} {t : Int} : CallW pr n_ref09_clean [.int .i64 t] s fun v s' => v = .int .i64 (clampT t) ∧ s' = s := by
  refine CallW.run good ok_ref09_clean (by simp) rfl ?_
  (repeat(first|refine pSeq ?_|refine pReg ?_|refine sCons ?_|refine sNil ?_|refine pSkip ?_|refine pRet ?_|refine pCond ?_|refine gNone ?_))
  intro q hq
  by_cases h : t < 0
  · obtain rfl : q = true := by rw [hq]; simp <;> omega
    (repeat(first|refine pSeq ?_|refine pReg ?_|refine sCons ?_|refine sNil ?_|refine pSkip ?_|refine pRet ?_|refine pCond ?_|refine gNone ?_))
    exact ⟨by rw [show clampT t = 0 by unfold clampT Mx; omega]; rfl, rfl⟩
  · obtain rfl : q = false := by rw [hq]; simp <;> omega
    (repeat(first|refine pSeq ?_|refine pReg ?_|refine sCons ?_|refine sNil ?_|refine pSkip ?_|refine pRet ?_|refine pCond ?_|refine gNone ?_))
    intro q hq
    by_cases h2 : (Mx : Int) < t
    · unfold Mx at h2
      obtain rfl : q = true := by rw [hq]; simp <;> omega
      (repeat(first|refine pSeq ?_|refine pReg ?_|refine sCons ?_|refine sNil ?_|refine pSkip ?_|refine pRet ?_|refine pCond ?_|refine gNone ?_))
      exact ⟨by rw [show clampT t = Mx by unfold clampT Mx; omega]; rfl, rfl⟩
    · unfold Mx at h2
      obtain rfl : q = false := by rw [hq]; simp <;> omega
      (repeat(first|refine pSeq ?_|refine pReg ?_|refine sCons ?_|refine sNil ?_|refine pSkip ?_|refine pRet ?_|refine pCond ?_|refine gNone ?_))
      exact ⟨by rw [show ((clampT t : Nat) : Int) = t by unfold clampT Mx; omega]; rfl, rfl⟩
theorem day_w {s : SS} {t : Int} : CallW pr n_stamp_Day [.int .i64 t] s fun v s' => v = .int .i64 (clampT t / 86400 : Nat) ∧ s' = s := by
  have := clamp_le t
  unfold Mx at this
  refine CallW.run good ok_stamp_Day (by simp) rfl ?_
  (repeat(first|refine pSeq ?_|refine pReg ?_|refine sCons ?_|refine sNil ?_|refine pRet ?_|refine gNone ?_))
  refine within_w.mono fun v s q => ?_
  obtain ⟨rfl, rfl⟩ := q
  (repeat(first|refine pSeq ?_|refine pReg ?_|refine sCons ?_|refine sNil ?_|refine pRet ?_|refine gNone ?_))
  refine ⟨by decide, ?_⟩
  intro z hz
  rw [show (86400 : Int) = ((86400 : Nat) : Int) from rfl, tdiv_nat, i64_id (by omega)] at hz
  subst hz
  (repeat(first|refine pSeq ?_|refine pReg ?_|refine sCons ?_|refine sNil ?_|refine pRet ?_|refine gNone ?_))
  exact ⟨rfl, rfl⟩
theorem rday_w {s : SS} {t : Int} : CallW pr n_ref09_Day [.int .i64 t] s fun v s' => v = .int .i64 (clampT t / 86400 : Nat) ∧ s' = s := by
  have := clamp_le t
  unfold Mx at this
  refine CallW.run good ok_ref09_Day (by simp) rfl ?_
  (repeat(first|refine pSeq ?_|refine pReg ?_|refine sCons ?_|refine sNil ?_|refine pRet ?_|refine gNone ?_))
  refine rclean_w.mono fun v s q => ?_
  obtain ⟨rfl, rfl⟩ := q
  (repeat(first|refine pSeq ?_|refine pReg ?_|refine sCons ?_|refine sNil ?_|refine pRet ?_|refine gNone ?_))
  refine ⟨by decide, ?_⟩
  intro z hz
  rw [show (86400 : Int) = ((86400 : Nat) : Int) from rfl, tdiv_nat, i64_id (by omega)] at hz
  subst hz
  (repeat(first|refine pSeq ?_|refine pReg ?_|refine sCons ?_|refine sNil ?_|refine pRet ?_|refine gNone ?_))
  exact ⟨rfl, rfl⟩

/-! ### Years -/
theorem leaps_w {s : SS} {y : Nat} (hy : y ≤ 100000000000) : CallW pr n_stamp_leaps [.int .i64 y] s fun v s' => v = .int .i64 (leN y) ∧ s' = s := by
  refine CallW.run good ok_stamp_leaps (by simp) rfl ?_
  (repeat(first|refine pSeq ?_|refine pReg ?_|refine sCons ?_|refine sNil ?_|refine pRet ?_|refine gNone ?_))
  intro z1 h1
  rw [i64_id (by omega)] at h1
  obtain rfl : z1 = ((y + 3 : Nat) : Int) := by omega
  (repeat(first|refine pSeq ?_|refine pReg ?_|refine sCons ?_|refine sNil ?_|refine pRet ?_|refine gNone ?_))
  refine ⟨by decide, ?_⟩
  intro z2 h2
  rw [show (4 : Int) = ((4 : Nat) : Int) from rfl, tdiv_nat, i64_id (by omega)] at h2
  (repeat(first|refine pSeq ?_|refine pReg ?_|refine sCons ?_|refine sNil ?_|refine pRet ?_|refine gNone ?_))
  intro z3 h3
  rw [i64_id (by omega)] at h3
  obtain rfl : z3 = ((y + 99 : Nat) : Int) := by omega
  (repeat(first|refine pSeq ?_|refine pReg ?_|refine sCons ?_|refine sNil ?_|refine pRet ?_|refine gNone ?_))
  refine ⟨by decide, ?_⟩
  intro z4 h4
  rw [show (100 : Int) = ((100 : Nat) : Int) from rfl, tdiv_nat, i64_id (by omega)] at h4
  (repeat(first|refine pSeq ?_|refine pReg ?_|refine sCons ?_|refine sNil ?_|refine pRet ?_|refine gNone ?_))
  intro z5 h5
  rw [i64_id (by omega)] at h5
  (repeat(first|refine pSeq ?_|refine pReg ?_|refine sCons ?_|refine sNil ?_|refine pRet ?_|refine gNone ?_))
  intro z6 h6
  rw [i64_id (by omega)] at h6
  obtain rfl : z6 = ((y + 399 : Nat) : Int) := by omega
  (repeat(first|refine pSeq ?_|refine pReg ?_|refine sCons ?_|refine sNil ?_|refine pRet ?_|refine gNone ?_))
  refine ⟨by decide, ?_⟩
  intro z7 h7
  rw [show (400 : Int) = ((400 : Nat) : Int) from rfl, tdiv_nat, i64_id (by omega)] at h7
  (repeat(first|refine pSeq ?_|refine pReg ?_|refine sCons ?_|refine sNil ?_|refine pRet ?_|refine gNone ?_))
  intro z8 h8
  rw [i64_id (by omega)] at h8
  (repeat(first|refine pSeq ?_|refine pReg ?_|refine sCons ?_|refine sNil ?_|refine pRet ?_|refine gNone ?_))
  refine ⟨?_, rfl⟩
  rw [h8, h7, h5, h4, h2]
  rfl
theorem leN_le (y : Nat) : 0 ≤ leN y ∧ leN y ≤ y + 1 := by unfold leN; omega
theorem ystart_w {s : SS} {y : Nat} (hy : y ≤ 100000000000) : CallW pr n_stamp_yearStart [.int .i64 y] s fun v s' => v = .int .i64 (ys y) ∧ s' = s := by
  have := leN_le y
  refine CallW.run good ok_stamp_yearStart (by simp) rfl ?_
  (repeat(first|refine pSeq ?_|refine pReg ?_|refine sCons ?_|refine sNil ?_|refine pRet ?_|refine gNone ?_))
  intro z1 h1
  rw [i64_id (by omega)] at h1
  (repeat(first|refine pSeq ?_|refine pReg ?_|refine sCons ?_|refine sNil ?_|refine pRet ?_|refine gNone ?_))
  intro z2 h2
  rw [i64_id (by omega)] at h2
  (repeat(first|refine pSeq ?_|refine pReg ?_|refine sCons ?_|refine sNil ?_|refine pRet ?_|refine gNone ?_))
  refine (leaps_w hy).mono fun v s q => ?_
  obtain ⟨rfl, rfl⟩ := q
  (repeat(first|refine pSeq ?_|refine pReg ?_|refine sCons ?_|refine sNil ?_|refine pRet ?_|refine gNone ?_))
  intro z3 h3
  rw [i64_id (by omega)] at h3
  (repeat(first|refine pSeq ?_|refine pReg ?_|refine sCons ?_|refine sNil ?_|refine pRet ?_|refine gNone ?_))
  refine (leaps_w (y := 1970) (by omega)).mono fun v s q => ?_
  obtain ⟨rfl, rfl⟩ := q
  have e : leN 1970 = 478 := by decide
  (repeat(first|refine pSeq ?_|refine pReg ?_|refine sCons ?_|refine sNil ?_|refine pRet ?_|refine gNone ?_))
  intro z4 h4
  rw [e, i64_id (by omega)] at h4
  (repeat(first|refine pSeq ?_|refine pReg ?_|refine sCons ?_|refine sNil ?_|refine pRet ?_|refine gNone ?_))
  refine ⟨?_, rfl⟩
  rw [h4, h3, h2, h1]
  rfl
theorem mdays_w {s : SS} {y m : Nat} (hG : Gst s) (hy : y ≤ 10000000000) (hm : m < 12) : CallW pr n_stamp_monthDays [.int .i64 y, .int .i64 m] s fun v s' => v = .int .i64 (ml y m) ∧ s' = s := by
  refine CallW.run good ok_stamp_monthDays (by simp) rfl ?_
  (repeat(first|refine pSeq ?_|refine pReg ?_|refine sCons ?_|refine sNil ?_|refine pSkip ?_|refine pRet ?_|refine pCond ?_|refine gNone ?_))
  refine ixaG hG.g1 rfl ?_
  refine ⟨by omega, ?_⟩
  intro k hk o ho
  obtain rfl : k = m := by omega
  (repeat(first|refine pSeq ?_|refine pReg ?_|refine sCons ?_|refine sNil ?_|refine pSkip ?_|refine pRet ?_|refine pCond ?_|refine gNone ?_))
  refine ldI_is rfl hG.b1 (by rw [ho]; have := (mo_get hm).2; rw [show 2 * k + 1 = 0 + k * 2 + 1 by omega] at this; exact this) ?_
  (repeat(first|refine pSeq ?_|refine pReg ?_|refine sCons ?_|refine sNil ?_|refine pSkip ?_|refine pRet ?_|refine pCond ?_|refine gNone ?_))
  intro q hq
  by_cases h : k = 1
  · subst h
    obtain rfl : q = true := by rw [hq]; simp <;> omega
    (repeat(first|refine pSeq ?_|refine pReg ?_|refine sCons ?_|refine sNil ?_|refine pSkip ?_|refine pRet ?_|refine pCond ?_|refine gNone ?_))
    intro z1 h1
    rw [i64_id (by omega)] at h1
    obtain rfl : z1 = ((y + 1 : Nat) : Int) := by omega
    (repeat(first|refine pSeq ?_|refine pReg ?_|refine sCons ?_|refine sNil ?_|refine pSkip ?_|refine pRet ?_|refine pCond ?_|refine gNone ?_))
    refine (leaps_w (y := y + 1) (by omega)).mono fun v s q => ?_
    obtain ⟨rfl, rfl⟩ := q
    (repeat(first|refine pSeq ?_|refine pReg ?_|refine sCons ?_|refine sNil ?_|refine pSkip ?_|refine pRet ?_|refine pCond ?_|refine gNone ?_))
    refine (leaps_w (y := y) (by omega)).mono fun v s q => ?_
    obtain ⟨rfl, rfl⟩ := q
    have e1 := leN_succ y
    have e2 := lpY_le y
    (repeat(first|refine pSeq ?_|refine pReg ?_|refine sCons ?_|refine sNil ?_|refine pSkip ?_|refine pRet ?_|refine pCond ?_|refine gNone ?_))
    intro z2 h2
    rw [i64_id (by omega)] at h2
    (repeat(first|refine pSeq ?_|refine pReg ?_|refine sCons ?_|refine sNil ?_|refine pSkip ?_|refine pRet ?_|refine pCond ?_|refine gNone ?_))
    intro z3 h3
    have e3 : ((ml0 1 : Nat) : Int) = 28 := rfl
    rw [i64_id (by omega)] at h3
    (repeat(first|refine pSeq ?_|refine pReg ?_|refine sCons ?_|refine sNil ?_|refine pSkip ?_|refine pRet ?_|refine pCond ?_|refine gNone ?_))
    refine ⟨?_, rfl⟩
    rw [show z3 = ((ml y 1 : Nat) : Int) by unfold ml; rw [if_pos rfl]; omega]
    rfl
  · obtain rfl : q = false := by rw [hq]; simp <;> omega
    (repeat(first|refine pSeq ?_|refine pReg ?_|refine sCons ?_|refine sNil ?_|refine pSkip ?_|refine pRet ?_|refine pCond ?_|refine gNone ?_))
    refine ⟨?_, rfl⟩
    unfold ml
    rw [if_neg h]
    rfl
theorem ys_366 (k : Nat) : ys (1970 + k) ≤ 366 * k := by
  induction k with
  | zero => decide
  | succ k ih =>
    have := lpY_le (1970 + k)
    rw [← Nat.add_assoc, ys_succ]
    omega
abbrev tupC (y m o : Nat) : Value := .tuple ⟨[.int .i64 y, .int .i64 m, .int .i64 (o + 1 : Nat)]⟩
theorem calendar_w {s : SS} {d : Nat} (hG : Gst s) (hd : d ≤ 12725829) : CallW pr n_stamp_calendar [.int .i64 d] s fun v s' => v = tupC (calD d).1 (calD d).2.1 (calD d).2.2 ∧ s' = s := by
  refine CallW.run good ok_stamp_calendar (by simp) rfl ?_
  (repeat(first|refine pSeq ?_|refine pReg ?_|refine sCons ?_|refine sNil ?_|refine pBlock ?_|refine pSkip ?_|refine pExit ?_|refine pRet ?_|refine pCond ?_|refine gNone ?_))
  refine ⟨by decide, ?_⟩
  intro z1 h1
  rw [show (366 : Int) = ((366 : Nat) : Int) from rfl, tdiv_nat, i64_id (by omega)] at h1
  subst h1
  (repeat(first|refine pSeq ?_|refine pReg ?_|refine sCons ?_|refine sNil ?_|refine pBlock ?_|refine pSkip ?_|refine pExit ?_|refine pRet ?_|refine pCond ?_|refine gNone ?_))
  intro z2 h2
  rw [i64_id (by omega)] at h2
  obtain rfl : z2 = ((1970 + d / 366 : Nat) : Int) := by omega
  have e0 := ys_366 (d / 366)
  (repeat(first|refine pSeq ?_|refine pReg ?_|refine sCons ?_|refine sNil ?_|refine pBlock ?_|refine pSkip ?_|refine pExit ?_|refine pRet ?_|refine pCond ?_|refine gNone ?_))
  refine pLoop (MW.head good (fun y : Nat => 1970 + d / 365 - y) (fun y => ys y ≤ d ∧ 1970 ≤ y) (fun y => [(0, .int .i64 d), (2, .int .i64 y), (3, .int .i64 0)]) (fun _ => s) (1970 + d / 366) ⟨by omega, by omega⟩ (Wk.same ⟨rfl, rfl, rfl, trivial⟩) ?_)
  intro y ⟨hy, hy0⟩
  have hge := ys_ge y hy0
  have hym : y ≤ 1970 + d / 365 := by omega
  (repeat(first|refine pSeq ?_|refine pReg ?_|refine sCons ?_|refine sNil ?_|refine pBlock ?_|refine pSkip ?_|refine pExit ?_|refine pRet ?_|refine pCond ?_|refine gNone ?_))
  intro z3 h3
  rw [i64_id (by omega)] at h3
  obtain rfl : z3 = ((y + 1 : Nat) : Int) := by omega
  (repeat(first|refine pSeq ?_|refine pReg ?_|refine sCons ?_|refine sNil ?_|refine pBlock ?_|refine pSkip ?_|refine pExit ?_|refine pRet ?_|refine pCond ?_|refine gNone ?_))
  refine (ystart_w (y := y + 1) (by omega)).mono fun v s q => ?_
  obtain ⟨rfl, rfl⟩ := q
  (repeat(first|refine pSeq ?_|refine pReg ?_|refine sCons ?_|refine sNil ?_|refine pBlock ?_|refine pSkip ?_|refine pExit ?_|refine pRet ?_|refine pCond ?_|refine gNone ?_))
  intro q hq
  by_cases hc : ys (y + 1) ≤ d
  · have hge1 := ys_ge (y + 1) (by omega)
    obtain rfl : q = true := by rw [hq]; simp <;> omega
    (repeat(first|refine pSeq ?_|refine pReg ?_|refine sCons ?_|refine sNil ?_|refine pBlock ?_|refine pSkip ?_|refine pExit ?_|refine pRet ?_|refine pCond ?_|refine gNone ?_))
    intro z4 h4
    rw [i64_id (by omega)] at h4
    obtain rfl : z4 = ((y + 1 : Nat) : Int) := by omega
    (repeat(first|refine pSeq ?_|refine pReg ?_|refine sCons ?_|refine sNil ?_|refine pBlock ?_|refine pSkip ?_|refine pExit ?_|refine pRet ?_|refine pCond ?_|refine gNone ?_))
    exact ⟨y + 1, ⟨hc, by omega⟩, by show 1970 + d / 365 - (y + 1) < 1970 + d / 365 - y; omega, Wk.same ⟨rfl, rfl, rfl, trivial⟩⟩
  · have hs := ys_succ y
    have hl := lpY_le y
    have h12 := mo_12 y
    obtain rfl : q = false := by rw [hq]; simp <;> omega
    (repeat(first|refine pSeq ?_|refine pReg ?_|refine sCons ?_|refine sNil ?_|refine pBlock ?_|refine pSkip ?_|refine pExit ?_|refine pRet ?_|refine pCond ?_|refine gNone ?_))
    refine (ystart_w (y := y) (by omega)).mono fun v s q => ?_
    obtain ⟨rfl, rfl⟩ := q
    (repeat(first|refine pSeq ?_|refine pReg ?_|refine sCons ?_|refine sNil ?_|refine pBlock ?_|refine pSkip ?_|refine pExit ?_|refine pRet ?_|refine pCond ?_|refine gNone ?_))
    intro z5 h5
    rw [i64_id (by omega)] at h5
    obtain ⟨o0, rfl, ho0⟩ : ∃ o : Nat, z5 = (o : Int) ∧ (d : Int) = ys y + mo y 0 + o := ⟨(d - ys y).toNat, by omega, by show _ = _ + ((0 : Nat) : Int) + _; omega⟩
    (repeat(first|refine pSeq ?_|refine pReg ?_|refine sCons ?_|refine sNil ?_|refine pBlock ?_|refine pSkip ?_|refine pExit ?_|refine pRet ?_|refine pCond ?_|refine gNone ?_))
    refine pLoop (MW.head good (fun p : Nat × Nat => 12 - p.1) (fun p => p.1 < 12 ∧ (d : Int) = ys y + mo y p.1 + p.2) (fun p => [(2, .int .i64 y), (3, .int .i64 p.1), (4, .int .i64 p.2)]) (fun _ => s) (0, o0) ⟨by omega, ho0⟩ (Wk.same ⟨rfl, rfl, rfl, trivial⟩) ?_)
    intro ⟨m, o⟩ ⟨hm, ho⟩
    dsimp only at hm ho ⊢
    (repeat(first|refine pSeq ?_|refine pReg ?_|refine sCons ?_|refine sNil ?_|refine pBlock ?_|refine pSkip ?_|refine pExit ?_|refine pRet ?_|refine pCond ?_|refine gNone ?_))
    refine (mdays_w hG (by omega) hm).mono fun v s q => ?_
    obtain ⟨rfl, rfl⟩ := q
    have hml := ml_le y m
    (repeat(first|refine pSeq ?_|refine pReg ?_|refine sCons ?_|refine sNil ?_|refine pBlock ?_|refine pSkip ?_|refine pExit ?_|refine pRet ?_|refine pCond ?_|refine gNone ?_))
    intro q hq
    by_cases hc2 : ml y m ≤ o
    · obtain rfl : q = true := by rw [hq]; simp <;> omega
      have e1 : mo y (m + 1) = mo y m + ml y m := rfl
      have hm1 : m + 1 < 12 := by
        rcases Nat.lt_or_ge (m + 1) 12 with q | q
        · exact q
        · obtain rfl : m = 11 := by omega
          have : mo y (11 + 1) = mo y 12 := rfl
          omega
      (repeat(first|refine pSeq ?_|refine pReg ?_|refine sCons ?_|refine sNil ?_|refine pBlock ?_|refine pSkip ?_|refine pExit ?_|refine pRet ?_|refine pCond ?_|refine gNone ?_))
      refine (mdays_w hG (by omega) hm).mono fun v s q => ?_
      obtain ⟨rfl, rfl⟩ := q
      (repeat(first|refine pSeq ?_|refine pReg ?_|refine sCons ?_|refine sNil ?_|refine pBlock ?_|refine pSkip ?_|refine pExit ?_|refine pRet ?_|refine pCond ?_|refine gNone ?_))
      intro z6 h6
      rw [i64_id (by omega)] at h6
      obtain rfl : z6 = ((o - ml y m : Nat) : Int) := by omega
      (repeat(first|refine pSeq ?_|refine pReg ?_|refine sCons ?_|refine sNil ?_|refine pBlock ?_|refine pSkip ?_|refine pExit ?_|refine pRet ?_|refine pCond ?_|refine gNone ?_))
      intro z7 h7
      rw [i64_id (by omega)] at h7
      obtain rfl : z7 = ((m + 1 : Nat) : Int) := by omega
      (repeat(first|refine pSeq ?_|refine pReg ?_|refine sCons ?_|refine sNil ?_|refine pBlock ?_|refine pSkip ?_|refine pExit ?_|refine pRet ?_|refine pCond ?_|refine gNone ?_))
      exact ⟨(m + 1, o - ml y m), ⟨hm1, by dsimp only; omega⟩, by show 12 - (m + 1) < 12 - m; omega, Wk.same ⟨rfl, rfl, rfl, trivial⟩⟩
    · obtain rfl : q = false := by rw [hq]; simp <;> omega
      have hI : Is d y m o := ⟨hy0, hm, by omega, ho⟩
      (repeat(first|refine pSeq ?_|refine pReg ?_|refine sCons ?_|refine sNil ?_|refine pBlock ?_|refine pSkip ?_|refine pExit ?_|refine pRet ?_|refine pCond ?_|refine gNone ?_))
      intro z8 h8
      rw [i64_id (by omega)] at h8
      obtain rfl : z8 = ((o + 1 : Nat) : Int) := by omega
      (repeat(first|refine pSeq ?_|refine pReg ?_|refine sCons ?_|refine sNil ?_|refine pBlock ?_|refine pSkip ?_|refine pExit ?_|refine pRet ?_|refine pCond ?_|refine gNone ?_))
      rw [calD_eq hI]
      exact ⟨rfl, rfl⟩
end Go.Vf.S
end
/- SmD -/
section
/- Numbers in digits, by the library: below 65536. -/
namespace Go.Vf.S
open Go Go.Vf
attribute [local irreducible] wSeq wRow wp wG
set_option linter.unusedVariables false
set_option linter.unusedSimpArgs false
set_option maxRecDepth 10000

def l8L : List UInt8 := [0, 1, 2, 2, 3, 3, 3, 3, 4, 4, 4, 4, 4, 4, 4, 4, 5, 5, 5, 5, 5, 5, 5, 5, 5, 5, 5, 5, 5, 5, 5, 5, 6, 6, 6, 6, 6, 6, 6, 6, 6, 6, 6, 6, 6, 6, 6, 6, 6, 6, 6, 6, 6, 6, 6, 6, 6, 6, 6, 6, 6, 6, 6, 6, 7, 7, 7, 7, 7, 7, 7, 7, 7, 7, 7, 7, 7, 7, 7, 7, 7, 7, 7, 7, 7, 7, 7, 7, 7, 7, 7, 7, 7, 7, 7, 7, 7, 7, 7, 7, 7, 7, 7, 7, 7, 7, 7, 7, 7, 7, 7, 7, 7, 7, 7, 7, 7, 7, 7, 7, 7, 7, 7, 7, 7, 7, 7, 7, 8, 8, 8, 8, 8, 8, 8, 8, 8, 8, 8, 8, 8, 8, 8, 8, 8, 8, 8, 8, 8, 8, 8, 8, 8, 8, 8, 8, 8, 8, 8, 8, 8, 8, 8, 8, 8, 8, 8, 8, 8, 8, 8, 8, 8, 8, 8, 8, 8, 8, 8, 8, 8, 8, 8, 8, 8, 8, 8, 8, 8, 8, 8, 8, 8, 8, 8, 8, 8, 8, 8, 8, 8, 8, 8, 8, 8, 8, 8, 8, 8, 8, 8, 8, 8, 8, 8, 8, 8, 8, 8, 8, 8, 8, 8, 8, 8, 8, 8, 8, 8, 8, 8, 8, 8, 8, 8, 8, 8, 8, 8, 8, 8, 8, 8, 8, 8, 8, 8, 8, 8, 8, 8, 8, 8, 8, 8, 8]
def smL : List UInt8 := [48, 48, 48, 49, 48, 50, 48, 51, 48, 52, 48, 53, 48, 54, 48, 55, 48, 56, 48, 57, 49, 48, 49, 49, 49, 50, 49, 51, 49, 52, 49, 53, 49, 54, 49, 55, 49, 56, 49, 57, 50, 48, 50, 49, 50, 50, 50, 51, 50, 52, 50, 53, 50, 54, 50, 55, 50, 56, 50, 57, 51, 48, 51, 49, 51, 50, 51, 51, 51, 52, 51, 53, 51, 54, 51, 55, 51, 56, 51, 57, 52, 48, 52, 49, 52, 50, 52, 51, 52, 52, 52, 53, 52, 54, 52, 55, 52, 56, 52, 57, 53, 48, 53, 49, 53, 50, 53, 51, 53, 52, 53, 53, 53, 54, 53, 55, 53, 56, 53, 57, 54, 48, 54, 49, 54, 50, 54, 51, 54, 52, 54, 53, 54, 54, 54, 55, 54, 56, 54, 57, 55, 48, 55, 49, 55, 50, 55, 51, 55, 52, 55, 53, 55, 54, 55, 55, 55, 56, 55, 57, 56, 48, 56, 49, 56, 50, 56, 51, 56, 52, 56, 53, 56, 54, 56, 55, 56, 56, 56, 57, 57, 48, 57, 49, 57, 50, 57, 51, 57, 52, 57, 53, 57, 54, 57, 55, 57, 56, 57, 57]
def dxL : List UInt8 := [48, 49, 50, 51, 52, 53, 54, 55, 56, 57, 97, 98, 99, 100, 101, 102, 103, 104, 105, 106, 107, 108, 109, 110, 111, 112, 113, 114, 115, 116, 117, 118, 119, 120, 121, 122]
theorem l8_len : l8L.length = 256 := by decide +kernel
theorem sm_len : smL.length = 200 := by decide +kernel
theorem dx_len : dxL.length = 36 := by decide +kernel
/-- How many bits a byte has. -/
def l8 (n : Nat) : UInt8 := l8L.getD n 0
theorem l8_get {n : Nat} (h : n < 256) : l8L[n]? = some (l8 n) := by
  unfold l8
  rw [List.getD_eq_getElem?_getD, List.getElem?_eq_getElem (by rw [l8_len]; exact h)]
  rfl
theorem sm_get {n : Nat} (h : n < 100) : smL[2 * n]? = some (UInt8.ofNat (48 + n / 10)) ∧ smL[2 * n + 1]? = some (UInt8.ofNat (48 + n % 10)) := by
  have : (List.range 100).all (fun n => (smL[2 * n]? == some (UInt8.ofNat (48 + n / 10))) && (smL[2 * n + 1]? == some (UInt8.ofNat (48 + n % 10)))) = true := by decide +kernel
  have := List.all_eq_true.1 this n (List.mem_range.2 h)
  simpa using this
theorem small_dg {n : Nat} (h : n < 100) : (if n < 10 then (dxL.drop n).take 1 else (smL.drop (2 * n)).take 2) = dg n 1 := by
  have : (List.range 100).all (fun n => (if n < 10 then (dxL.drop n).take 1 else (smL.drop (2 * n)).take 2) == dg n 1) = true := by decide +kernel
  simpa using List.all_eq_true.1 this n (List.mem_range.2 h)
/-- How many bits a number has. -/
def lnF (u : Nat) : Nat := if 256 ≤ u then 8 + (l8 (u / 256)).toNat else (l8 u).toNat
def nd0 (u : Nat) : Nat := lnF u * 78913 / 262144
def ndg (u : Nat) : Nat := if u < 1000 then 3 else if u < 10000 then 4 else 5
theorem nd0_is {u : Nat} (h : 100 ≤ u ∧ u < 65536) : lnF u ≤ 16 ∧ ((nd0 u = 2 ∧ 10 ≤ u ∧ u < 1000) ∨ (nd0 u = 3 ∧ 100 ≤ u ∧ u < 10000) ∨ (nd0 u = 4 ∧ 1000 ≤ u ∧ u < 100000)) := by
  unfold nd0 lnF
  split
  · have : (List.range 255).all (fun k => decide ((l8 (k + 1)).toNat ≤ 8 ∧ (((8 + (l8 (k + 1)).toNat) * 78913 / 262144 = 2 ∧ 10 ≤ 256 * (k + 1) ∧ 256 * (k + 1) + 255 < 1000) ∨ ((8 + (l8 (k + 1)).toNat) * 78913 / 262144 = 3 ∧ 100 ≤ 256 * (k + 1) ∧ 256 * (k + 1) + 255 < 10000) ∨ ((8 + (l8 (k + 1)).toNat) * 78913 / 262144 = 4 ∧ 1000 ≤ 256 * (k + 1) ∧ 256 * (k + 1) + 255 < 100000)))) = true := by decide +kernel
    have := List.all_eq_true.1 this (u / 256 - 1) (List.mem_range.2 (by omega))
    rw [show u / 256 - 1 + 1 = u / 256 by omega] at this
    simp only [decide_eq_true_eq] at this
    omega
  · have : (List.range 156).all (fun k => decide ((l8 (k + 100)).toNat ≤ 8 ∧ ((l8 (k + 100)).toNat * 78913 / 262144 = 2))) = true := by decide +kernel
    have := List.all_eq_true.1 this (u - 100) (List.mem_range.2 (by omega))
    rw [show u - 100 + 100 = u by omega] at this
    simp only [decide_eq_true_eq] at this
    omega
theorem fdiv_nat (a n : Nat) : ((a : Int)).fdiv (2 ^ n) = ((a / 2 ^ n : Nat) : Int) := by
  rw [Int.fdiv_eq_ediv_of_nonneg _ (by exact Int.le_of_lt (Int.pow_pos (by decide)))]
  simp
theorem u64_id {x : Int} (h : 0 ≤ x ∧ x ≤ 18446744073709551615) : IntKind.wrap .u64 x = x := by rw [wrap_u64]; omega

theorem bool2_w {s : SS} {b : Bool} : CallW pr n_internal_strconv_bool2_int [.bool b] s fun v s' => v = .int .i64 (if b then 1 else 0) ∧ s' = s := by
  refine CallW.run good ok_internal_strconv_bool2_int (by simp) rfl ?_
  cases b <;> (repeat(first|refine pSeq ?_|refine pReg ?_|refine sCons ?_|refine sNil ?_|refine pSkip ?_|refine pRet ?_|refine pCond ?_|refine gNone ?_))
  · exact ⟨rfl, rfl⟩
  · exact ⟨rfl, rfl⟩
theorem log10_w {s : SS} {n : Nat} (h : n ≤ 64) : CallW pr n_internal_strconv_log10Pow2 [.int .i64 n] s fun v s' => v = .int .i64 (n * 78913 / 262144 : Nat) ∧ s' = s := by
  refine CallW.run good ok_internal_strconv_log10Pow2 (by simp) rfl ?_
  (repeat(first|refine pSeq ?_|refine pReg ?_|refine sCons ?_|refine sNil ?_|refine pRet ?_|refine gNone ?_))
  intro z hz
  rw [i64_id (by omega)] at hz
  obtain rfl : z = ((n * 78913 : Nat) : Int) := by omega
  (repeat(first|refine pSeq ?_|refine pReg ?_|refine sCons ?_|refine sNil ?_|refine pRet ?_|refine gNone ?_))
  intro z1 h1
  rw [fdiv_nat] at h1
  subst h1
  (repeat(first|refine pSeq ?_|refine pReg ?_|refine sCons ?_|refine sNil ?_|refine pRet ?_|refine gNone ?_))
  exact ⟨rfl, rfl⟩
theorem len64_w {s : SS} {u : Nat} (hu : u < 65536) : CallW pr n_math_bits_Len64 [.int .u64 u] s fun v s' => v = .int .i64 (lnF u) ∧ s' = s := by
  refine CallW.run good ok_math_bits_Len64 (by simp) rfl ?_
  (repeat(first|refine pSeq ?_|refine pReg ?_|refine sCons ?_|refine sNil ?_|refine pSkip ?_|refine pRet ?_|refine pCond ?_|refine gNone ?_))
  intro q hq; obtain rfl : q = false := (by rw [hq]; simp <;> omega); (repeat(first|refine pSeq ?_|refine pReg ?_|refine sCons ?_|refine sNil ?_|refine pSkip ?_|refine pRet ?_|refine pCond ?_|refine gNone ?_))
  intro q hq; obtain rfl : q = false := (by rw [hq]; simp <;> omega); (repeat(first|refine pSeq ?_|refine pReg ?_|refine sCons ?_|refine sNil ?_|refine pSkip ?_|refine pRet ?_|refine pCond ?_|refine gNone ?_))
  intro q hq
  by_cases h : 256 ≤ u
  · obtain rfl : q = true := by rw [hq]; simp <;> omega
    (repeat(first|refine pSeq ?_|refine pReg ?_|refine sCons ?_|refine sNil ?_|refine pSkip ?_|refine pRet ?_|refine pCond ?_|refine gNone ?_))
    intro z1 h1
    rw [fdiv_nat] at h1
    subst h1
    (repeat(first|refine pSeq ?_|refine pReg ?_|refine sCons ?_|refine sNil ?_|refine pSkip ?_|refine pRet ?_|refine pCond ?_|refine gNone ?_))
    intro z2 h2
    rw [i64_id (by omega)] at h2
    obtain rfl : z2 = 8 := by omega
    (repeat(first|refine pSeq ?_|refine pReg ?_|refine sCons ?_|refine sNil ?_|refine pSkip ?_|refine pRet ?_|refine pCond ?_|refine gNone ?_))
    intro z3 h3
    rw [u8_id (by omega)] at h3
    (repeat(first|refine pSeq ?_|refine pReg ?_|refine sCons ?_|refine sNil ?_|refine pSkip ?_|refine pRet ?_|refine pCond ?_|refine gNone ?_))
    refine ⟨by rw [h3]; show 0 ≤ _ ∧ _ < ((l8L.length : Nat) : Int); rw [l8_len]; omega, ?_⟩
    intro m hm
    obtain rfl : m = u / 256 := by omega
    refine ⟨l8 (u / 256), l8_get (by omega), ?_⟩
    have hb := (l8 (u / 256)).toNat_lt
    (repeat(first|refine pSeq ?_|refine pReg ?_|refine sCons ?_|refine sNil ?_|refine pSkip ?_|refine pRet ?_|refine pCond ?_|refine gNone ?_))
    intro z4 h4
    rw [i64_id (by omega)] at h4
    (repeat(first|refine pSeq ?_|refine pReg ?_|refine sCons ?_|refine sNil ?_|refine pSkip ?_|refine pRet ?_|refine pCond ?_|refine gNone ?_))
    intro z5 h5
    rw [i64_id (by omega)] at h5
    obtain rfl : z5 = ((lnF u : Nat) : Int) := by unfold lnF; rw [if_pos h]; omega
    (repeat(first|refine pSeq ?_|refine pReg ?_|refine sCons ?_|refine sNil ?_|refine pSkip ?_|refine pRet ?_|refine pCond ?_|refine gNone ?_))
    exact ⟨rfl, rfl⟩
  · obtain rfl : q = false := by rw [hq]; simp <;> omega
    (repeat(first|refine pSeq ?_|refine pReg ?_|refine sCons ?_|refine sNil ?_|refine pSkip ?_|refine pRet ?_|refine pCond ?_|refine gNone ?_))
    intro z3 h3
    rw [u8_id (by omega)] at h3
    (repeat(first|refine pSeq ?_|refine pReg ?_|refine sCons ?_|refine sNil ?_|refine pSkip ?_|refine pRet ?_|refine pCond ?_|refine gNone ?_))
    refine ⟨by rw [h3]; show 0 ≤ _ ∧ _ < ((l8L.length : Nat) : Int); rw [l8_len]; omega, ?_⟩
    intro m hm
    obtain rfl : m = u := by omega
    refine ⟨l8 m, l8_get (by omega), ?_⟩
    have hb := (l8 m).toNat_lt
    (repeat(first|refine pSeq ?_|refine pReg ?_|refine sCons ?_|refine sNil ?_|refine pSkip ?_|refine pRet ?_|refine pCond ?_|refine gNone ?_))
    intro z4 h4
    rw [i64_id (by omega)] at h4
    (repeat(first|refine pSeq ?_|refine pReg ?_|refine sCons ?_|refine sNil ?_|refine pSkip ?_|refine pRet ?_|refine pCond ?_|refine gNone ?_))
    intro z5 h5
    rw [i64_id (by omega)] at h5
    obtain rfl : z5 = ((lnF m : Nat) : Int) := by unfold lnF; rw [if_neg h]; omega
    (repeat(first|refine pSeq ?_|refine pReg ?_|refine sCons ?_|refine sNil ?_|refine pSkip ?_|refine pRet ?_|refine pCond ?_|refine gNone ?_))
    exact ⟨rfl, rfl⟩
theorem numDigits_w {s : SS} {u : Nat} (hG : Gst s) (hu : 100 ≤ u ∧ u < 65536) : CallW pr n_internal_strconv_numDigits [.int .u64 u] s fun v s' => v = .int .i64 (ndg u) ∧ s' = s := by
  refine CallW.run good ok_internal_strconv_numDigits (by simp) rfl ?_
  have hn := nd0_is hu
  (repeat(first|refine pSeq ?_|refine pReg ?_|refine sCons ?_|refine sNil ?_|refine pRet ?_|refine gNone ?_))
  refine (len64_w hu.2).mono fun v s q => ?_
  obtain ⟨rfl, rfl⟩ := q
  (repeat(first|refine pSeq ?_|refine pReg ?_|refine sCons ?_|refine sNil ?_|refine pRet ?_|refine gNone ?_))
  refine (log10_w (n := lnF u) (by omega)).mono fun v s q => ?_
  obtain ⟨rfl, rfl⟩ := q
  have e : lnF u * 78913 / 262144 = nd0 u := rfl
  rw [e]
  clear e
  (repeat(first|refine pSeq ?_|refine pReg ?_|refine sCons ?_|refine sNil ?_|refine pRet ?_|refine gNone ?_))
  refine ixaG hG.g2 rfl ?_
  refine ⟨by omega, ?_⟩
  intro k hk o ho
  obtain rfl : k = nd0 u := by omega
  have hk20 : nd0 u < 20 := by omega
  (repeat(first|refine pSeq ?_|refine pReg ?_|refine sCons ?_|refine sNil ?_|refine pRet ?_|refine gNone ?_))
  refine ldI_is rfl hG.b2 (by rw [ho, Nat.zero_add, Nat.mul_one]; exact pw_get hk20) ?_
  (repeat(first|refine pSeq ?_|refine pReg ?_|refine sCons ?_|refine sNil ?_|refine pRet ?_|refine gNone ?_))
  intro q hq
  (repeat(first|refine pSeq ?_|refine pReg ?_|refine sCons ?_|refine sNil ?_|refine pRet ?_|refine gNone ?_))
  refine bool2_w.mono fun v s q => ?_
  obtain ⟨rfl, rfl⟩ := q
  (repeat(first|refine pSeq ?_|refine pReg ?_|refine sCons ?_|refine sNil ?_|refine pRet ?_|refine gNone ?_))
  intro z hz
  have e2 : ((if q then (1 : Int) else 0) : Int) = if 10 ^ nd0 u ≤ u then 1 else 0 := by
    rw [hq]
    simp only [decide_eq_true_eq, Int.ofNat_le]
  rw [e2] at hz
  have e3 : z = ((ndg u : Nat) : Int) := by
    rcases hn.2 with ⟨h1, h2, h3⟩ | ⟨h1, h2, h3⟩ | ⟨h1, h2, h3⟩ <;> rw [h1] at hz <;> unfold ndg <;> (split at hz <;> rename_i h4 <;> simp only [Nat.reducePow] at h4 <;> rw [i64_id (by omega)] at hz <;> (repeat' split) <;> omega)
  subst e3
  (repeat(first|refine pSeq ?_|refine pReg ?_|refine sCons ?_|refine sNil ?_|refine pRet ?_|refine gNone ?_))
  exact ⟨rfl, rfl⟩
theorem small_w {s : SS} {n : Nat} (h : n < 100) : CallW pr n_internal_strconv_small [.int .i64 n] s fun v s' => v = str (dg n 1) ∧ s' = s := by
  refine CallW.run good ok_internal_strconv_small (by simp) rfl ?_
  have hs := small_dg h
  (repeat(first|refine pSeq ?_|refine pReg ?_|refine sCons ?_|refine sNil ?_|refine pSkip ?_|refine pRet ?_|refine pCond ?_|refine gNone ?_))
  intro q hq
  by_cases h10 : n < 10
  · obtain rfl : q = true := by rw [hq]; simp <;> omega
    rw [if_pos h10] at hs
    (repeat(first|refine pSeq ?_|refine pReg ?_|refine sCons ?_|refine sNil ?_|refine pSkip ?_|refine pRet ?_|refine pCond ?_|refine gNone ?_))
    intro z hz
    rw [i64_id (by omega)] at hz
    (repeat(first|refine pSeq ?_|refine pReg ?_|refine sCons ?_|refine sNil ?_|refine pSkip ?_|refine pRet ?_|refine pCond ?_|refine gNone ?_))
    refine ⟨by rw [hz]; show 0 ≤ _ ∧ _ ≤ ((dxL.length : Nat) : Int); rw [dx_len]; omega, ?_⟩
    intro k hk
    refine ⟨by omega, ?_⟩
    intro a ha r hr
    obtain rfl : a = n := by omega
    obtain rfl : k = a + 1 := by omega
    have hr : r = (dxL.drop a).take (a + 1 - a) := hr
    rw [Nat.add_sub_cancel_left, hs] at hr
    subst hr
    (repeat(first|refine pSeq ?_|refine pReg ?_|refine sCons ?_|refine sNil ?_|refine pSkip ?_|refine pRet ?_|refine pCond ?_|refine gNone ?_))
    exact ⟨rfl, rfl⟩
  · obtain rfl : q = false := by rw [hq]; simp <;> omega
    rw [if_neg h10] at hs
    (repeat(first|refine pSeq ?_|refine pReg ?_|refine sCons ?_|refine sNil ?_|refine pSkip ?_|refine pRet ?_|refine pCond ?_|refine gNone ?_))
    intro z hz
    rw [i64_id (by omega)] at hz
    (repeat(first|refine pSeq ?_|refine pReg ?_|refine sCons ?_|refine sNil ?_|refine pSkip ?_|refine pRet ?_|refine pCond ?_|refine gNone ?_))
    intro z1 hz1
    rw [i64_id (by omega)] at hz1
    (repeat(first|refine pSeq ?_|refine pReg ?_|refine sCons ?_|refine sNil ?_|refine pSkip ?_|refine pRet ?_|refine pCond ?_|refine gNone ?_))
    intro z2 hz2
    rw [i64_id (by omega)] at hz2
    (repeat(first|refine pSeq ?_|refine pReg ?_|refine sCons ?_|refine sNil ?_|refine pSkip ?_|refine pRet ?_|refine pCond ?_|refine gNone ?_))
    refine ⟨by rw [hz2, hz1]; show 0 ≤ _ ∧ _ ≤ ((smL.length : Nat) : Int); rw [sm_len]; omega, ?_⟩
    intro k hk
    refine ⟨by omega, ?_⟩
    intro a ha r hr
    obtain rfl : a = 2 * n := by omega
    obtain rfl : k = 2 * n + 2 := by omega
    have hr : r = (smL.drop (2 * n)).take (2 * n + 2 - 2 * n) := hr
    rw [Nat.add_sub_cancel_left, hs] at hr
    subst hr
    (repeat(first|refine pSeq ?_|refine pReg ?_|refine sCons ?_|refine sNil ?_|refine pSkip ?_|refine pRet ?_|refine pCond ?_|refine gNone ?_))
    exact ⟨rfl, rfl⟩
end Go.Vf.S
end
/- SmE -/
section
/- Numbers in digits, by the library: digit by digit. -/
namespace Go.Vf.S
open Go Go.Vf
attribute [local irreducible] wSeq wRow wp wG
set_option linter.unusedVariables false
set_option linter.unusedSimpArgs false
set_option maxRecDepth 10000

theorem u32m {x : Int} (h : 0 ≤ x ∧ x ≤ 4294967295) : IntKind.wrap .u32 x = x := u32_id h
def zs24 : List UInt8 := List.replicate 24 0
abbrev b48 (n : Nat) : UInt8 := UInt8.ofNat (48 + n)
theorem dg3 {u : Nat} (h : 100 ≤ u ∧ u < 1000) : dg u 1 = [b48 (u / 100), b48 (u % 100 / 10), b48 (u % 100 % 10)] := by
  rw [dg_next (by omega), dg_next (by omega), dg_next (by omega), show u / 10 / 10 / 10 = 0 by omega, show (1 : Nat) - 1 - 1 - 1 = 0 from rfl, dg_00, show u / 10 / 10 % 10 = u / 100 by omega, show u / 10 % 10 = u % 100 / 10 by omega, show u % 10 = u % 100 % 10 by omega]
  rfl
theorem dg4 {u : Nat} (h : 1000 ≤ u ∧ u < 10000) : dg u 1 = [b48 (u % 10000 / 100 / 10), b48 (u % 10000 / 100 % 10), b48 (u % 10000 % 100 / 10), b48 (u % 10000 % 100 % 10)] := by
  rw [dg_next (by omega), dg_next (by omega), dg_next (by omega), dg_next (by omega), show u / 10 / 10 / 10 / 10 = 0 by omega, show (1 : Nat) - 1 - 1 - 1 - 1 = 0 from rfl, dg_00, show u / 10 / 10 / 10 % 10 = u % 10000 / 100 / 10 by omega, show u / 10 / 10 % 10 = u % 10000 / 100 % 10 by omega, show u / 10 % 10 = u % 10000 % 100 / 10 by omega, show u % 10 = u % 10000 % 100 % 10 by omega]
  rfl
theorem dg5 {u : Nat} (h : 10000 ≤ u ∧ u < 100000) : dg u 1 = [b48 (u / 10000), b48 (u % 10000 / 100 / 10), b48 (u % 10000 / 100 % 10), b48 (u % 10000 % 100 / 10), b48 (u % 10000 % 100 % 10)] := by
  rw [dg_next (by omega), dg_next (by omega), dg_next (by omega), dg_next (by omega), dg_next (by omega), show u / 10 / 10 / 10 / 10 / 10 = 0 by omega, show (1 : Nat) - 1 - 1 - 1 - 1 - 1 = 0 from rfl, dg_00, show u / 10 / 10 / 10 / 10 % 10 = u / 10000 by omega, show u / 10 / 10 / 10 % 10 = u % 10000 / 100 / 10 by omega, show u / 10 / 10 % 10 = u % 10000 / 100 % 10 by omega, show u / 10 % 10 = u % 10000 % 100 / 10 by omega, show u % 10 = u % 10000 % 100 % 10 by omega]
  rfl

set_option maxHeartbeats 1000000 in
theorem fb10_w {s : SS} {b cap u : Nat} {t : TypeId} (hb : lookH s.heap b = some (.cells (bytesV zs24) t false false)) (hlt : b < s.next) (hu : 100 ≤ u ∧ u < 65536) :
    CallW pr n_internal_strconv_formatBase10 [.slice (some ⟨b, 1, none⟩) (ndg u) cap, .int .u64 u] s fun v s' => (∃ l', lookH s'.heap b = some (.cells (bytesV l') t false false) ∧ (l'.drop 1).take (ndg u) = dg u 1 ∧ l'.length = 24) ∧ Chg s s' [b] := by
  refine CallW.run good ok_internal_strconv_formatBase10 (by simp) rfl ?_
  have h5 : 3 ≤ ndg u ∧ ndg u ≤ 5 := by unfold ndg; split <;> (try split) <;> omega
  (repeat(first|refine pSeq ?_|refine pReg ?_|refine sCons ?_|refine sNil ?_|refine rCons ?_|refine rNil ?_|refine kNo ?_|refine pRow ?_|refine pBlock ?_|refine pSkip ?_|refine pExit ?_|refine pCond ?_|refine gNone ?_))
  refine pLoop (MW.head good (fun _ : Unit => 0) (fun _ => True) (fun _ => [(0, .slice (some ⟨b, 1, none⟩) (ndg u) cap), (1, .int .u64 u), (4, .int .i64 (ndg u))]) (fun _ => s) () trivial (Wk.same ⟨rfl, rfl, rfl, trivial⟩) ?_)
  intro _ _
  (repeat(first|refine pSeq ?_|refine pReg ?_|refine sCons ?_|refine sNil ?_|refine rCons ?_|refine rNil ?_|refine kNo ?_|refine pRow ?_|refine pBlock ?_|refine pSkip ?_|refine pExit ?_|refine pCond ?_|refine gNone ?_))
  intro q hq; obtain rfl : q = false := (by rw [hq]; simp <;> omega); (repeat(first|refine pSeq ?_|refine pReg ?_|refine sCons ?_|refine sNil ?_|refine rCons ?_|refine rNil ?_|refine kNo ?_|refine pRow ?_|refine pBlock ?_|refine pSkip ?_|refine pExit ?_|refine pCond ?_|refine gNone ?_))
  intro z hz
  rw [u32_id (by omega)] at hz
  subst hz
  (repeat(first|refine pSeq ?_|refine pReg ?_|refine sCons ?_|refine sNil ?_|refine rCons ?_|refine rNil ?_|refine kNo ?_|refine pRow ?_|refine pBlock ?_|refine pSkip ?_|refine pExit ?_|refine pCond ?_|refine gNone ?_))
  intro q hq
  by_cases h3 : u < 1000
  · have e3 : ndg u = 3 := by unfold ndg; rw [if_pos h3]
    rw [e3] at hq ⊢
    obtain rfl : q = false := by rw [hq]; simp <;> omega
    (repeat(first|refine pSeq ?_|refine pReg ?_|refine sCons ?_|refine sNil ?_|refine rCons ?_|refine rNil ?_|refine kNo ?_|refine pRow ?_|refine pBlock ?_|refine pSkip ?_|refine pExit ?_|refine pCond ?_|refine gNone ?_))
    intro q hq; obtain rfl : q = true := (by rw [hq]; simp <;> omega); (repeat(first|refine pSeq ?_|refine pReg ?_|refine sCons ?_|refine sNil ?_|refine rCons ?_|refine rNil ?_|refine kNo ?_|refine pRow ?_|refine pBlock ?_|refine pSkip ?_|refine pExit ?_|refine pCond ?_|refine gNone ?_))
    refine ⟨by decide, ?_⟩
    intro z1 hz1
    rw [show (100 : Int) = ((100 : Nat) : Int) from rfl, tmod_nat] at hz1
    subst hz1
    (repeat(first|refine pSeq ?_|refine pReg ?_|refine sCons ?_|refine sNil ?_|refine rCons ?_|refine rNil ?_|refine kNo ?_|refine pRow ?_|refine pBlock ?_|refine pSkip ?_|refine pExit ?_|refine pCond ?_|refine gNone ?_))
    intro z2 hz2
    rw [u32_id (by omega)] at hz2
    subst hz2
    (repeat(first|refine pSeq ?_|refine pReg ?_|refine sCons ?_|refine sNil ?_|refine rCons ?_|refine rNil ?_|refine kNo ?_|refine pRow ?_|refine pBlock ?_|refine pSkip ?_|refine pExit ?_|refine pCond ?_|refine gNone ?_))
    refine ⟨by decide, ?_⟩
    intro z3 hz3
    rw [show (100 : Int) = ((100 : Nat) : Int) from rfl, tdiv_nat, u32_id (by omega)] at hz3
    subst hz3
    (repeat(first|refine pSeq ?_|refine pReg ?_|refine sCons ?_|refine sNil ?_|refine rCons ?_|refine rNil ?_|refine kNo ?_|refine pRow ?_|refine pBlock ?_|refine pSkip ?_|refine pExit ?_|refine pCond ?_|refine gNone ?_))
    intro y0 g0
    rw [i64_id (by omega)] at g0
    (repeat(first|refine pSeq ?_|refine pReg ?_|refine sCons ?_|refine sNil ?_|refine rCons ?_|refine rNil ?_|refine kNo ?_|refine pRow ?_|refine pBlock ?_|refine pSkip ?_|refine pExit ?_|refine pCond ?_|refine gNone ?_))
    intro y0' g0'
    rw [i64_id (by omega)] at g0'
    (repeat(first|refine pSeq ?_|refine pReg ?_|refine sCons ?_|refine sNil ?_|refine rCons ?_|refine rNil ?_|refine kNo ?_|refine pRow ?_|refine pBlock ?_|refine pSkip ?_|refine pExit ?_|refine pCond ?_|refine gNone ?_))
    intro w0 q0
    rw [u32_id (by omega)] at q0
    have p0 := sm_get (show u % 100 < 100 by omega)
    (repeat(first|refine pSeq ?_|refine pReg ?_|refine sCons ?_|refine sNil ?_|refine rCons ?_|refine rNil ?_|refine kNo ?_|refine pRow ?_|refine pBlock ?_|refine pSkip ?_|refine pExit ?_|refine pCond ?_|refine gNone ?_))
    refine ⟨by rw [q0]; show 0 ≤ _ ∧ _ < ((smL.length : Nat) : Int); rw [sm_len]; omega, ?_⟩
    intro m hm
    obtain rfl : m = 2 * (u % 100) + 1 := by omega
    refine ⟨_, p0.2, ?_⟩
    (repeat(first|refine pSeq ?_|refine pReg ?_|refine sCons ?_|refine sNil ?_|refine rCons ?_|refine rNil ?_|refine kNo ?_|refine pRow ?_|refine pBlock ?_|refine pSkip ?_|refine pExit ?_|refine pCond ?_|refine gNone ?_))
    refine ⟨by show 0 ≤ _ ∧ _ < ((smL.length : Nat) : Int); rw [sm_len]; omega, ?_⟩
    intro m hm
    obtain rfl : m = 2 * (u % 100) := by omega
    refine ⟨_, p0.1, ?_⟩
    (repeat(first|refine pSeq ?_|refine pReg ?_|refine sCons ?_|refine sNil ?_|refine rCons ?_|refine rNil ?_|refine kNo ?_|refine pRow ?_|refine pBlock ?_|refine pSkip ?_|refine pExit ?_|refine pCond ?_|refine gNone ?_))
    refine ⟨by omega, ?_⟩
    intro m hm o ho
    obtain rfl : m = 2 := by omega
    obtain rfl : o = 3 := by omega
    (repeat(first|refine pSeq ?_|refine pReg ?_|refine sCons ?_|refine sNil ?_|refine rCons ?_|refine rNil ?_|refine kNo ?_|refine pRow ?_|refine pBlock ?_|refine pSkip ?_|refine pExit ?_|refine pCond ?_|refine gNone ?_))
    refine st_abs (cs' := bytesV (zs24.set 3 (b48 (u % 100 % 10)))) rfl rfl hb hlt rfl (bytes_set (by simp [zs24]) _) fun s1 e1 c1 n1 => ?_
    (repeat(first|refine pSeq ?_|refine pReg ?_|refine sCons ?_|refine sNil ?_|refine rCons ?_|refine rNil ?_|refine kNo ?_|refine pRow ?_|refine pBlock ?_|refine pSkip ?_|refine pExit ?_|refine pCond ?_|refine gNone ?_))
    refine ⟨by omega, ?_⟩
    intro m hm o ho
    obtain rfl : m = 1 := by omega
    obtain rfl : o = 2 := by omega
    (repeat(first|refine pSeq ?_|refine pReg ?_|refine sCons ?_|refine sNil ?_|refine rCons ?_|refine rNil ?_|refine kNo ?_|refine pRow ?_|refine pBlock ?_|refine pSkip ?_|refine pExit ?_|refine pCond ?_|refine gNone ?_))
    refine st_abs (cs' := bytesV ((zs24.set 3 (b48 (u % 100 % 10))).set 2 (b48 (u % 100 / 10)))) rfl rfl e1 (by omega) rfl (bytes_set (by simp [zs24]) _) fun s2 e2 c2 n2 => ?_
    (repeat(first|refine pSeq ?_|refine pReg ?_|refine sCons ?_|refine sNil ?_|refine rCons ?_|refine rNil ?_|refine kNo ?_|refine pRow ?_|refine pBlock ?_|refine pSkip ?_|refine pExit ?_|refine pCond ?_|refine gNone ?_))
    intro z8 hz8
    rw [i64_id (by omega)] at hz8
    obtain rfl : z8 = 1 := by omega
    (repeat(first|refine pSeq ?_|refine pReg ?_|refine sCons ?_|refine sNil ?_|refine rCons ?_|refine rNil ?_|refine kNo ?_|refine pRow ?_|refine pBlock ?_|refine pSkip ?_|refine pExit ?_|refine pCond ?_|refine gNone ?_))
    intro q hq; obtain rfl : q = true := (by rw [hq]; simp <;> omega); (repeat(first|refine pSeq ?_|refine pReg ?_|refine sCons ?_|refine sNil ?_|refine rCons ?_|refine rNil ?_|refine kNo ?_|refine pRow ?_|refine pBlock ?_|refine pSkip ?_|refine pExit ?_|refine pCond ?_|refine gNone ?_))
    intro y2 g2
    rw [u32_id (by omega)] at g2
    (repeat(first|refine pSeq ?_|refine pReg ?_|refine sCons ?_|refine sNil ?_|refine rCons ?_|refine rNil ?_|refine kNo ?_|refine pRow ?_|refine pBlock ?_|refine pSkip ?_|refine pExit ?_|refine pCond ?_|refine gNone ?_))
    intro y2' g2'
    rw [g2, u8_id (by omega)] at g2'
    obtain rfl : y2' = ((b48 (u / 100)).toNat : Int) := by
      have : (b48 (u / 100)).toNat = 48 + u / 100 := by
        show (UInt8.ofNat (48 + u / 100)).toNat = _
        rw [UInt8.toNat_ofNat']
        omega
      omega
    (repeat(first|refine pSeq ?_|refine pReg ?_|refine sCons ?_|refine sNil ?_|refine rCons ?_|refine rNil ?_|refine kNo ?_|refine pRow ?_|refine pBlock ?_|refine pSkip ?_|refine pExit ?_|refine pCond ?_|refine gNone ?_))
    refine ⟨by omega, ?_⟩
    intro m hm o ho
    obtain rfl : m = 0 := by omega
    obtain rfl : o = 1 := by omega
    (repeat(first|refine pSeq ?_|refine pReg ?_|refine sCons ?_|refine sNil ?_|refine rCons ?_|refine rNil ?_|refine kNo ?_|refine pRow ?_|refine pBlock ?_|refine pSkip ?_|refine pExit ?_|refine pCond ?_|refine gNone ?_))
    refine st_abs (cs' := bytesV (((zs24.set 3 (b48 (u % 100 % 10))).set 2 (b48 (u % 100 / 10))).set 1 (b48 (u / 100)))) rfl rfl e2 (by omega) rfl (bytes_set (by simp [zs24]) _) fun s3 e3 c3 n3 => ?_
    (repeat(first|refine pSeq ?_|refine pReg ?_|refine sCons ?_|refine sNil ?_|refine rCons ?_|refine rNil ?_|refine kNo ?_|refine pRow ?_|refine pBlock ?_|refine pSkip ?_|refine pExit ?_|refine pCond ?_|refine gNone ?_))
    refine ⟨⟨(((zs24.set 3 (b48 (u % 100 % 10))).set 2 (b48 (u % 100 / 10))).set 1 (b48 (u / 100))), e3, ?_, by simp [zs24]⟩, ((c1.trans c2).trans c3).sub (by simp)⟩
    rw [dg3 ⟨hu.1, h3⟩]
    rfl
  have fourth : ∀ z : Int, z = IntKind.wrap .u32 ((u % 10000 / 100 : Nat) * 2) → z = ((u % 10000 / 100 : Nat) : Int) * 2 := fun z h => by rw [u32_id (by omega)] at h; exact h
  by_cases h4 : u < 10000
  · have e3 : ndg u = 4 := by unfold ndg; rw [if_neg h3, if_pos h4]
    rw [e3] at hq ⊢
    obtain rfl : q = true := by rw [hq]; simp <;> omega
    (repeat(first|refine pSeq ?_|refine pReg ?_|refine sCons ?_|refine sNil ?_|refine rCons ?_|refine rNil ?_|refine kNo ?_|refine pRow ?_|refine pBlock ?_|refine pSkip ?_|refine pExit ?_|refine pCond ?_|refine gNone ?_))
    refine ⟨by decide, ?_⟩
    intro z1 hz1
    rw [show (10000 : Int) = ((10000 : Nat) : Int) from rfl, tmod_nat] at hz1
    subst hz1
    (repeat(first|refine pSeq ?_|refine pReg ?_|refine sCons ?_|refine sNil ?_|refine rCons ?_|refine rNil ?_|refine kNo ?_|refine pRow ?_|refine pBlock ?_|refine pSkip ?_|refine pExit ?_|refine pCond ?_|refine gNone ?_))
    refine ⟨by decide, ?_⟩
    intro z2 hz2
    rw [show (10000 : Int) = ((10000 : Nat) : Int) from rfl, tdiv_nat, u32_id (by omega)] at hz2
    subst hz2
    (repeat(first|refine pSeq ?_|refine pReg ?_|refine sCons ?_|refine sNil ?_|refine rCons ?_|refine rNil ?_|refine kNo ?_|refine pRow ?_|refine pBlock ?_|refine pSkip ?_|refine pExit ?_|refine pCond ?_|refine gNone ?_))
    refine ⟨by decide, ?_⟩
    intro z3 hz3
    rw [show (100 : Int) = ((100 : Nat) : Int) from rfl, tdiv_nat, u32_id (by omega)] at hz3
    subst hz3
    (repeat(first|refine pSeq ?_|refine pReg ?_|refine sCons ?_|refine sNil ?_|refine rCons ?_|refine rNil ?_|refine kNo ?_|refine pRow ?_|refine pBlock ?_|refine pSkip ?_|refine pExit ?_|refine pCond ?_|refine gNone ?_))
    intro z4 hz4
    rw [u32_id (by omega)] at hz4
    subst hz4
    (repeat(first|refine pSeq ?_|refine pReg ?_|refine sCons ?_|refine sNil ?_|refine rCons ?_|refine rNil ?_|refine kNo ?_|refine pRow ?_|refine pBlock ?_|refine pSkip ?_|refine pExit ?_|refine pCond ?_|refine gNone ?_))
    refine ⟨by decide, ?_⟩
    intro z5 hz5
    rw [show (100 : Int) = ((100 : Nat) : Int) from rfl, tmod_nat] at hz5
    subst hz5
    (repeat(first|refine pSeq ?_|refine pReg ?_|refine sCons ?_|refine sNil ?_|refine rCons ?_|refine rNil ?_|refine kNo ?_|refine pRow ?_|refine pBlock ?_|refine pSkip ?_|refine pExit ?_|refine pCond ?_|refine gNone ?_))
    intro z6 hz6
    rw [u32_id (by omega)] at hz6
    subst hz6
    (repeat(first|refine pSeq ?_|refine pReg ?_|refine sCons ?_|refine sNil ?_|refine rCons ?_|refine rNil ?_|refine kNo ?_|refine pRow ?_|refine pBlock ?_|refine pSkip ?_|refine pExit ?_|refine pCond ?_|refine gNone ?_))
    intro y0 g0
    rw [i64_id (by omega)] at g0
    (repeat(first|refine pSeq ?_|refine pReg ?_|refine sCons ?_|refine sNil ?_|refine rCons ?_|refine rNil ?_|refine kNo ?_|refine pRow ?_|refine pBlock ?_|refine pSkip ?_|refine pExit ?_|refine pCond ?_|refine gNone ?_))
    intro y0' g0'
    rw [i64_id (by omega)] at g0'
    (repeat(first|refine pSeq ?_|refine pReg ?_|refine sCons ?_|refine sNil ?_|refine rCons ?_|refine rNil ?_|refine kNo ?_|refine pRow ?_|refine pBlock ?_|refine pSkip ?_|refine pExit ?_|refine pCond ?_|refine gNone ?_))
    intro w0 q0
    rw [u32_id (by omega)] at q0
    have p0 := sm_get (show u % 10000 % 100 < 100 by omega)
    (repeat(first|refine pSeq ?_|refine pReg ?_|refine sCons ?_|refine sNil ?_|refine rCons ?_|refine rNil ?_|refine kNo ?_|refine pRow ?_|refine pBlock ?_|refine pSkip ?_|refine pExit ?_|refine pCond ?_|refine gNone ?_))
    refine ⟨by rw [q0]; show 0 ≤ _ ∧ _ < ((smL.length : Nat) : Int); rw [sm_len]; omega, ?_⟩
    intro m hm
    obtain rfl : m = 2 * (u % 10000 % 100) + 1 := by omega
    refine ⟨_, p0.2, ?_⟩
    (repeat(first|refine pSeq ?_|refine pReg ?_|refine sCons ?_|refine sNil ?_|refine rCons ?_|refine rNil ?_|refine kNo ?_|refine pRow ?_|refine pBlock ?_|refine pSkip ?_|refine pExit ?_|refine pCond ?_|refine gNone ?_))
    refine ⟨by show 0 ≤ _ ∧ _ < ((smL.length : Nat) : Int); rw [sm_len]; omega, ?_⟩
    intro m hm
    obtain rfl : m = 2 * (u % 10000 % 100) := by omega
    refine ⟨_, p0.1, ?_⟩
    (repeat(first|refine pSeq ?_|refine pReg ?_|refine sCons ?_|refine sNil ?_|refine rCons ?_|refine rNil ?_|refine kNo ?_|refine pRow ?_|refine pBlock ?_|refine pSkip ?_|refine pExit ?_|refine pCond ?_|refine gNone ?_))
    refine ⟨by omega, ?_⟩
    intro m hm o ho
    obtain rfl : m = 3 := by omega
    obtain rfl : o = 4 := by omega
    (repeat(first|refine pSeq ?_|refine pReg ?_|refine sCons ?_|refine sNil ?_|refine rCons ?_|refine rNil ?_|refine kNo ?_|refine pRow ?_|refine pBlock ?_|refine pSkip ?_|refine pExit ?_|refine pCond ?_|refine gNone ?_))
    refine st_abs (cs' := bytesV (zs24.set 4 (b48 (u % 10000 % 100 % 10)))) rfl rfl hb hlt rfl (bytes_set (by simp [zs24]) _) fun s1 e1 c1 n1 => ?_
    (repeat(first|refine pSeq ?_|refine pReg ?_|refine sCons ?_|refine sNil ?_|refine rCons ?_|refine rNil ?_|refine kNo ?_|refine pRow ?_|refine pBlock ?_|refine pSkip ?_|refine pExit ?_|refine pCond ?_|refine gNone ?_))
    refine ⟨by omega, ?_⟩
    intro m hm o ho
    obtain rfl : m = 2 := by omega
    obtain rfl : o = 3 := by omega
    (repeat(first|refine pSeq ?_|refine pReg ?_|refine sCons ?_|refine sNil ?_|refine rCons ?_|refine rNil ?_|refine kNo ?_|refine pRow ?_|refine pBlock ?_|refine pSkip ?_|refine pExit ?_|refine pCond ?_|refine gNone ?_))
    refine st_abs (cs' := bytesV ((zs24.set 4 (b48 (u % 10000 % 100 % 10))).set 3 (b48 (u % 10000 % 100 / 10)))) rfl rfl e1 (by omega) rfl (bytes_set (by simp [zs24]) _) fun s2 e2 c2 n2 => ?_
    (repeat(first|refine pSeq ?_|refine pReg ?_|refine sCons ?_|refine sNil ?_|refine rCons ?_|refine rNil ?_|refine kNo ?_|refine pRow ?_|refine pBlock ?_|refine pSkip ?_|refine pExit ?_|refine pCond ?_|refine gNone ?_))
    intro y2 g2
    rw [i64_id (by omega)] at g2
    (repeat(first|refine pSeq ?_|refine pReg ?_|refine sCons ?_|refine sNil ?_|refine rCons ?_|refine rNil ?_|refine kNo ?_|refine pRow ?_|refine pBlock ?_|refine pSkip ?_|refine pExit ?_|refine pCond ?_|refine gNone ?_))
    intro y2' g2'
    rw [i64_id (by omega)] at g2'
    (repeat(first|refine pSeq ?_|refine pReg ?_|refine sCons ?_|refine sNil ?_|refine rCons ?_|refine rNil ?_|refine kNo ?_|refine pRow ?_|refine pBlock ?_|refine pSkip ?_|refine pExit ?_|refine pCond ?_|refine gNone ?_))
    intro w2 q2
    rw [u32_id (by omega)] at q2
    have p2 := sm_get (show u % 10000 / 100 < 100 by omega)
    (repeat(first|refine pSeq ?_|refine pReg ?_|refine sCons ?_|refine sNil ?_|refine rCons ?_|refine rNil ?_|refine kNo ?_|refine pRow ?_|refine pBlock ?_|refine pSkip ?_|refine pExit ?_|refine pCond ?_|refine gNone ?_))
    refine ⟨by rw [q2]; show 0 ≤ _ ∧ _ < ((smL.length : Nat) : Int); rw [sm_len]; omega, ?_⟩
    intro m hm
    obtain rfl : m = 2 * (u % 10000 / 100) + 1 := by omega
    refine ⟨_, p2.2, ?_⟩
    (repeat(first|refine pSeq ?_|refine pReg ?_|refine sCons ?_|refine sNil ?_|refine rCons ?_|refine rNil ?_|refine kNo ?_|refine pRow ?_|refine pBlock ?_|refine pSkip ?_|refine pExit ?_|refine pCond ?_|refine gNone ?_))
    refine ⟨by show 0 ≤ _ ∧ _ < ((smL.length : Nat) : Int); rw [sm_len]; omega, ?_⟩
    intro m hm
    obtain rfl : m = 2 * (u % 10000 / 100) := by omega
    refine ⟨_, p2.1, ?_⟩
    (repeat(first|refine pSeq ?_|refine pReg ?_|refine sCons ?_|refine sNil ?_|refine rCons ?_|refine rNil ?_|refine kNo ?_|refine pRow ?_|refine pBlock ?_|refine pSkip ?_|refine pExit ?_|refine pCond ?_|refine gNone ?_))
    refine ⟨by omega, ?_⟩
    intro m hm o ho
    obtain rfl : m = 1 := by omega
    obtain rfl : o = 2 := by omega
    (repeat(first|refine pSeq ?_|refine pReg ?_|refine sCons ?_|refine sNil ?_|refine rCons ?_|refine rNil ?_|refine kNo ?_|refine pRow ?_|refine pBlock ?_|refine pSkip ?_|refine pExit ?_|refine pCond ?_|refine gNone ?_))
    refine st_abs (cs' := bytesV (((zs24.set 4 (b48 (u % 10000 % 100 % 10))).set 3 (b48 (u % 10000 % 100 / 10))).set 2 (b48 (u % 10000 / 100 % 10)))) rfl rfl e2 (by omega) rfl (bytes_set (by simp [zs24]) _) fun s3 e3 c3 n3 => ?_
    (repeat(first|refine pSeq ?_|refine pReg ?_|refine sCons ?_|refine sNil ?_|refine rCons ?_|refine rNil ?_|refine kNo ?_|refine pRow ?_|refine pBlock ?_|refine pSkip ?_|refine pExit ?_|refine pCond ?_|refine gNone ?_))
    refine ⟨by omega, ?_⟩
    intro m hm o ho
    obtain rfl : m = 0 := by omega
    obtain rfl : o = 1 := by omega
    (repeat(first|refine pSeq ?_|refine pReg ?_|refine sCons ?_|refine sNil ?_|refine rCons ?_|refine rNil ?_|refine kNo ?_|refine pRow ?_|refine pBlock ?_|refine pSkip ?_|refine pExit ?_|refine pCond ?_|refine gNone ?_))
    refine st_abs (cs' := bytesV ((((zs24.set 4 (b48 (u % 10000 % 100 % 10))).set 3 (b48 (u % 10000 % 100 / 10))).set 2 (b48 (u % 10000 / 100 % 10))).set 1 (b48 (u % 10000 / 100 / 10)))) rfl rfl e3 (by omega) rfl (bytes_set (by simp [zs24]) _) fun s4 e4 c4 n4 => ?_
    (repeat(first|refine pSeq ?_|refine pReg ?_|refine sCons ?_|refine sNil ?_|refine rCons ?_|refine rNil ?_|refine kNo ?_|refine pRow ?_|refine pBlock ?_|refine pSkip ?_|refine pExit ?_|refine pCond ?_|refine gNone ?_))
    intro z8 hz8
    rw [i64_id (by omega)] at hz8
    obtain rfl : z8 = 0 := by omega
    (repeat(first|refine pSeq ?_|refine pReg ?_|refine sCons ?_|refine sNil ?_|refine rCons ?_|refine rNil ?_|refine kNo ?_|refine pRow ?_|refine pBlock ?_|refine pSkip ?_|refine pExit ?_|refine pCond ?_|refine gNone ?_))
    intro q hq; obtain rfl : q = false := (by rw [hq]; simp <;> omega); (repeat(first|refine pSeq ?_|refine pReg ?_|refine sCons ?_|refine sNil ?_|refine rCons ?_|refine rNil ?_|refine kNo ?_|refine pRow ?_|refine pBlock ?_|refine pSkip ?_|refine pExit ?_|refine pCond ?_|refine gNone ?_))
    intro q hq; obtain rfl : q = false := (by rw [hq]; simp <;> omega); (repeat(first|refine pSeq ?_|refine pReg ?_|refine sCons ?_|refine sNil ?_|refine rCons ?_|refine rNil ?_|refine kNo ?_|refine pRow ?_|refine pBlock ?_|refine pSkip ?_|refine pExit ?_|refine pCond ?_|refine gNone ?_))
    refine ⟨⟨((((zs24.set 4 (b48 (u % 10000 % 100 % 10))).set 3 (b48 (u % 10000 % 100 / 10))).set 2 (b48 (u % 10000 / 100 % 10))).set 1 (b48 (u % 10000 / 100 / 10))), e4, ?_, by simp [zs24]⟩, (((c1.trans c2).trans c3).trans c4).sub (by simp)⟩
    rw [dg4 ⟨by omega, h4⟩]
    rfl
  · have e3 : ndg u = 5 := by unfold ndg; rw [if_neg h3, if_neg h4]
    rw [e3] at hq ⊢
    obtain rfl : q = true := by rw [hq]; simp <;> omega
    (repeat(first|refine pSeq ?_|refine pReg ?_|refine sCons ?_|refine sNil ?_|refine rCons ?_|refine rNil ?_|refine kNo ?_|refine pRow ?_|refine pBlock ?_|refine pSkip ?_|refine pExit ?_|refine pCond ?_|refine gNone ?_))
    refine ⟨by decide, ?_⟩
    intro z1 hz1
    rw [show (10000 : Int) = ((10000 : Nat) : Int) from rfl, tmod_nat] at hz1
    subst hz1
    (repeat(first|refine pSeq ?_|refine pReg ?_|refine sCons ?_|refine sNil ?_|refine rCons ?_|refine rNil ?_|refine kNo ?_|refine pRow ?_|refine pBlock ?_|refine pSkip ?_|refine pExit ?_|refine pCond ?_|refine gNone ?_))
    refine ⟨by decide, ?_⟩
    intro z2 hz2
    rw [show (10000 : Int) = ((10000 : Nat) : Int) from rfl, tdiv_nat, u32_id (by omega)] at hz2
    subst hz2
    (repeat(first|refine pSeq ?_|refine pReg ?_|refine sCons ?_|refine sNil ?_|refine rCons ?_|refine rNil ?_|refine kNo ?_|refine pRow ?_|refine pBlock ?_|refine pSkip ?_|refine pExit ?_|refine pCond ?_|refine gNone ?_))
    refine ⟨by decide, ?_⟩
    intro z3 hz3
    rw [show (100 : Int) = ((100 : Nat) : Int) from rfl, tdiv_nat, u32_id (by omega)] at hz3
    subst hz3
    (repeat(first|refine pSeq ?_|refine pReg ?_|refine sCons ?_|refine sNil ?_|refine rCons ?_|refine rNil ?_|refine kNo ?_|refine pRow ?_|refine pBlock ?_|refine pSkip ?_|refine pExit ?_|refine pCond ?_|refine gNone ?_))
    intro z4 hz4
    rw [u32_id (by omega)] at hz4
    subst hz4
    (repeat(first|refine pSeq ?_|refine pReg ?_|refine sCons ?_|refine sNil ?_|refine rCons ?_|refine rNil ?_|refine kNo ?_|refine pRow ?_|refine pBlock ?_|refine pSkip ?_|refine pExit ?_|refine pCond ?_|refine gNone ?_))
    refine ⟨by decide, ?_⟩
    intro z5 hz5
    rw [show (100 : Int) = ((100 : Nat) : Int) from rfl, tmod_nat] at hz5
    subst hz5
    (repeat(first|refine pSeq ?_|refine pReg ?_|refine sCons ?_|refine sNil ?_|refine rCons ?_|refine rNil ?_|refine kNo ?_|refine pRow ?_|refine pBlock ?_|refine pSkip ?_|refine pExit ?_|refine pCond ?_|refine gNone ?_))
    intro z6 hz6
    rw [u32_id (by omega)] at hz6
    subst hz6
    (repeat(first|refine pSeq ?_|refine pReg ?_|refine sCons ?_|refine sNil ?_|refine rCons ?_|refine rNil ?_|refine kNo ?_|refine pRow ?_|refine pBlock ?_|refine pSkip ?_|refine pExit ?_|refine pCond ?_|refine gNone ?_))
    intro y0 g0
    rw [i64_id (by omega)] at g0
    (repeat(first|refine pSeq ?_|refine pReg ?_|refine sCons ?_|refine sNil ?_|refine rCons ?_|refine rNil ?_|refine kNo ?_|refine pRow ?_|refine pBlock ?_|refine pSkip ?_|refine pExit ?_|refine pCond ?_|refine gNone ?_))
    intro y0' g0'
    rw [i64_id (by omega)] at g0'
    (repeat(first|refine pSeq ?_|refine pReg ?_|refine sCons ?_|refine sNil ?_|refine rCons ?_|refine rNil ?_|refine kNo ?_|refine pRow ?_|refine pBlock ?_|refine pSkip ?_|refine pExit ?_|refine pCond ?_|refine gNone ?_))
    intro w0 q0
    rw [u32_id (by omega)] at q0
    have p0 := sm_get (show u % 10000 % 100 < 100 by omega)
    (repeat(first|refine pSeq ?_|refine pReg ?_|refine sCons ?_|refine sNil ?_|refine rCons ?_|refine rNil ?_|refine kNo ?_|refine pRow ?_|refine pBlock ?_|refine pSkip ?_|refine pExit ?_|refine pCond ?_|refine gNone ?_))
    refine ⟨by rw [q0]; show 0 ≤ _ ∧ _ < ((smL.length : Nat) : Int); rw [sm_len]; omega, ?_⟩
    intro m hm
    obtain rfl : m = 2 * (u % 10000 % 100) + 1 := by omega
    refine ⟨_, p0.2, ?_⟩
    (repeat(first|refine pSeq ?_|refine pReg ?_|refine sCons ?_|refine sNil ?_|refine rCons ?_|refine rNil ?_|refine kNo ?_|refine pRow ?_|refine pBlock ?_|refine pSkip ?_|refine pExit ?_|refine pCond ?_|refine gNone ?_))
    refine ⟨by show 0 ≤ _ ∧ _ < ((smL.length : Nat) : Int); rw [sm_len]; omega, ?_⟩
    intro m hm
    obtain rfl : m = 2 * (u % 10000 % 100) := by omega
    refine ⟨_, p0.1, ?_⟩
    (repeat(first|refine pSeq ?_|refine pReg ?_|refine sCons ?_|refine sNil ?_|refine rCons ?_|refine rNil ?_|refine kNo ?_|refine pRow ?_|refine pBlock ?_|refine pSkip ?_|refine pExit ?_|refine pCond ?_|refine gNone ?_))
    refine ⟨by omega, ?_⟩
    intro m hm o ho
    obtain rfl : m = 4 := by omega
    obtain rfl : o = 5 := by omega
    (repeat(first|refine pSeq ?_|refine pReg ?_|refine sCons ?_|refine sNil ?_|refine rCons ?_|refine rNil ?_|refine kNo ?_|refine pRow ?_|refine pBlock ?_|refine pSkip ?_|refine pExit ?_|refine pCond ?_|refine gNone ?_))
    refine st_abs (cs' := bytesV (zs24.set 5 (b48 (u % 10000 % 100 % 10)))) rfl rfl hb hlt rfl (bytes_set (by simp [zs24]) _) fun s1 e1 c1 n1 => ?_
    (repeat(first|refine pSeq ?_|refine pReg ?_|refine sCons ?_|refine sNil ?_|refine rCons ?_|refine rNil ?_|refine kNo ?_|refine pRow ?_|refine pBlock ?_|refine pSkip ?_|refine pExit ?_|refine pCond ?_|refine gNone ?_))
    refine ⟨by omega, ?_⟩
    intro m hm o ho
    obtain rfl : m = 3 := by omega
    obtain rfl : o = 4 := by omega
    (repeat(first|refine pSeq ?_|refine pReg ?_|refine sCons ?_|refine sNil ?_|refine rCons ?_|refine rNil ?_|refine kNo ?_|refine pRow ?_|refine pBlock ?_|refine pSkip ?_|refine pExit ?_|refine pCond ?_|refine gNone ?_))
    refine st_abs (cs' := bytesV ((zs24.set 5 (b48 (u % 10000 % 100 % 10))).set 4 (b48 (u % 10000 % 100 / 10)))) rfl rfl e1 (by omega) rfl (bytes_set (by simp [zs24]) _) fun s2 e2 c2 n2 => ?_
    (repeat(first|refine pSeq ?_|refine pReg ?_|refine sCons ?_|refine sNil ?_|refine rCons ?_|refine rNil ?_|refine kNo ?_|refine pRow ?_|refine pBlock ?_|refine pSkip ?_|refine pExit ?_|refine pCond ?_|refine gNone ?_))
    intro y2 g2
    rw [i64_id (by omega)] at g2
    (repeat(first|refine pSeq ?_|refine pReg ?_|refine sCons ?_|refine sNil ?_|refine rCons ?_|refine rNil ?_|refine kNo ?_|refine pRow ?_|refine pBlock ?_|refine pSkip ?_|refine pExit ?_|refine pCond ?_|refine gNone ?_))
    intro y2' g2'
    rw [i64_id (by omega)] at g2'
    (repeat(first|refine pSeq ?_|refine pReg ?_|refine sCons ?_|refine sNil ?_|refine rCons ?_|refine rNil ?_|refine kNo ?_|refine pRow ?_|refine pBlock ?_|refine pSkip ?_|refine pExit ?_|refine pCond ?_|refine gNone ?_))
    intro w2 q2
    rw [u32_id (by omega)] at q2
    have p2 := sm_get (show u % 10000 / 100 < 100 by omega)
    (repeat(first|refine pSeq ?_|refine pReg ?_|refine sCons ?_|refine sNil ?_|refine rCons ?_|refine rNil ?_|refine kNo ?_|refine pRow ?_|refine pBlock ?_|refine pSkip ?_|refine pExit ?_|refine pCond ?_|refine gNone ?_))
    refine ⟨by rw [q2]; show 0 ≤ _ ∧ _ < ((smL.length : Nat) : Int); rw [sm_len]; omega, ?_⟩
    intro m hm
    obtain rfl : m = 2 * (u % 10000 / 100) + 1 := by omega
    refine ⟨_, p2.2, ?_⟩
    (repeat(first|refine pSeq ?_|refine pReg ?_|refine sCons ?_|refine sNil ?_|refine rCons ?_|refine rNil ?_|refine kNo ?_|refine pRow ?_|refine pBlock ?_|refine pSkip ?_|refine pExit ?_|refine pCond ?_|refine gNone ?_))
    refine ⟨by show 0 ≤ _ ∧ _ < ((smL.length : Nat) : Int); rw [sm_len]; omega, ?_⟩
    intro m hm
    obtain rfl : m = 2 * (u % 10000 / 100) := by omega
    refine ⟨_, p2.1, ?_⟩
    (repeat(first|refine pSeq ?_|refine pReg ?_|refine sCons ?_|refine sNil ?_|refine rCons ?_|refine rNil ?_|refine kNo ?_|refine pRow ?_|refine pBlock ?_|refine pSkip ?_|refine pExit ?_|refine pCond ?_|refine gNone ?_))
    refine ⟨by omega, ?_⟩
    intro m hm o ho
    obtain rfl : m = 2 := by omega
    obtain rfl : o = 3 := by omega
    (repeat(first|refine pSeq ?_|refine pReg ?_|refine sCons ?_|refine sNil ?_|refine rCons ?_|refine rNil ?_|refine kNo ?_|refine pRow ?_|refine pBlock ?_|refine pSkip ?_|refine pExit ?_|refine pCond ?_|refine gNone ?_))
    refine st_abs (cs' := bytesV (((zs24.set 5 (b48 (u % 10000 % 100 % 10))).set 4 (b48 (u % 10000 % 100 / 10))).set 3 (b48 (u % 10000 / 100 % 10)))) rfl rfl e2 (by omega) rfl (bytes_set (by simp [zs24]) _) fun s3 e3 c3 n3 => ?_
    (repeat(first|refine pSeq ?_|refine pReg ?_|refine sCons ?_|refine sNil ?_|refine rCons ?_|refine rNil ?_|refine kNo ?_|refine pRow ?_|refine pBlock ?_|refine pSkip ?_|refine pExit ?_|refine pCond ?_|refine gNone ?_))
    refine ⟨by omega, ?_⟩
    intro m hm o ho
    obtain rfl : m = 1 := by omega
    obtain rfl : o = 2 := by omega
    (repeat(first|refine pSeq ?_|refine pReg ?_|refine sCons ?_|refine sNil ?_|refine rCons ?_|refine rNil ?_|refine kNo ?_|refine pRow ?_|refine pBlock ?_|refine pSkip ?_|refine pExit ?_|refine pCond ?_|refine gNone ?_))
    refine st_abs (cs' := bytesV ((((zs24.set 5 (b48 (u % 10000 % 100 % 10))).set 4 (b48 (u % 10000 % 100 / 10))).set 3 (b48 (u % 10000 / 100 % 10))).set 2 (b48 (u % 10000 / 100 / 10)))) rfl rfl e3 (by omega) rfl (bytes_set (by simp [zs24]) _) fun s4 e4 c4 n4 => ?_
    (repeat(first|refine pSeq ?_|refine pReg ?_|refine sCons ?_|refine sNil ?_|refine rCons ?_|refine rNil ?_|refine kNo ?_|refine pRow ?_|refine pBlock ?_|refine pSkip ?_|refine pExit ?_|refine pCond ?_|refine gNone ?_))
    intro z8 hz8
    rw [i64_id (by omega)] at hz8
    obtain rfl : z8 = 1 := by omega
    (repeat(first|refine pSeq ?_|refine pReg ?_|refine sCons ?_|refine sNil ?_|refine rCons ?_|refine rNil ?_|refine kNo ?_|refine pRow ?_|refine pBlock ?_|refine pSkip ?_|refine pExit ?_|refine pCond ?_|refine gNone ?_))
    intro q hq; obtain rfl : q = false := (by rw [hq]; simp <;> omega); (repeat(first|refine pSeq ?_|refine pReg ?_|refine sCons ?_|refine sNil ?_|refine rCons ?_|refine rNil ?_|refine kNo ?_|refine pRow ?_|refine pBlock ?_|refine pSkip ?_|refine pExit ?_|refine pCond ?_|refine gNone ?_))
    intro q hq; obtain rfl : q = true := (by rw [hq]; simp <;> omega); (repeat(first|refine pSeq ?_|refine pReg ?_|refine sCons ?_|refine sNil ?_|refine rCons ?_|refine rNil ?_|refine kNo ?_|refine pRow ?_|refine pBlock ?_|refine pSkip ?_|refine pExit ?_|refine pCond ?_|refine gNone ?_))
    intro y4 g4
    rw [u32_id (by omega)] at g4
    (repeat(first|refine pSeq ?_|refine pReg ?_|refine sCons ?_|refine sNil ?_|refine rCons ?_|refine rNil ?_|refine kNo ?_|refine pRow ?_|refine pBlock ?_|refine pSkip ?_|refine pExit ?_|refine pCond ?_|refine gNone ?_))
    intro y4' g4'
    rw [g4, u8_id (by omega)] at g4'
    obtain rfl : y4' = ((b48 (u / 10000)).toNat : Int) := by
      have : (b48 (u / 10000)).toNat = 48 + u / 10000 := by
        show (UInt8.ofNat (48 + u / 10000)).toNat = _
        rw [UInt8.toNat_ofNat']
        omega
      omega
    (repeat(first|refine pSeq ?_|refine pReg ?_|refine sCons ?_|refine sNil ?_|refine rCons ?_|refine rNil ?_|refine kNo ?_|refine pRow ?_|refine pBlock ?_|refine pSkip ?_|refine pExit ?_|refine pCond ?_|refine gNone ?_))
    refine ⟨by omega, ?_⟩
    intro m hm o ho
    obtain rfl : m = 0 := by omega
    obtain rfl : o = 1 := by omega
    (repeat(first|refine pSeq ?_|refine pReg ?_|refine sCons ?_|refine sNil ?_|refine rCons ?_|refine rNil ?_|refine kNo ?_|refine pRow ?_|refine pBlock ?_|refine pSkip ?_|refine pExit ?_|refine pCond ?_|refine gNone ?_))
    refine st_abs (cs' := bytesV (((((zs24.set 5 (b48 (u % 10000 % 100 % 10))).set 4 (b48 (u % 10000 % 100 / 10))).set 3 (b48 (u % 10000 / 100 % 10))).set 2 (b48 (u % 10000 / 100 / 10))).set 1 (b48 (u / 10000)))) rfl rfl e4 (by omega) rfl (bytes_set (by simp [zs24]) _) fun s5 e5 c5 n5 => ?_
    (repeat(first|refine pSeq ?_|refine pReg ?_|refine sCons ?_|refine sNil ?_|refine rCons ?_|refine rNil ?_|refine kNo ?_|refine pRow ?_|refine pBlock ?_|refine pSkip ?_|refine pExit ?_|refine pCond ?_|refine gNone ?_))
    refine ⟨⟨(((((zs24.set 5 (b48 (u % 10000 % 100 % 10))).set 4 (b48 (u % 10000 % 100 / 10))).set 3 (b48 (u % 10000 / 100 % 10))).set 2 (b48 (u % 10000 / 100 / 10))).set 1 (b48 (u / 10000))), e5, ?_, by simp [zs24]⟩, ((((c1.trans c2).trans c3).trans c4).trans c5).sub (by simp)⟩
    rw [dg5 ⟨by omega, by omega⟩]
    rfl
end Go.Vf.S
end
/- SmF -/
section
/- Numbers in so many digits. -/
namespace Go.Vf.S
open Go Go.Vf Go.Proofs Go.RowKit
attribute [local irreducible] wSeq wRow wp wG
set_option linter.unusedVariables false
set_option linter.unusedSimpArgs false
set_option maxRecDepth 10000

theorem srepeat_w {s : SS} {l : List UInt8} {n : Nat} (hn : n ≤ 1000) (hl : l.length ≤ 1000) : CallW pr n_strings_Repeat [str l, .int .i64 n] s fun v s' => v = str (Lib.repeatL l n) ∧ s' = s := by
  refine CallW.kit rfl fun B w0 ρ args' w H hr => ?_
  obtain ⟨v1, v2, rfl, q1, q2⟩ := lrel_2 hr
  obtain rfl := str_inv q1
  obtain rfl := int_inv q2
  exact Any.strings_Repeat Tryd.lays105 Tryd.Builder_Extra_105 ⟨⟨l⟩⟩ n w (by omega) (by
    show l.length * n ≤ _
    have : l.length * n ≤ 1000 * 1000 := Nat.mul_le_mul hl hn
    omega)
theorem zs24_V : (List.replicate 24 (.int .u8 0) : List Value) = bytesV zs24 := rfl

theorem slA_is {P : Program} {T : TL} {s : SS} {K : RR → Prop} {n z b off : Nat} {x : Operand} {lo hi : Option Operand} {cs : List Value} {t : TypeId} {r : Bool} {vl vh : Option Value} (i k : Nat) (hx : opd T s.gl x = some (.pointer (some ⟨b, off, none⟩))) (hb : lookH s.heap b = some (.cells cs t false r))
    (hl : opdO T s.gl lo = some vl) (hh : opdO T s.gl hi = some vh) (h1 : isBnd vh n k) (h2 : isBnd vl 0 i) (hik : i ≤ k) (hkn : k ≤ n) (h : K (.val (.slice (some ⟨b, if n = i then off else off + i * z, none⟩) (k - i) (n - i)))) : wN P (.slA n z x lo hi) T s K := by
  simp only [wN, hx, hb, hl, hh]
  refine wBnd_is h1 hkn (wBnd_is h2 hik ?_)
  intro o m d ho hm hd
  rw [ho, hm, hd]
  exact h
theorem toStr_is {P : Program} {T : TL} {s : SS} {K : RR → Prop} {b off n c : Nat} {x : Operand} {l l' : List UInt8} {t : TypeId} {g r : Bool} (hx : opd T s.gl x = some (.slice (some ⟨b, off, none⟩) n c)) (hb : lookH s.heap b = some (.cells (bytesV l) t g r)) (hn : off + n ≤ l.length) (he : (l.drop off).take n = l') (h : K (.val (str l'))) : wN P (.toStr x) T s K := by
  simp only [wN, hx, hb]
  refine ⟨l', ?_, h⟩
  rw [bytesV_drop, takeN_take _ _ (by rw [bytesV_len, List.length_drop]; omega), bytesV_take, he]

theorem fmt_w {s : SS} {n : Nat} (hG : Gst s) (hn : n < 65536) : CallW pr n_internal_strconv_FormatInt [.int .i64 n, .int .i64 10] s fun v s' => v = str (dg n 1) ∧ Chg s s' [] := by
  refine CallW.run good ok_internal_strconv_FormatInt (by simp) rfl ?_
  (repeat(first|refine pSeq ?_|refine pReg ?_|refine sCons ?_|refine sNil ?_|refine pSkip ?_|refine pRet ?_|refine pCond ?_|refine gNone ?_|refine gOn rfl ?_|refine gOff rfl rfl ?_|refine gTup rfl ?_))
  intro q hq; obtain rfl : q = true := (by rw [hq]; simp <;> omega); (repeat(first|refine pSeq ?_|refine pReg ?_|refine sCons ?_|refine sNil ?_|refine pSkip ?_|refine pRet ?_|refine pCond ?_|refine gNone ?_|refine gOn rfl ?_|refine gOff rfl rfl ?_|refine gTup rfl ?_))
  intro q hq; obtain rfl : q = true := (by rw [hq]; simp <;> omega); (repeat(first|refine pSeq ?_|refine pReg ?_|refine sCons ?_|refine sNil ?_|refine pSkip ?_|refine pRet ?_|refine pCond ?_|refine gNone ?_|refine gOn rfl ?_|refine gOff rfl rfl ?_|refine gTup rfl ?_))
  intro q hq
  by_cases h : n < 100
  · obtain rfl : q = true := by rw [hq]; simp <;> omega
    (repeat(first|refine pSeq ?_|refine pReg ?_|refine sCons ?_|refine sNil ?_|refine pSkip ?_|refine pRet ?_|refine pCond ?_|refine gNone ?_|refine gOn rfl ?_|refine gOff rfl rfl ?_|refine gTup rfl ?_))
    refine (small_w h).mono fun v s q => ?_
    obtain ⟨rfl, rfl⟩ := q
    (repeat(first|refine pSeq ?_|refine pReg ?_|refine sCons ?_|refine sNil ?_|refine pSkip ?_|refine pRet ?_|refine pCond ?_|refine gNone ?_|refine gOn rfl ?_|refine gOff rfl rfl ?_|refine gTup rfl ?_))
    exact ⟨rfl, .refl _ _⟩
  · have h5 : 3 ≤ ndg n ∧ ndg n ≤ 5 := by unfold ndg; split <;> (try split) <;> omega
    obtain rfl : q = false := by rw [hq]; simp <;> omega
    (repeat(first|refine pSeq ?_|refine pReg ?_|refine sCons ?_|refine sNil ?_|refine pSkip ?_|refine pRet ?_|refine pCond ?_|refine gNone ?_|refine gOn rfl ?_|refine gOff rfl rfl ?_|refine gTup rfl ?_))
    have c0 : Chg s ⟨(s.next, some (.cells (bytesV zs24) 109 false false)) :: s.heap, s.next + 1, s.gl⟩ [] := .new []
    have g0 := hG.chg c0 (by simp)
    intro z1 h1
    rw [u64_id (by omega)] at h1
    subst h1
    (repeat(first|refine pSeq ?_|refine pReg ?_|refine sCons ?_|refine sNil ?_|refine pSkip ?_|refine pRet ?_|refine pCond ?_|refine gNone ?_|refine gOn rfl ?_|refine gOff rfl rfl ?_|refine gTup rfl ?_))
    intro q hq; obtain rfl : q = false := (by rw [hq]; simp <;> omega); (repeat(first|refine pSeq ?_|refine pReg ?_|refine sCons ?_|refine sNil ?_|refine pSkip ?_|refine pRet ?_|refine pCond ?_|refine gNone ?_|refine gOn rfl ?_|refine gOff rfl rfl ?_|refine gTup rfl ?_))
    refine (numDigits_w g0 ⟨by omega, hn⟩).mono fun v s q => ?_
    obtain ⟨rfl, rfl⟩ := q
    (repeat(first|refine pSeq ?_|refine pReg ?_|refine sCons ?_|refine sNil ?_|refine pSkip ?_|refine pRet ?_|refine pCond ?_|refine gNone ?_|refine gOn rfl ?_|refine gOff rfl rfl ?_|refine gTup rfl ?_))
    intro z2 h2
    rw [i64_id (by omega)] at h2
    (repeat(first|refine pSeq ?_|refine pReg ?_|refine sCons ?_|refine sNil ?_|refine pSkip ?_|refine pRet ?_|refine pCond ?_|refine gNone ?_|refine gOn rfl ?_|refine gOff rfl rfl ?_|refine gTup rfl ?_))
    refine slA_is 1 (ndg n + 1) rfl lkH rfl rfl (by show z2 = _; omega) rfl (by omega) (by omega) ?_
    rw [if_neg (by omega), Nat.add_sub_cancel]
    (repeat(first|refine pSeq ?_|refine pReg ?_|refine sCons ?_|refine sNil ?_|refine pSkip ?_|refine pRet ?_|refine pCond ?_|refine gNone ?_|refine gOn rfl ?_|refine gOff rfl rfl ?_|refine gTup rfl ?_))
    refine (fb10_w (u := n) lkH (Nat.lt_succ_self _) ⟨by omega, hn⟩).mono fun v s1 q => ?_
    obtain ⟨⟨l', hb, he, hl⟩, c1⟩ := q
    (repeat(first|refine pSeq ?_|refine pReg ?_|refine sCons ?_|refine sNil ?_|refine pSkip ?_|refine pRet ?_|refine pCond ?_|refine gNone ?_|refine gOn rfl ?_|refine gOff rfl rfl ?_|refine gTup rfl ?_))
    intro q hq; obtain rfl : q = false := (by rw [hq]; simp <;> omega); (repeat(first|refine pSeq ?_|refine pReg ?_|refine sCons ?_|refine sNil ?_|refine pSkip ?_|refine pRet ?_|refine pCond ?_|refine gNone ?_|refine gOn rfl ?_|refine gOff rfl rfl ?_|refine gTup rfl ?_))
    intro z3 h3
    rw [i64_id (by omega)] at h3
    (repeat(first|refine pSeq ?_|refine pReg ?_|refine sCons ?_|refine sNil ?_|refine pSkip ?_|refine pRet ?_|refine pCond ?_|refine gNone ?_|refine gOn rfl ?_|refine gOff rfl rfl ?_|refine gTup rfl ?_))
    refine slA_is 1 (ndg n + 1) rfl hb rfl rfl (by show z3 = _; omega) rfl (by omega) (by omega) ?_
    rw [if_neg (by omega), Nat.add_sub_cancel]
    (repeat(first|refine pSeq ?_|refine pReg ?_|refine sCons ?_|refine sNil ?_|refine pSkip ?_|refine pRet ?_|refine pCond ?_|refine gNone ?_|refine gOn rfl ?_|refine gOff rfl rfl ?_|refine gTup rfl ?_))
    refine toStr_is rfl hb (by omega) he ?_
    (repeat(first|refine pSeq ?_|refine pReg ?_|refine sCons ?_|refine sNil ?_|refine pSkip ?_|refine pRet ?_|refine pCond ?_|refine gNone ?_|refine gOn rfl ?_|refine gOff rfl rfl ?_|refine gTup rfl ?_))
    exact ⟨rfl, c0.fresh c1 (by simp)⟩
theorem sfmt_w {s : SS} {n : Nat} (hG : Gst s) (hn : n < 65536) : CallW pr n_strconv_FormatInt [.int .i64 n, .int .i64 10] s fun v s' => v = str (dg n 1) ∧ Chg s s' [] := by
  refine CallW.run good ok_strconv_FormatInt (by simp) rfl ?_
  (repeat(first|refine pSeq ?_|refine pReg ?_|refine sCons ?_|refine sNil ?_|refine pRet ?_|refine gNone ?_))
  refine (fmt_w hG hn).mono fun v s' q => ?_
  obtain ⟨rfl, c⟩ := q
  (repeat(first|refine pSeq ?_|refine pReg ?_|refine sCons ?_|refine sNil ?_|refine pRet ?_|refine gNone ?_))
  exact ⟨rfl, c⟩
theorem rep_48 : ∀ n : Nat, Lib.repeatL [48] n = List.replicate n 48
  | 0 => rfl
  | n + 1 => by
    have := rep_48 n
    simp [Lib.repeatL, List.replicate_succ] at this ⊢
    exact this
theorem pad_dg {n k : Nat} (hk : 1 ≤ k) : List.replicate (k - (dg n 1).length) 48 ++ dg n 1 = dg n k := by
  have hv : ∀ j, vl (List.replicate j 48 ++ dg n 1) = n := fun j => by
    have : ∀ j, vlA 0 (List.replicate j (48 : UInt8)) = 0 := fun j => by
      induction j with
      | zero => rfl
      | succ j ih => rw [List.replicate_succ]; exact ih
    have h2 := dg_vl n 1
    unfold vl vlA at *
    rw [List.foldl_append, this j]
    exact h2
  have hl := dg_ge n 1
  have := dg_of _ (List.replicate (k - (dg n 1).length) 48 ++ dg n 1) k rfl (by
    rw [List.all_append, dg_dgt]
    simp [dgt]) (by simp; omega) (fun q => by
    simp only [List.length_append, List.length_replicate] at q
    rw [show k - (dg n 1).length = 0 by omega]
    exact dg_head (by omega))
  rw [← this, hv]
theorem digits_w {s : SS} {n k : Nat} (hG : Gst s) (hn : n < 65536) (hk : 1 ≤ k ∧ k ≤ 10) : CallW pr n_stamp_digits [.int .i64 n, .int .i64 k] s fun v s' => v = str (dg n k) ∧ Chg s s' [] := by
  have h5 : (dg n 1).length ≤ 5 := dg_most 5 n 1 (by omega) (by omega)
  refine CallW.run good ok_stamp_digits (by simp) rfl ?_
  (repeat(first|refine pSeq ?_|refine pReg ?_|refine sCons ?_|refine sNil ?_|refine pRet ?_|refine gNone ?_))
  refine (sfmt_w hG hn).mono fun v s1 q => ?_
  obtain ⟨rfl, c⟩ := q
  (repeat(first|refine pSeq ?_|refine pReg ?_|refine sCons ?_|refine sNil ?_|refine pRet ?_|refine gNone ?_))
  intro z1 h1
  (repeat(first|refine pSeq ?_|refine pReg ?_|refine sCons ?_|refine sNil ?_|refine pRet ?_|refine gNone ?_))
  intro z2 h2
  rw [i64_id (by omega)] at h2
  (repeat(first|refine pSeq ?_|refine pReg ?_|refine sCons ?_|refine sNil ?_|refine pRet ?_|refine gNone ?_))
  intro z3 h3
  obtain rfl : z3 = ((k - (dg n 1).length : Nat) : Int) := by omega
  (repeat(first|refine pSeq ?_|refine pReg ?_|refine sCons ?_|refine sNil ?_|refine pRet ?_|refine gNone ?_))
  refine (srepeat_w (by omega) (by decide)).mono fun v s1 q => ?_
  obtain ⟨rfl, rfl⟩ := q
  have e := pad_dg (n := n) hk.1
  have hl : (dg n k).length ≤ 10 := dg_most 10 n k (by omega) hk.2
  rw [rep_48]
  (repeat(first|refine pSeq ?_|refine pReg ?_|refine sCons ?_|refine sNil ?_|refine pRet ?_|refine gNone ?_))
  refine ⟨by rw [List.length_replicate]; omega, ?_⟩
  intro l hl
  rw [e] at hl
  subst hl
  (repeat(first|refine pSeq ?_|refine pReg ?_|refine sCons ?_|refine sNil ?_|refine pRet ?_|refine gNone ?_))
  exact ⟨rfl, c⟩
end Go.Vf.S
end
/- SmG -/
section
/- Dates of ticks: the program. -/
namespace Go.Vf.S
open Go Go.Vf
attribute [local irreducible] wSeq wRow wp wG
set_option linter.unusedVariables false
set_option linter.unusedSimpArgs false
set_option maxRecDepth 10000

theorem Gst.chg0 {s s' : SS} (h : Gst s) (c : Chg s s' []) : Gst s' := h.chg c (by simp)
theorem date_parts {t : Nat} : dateL t = ((((((((((((wkT ((t / 86400 + 4) % 7) ++ [44, 32]) ++ dg ((calD (t / 86400)).2.2 + 1) 2) ++ [32]) ++ moT (calD (t / 86400)).2.1) ++ [32]) ++ dg (calD (t / 86400)).1 4) ++ [32]) ++ dg (t % 86400 / 3600) 2) ++ [58]) ++ dg (t % 86400 % 3600 / 60) 2) ++ [58]) ++ dg (t % 86400 % 60) 2) ++ [32, 43, 48, 48, 48, 48] := by
  unfold dateL Fd.text fdT zoneT
  rw [show t % 86400 % 3600 = t % 3600 by omega, show t % 86400 % 60 = t % 60 by omega]
  simp only [List.append_assoc]

set_option maxHeartbeats 1000000 in
theorem date_w {s : SS} {t : Int} (hG : Gst s) (hF : Fine s) : CallW pr n_stamp_Date [.int .i64 t] s fun v s' => v = str (dateL (clampT t)) ∧ Chg s s' [] := by
  refine CallW.run good ok_stamp_Date (by simp) rfl ?_
  (repeat(first|refine pSeq ?_|refine pReg ?_|refine sCons ?_|refine sNil ?_|refine rCons ?_|refine rNil ?_|refine kNo ?_|refine pRow ?_|refine pRet ?_|refine gNone ?_))
  refine within_w.mono fun v s q => ?_
  obtain ⟨rfl, rfl⟩ := q
  have hT := clamp_le t
  generalize clampT t = T at *
  have hT' : T ≤ 1099511627776 := hT
  have hy := year_max hT
  have hI := calD_is (T / 86400)
  have hml := (ml_le (calD (T / 86400)).1 (calD (T / 86400)).2.1).1
  have hm := hI.2.1
  have ho := hI.2.2.1
  (repeat(first|refine pSeq ?_|refine pReg ?_|refine sCons ?_|refine sNil ?_|refine rCons ?_|refine rNil ?_|refine kNo ?_|refine pRow ?_|refine pRet ?_|refine gNone ?_))
  refine ⟨by decide, ?_⟩
  intro z1 h1
  rw [show (86400 : Int) = ((86400 : Nat) : Int) from rfl, tdiv_nat, i64_id (by omega)] at h1
  subst h1
  (repeat(first|refine pSeq ?_|refine pReg ?_|refine sCons ?_|refine sNil ?_|refine rCons ?_|refine rNil ?_|refine kNo ?_|refine pRow ?_|refine pRet ?_|refine gNone ?_))
  refine ⟨by decide, ?_⟩
  intro z2 h2
  rw [show (86400 : Int) = ((86400 : Nat) : Int) from rfl, tmod_nat] at h2
  subst h2
  (repeat(first|refine pSeq ?_|refine pReg ?_|refine sCons ?_|refine sNil ?_|refine rCons ?_|refine rNil ?_|refine kNo ?_|refine pRow ?_|refine pRet ?_|refine gNone ?_))
  refine (calendar_w hG (by omega)).mono fun v s q => ?_
  obtain ⟨rfl, rfl⟩ := q
  (repeat(first|refine pSeq ?_|refine pReg ?_|refine sCons ?_|refine sNil ?_|refine rCons ?_|refine rNil ?_|refine kNo ?_|refine pRow ?_|refine pRet ?_|refine gNone ?_))
  intro z3 h3
  rw [i64_id (by omega)] at h3
  obtain rfl : z3 = ((T / 86400 + 4 : Nat) : Int) := by omega
  (repeat(first|refine pSeq ?_|refine pReg ?_|refine sCons ?_|refine sNil ?_|refine rCons ?_|refine rNil ?_|refine kNo ?_|refine pRow ?_|refine pRet ?_|refine gNone ?_))
  refine ⟨by decide, ?_⟩
  intro z4 h4
  rw [show (7 : Int) = ((7 : Nat) : Int) from rfl, tmod_nat] at h4
  subst h4
  (repeat(first|refine pSeq ?_|refine pReg ?_|refine sCons ?_|refine sNil ?_|refine rCons ?_|refine rNil ?_|refine kNo ?_|refine pRow ?_|refine pRet ?_|refine gNone ?_))
  refine ixaG hG.g0 rfl ?_
  refine ⟨by omega, ?_⟩
  intro k hk o hk'
  obtain rfl : k = (T / 86400 + 4) % 7 := by omega
  (repeat(first|refine pSeq ?_|refine pReg ?_|refine sCons ?_|refine sNil ?_|refine rCons ?_|refine rNil ?_|refine kNo ?_|refine pRow ?_|refine pRet ?_|refine gNone ?_))
  refine ldS_is rfl hG.b0 (by rw [hk', Nat.zero_add, Nat.mul_one]; exact wk_get (Nat.mod_lt _ (by omega))) ?_
  have lw := wk_len (w := (T / 86400 + 4) % 7) (Nat.mod_lt _ (by omega))
  (repeat(first|refine pSeq ?_|refine pReg ?_|refine sCons ?_|refine sNil ?_|refine rCons ?_|refine rNil ?_|refine kNo ?_|refine pRow ?_|refine pRet ?_|refine gNone ?_))
  refine ⟨by rw [lw]; decide, ?_⟩
  intro l1 e1
  have n1 : l1.length = 5 := by rw [e1, List.length_append, lw]; rfl
  (repeat(first|refine pSeq ?_|refine pReg ?_|refine sCons ?_|refine sNil ?_|refine rCons ?_|refine rNil ?_|refine kNo ?_|refine pRow ?_|refine pRet ?_|refine gNone ?_))
  refine ixaG hG.g1 rfl ?_
  refine ⟨by omega, ?_⟩
  intro k hk o2 hk2
  obtain rfl : k = (calD (T / 86400)).2.1 := by omega
  (repeat(first|refine pSeq ?_|refine pReg ?_|refine sCons ?_|refine sNil ?_|refine rCons ?_|refine rNil ?_|refine kNo ?_|refine pRow ?_|refine pRet ?_|refine gNone ?_))
  refine ldS_is rfl hG.b1 (by rw [hk2]; have := (mo_get hm).1; rw [show 2 * (calD (T / 86400)).2.1 = 0 + (calD (T / 86400)).2.1 * 2 + 0 by omega] at this; exact this) ?_
  have lm := mo_len hm
  (repeat(first|refine pSeq ?_|refine pReg ?_|refine sCons ?_|refine sNil ?_|refine rCons ?_|refine rNil ?_|refine kNo ?_|refine pRow ?_|refine pRet ?_|refine gNone ?_))
  refine ⟨by decide, ?_⟩
  intro z5 h5
  rw [show (3600 : Int) = ((3600 : Nat) : Int) from rfl, tdiv_nat, i64_id (by omega)] at h5
  subst h5
  (repeat(first|refine pSeq ?_|refine pReg ?_|refine sCons ?_|refine sNil ?_|refine rCons ?_|refine rNil ?_|refine kNo ?_|refine pRow ?_|refine pRet ?_|refine gNone ?_))
  refine ⟨by decide, ?_⟩
  intro z6 h6
  rw [show (3600 : Int) = ((3600 : Nat) : Int) from rfl, tmod_nat] at h6
  subst h6
  (repeat(first|refine pSeq ?_|refine pReg ?_|refine sCons ?_|refine sNil ?_|refine rCons ?_|refine rNil ?_|refine kNo ?_|refine pRow ?_|refine pRet ?_|refine gNone ?_))
  refine ⟨by decide, ?_⟩
  intro z7 h7
  rw [show (60 : Int) = ((60 : Nat) : Int) from rfl, tdiv_nat, i64_id (by omega)] at h7
  subst h7
  (repeat(first|refine pSeq ?_|refine pReg ?_|refine sCons ?_|refine sNil ?_|refine rCons ?_|refine rNil ?_|refine kNo ?_|refine pRow ?_|refine pRet ?_|refine gNone ?_))
  refine ⟨by decide, ?_⟩
  intro z8 h8
  rw [show (60 : Int) = ((60 : Nat) : Int) from rfl, tmod_nat] at h8
  subst h8
  (repeat(first|refine pSeq ?_|refine pReg ?_|refine sCons ?_|refine sNil ?_|refine rCons ?_|refine rNil ?_|refine kNo ?_|refine pRow ?_|refine pRet ?_|refine gNone ?_))
  refine (digits_w (n := (calD (T / 86400)).2.2 + 1) (k := 2) hG (by omega) (by omega)).mono fun v s1 q => ?_
  obtain ⟨rfl, c1⟩ := q
  have d1 := c1
  refine kAll (c1.keep hF) ?_
  have m1 : (dg ((calD (T / 86400)).2.2 + 1) 2).length ≤ 10 := dg_most 10 _ _ (by omega) (by omega)
  (repeat(first|refine pSeq ?_|refine pReg ?_|refine sCons ?_|refine sNil ?_|refine rCons ?_|refine rNil ?_|refine kNo ?_|refine pRow ?_|refine pRet ?_|refine gNone ?_))
  refine ⟨by skip; omega, ?_⟩
  intro l2 e2
  have n2 : l2.length ≤ 15 := by rw [e2, List.length_append]; skip; omega
  (repeat(first|refine pSeq ?_|refine pReg ?_|refine sCons ?_|refine sNil ?_|refine rCons ?_|refine rNil ?_|refine kNo ?_|refine pRow ?_|refine pRet ?_|refine gNone ?_))
  refine ⟨by simp only [List.length_cons, List.length_nil]; omega, ?_⟩
  intro l3 e3
  have n3 : l3.length ≤ 16 := by rw [e3, List.length_append]; simp only [List.length_cons, List.length_nil]; omega
  (repeat(first|refine pSeq ?_|refine pReg ?_|refine sCons ?_|refine sNil ?_|refine rCons ?_|refine rNil ?_|refine kNo ?_|refine pRow ?_|refine pRet ?_|refine gNone ?_))
  refine ⟨by rw [lm]; omega, ?_⟩
  intro l4 e4
  have n4 : l4.length ≤ 19 := by rw [e4, List.length_append]; rw [lm]; omega
  (repeat(first|refine pSeq ?_|refine pReg ?_|refine sCons ?_|refine sNil ?_|refine rCons ?_|refine rNil ?_|refine kNo ?_|refine pRow ?_|refine pRet ?_|refine gNone ?_))
  refine ⟨by simp only [List.length_cons, List.length_nil]; omega, ?_⟩
  intro l5 e5
  have n5 : l5.length ≤ 20 := by rw [e5, List.length_append]; simp only [List.length_cons, List.length_nil]; omega
  (repeat(first|refine pSeq ?_|refine pReg ?_|refine sCons ?_|refine sNil ?_|refine rCons ?_|refine rNil ?_|refine kNo ?_|refine pRow ?_|refine pRet ?_|refine gNone ?_))
  refine (digits_w (n := (calD (T / 86400)).1) (k := 4) (hG.chg0 d1) (by omega) (by omega)).mono fun v s2 q => ?_
  obtain ⟨rfl, c2⟩ := q
  have d2 := d1.nil c2
  refine kAll (c2.keep (d1.fine hF)) ?_
  have m2 : (dg ((calD (T / 86400)).1) 4).length ≤ 10 := dg_most 10 _ _ (by omega) (by omega)
  (repeat(first|refine pSeq ?_|refine pReg ?_|refine sCons ?_|refine sNil ?_|refine rCons ?_|refine rNil ?_|refine kNo ?_|refine pRow ?_|refine pRet ?_|refine gNone ?_))
  refine ⟨by skip; omega, ?_⟩
  intro l6 e6
  have n6 : l6.length ≤ 30 := by rw [e6, List.length_append]; skip; omega
  (repeat(first|refine pSeq ?_|refine pReg ?_|refine sCons ?_|refine sNil ?_|refine rCons ?_|refine rNil ?_|refine kNo ?_|refine pRow ?_|refine pRet ?_|refine gNone ?_))
  refine ⟨by simp only [List.length_cons, List.length_nil]; omega, ?_⟩
  intro l7 e7
  have n7 : l7.length ≤ 31 := by rw [e7, List.length_append]; simp only [List.length_cons, List.length_nil]; omega
  (repeat(first|refine pSeq ?_|refine pReg ?_|refine sCons ?_|refine sNil ?_|refine rCons ?_|refine rNil ?_|refine kNo ?_|refine pRow ?_|refine pRet ?_|refine gNone ?_))
  refine (digits_w (n := T % 86400 / 3600) (k := 2) (hG.chg0 d2) (by omega) (by omega)).mono fun v s3 q => ?_
  obtain ⟨rfl, c3⟩ := q
  have d3 := d2.nil c3
  refine kAll (c3.keep (d2.fine hF)) ?_
  have m3 : (dg (T % 86400 / 3600) 2).length ≤ 10 := dg_most 10 _ _ (by omega) (by omega)
  (repeat(first|refine pSeq ?_|refine pReg ?_|refine sCons ?_|refine sNil ?_|refine rCons ?_|refine rNil ?_|refine kNo ?_|refine pRow ?_|refine pRet ?_|refine gNone ?_))
  refine ⟨by skip; omega, ?_⟩
  intro l8 e8
  have n8 : l8.length ≤ 41 := by rw [e8, List.length_append]; skip; omega
  (repeat(first|refine pSeq ?_|refine pReg ?_|refine sCons ?_|refine sNil ?_|refine rCons ?_|refine rNil ?_|refine kNo ?_|refine pRow ?_|refine pRet ?_|refine gNone ?_))
  refine ⟨by simp only [List.length_cons, List.length_nil]; omega, ?_⟩
  intro l9 e9
  have n9 : l9.length ≤ 42 := by rw [e9, List.length_append]; simp only [List.length_cons, List.length_nil]; omega
  (repeat(first|refine pSeq ?_|refine pReg ?_|refine sCons ?_|refine sNil ?_|refine rCons ?_|refine rNil ?_|refine kNo ?_|refine pRow ?_|refine pRet ?_|refine gNone ?_))
  refine (digits_w (n := T % 86400 % 3600 / 60) (k := 2) (hG.chg0 d3) (by omega) (by omega)).mono fun v s4 q => ?_
  obtain ⟨rfl, c4⟩ := q
  have d4 := d3.nil c4
  refine kAll (c4.keep (d3.fine hF)) ?_
  have m4 : (dg (T % 86400 % 3600 / 60) 2).length ≤ 10 := dg_most 10 _ _ (by omega) (by omega)
  (repeat(first|refine pSeq ?_|refine pReg ?_|refine sCons ?_|refine sNil ?_|refine rCons ?_|refine rNil ?_|refine kNo ?_|refine pRow ?_|refine pRet ?_|refine gNone ?_))
  refine ⟨by skip; omega, ?_⟩
  intro l10 e10
  have n10 : l10.length ≤ 52 := by rw [e10, List.length_append]; skip; omega
  (repeat(first|refine pSeq ?_|refine pReg ?_|refine sCons ?_|refine sNil ?_|refine rCons ?_|refine rNil ?_|refine kNo ?_|refine pRow ?_|refine pRet ?_|refine gNone ?_))
  refine ⟨by simp only [List.length_cons, List.length_nil]; omega, ?_⟩
  intro l11 e11
  have n11 : l11.length ≤ 53 := by rw [e11, List.length_append]; simp only [List.length_cons, List.length_nil]; omega
  (repeat(first|refine pSeq ?_|refine pReg ?_|refine sCons ?_|refine sNil ?_|refine rCons ?_|refine rNil ?_|refine kNo ?_|refine pRow ?_|refine pRet ?_|refine gNone ?_))
  refine (digits_w (n := T % 86400 % 60) (k := 2) (hG.chg0 d4) (by omega) (by omega)).mono fun v s5 q => ?_
  obtain ⟨rfl, c5⟩ := q
  have d5 := d4.nil c5
  refine kAll (c5.keep (d4.fine hF)) ?_
  have m5 : (dg (T % 86400 % 60) 2).length ≤ 10 := dg_most 10 _ _ (by omega) (by omega)
  (repeat(first|refine pSeq ?_|refine pReg ?_|refine sCons ?_|refine sNil ?_|refine rCons ?_|refine rNil ?_|refine kNo ?_|refine pRow ?_|refine pRet ?_|refine gNone ?_))
  refine ⟨by skip; omega, ?_⟩
  intro l12 e12
  have n12 : l12.length ≤ 63 := by rw [e12, List.length_append]; skip; omega
  (repeat(first|refine pSeq ?_|refine pReg ?_|refine sCons ?_|refine sNil ?_|refine rCons ?_|refine rNil ?_|refine kNo ?_|refine pRow ?_|refine pRet ?_|refine gNone ?_))
  refine ⟨by simp only [List.length_cons, List.length_nil]; omega, ?_⟩
  intro l13 e13
  have n13 : l13.length ≤ 70 := by rw [e13, List.length_append]; simp only [List.length_cons, List.length_nil]; omega
  (repeat(first|refine pSeq ?_|refine pReg ?_|refine sCons ?_|refine sNil ?_|refine rCons ?_|refine rNil ?_|refine kNo ?_|refine pRow ?_|refine pRet ?_|refine gNone ?_))
  rw [e13, e12, e11, e10, e9, e8, e7, e6, e5, e4, e3, e2, e1, date_parts]
  exact ⟨rfl, d5⟩
end Go.Vf.S
end
/- SmH -/
section
/- Dates of ticks: the document. -/
namespace Go.Vf.S
open Go Go.Vf
attribute [local irreducible] wSeq wRow wp wG
set_option linter.unusedVariables false
set_option linter.unusedSimpArgs false
set_option maxRecDepth 10000

def moS : List Value := moL.map str
theorem moS_get {m : Nat} (h : m < 12) : moS[m]? = some (str (moT m)) := by
  unfold moS
  rw [List.getElem?_map]
  have : moL[m]? = some (moT m) := by
    unfold moT
    rw [List.getD_eq_getElem?_getD, List.getElem?_eq_getElem (show m < moL.length from h)]
    rfl
  rw [this]
  rfl
theorem rnames_w {s : SS} : CallW pr n_ref09_names [] s fun v s' => v = .tuple ⟨[.slice (some ⟨s.next, 0, none⟩) 7 7, .slice (some ⟨s.next + 1, 0, none⟩) 12 12]⟩ ∧ lookH s'.heap s.next = some (.cells wkV tS false false) ∧ lookH s'.heap (s.next + 1) = some (.cells moS tS false false) ∧ s'.next = s.next + 1 + 1 ∧ Chg s s' [] := by
  refine CallW.run good ok_ref09_names (by simp) rfl ?_
  (repeat(first|refine pSeq ?_|refine pReg ?_|refine sCons ?_|refine sNil ?_|refine pRet ?_|refine gNone ?_))
  exact ⟨rfl, lkT (show s.next + 1 ≠ s.next by omega) lkH, lkH, rfl, (Chg.new []).nil (.new _)⟩
theorem rlength_w {s : SS} {y m : Nat} (hy : y ≤ 10000000000) (hm : m < 12) : CallW pr n_ref09_length [.int .i64 y, .int .i64 m] s fun v s' => v = .int .i64 (ml y m) ∧ s' = s := by
  refine CallW.run good ok_ref09_length (by simp) rfl ?_
  (repeat(first|refine pSeq ?_|refine pReg ?_|refine sCons ?_|refine sNil ?_|refine pBlock ?_|refine pSkip ?_|refine pRet ?_|refine pCond ?_|refine gNone ?_|refine gOn rfl ?_|refine gOff rfl rfl ?_|refine gTup rfl ?_))
  intro q hq
  by_cases h : m = 1
  · subst h
    obtain rfl : q = true := by rw [hq]; simp <;> omega
    (repeat(first|refine pSeq ?_|refine pReg ?_|refine sCons ?_|refine sNil ?_|refine pBlock ?_|refine pSkip ?_|refine pRet ?_|refine pCond ?_|refine gNone ?_|refine gOn rfl ?_|refine gOff rfl rfl ?_|refine gTup rfl ?_))
    refine ⟨by decide, ?_⟩
    intro z1 h1
    rw [show (4 : Int) = ((4 : Nat) : Int) from rfl, tmod_nat] at h1
    subst h1
    (repeat(first|refine pSeq ?_|refine pReg ?_|refine sCons ?_|refine sNil ?_|refine pBlock ?_|refine pSkip ?_|refine pRet ?_|refine pCond ?_|refine gNone ?_|refine gOn rfl ?_|refine gOff rfl rfl ?_|refine gTup rfl ?_))
    intro q hq
    by_cases h4 : y % 4 = 0
    · obtain rfl : q = true := by rw [hq]; simp <;> omega
      (repeat(first|refine pSeq ?_|refine pReg ?_|refine sCons ?_|refine sNil ?_|refine pBlock ?_|refine pSkip ?_|refine pRet ?_|refine pCond ?_|refine gNone ?_|refine gOn rfl ?_|refine gOff rfl rfl ?_|refine gTup rfl ?_))
      refine ⟨by decide, ?_⟩
      intro z2 h2
      rw [show (100 : Int) = ((100 : Nat) : Int) from rfl, tmod_nat] at h2
      subst h2
      (repeat(first|refine pSeq ?_|refine pReg ?_|refine sCons ?_|refine sNil ?_|refine pBlock ?_|refine pSkip ?_|refine pRet ?_|refine pCond ?_|refine gNone ?_|refine gOn rfl ?_|refine gOff rfl rfl ?_|refine gTup rfl ?_))
      intro q hq
      by_cases h100 : y % 100 = 0
      · obtain rfl : q = false := by rw [hq]; simp <;> omega
        (repeat(first|refine pSeq ?_|refine pReg ?_|refine sCons ?_|refine sNil ?_|refine pBlock ?_|refine pSkip ?_|refine pRet ?_|refine pCond ?_|refine gNone ?_|refine gOn rfl ?_|refine gOff rfl rfl ?_|refine gTup rfl ?_))
        refine ⟨by decide, ?_⟩
        intro z3 h3
        rw [show (400 : Int) = ((400 : Nat) : Int) from rfl, tmod_nat] at h3
        subst h3
        (repeat(first|refine pSeq ?_|refine pReg ?_|refine sCons ?_|refine sNil ?_|refine pBlock ?_|refine pSkip ?_|refine pRet ?_|refine pCond ?_|refine gNone ?_|refine gOn rfl ?_|refine gOff rfl rfl ?_|refine gTup rfl ?_))
        intro q hq
        by_cases h400 : y % 400 = 0
        · obtain rfl : q = true := by rw [hq]; simp <;> omega
          (repeat(first|refine pSeq ?_|refine pReg ?_|refine sCons ?_|refine sNil ?_|refine pBlock ?_|refine pSkip ?_|refine pRet ?_|refine pCond ?_|refine gNone ?_|refine gOn rfl ?_|refine gOff rfl rfl ?_|refine gTup rfl ?_))
          refine ⟨?_, rfl⟩
          rw [show ml y 1 = 29 by unfold ml lpY; rw [if_pos rfl, if_pos (by omega)]]
          rfl
        · obtain rfl : q = false := by rw [hq]; simp <;> omega
          (repeat(first|refine pSeq ?_|refine pReg ?_|refine sCons ?_|refine sNil ?_|refine pBlock ?_|refine pSkip ?_|refine pRet ?_|refine pCond ?_|refine gNone ?_|refine gOn rfl ?_|refine gOff rfl rfl ?_|refine gTup rfl ?_))
          refine ⟨?_, rfl⟩
          rw [show ml y 1 = 28 by unfold ml lpY; rw [if_pos rfl, if_neg (by omega)]]
          rfl
      · obtain rfl : q = true := by rw [hq]; simp <;> omega
        (repeat(first|refine pSeq ?_|refine pReg ?_|refine sCons ?_|refine sNil ?_|refine pBlock ?_|refine pSkip ?_|refine pRet ?_|refine pCond ?_|refine gNone ?_|refine gOn rfl ?_|refine gOff rfl rfl ?_|refine gTup rfl ?_))
        refine ⟨?_, rfl⟩
        rw [show ml y 1 = 29 by unfold ml lpY; rw [if_pos rfl, if_pos (by omega)]]
        rfl
    · obtain rfl : q = false := by rw [hq]; simp <;> omega
      (repeat(first|refine pSeq ?_|refine pReg ?_|refine sCons ?_|refine sNil ?_|refine pBlock ?_|refine pSkip ?_|refine pRet ?_|refine pCond ?_|refine gNone ?_|refine gOn rfl ?_|refine gOff rfl rfl ?_|refine gTup rfl ?_))
      refine ⟨by decide, ?_⟩
      intro z3 h3
      rw [show (400 : Int) = ((400 : Nat) : Int) from rfl, tmod_nat] at h3
      subst h3
      (repeat(first|refine pSeq ?_|refine pReg ?_|refine sCons ?_|refine sNil ?_|refine pBlock ?_|refine pSkip ?_|refine pRet ?_|refine pCond ?_|refine gNone ?_|refine gOn rfl ?_|refine gOff rfl rfl ?_|refine gTup rfl ?_))
      intro q hq
      obtain rfl : q = false := by rw [hq]; simp; omega
      (repeat(first|refine pSeq ?_|refine pReg ?_|refine sCons ?_|refine sNil ?_|refine pBlock ?_|refine pSkip ?_|refine pRet ?_|refine pCond ?_|refine gNone ?_|refine gOn rfl ?_|refine gOff rfl rfl ?_|refine gTup rfl ?_))
      refine ⟨?_, rfl⟩
      rw [show ml y 1 = 28 by unfold ml lpY; rw [if_pos rfl, if_neg (by omega)]]
      rfl
  · obtain rfl : q = false := by rw [hq]; simp <;> omega
    rw [show ml y m = ml0 m by unfold ml; rw [if_neg h]]
    have : m = 0 ∨ m = 2 ∨ m = 3 ∨ m = 4 ∨ m = 5 ∨ m = 6 ∨ m = 7 ∨ m = 8 ∨ m = 9 ∨ m = 10 ∨ m = 11 := by omega
    rcases this with rfl | rfl | rfl | rfl | rfl | rfl | rfl | rfl | rfl | rfl | rfl <;> (repeat(first|refine pSeq ?_|refine pReg ?_|refine sCons ?_|refine sNil ?_|refine pBlock ?_|refine pSkip ?_|refine pRet ?_|refine pCond ?_|refine gNone ?_|refine gOn rfl ?_|refine gOff rfl rfl ?_|refine gTup rfl ?_))
    all_goals (repeat (intro q hq; simp at hq; subst hq; (repeat(first|refine pSeq ?_|refine pReg ?_|refine sCons ?_|refine sNil ?_|refine pBlock ?_|refine pSkip ?_|refine pRet ?_|refine pCond ?_|refine gNone ?_|refine gOn rfl ?_|refine gOff rfl rfl ?_|refine gTup rfl ?_))))
    all_goals exact ⟨rfl, rfl⟩
theorem rdays_w {s : SS} {y : Nat} (hy : y ≤ 10000000000) : CallW pr n_ref09_days [.int .i64 y] s fun v s' => v = .int .i64 (365 + lpY y : Nat) ∧ s' = s := by
  refine CallW.run good ok_ref09_days (by simp) rfl ?_
  (repeat(first|refine pSeq ?_|refine pReg ?_|refine sCons ?_|refine sNil ?_|refine pRet ?_|refine gNone ?_))
  refine (rlength_w (m := 1) hy (by omega)).mono fun v s q => ?_
  obtain ⟨rfl, rfl⟩ := q
  have e : ml y 1 = 28 + lpY y := by unfold ml; rw [if_pos rfl]
  have := lpY_le y
  (repeat(first|refine pSeq ?_|refine pReg ?_|refine sCons ?_|refine sNil ?_|refine pRet ?_|refine gNone ?_))
  intro z hz
  rw [i64_id (by omega)] at hz
  obtain rfl : z = ((365 + lpY y : Nat) : Int) := by omega
  (repeat(first|refine pSeq ?_|refine pReg ?_|refine sCons ?_|refine sNil ?_|refine pRet ?_|refine gNone ?_))
  exact ⟨rfl, rfl⟩
theorem rbegin_w {s : SS} {d : Nat} (hd : d ≤ 12725829) : CallW pr n_ref09_begin [.int .i64 d] s fun v s' => v = .tuple ⟨[.int .i64 (calD d).1, .int .i64 (mo (calD d).1 (calD d).2.1 + (calD d).2.2 : Nat)]⟩ ∧ s' = s := by
  refine CallW.run good ok_ref09_begin (by simp) rfl ?_
  (repeat(first|refine pSeq ?_|refine pReg ?_|refine sCons ?_|refine sNil ?_|refine pBlock ?_|refine pSkip ?_|refine pExit ?_|refine pRet ?_|refine pCond ?_|refine gNone ?_))
  refine ⟨by decide, ?_⟩
  intro z1 h1
  rw [show (146097 : Int) = ((146097 : Nat) : Int) from rfl, tdiv_nat, i64_id (by omega)] at h1
  subst h1
  (repeat(first|refine pSeq ?_|refine pReg ?_|refine sCons ?_|refine sNil ?_|refine pBlock ?_|refine pSkip ?_|refine pExit ?_|refine pRet ?_|refine pCond ?_|refine gNone ?_))
  intro z2 h2
  rw [i64_id (by omega)] at h2
  (repeat(first|refine pSeq ?_|refine pReg ?_|refine sCons ?_|refine sNil ?_|refine pBlock ?_|refine pSkip ?_|refine pExit ?_|refine pRet ?_|refine pCond ?_|refine gNone ?_))
  intro z3 h3
  rw [i64_id (by omega)] at h3
  obtain rfl : z3 = ((1970 + 400 * (d / 146097) : Nat) : Int) := by omega
  (repeat(first|refine pSeq ?_|refine pReg ?_|refine sCons ?_|refine sNil ?_|refine pBlock ?_|refine pSkip ?_|refine pExit ?_|refine pRet ?_|refine pCond ?_|refine gNone ?_))
  refine ⟨by decide, ?_⟩
  intro z4 h4
  rw [show (146097 : Int) = ((146097 : Nat) : Int) from rfl, tmod_nat] at h4
  subst h4
  have h400 := ys_400k (d / 146097)
  (repeat(first|refine pSeq ?_|refine pReg ?_|refine sCons ?_|refine sNil ?_|refine pBlock ?_|refine pSkip ?_|refine pExit ?_|refine pRet ?_|refine pCond ?_|refine gNone ?_))
  refine pLoop (MW.head good (fun p : Nat × Nat => p.2) (fun p => 1970 ≤ p.1 ∧ ys p.1 + p.2 = d) (fun p => [(0, .int .i64 p.2), (4, .int .i64 p.1)]) (fun _ => s) (1970 + 400 * (d / 146097), d % 146097) ⟨by dsimp only; omega, by dsimp only; omega⟩ (Wk.same ⟨rfl, rfl, trivial⟩) ?_)
  intro ⟨y, r⟩ ⟨hy, hr⟩
  dsimp only at hy hr ⊢
  have hge := ys_ge y hy
  have hs := ys_succ y
  have hl := lpY_le y
  (repeat(first|refine pSeq ?_|refine pReg ?_|refine sCons ?_|refine sNil ?_|refine pBlock ?_|refine pSkip ?_|refine pExit ?_|refine pRet ?_|refine pCond ?_|refine gNone ?_))
  refine (rdays_w (y := y) (by omega)).mono fun v s q => ?_
  obtain ⟨rfl, rfl⟩ := q
  (repeat(first|refine pSeq ?_|refine pReg ?_|refine sCons ?_|refine sNil ?_|refine pBlock ?_|refine pSkip ?_|refine pExit ?_|refine pRet ?_|refine pCond ?_|refine gNone ?_))
  intro q hq
  by_cases hc : 365 + lpY y ≤ r
  · obtain rfl : q = true := by rw [hq]; simp <;> omega
    (repeat(first|refine pSeq ?_|refine pReg ?_|refine sCons ?_|refine sNil ?_|refine pBlock ?_|refine pSkip ?_|refine pExit ?_|refine pRet ?_|refine pCond ?_|refine gNone ?_))
    refine (rdays_w (y := y) (by omega)).mono fun v s q => ?_
    obtain ⟨rfl, rfl⟩ := q
    (repeat(first|refine pSeq ?_|refine pReg ?_|refine sCons ?_|refine sNil ?_|refine pBlock ?_|refine pSkip ?_|refine pExit ?_|refine pRet ?_|refine pCond ?_|refine gNone ?_))
    intro z5 h5
    rw [i64_id (by omega)] at h5
    obtain rfl : z5 = ((r - (365 + lpY y) : Nat) : Int) := by omega
    (repeat(first|refine pSeq ?_|refine pReg ?_|refine sCons ?_|refine sNil ?_|refine pBlock ?_|refine pSkip ?_|refine pExit ?_|refine pRet ?_|refine pCond ?_|refine gNone ?_))
    intro z6 h6
    rw [i64_id (by omega)] at h6
    obtain rfl : z6 = ((y + 1 : Nat) : Int) := by omega
    (repeat(first|refine pSeq ?_|refine pReg ?_|refine sCons ?_|refine sNil ?_|refine pBlock ?_|refine pSkip ?_|refine pExit ?_|refine pRet ?_|refine pCond ?_|refine gNone ?_))
    exact ⟨(y + 1, r - (365 + lpY y)), ⟨by dsimp only; omega, by dsimp only; omega⟩, by show r - (365 + lpY y) < r; omega, Wk.same ⟨rfl, rfl, trivial⟩⟩
  · obtain rfl : q = false := by rw [hq]; simp <;> omega
    have hI := calD_is d
    obtain hY := year_one (d := d) (a := y) (b := (calD d).1) (by omega) (by omega) hI.in_year.1 hI.in_year.2
    have h4 := hI.2.2.2
    rw [← hY] at h4 ⊢
    obtain rfl : r = mo y (calD d).2.1 + (calD d).2.2 := by omega
    (repeat(first|refine pSeq ?_|refine pReg ?_|refine sCons ?_|refine sNil ?_|refine pBlock ?_|refine pSkip ?_|refine pExit ?_|refine pRet ?_|refine pCond ?_|refine gNone ?_))
    exact ⟨rfl, rfl⟩
/-- Digits so far. -/
structure Dx where
  n : Nat
  k : Int
  l : List UInt8
  s : SS
theorem rdigits_w {s : SS} {n k : Nat} (hn : n < 1000000) (hk : k ≤ 10) : CallW pr n_ref09_digits [.int .i64 n, .int .i64 k] s fun v s' => v = str (dg n k) ∧ Chg s s' [] := by
  refine CallW.run good ok_ref09_digits (by simp) rfl ?_
  (repeat(first|refine pSeq ?_|refine pReg ?_|refine sCons ?_|refine sNil ?_|refine pBlock ?_|refine pSkip ?_|refine pExit ?_|refine pRet ?_|refine pCond ?_|refine gNone ?_|refine gOn rfl ?_|refine gOff rfl rfl ?_|refine gTup rfl ?_))
  have hlen : (dg n k).length ≤ 10 := dg_most 10 n k (by omega) hk
  refine pLoop (MW.head good (fun x : Dx => x.n + x.k.toNat) (fun x => dg n k = dg x.n x.k.toNat ++ x.l ∧ x.n < 1000000 ∧ x.k + x.l.length = k ∧ Chg s x.s []) (fun x => [(0, .int .i64 x.n), (1, .int .i64 x.k), (5, str x.l)]) (fun x => x.s) ⟨n, k, [], s⟩ ⟨by simp, hn, by simp, .refl _ _⟩ (Wk.same ⟨rfl, rfl, rfl, trivial⟩) ?_)
  intro ⟨m, j, l, s1⟩ ⟨h1, h2, h3, c1⟩
  dsimp only at h1 h2 h3 c1 ⊢
  have hl : l.length ≤ 10 := by
    have := congrArg List.length h1
    rw [List.length_append] at this
    omega
  have step : ∀ (hc : ¬(m = 0 ∧ j.toNat = 0)), dg n k = dg (m / 10) (j - 1).toNat ++ (b48 (m % 10) :: l) ∧ m / 10 + (j - 1).toNat < m + j.toNat := fun hc => by
    rw [dg_next hc] at h1
    refine ⟨?_, by omega⟩
    rw [h1, List.append_assoc, show j.toNat - 1 = (j - 1).toNat by omega]
    rfl
  have hb : (b48 (m % 10)).toNat = 48 + m % 10 := dgb m
  (repeat(first|refine pSeq ?_|refine pReg ?_|refine sCons ?_|refine sNil ?_|refine pBlock ?_|refine pSkip ?_|refine pExit ?_|refine pRet ?_|refine pCond ?_|refine gNone ?_|refine gOn rfl ?_|refine gOff rfl rfl ?_|refine gTup rfl ?_))
  intro q hq
  by_cases h0 : 0 < m
  · obtain rfl : q = true := by rw [hq]; simp <;> omega
    obtain ⟨e1, e2⟩ := step (by omega)
    (repeat(first|refine pSeq ?_|refine pReg ?_|refine sCons ?_|refine sNil ?_|refine pBlock ?_|refine pSkip ?_|refine pExit ?_|refine pRet ?_|refine pCond ?_|refine gNone ?_|refine gOn rfl ?_|refine gOff rfl rfl ?_|refine gTup rfl ?_))
    refine ⟨by decide, ?_⟩
    intro z1 g1
    rw [show (10 : Int) = ((10 : Nat) : Int) from rfl, tmod_nat] at g1
    subst g1
    (repeat(first|refine pSeq ?_|refine pReg ?_|refine sCons ?_|refine sNil ?_|refine pBlock ?_|refine pSkip ?_|refine pExit ?_|refine pRet ?_|refine pCond ?_|refine gNone ?_|refine gOn rfl ?_|refine gOff rfl rfl ?_|refine gTup rfl ?_))
    intro z2 g2
    rw [i64_id (by omega)] at g2
    (repeat(first|refine pSeq ?_|refine pReg ?_|refine sCons ?_|refine sNil ?_|refine pBlock ?_|refine pSkip ?_|refine pExit ?_|refine pRet ?_|refine pCond ?_|refine gNone ?_|refine gOn rfl ?_|refine gOff rfl rfl ?_|refine gTup rfl ?_))
    intro z3 g3
    rw [u8_id (by omega)] at g3
    obtain rfl : z3 = ((b48 (m % 10)).toNat : Int) := by omega
    (repeat(first|refine pSeq ?_|refine pReg ?_|refine sCons ?_|refine sNil ?_|refine pBlock ?_|refine pSkip ?_|refine pExit ?_|refine pRet ?_|refine pCond ?_|refine gNone ?_|refine gOn rfl ?_|refine gOff rfl rfl ?_|refine gTup rfl ?_))
    refine toStr_is (l := [b48 (m % 10)]) rfl lkH (Nat.le_refl _) rfl ?_
    (repeat(first|refine pSeq ?_|refine pReg ?_|refine sCons ?_|refine sNil ?_|refine pBlock ?_|refine pSkip ?_|refine pExit ?_|refine pRet ?_|refine pCond ?_|refine gNone ?_|refine gOn rfl ?_|refine gOff rfl rfl ?_|refine gTup rfl ?_))
    refine ⟨by simp; omega, ?_⟩
    intro l2 hl2
    obtain rfl : l2 = b48 (m % 10) :: l := hl2
    (repeat(first|refine pSeq ?_|refine pReg ?_|refine sCons ?_|refine sNil ?_|refine pBlock ?_|refine pSkip ?_|refine pExit ?_|refine pRet ?_|refine pCond ?_|refine gNone ?_|refine gOn rfl ?_|refine gOff rfl rfl ?_|refine gTup rfl ?_))
    refine ⟨by decide, ?_⟩
    intro z4 g4
    rw [show (10 : Int) = ((10 : Nat) : Int) from rfl, tdiv_nat, i64_id (by omega)] at g4
    subst g4
    (repeat(first|refine pSeq ?_|refine pReg ?_|refine sCons ?_|refine sNil ?_|refine pBlock ?_|refine pSkip ?_|refine pExit ?_|refine pRet ?_|refine pCond ?_|refine gNone ?_|refine gOn rfl ?_|refine gOff rfl rfl ?_|refine gTup rfl ?_))
    intro z5 g5
    rw [i64_id (by omega)] at g5
    subst g5
    (repeat(first|refine pSeq ?_|refine pReg ?_|refine sCons ?_|refine sNil ?_|refine pBlock ?_|refine pSkip ?_|refine pExit ?_|refine pRet ?_|refine pCond ?_|refine gNone ?_|refine gOn rfl ?_|refine gOff rfl rfl ?_|refine gTup rfl ?_))
    exact ⟨⟨m / 10, j - 1, b48 (m % 10) :: l, _⟩, ⟨e1, by dsimp only; omega, by simp; omega, c1.nil (.new _)⟩, e2, Wk.same ⟨rfl, rfl, rfl, trivial⟩⟩
  · obtain rfl : q = false := by rw [hq]; simp <;> omega
    (repeat(first|refine pSeq ?_|refine pReg ?_|refine sCons ?_|refine sNil ?_|refine pBlock ?_|refine pSkip ?_|refine pExit ?_|refine pRet ?_|refine pCond ?_|refine gNone ?_|refine gOn rfl ?_|refine gOff rfl rfl ?_|refine gTup rfl ?_))
    intro q hq
    by_cases hj : 0 < j
    · obtain rfl : q = true := by rw [hq]; simp <;> omega
      obtain ⟨e1, e2⟩ := step (by omega)
      (repeat(first|refine pSeq ?_|refine pReg ?_|refine sCons ?_|refine sNil ?_|refine pBlock ?_|refine pSkip ?_|refine pExit ?_|refine pRet ?_|refine pCond ?_|refine gNone ?_|refine gOn rfl ?_|refine gOff rfl rfl ?_|refine gTup rfl ?_))
      refine ⟨by decide, ?_⟩
      intro z1 g1
      rw [show (10 : Int) = ((10 : Nat) : Int) from rfl, tmod_nat] at g1
      subst g1
      (repeat(first|refine pSeq ?_|refine pReg ?_|refine sCons ?_|refine sNil ?_|refine pBlock ?_|refine pSkip ?_|refine pExit ?_|refine pRet ?_|refine pCond ?_|refine gNone ?_|refine gOn rfl ?_|refine gOff rfl rfl ?_|refine gTup rfl ?_))
      intro z2 g2
      rw [i64_id (by omega)] at g2
      (repeat(first|refine pSeq ?_|refine pReg ?_|refine sCons ?_|refine sNil ?_|refine pBlock ?_|refine pSkip ?_|refine pExit ?_|refine pRet ?_|refine pCond ?_|refine gNone ?_|refine gOn rfl ?_|refine gOff rfl rfl ?_|refine gTup rfl ?_))
      intro z3 g3
      rw [u8_id (by omega)] at g3
      obtain rfl : z3 = ((b48 (m % 10)).toNat : Int) := by omega
      (repeat(first|refine pSeq ?_|refine pReg ?_|refine sCons ?_|refine sNil ?_|refine pBlock ?_|refine pSkip ?_|refine pExit ?_|refine pRet ?_|refine pCond ?_|refine gNone ?_|refine gOn rfl ?_|refine gOff rfl rfl ?_|refine gTup rfl ?_))
      refine toStr_is (l := [b48 (m % 10)]) rfl lkH (Nat.le_refl _) rfl ?_
      (repeat(first|refine pSeq ?_|refine pReg ?_|refine sCons ?_|refine sNil ?_|refine pBlock ?_|refine pSkip ?_|refine pExit ?_|refine pRet ?_|refine pCond ?_|refine gNone ?_|refine gOn rfl ?_|refine gOff rfl rfl ?_|refine gTup rfl ?_))
      refine ⟨by simp; omega, ?_⟩
      intro l2 hl2
      obtain rfl : l2 = b48 (m % 10) :: l := hl2
      (repeat(first|refine pSeq ?_|refine pReg ?_|refine sCons ?_|refine sNil ?_|refine pBlock ?_|refine pSkip ?_|refine pExit ?_|refine pRet ?_|refine pCond ?_|refine gNone ?_|refine gOn rfl ?_|refine gOff rfl rfl ?_|refine gTup rfl ?_))
      refine ⟨by decide, ?_⟩
      intro z4 g4
      rw [show (10 : Int) = ((10 : Nat) : Int) from rfl, tdiv_nat, i64_id (by omega)] at g4
      subst g4
      (repeat(first|refine pSeq ?_|refine pReg ?_|refine sCons ?_|refine sNil ?_|refine pBlock ?_|refine pSkip ?_|refine pExit ?_|refine pRet ?_|refine pCond ?_|refine gNone ?_|refine gOn rfl ?_|refine gOff rfl rfl ?_|refine gTup rfl ?_))
      intro z5 g5
      rw [i64_id (by omega)] at g5
      subst g5
      (repeat(first|refine pSeq ?_|refine pReg ?_|refine sCons ?_|refine sNil ?_|refine pBlock ?_|refine pSkip ?_|refine pExit ?_|refine pRet ?_|refine pCond ?_|refine gNone ?_|refine gOn rfl ?_|refine gOff rfl rfl ?_|refine gTup rfl ?_))
      exact ⟨⟨m / 10, j - 1, b48 (m % 10) :: l, _⟩, ⟨e1, by dsimp only; omega, by simp; omega, c1.nil (.new _)⟩, e2, Wk.same ⟨rfl, rfl, rfl, trivial⟩⟩
    · obtain rfl : q = false := by rw [hq]; simp <;> omega
      obtain rfl : m = 0 := by omega
      rw [show j.toNat = 0 by omega, dg_00, List.nil_append] at h1
      (repeat(first|refine pSeq ?_|refine pReg ?_|refine sCons ?_|refine sNil ?_|refine pBlock ?_|refine pSkip ?_|refine pExit ?_|refine pRet ?_|refine pCond ?_|refine gNone ?_|refine gOn rfl ?_|refine gOff rfl rfl ?_|refine gTup rfl ?_))
      rw [h1]
      exact ⟨rfl, c1⟩

set_option maxHeartbeats 1000000 in
theorem rdate_w {s : SS} {t : Int} (hF : Fine s) : CallW pr n_ref09_Date [.int .i64 t] s fun v s' => v = str (dateL (clampT t)) ∧ Chg s s' [] := by
  refine CallW.run good ok_ref09_Date (by simp) rfl ?_
  (repeat(first|refine pSeq ?_|refine pReg ?_|refine sCons ?_|refine sNil ?_|refine rCons ?_|refine rNil ?_|refine kNo ?_|refine pRow ?_|refine pBlock ?_|refine pSkip ?_|refine pExit ?_|refine pRet ?_|refine pCond ?_|refine gNone ?_))
  refine rnames_w.mono fun v s0 q => ?_
  obtain ⟨rfl, k0, k1, n0, c0⟩ := q
  have F0 := c0.fine hF
  have hwt : s.next < s0.next := by omega
  have hmt : s.next + 1 < s0.next := by omega
  (repeat(first|refine pSeq ?_|refine pReg ?_|refine sCons ?_|refine sNil ?_|refine rCons ?_|refine rNil ?_|refine kNo ?_|refine pRow ?_|refine pBlock ?_|refine pSkip ?_|refine pExit ?_|refine pRet ?_|refine pCond ?_|refine gNone ?_))
  refine rclean_w.mono fun v s0 q => ?_
  obtain ⟨rfl, rfl⟩ := q
  have hT := clamp_le t
  generalize clampT t = T at *
  have hT' : T ≤ 1099511627776 := hT
  have hy := year_max hT
  have hI := calD_is (T / 86400)
  have hml := (ml_le (calD (T / 86400)).1 (calD (T / 86400)).2.1).1
  have hm := hI.2.1
  have ho := hI.2.2.1
  (repeat(first|refine pSeq ?_|refine pReg ?_|refine sCons ?_|refine sNil ?_|refine rCons ?_|refine rNil ?_|refine kNo ?_|refine pRow ?_|refine pBlock ?_|refine pSkip ?_|refine pExit ?_|refine pRet ?_|refine pCond ?_|refine gNone ?_))
  refine ⟨by decide, ?_⟩
  intro z1 h1
  rw [show (86400 : Int) = ((86400 : Nat) : Int) from rfl, tdiv_nat, i64_id (by omega)] at h1
  subst h1
  (repeat(first|refine pSeq ?_|refine pReg ?_|refine sCons ?_|refine sNil ?_|refine rCons ?_|refine rNil ?_|refine kNo ?_|refine pRow ?_|refine pBlock ?_|refine pSkip ?_|refine pExit ?_|refine pRet ?_|refine pCond ?_|refine gNone ?_))
  refine (rbegin_w (d := T / 86400) (by omega)).mono fun v s0 q => ?_
  obtain ⟨rfl, rfl⟩ := q
  (repeat(first|refine pSeq ?_|refine pReg ?_|refine sCons ?_|refine sNil ?_|refine rCons ?_|refine rNil ?_|refine kNo ?_|refine pRow ?_|refine pBlock ?_|refine pSkip ?_|refine pExit ?_|refine pRet ?_|refine pCond ?_|refine gNone ?_))
  generalize hY : (calD (T / 86400)).1 = Y at *
  generalize hM : (calD (T / 86400)).2.1 = M at *
  generalize hO : (calD (T / 86400)).2.2 = O at *
  refine pLoop (MW.head good (fun p : Nat × Nat => 12 - p.1) (fun p => p.1 < 12 ∧ mo Y p.1 + p.2 = mo Y M + O) (fun p => [(0, .int .i64 T), (3, .slice (some ⟨s.next, 0, none⟩) 7 7), (4, .slice (some ⟨s.next + 1, 0, none⟩) 12 12), (5, .int .i64 (T / 86400 : Nat)), (6, .int .i64 Y), (7, .int .i64 p.2), (8, .int .i64 p.1)]) (fun _ => s0) (0, mo Y M + O) ⟨by dsimp only; omega, by show 0 + _ = _; omega⟩ (Wk.same ⟨rfl, rfl, rfl, rfl, rfl, rfl, rfl, trivial⟩) ?_)
  intro ⟨m, r⟩ ⟨hm2, hr⟩
  dsimp only at hm2 hr ⊢
  have h12 := mo_12 Y
  have hlp := lpY_le Y
  have hM1 := mo_mono (y := Y) (show M + 1 ≤ 12 by omega)
  have eM : mo Y (M + 1) = mo Y M + ml Y M := rfl
  have em : mo Y (m + 1) = mo Y m + ml Y m := rfl
  (repeat(first|refine pSeq ?_|refine pReg ?_|refine sCons ?_|refine sNil ?_|refine rCons ?_|refine rNil ?_|refine kNo ?_|refine pRow ?_|refine pBlock ?_|refine pSkip ?_|refine pExit ?_|refine pRet ?_|refine pCond ?_|refine gNone ?_))
  refine (rlength_w (y := Y) (m := m) (by omega) hm2).mono fun v s0 q => ?_
  obtain ⟨rfl, rfl⟩ := q
  (repeat(first|refine pSeq ?_|refine pReg ?_|refine sCons ?_|refine sNil ?_|refine rCons ?_|refine rNil ?_|refine kNo ?_|refine pRow ?_|refine pBlock ?_|refine pSkip ?_|refine pExit ?_|refine pRet ?_|refine pCond ?_|refine gNone ?_))
  intro q hq
  by_cases hc : ml Y m ≤ r
  · obtain rfl : q = true := by rw [hq]; simp <;> omega
    have hm1 : m + 1 < 12 := by
      rcases Nat.lt_or_ge (m + 1) 12 with q | q
      · exact q
      · obtain rfl : m = 11 := by omega
        have : mo Y (11 + 1) = mo Y 12 := rfl
        omega
    (repeat(first|refine pSeq ?_|refine pReg ?_|refine sCons ?_|refine sNil ?_|refine rCons ?_|refine rNil ?_|refine kNo ?_|refine pRow ?_|refine pBlock ?_|refine pSkip ?_|refine pExit ?_|refine pRet ?_|refine pCond ?_|refine gNone ?_))
    refine (rlength_w (y := Y) (m := m) (by omega) hm2).mono fun v s0 q => ?_
    obtain ⟨rfl, rfl⟩ := q
    (repeat(first|refine pSeq ?_|refine pReg ?_|refine sCons ?_|refine sNil ?_|refine rCons ?_|refine rNil ?_|refine kNo ?_|refine pRow ?_|refine pBlock ?_|refine pSkip ?_|refine pExit ?_|refine pRet ?_|refine pCond ?_|refine gNone ?_))
    intro z6 h6
    rw [i64_id (by omega)] at h6
    obtain rfl : z6 = ((r - ml Y m : Nat) : Int) := by omega
    (repeat(first|refine pSeq ?_|refine pReg ?_|refine sCons ?_|refine sNil ?_|refine rCons ?_|refine rNil ?_|refine kNo ?_|refine pRow ?_|refine pBlock ?_|refine pSkip ?_|refine pExit ?_|refine pRet ?_|refine pCond ?_|refine gNone ?_))
    intro z7 h7
    rw [i64_id (by omega)] at h7
    obtain rfl : z7 = ((m + 1 : Nat) : Int) := by omega
    (repeat(first|refine pSeq ?_|refine pReg ?_|refine sCons ?_|refine sNil ?_|refine rCons ?_|refine rNil ?_|refine kNo ?_|refine pRow ?_|refine pBlock ?_|refine pSkip ?_|refine pExit ?_|refine pRet ?_|refine pCond ?_|refine gNone ?_))
    exact ⟨(m + 1, r - ml Y m), ⟨hm1, by dsimp only; omega⟩, by show 12 - (m + 1) < 12 - m; omega, Wk.same ⟨rfl, rfl, rfl, rfl, rfl, rfl, rfl, trivial⟩⟩
  · obtain rfl : m = M := month_one (y := Y) (d := mo Y M + O) (by omega) (by omega) (by omega) (by omega)
    obtain rfl : r = O := by omega
    obtain rfl : q = false := by rw [hq]; simp <;> omega
    (repeat(first|refine pSeq ?_|refine pReg ?_|refine sCons ?_|refine sNil ?_|refine rCons ?_|refine rNil ?_|refine kNo ?_|refine pRow ?_|refine pBlock ?_|refine pSkip ?_|refine pExit ?_|refine pRet ?_|refine pCond ?_|refine gNone ?_))
    refine ⟨by decide, ?_⟩
    intro z8 h8
    rw [show (86400 : Int) = ((86400 : Nat) : Int) from rfl, tmod_nat] at h8
    subst h8
    (repeat(first|refine pSeq ?_|refine pReg ?_|refine sCons ?_|refine sNil ?_|refine rCons ?_|refine rNil ?_|refine kNo ?_|refine pRow ?_|refine pBlock ?_|refine pSkip ?_|refine pExit ?_|refine pRet ?_|refine pCond ?_|refine gNone ?_))
    intro z3 h3
    rw [i64_id (by omega)] at h3
    obtain rfl : z3 = ((T / 86400 + 4 : Nat) : Int) := by omega
    (repeat(first|refine pSeq ?_|refine pReg ?_|refine sCons ?_|refine sNil ?_|refine rCons ?_|refine rNil ?_|refine kNo ?_|refine pRow ?_|refine pBlock ?_|refine pSkip ?_|refine pExit ?_|refine pRet ?_|refine pCond ?_|refine gNone ?_))
    refine ⟨by decide, ?_⟩
    intro z4 h4
    rw [show (7 : Int) = ((7 : Nat) : Int) from rfl, tmod_nat] at h4
    subst h4
    (repeat(first|refine pSeq ?_|refine pReg ?_|refine sCons ?_|refine sNil ?_|refine rCons ?_|refine rNil ?_|refine kNo ?_|refine pRow ?_|refine pBlock ?_|refine pSkip ?_|refine pExit ?_|refine pRet ?_|refine pCond ?_|refine gNone ?_))
    refine ⟨by omega, ?_⟩
    intro k hk o hk'
    obtain rfl : k = (T / 86400 + 4) % 7 := by omega
    (repeat(first|refine pSeq ?_|refine pReg ?_|refine sCons ?_|refine sNil ?_|refine rCons ?_|refine rNil ?_|refine kNo ?_|refine pRow ?_|refine pBlock ?_|refine pSkip ?_|refine pExit ?_|refine pRet ?_|refine pCond ?_|refine gNone ?_))
    refine ldS_is rfl k0 (by rw [hk', Nat.zero_add, Nat.mul_one]; exact wk_get (Nat.mod_lt _ (by omega))) ?_
    have lw := wk_len (w := (T / 86400 + 4) % 7) (Nat.mod_lt _ (by omega))
    (repeat(first|refine pSeq ?_|refine pReg ?_|refine sCons ?_|refine sNil ?_|refine rCons ?_|refine rNil ?_|refine kNo ?_|refine pRow ?_|refine pBlock ?_|refine pSkip ?_|refine pExit ?_|refine pRet ?_|refine pCond ?_|refine gNone ?_))
    refine ⟨by rw [lw]; decide, ?_⟩
    intro l1 e1
    have n1 : l1.length = 5 := by rw [e1, List.length_append, lw]; rfl
    (repeat(first|refine pSeq ?_|refine pReg ?_|refine sCons ?_|refine sNil ?_|refine rCons ?_|refine rNil ?_|refine kNo ?_|refine pRow ?_|refine pBlock ?_|refine pSkip ?_|refine pExit ?_|refine pRet ?_|refine pCond ?_|refine gNone ?_))
    intro z9 h9
    rw [i64_id (by omega)] at h9
    obtain rfl : z9 = ((r + 1 : Nat) : Int) := by omega
    (repeat(first|refine pSeq ?_|refine pReg ?_|refine sCons ?_|refine sNil ?_|refine rCons ?_|refine rNil ?_|refine kNo ?_|refine pRow ?_|refine pBlock ?_|refine pSkip ?_|refine pExit ?_|refine pRet ?_|refine pCond ?_|refine gNone ?_))
    refine ⟨by omega, ?_⟩
    intro k hk o2 hk2
    obtain rfl : k = m := by omega
    (repeat(first|refine pSeq ?_|refine pReg ?_|refine sCons ?_|refine sNil ?_|refine rCons ?_|refine rNil ?_|refine kNo ?_|refine pRow ?_|refine pBlock ?_|refine pSkip ?_|refine pExit ?_|refine pRet ?_|refine pCond ?_|refine gNone ?_))
    refine ldS_is rfl k1 (by rw [hk2, Nat.zero_add, Nat.mul_one]; exact moS_get hm2) ?_
    have lm := mo_len hm2
    (repeat(first|refine pSeq ?_|refine pReg ?_|refine sCons ?_|refine sNil ?_|refine rCons ?_|refine rNil ?_|refine kNo ?_|refine pRow ?_|refine pBlock ?_|refine pSkip ?_|refine pExit ?_|refine pRet ?_|refine pCond ?_|refine gNone ?_))
    refine ⟨by decide, ?_⟩
    intro z5 h5
    rw [show (3600 : Int) = ((3600 : Nat) : Int) from rfl, tdiv_nat, i64_id (by omega)] at h5
    subst h5
    (repeat(first|refine pSeq ?_|refine pReg ?_|refine sCons ?_|refine sNil ?_|refine rCons ?_|refine rNil ?_|refine kNo ?_|refine pRow ?_|refine pBlock ?_|refine pSkip ?_|refine pExit ?_|refine pRet ?_|refine pCond ?_|refine gNone ?_))
    refine ⟨by decide, ?_⟩
    intro z6 h6
    rw [show (60 : Int) = ((60 : Nat) : Int) from rfl, tdiv_nat, i64_id (by omega)] at h6
    subst h6
    (repeat(first|refine pSeq ?_|refine pReg ?_|refine sCons ?_|refine sNil ?_|refine rCons ?_|refine rNil ?_|refine kNo ?_|refine pRow ?_|refine pBlock ?_|refine pSkip ?_|refine pExit ?_|refine pRet ?_|refine pCond ?_|refine gNone ?_))
    refine ⟨by decide, ?_⟩
    intro z7 h7
    rw [show (60 : Int) = ((60 : Nat) : Int) from rfl, tmod_nat] at h7
    subst h7
    (repeat(first|refine pSeq ?_|refine pReg ?_|refine sCons ?_|refine sNil ?_|refine rCons ?_|refine rNil ?_|refine kNo ?_|refine pRow ?_|refine pBlock ?_|refine pSkip ?_|refine pExit ?_|refine pRet ?_|refine pCond ?_|refine gNone ?_))
    refine ⟨by decide, ?_⟩
    intro z8 h8
    rw [show (60 : Int) = ((60 : Nat) : Int) from rfl, tmod_nat] at h8
    subst h8
    (repeat(first|refine pSeq ?_|refine pReg ?_|refine sCons ?_|refine sNil ?_|refine rCons ?_|refine rNil ?_|refine kNo ?_|refine pRow ?_|refine pBlock ?_|refine pSkip ?_|refine pExit ?_|refine pRet ?_|refine pCond ?_|refine gNone ?_))
    refine (rdigits_w (n := r + 1) (k := 2) (by omega) (by omega)).mono fun v s1 q => ?_
    obtain ⟨rfl, c1⟩ := q
    have d1 := c1
    refine kAll (c1.keep F0) ?_
    have m1 : (dg (r + 1) 2).length ≤ 10 := dg_most 10 _ _ (by omega) (by omega)
    (repeat(first|refine pSeq ?_|refine pReg ?_|refine sCons ?_|refine sNil ?_|refine rCons ?_|refine rNil ?_|refine kNo ?_|refine pRow ?_|refine pBlock ?_|refine pSkip ?_|refine pExit ?_|refine pRet ?_|refine pCond ?_|refine gNone ?_))
    refine ⟨by skip; omega, ?_⟩
    intro l2 e2
    have n2 : l2.length ≤ 15 := by rw [e2, List.length_append]; skip; omega
    (repeat(first|refine pSeq ?_|refine pReg ?_|refine sCons ?_|refine sNil ?_|refine rCons ?_|refine rNil ?_|refine kNo ?_|refine pRow ?_|refine pBlock ?_|refine pSkip ?_|refine pExit ?_|refine pRet ?_|refine pCond ?_|refine gNone ?_))
    refine ⟨by simp only [List.length_cons, List.length_nil]; omega, ?_⟩
    intro l3 e3
    have n3 : l3.length ≤ 16 := by rw [e3, List.length_append]; simp only [List.length_cons, List.length_nil]; omega
    (repeat(first|refine pSeq ?_|refine pReg ?_|refine sCons ?_|refine sNil ?_|refine rCons ?_|refine rNil ?_|refine kNo ?_|refine pRow ?_|refine pBlock ?_|refine pSkip ?_|refine pExit ?_|refine pRet ?_|refine pCond ?_|refine gNone ?_))
    refine ⟨by rw [lm]; omega, ?_⟩
    intro l4 e4
    have n4 : l4.length ≤ 19 := by rw [e4, List.length_append]; rw [lm]; omega
    (repeat(first|refine pSeq ?_|refine pReg ?_|refine sCons ?_|refine sNil ?_|refine rCons ?_|refine rNil ?_|refine kNo ?_|refine pRow ?_|refine pBlock ?_|refine pSkip ?_|refine pExit ?_|refine pRet ?_|refine pCond ?_|refine gNone ?_))
    refine ⟨by simp only [List.length_cons, List.length_nil]; omega, ?_⟩
    intro l5 e5
    have n5 : l5.length ≤ 20 := by rw [e5, List.length_append]; simp only [List.length_cons, List.length_nil]; omega
    (repeat(first|refine pSeq ?_|refine pReg ?_|refine sCons ?_|refine sNil ?_|refine rCons ?_|refine rNil ?_|refine kNo ?_|refine pRow ?_|refine pBlock ?_|refine pSkip ?_|refine pExit ?_|refine pRet ?_|refine pCond ?_|refine gNone ?_))
    refine (rdigits_w (n := Y) (k := 4) (by omega) (by omega)).mono fun v s2 q => ?_
    obtain ⟨rfl, c2⟩ := q
    have d2 := d1.nil c2
    refine kAll (c2.keep (d1.fine F0)) ?_
    have m2 : (dg (Y) 4).length ≤ 10 := dg_most 10 _ _ (by omega) (by omega)
    (repeat(first|refine pSeq ?_|refine pReg ?_|refine sCons ?_|refine sNil ?_|refine rCons ?_|refine rNil ?_|refine kNo ?_|refine pRow ?_|refine pBlock ?_|refine pSkip ?_|refine pExit ?_|refine pRet ?_|refine pCond ?_|refine gNone ?_))
    refine ⟨by skip; omega, ?_⟩
    intro l6 e6
    have n6 : l6.length ≤ 30 := by rw [e6, List.length_append]; skip; omega
    (repeat(first|refine pSeq ?_|refine pReg ?_|refine sCons ?_|refine sNil ?_|refine rCons ?_|refine rNil ?_|refine kNo ?_|refine pRow ?_|refine pBlock ?_|refine pSkip ?_|refine pExit ?_|refine pRet ?_|refine pCond ?_|refine gNone ?_))
    refine ⟨by simp only [List.length_cons, List.length_nil]; omega, ?_⟩
    intro l7 e7
    have n7 : l7.length ≤ 31 := by rw [e7, List.length_append]; simp only [List.length_cons, List.length_nil]; omega
    (repeat(first|refine pSeq ?_|refine pReg ?_|refine sCons ?_|refine sNil ?_|refine rCons ?_|refine rNil ?_|refine kNo ?_|refine pRow ?_|refine pBlock ?_|refine pSkip ?_|refine pExit ?_|refine pRet ?_|refine pCond ?_|refine gNone ?_))
    refine (rdigits_w (n := T % 86400 / 3600) (k := 2) (by omega) (by omega)).mono fun v s3 q => ?_
    obtain ⟨rfl, c3⟩ := q
    have d3 := d2.nil c3
    refine kAll (c3.keep (d2.fine F0)) ?_
    have m3 : (dg (T % 86400 / 3600) 2).length ≤ 10 := dg_most 10 _ _ (by omega) (by omega)
    (repeat(first|refine pSeq ?_|refine pReg ?_|refine sCons ?_|refine sNil ?_|refine rCons ?_|refine rNil ?_|refine kNo ?_|refine pRow ?_|refine pBlock ?_|refine pSkip ?_|refine pExit ?_|refine pRet ?_|refine pCond ?_|refine gNone ?_))
    refine ⟨by skip; omega, ?_⟩
    intro l8 e8
    have n8 : l8.length ≤ 41 := by rw [e8, List.length_append]; skip; omega
    (repeat(first|refine pSeq ?_|refine pReg ?_|refine sCons ?_|refine sNil ?_|refine rCons ?_|refine rNil ?_|refine kNo ?_|refine pRow ?_|refine pBlock ?_|refine pSkip ?_|refine pExit ?_|refine pRet ?_|refine pCond ?_|refine gNone ?_))
    refine ⟨by simp only [List.length_cons, List.length_nil]; omega, ?_⟩
    intro l9 e9
    have n9 : l9.length ≤ 42 := by rw [e9, List.length_append]; simp only [List.length_cons, List.length_nil]; omega
    (repeat(first|refine pSeq ?_|refine pReg ?_|refine sCons ?_|refine sNil ?_|refine rCons ?_|refine rNil ?_|refine kNo ?_|refine pRow ?_|refine pBlock ?_|refine pSkip ?_|refine pExit ?_|refine pRet ?_|refine pCond ?_|refine gNone ?_))
    refine (rdigits_w (n := T % 86400 / 60 % 60) (k := 2) (by omega) (by omega)).mono fun v s4 q => ?_
    obtain ⟨rfl, c4⟩ := q
    have d4 := d3.nil c4
    refine kAll (c4.keep (d3.fine F0)) ?_
    have m4 : (dg (T % 86400 / 60 % 60) 2).length ≤ 10 := dg_most 10 _ _ (by omega) (by omega)
    (repeat(first|refine pSeq ?_|refine pReg ?_|refine sCons ?_|refine sNil ?_|refine rCons ?_|refine rNil ?_|refine kNo ?_|refine pRow ?_|refine pBlock ?_|refine pSkip ?_|refine pExit ?_|refine pRet ?_|refine pCond ?_|refine gNone ?_))
    refine ⟨by skip; omega, ?_⟩
    intro l10 e10
    have n10 : l10.length ≤ 52 := by rw [e10, List.length_append]; skip; omega
    (repeat(first|refine pSeq ?_|refine pReg ?_|refine sCons ?_|refine sNil ?_|refine rCons ?_|refine rNil ?_|refine kNo ?_|refine pRow ?_|refine pBlock ?_|refine pSkip ?_|refine pExit ?_|refine pRet ?_|refine pCond ?_|refine gNone ?_))
    refine ⟨by simp only [List.length_cons, List.length_nil]; omega, ?_⟩
    intro l11 e11
    have n11 : l11.length ≤ 53 := by rw [e11, List.length_append]; simp only [List.length_cons, List.length_nil]; omega
    (repeat(first|refine pSeq ?_|refine pReg ?_|refine sCons ?_|refine sNil ?_|refine rCons ?_|refine rNil ?_|refine kNo ?_|refine pRow ?_|refine pBlock ?_|refine pSkip ?_|refine pExit ?_|refine pRet ?_|refine pCond ?_|refine gNone ?_))
    refine (rdigits_w (n := T % 86400 % 60) (k := 2) (by omega) (by omega)).mono fun v s5 q => ?_
    obtain ⟨rfl, c5⟩ := q
    have d5 := d4.nil c5
    refine kAll (c5.keep (d4.fine F0)) ?_
    have m5 : (dg (T % 86400 % 60) 2).length ≤ 10 := dg_most 10 _ _ (by omega) (by omega)
    (repeat(first|refine pSeq ?_|refine pReg ?_|refine sCons ?_|refine sNil ?_|refine rCons ?_|refine rNil ?_|refine kNo ?_|refine pRow ?_|refine pBlock ?_|refine pSkip ?_|refine pExit ?_|refine pRet ?_|refine pCond ?_|refine gNone ?_))
    refine ⟨by skip; omega, ?_⟩
    intro l12 e12
    have n12 : l12.length ≤ 63 := by rw [e12, List.length_append]; skip; omega
    (repeat(first|refine pSeq ?_|refine pReg ?_|refine sCons ?_|refine sNil ?_|refine rCons ?_|refine rNil ?_|refine kNo ?_|refine pRow ?_|refine pBlock ?_|refine pSkip ?_|refine pExit ?_|refine pRet ?_|refine pCond ?_|refine gNone ?_))
    refine ⟨by simp only [List.length_cons, List.length_nil]; omega, ?_⟩
    intro l13 e13
    have n13 : l13.length ≤ 70 := by rw [e13, List.length_append]; simp only [List.length_cons, List.length_nil]; omega
    (repeat(first|refine pSeq ?_|refine pReg ?_|refine sCons ?_|refine sNil ?_|refine rCons ?_|refine rNil ?_|refine kNo ?_|refine pRow ?_|refine pBlock ?_|refine pSkip ?_|refine pExit ?_|refine pRet ?_|refine pCond ?_|refine gNone ?_))
    rw [e13, e12, e11, e10, e9, e8, e7, e6, e5, e4, e3, e2, e1, date_parts, hY, hM, hO, show T % 86400 % 3600 / 60 = T % 86400 / 60 % 60 by omega]
    exact ⟨rfl, c0.nil d5⟩
end Go.Vf.S
end
/- SmI -/
section
/- Stamps: told, read, their ages. -/
namespace Go.Vf.S
open Go Go.Vf Go.Proofs
attribute [local irreducible] wSeq wRow wp wG
set_option linter.unusedVariables false
set_option linter.unusedSimpArgs false
set_option maxRecDepth 10000

def leL : List UInt8 := [65, 66, 67, 68, 69, 70, 71, 72, 73, 74, 75, 76, 77, 78, 79, 80, 81, 82, 83, 84, 85, 86, 87, 88, 89, 90, 50, 51, 52, 53, 54, 55]
theorem le_len : leL.length = 32 := rfl
/-- A letter's byte. -/
def leB (n : Nat) : UInt8 := leL.getD n 0
theorem le_get {n : Nat} (h : n < 32) : leL[n]? = some (leB n) := by
  unfold leB
  rw [List.getD_eq_getElem?_getD, List.getElem?_eq_getElem (show n < leL.length from h)]
  rfl
theorem le_is {n : Nat} (h : n < 32) : (leB n).toNat = if n < 26 then 65 + n else 24 + n := by
  have : (List.range 32).all (fun n => (leB n).toNat == if n < 26 then 65 + n else 24 + n) = true := by decide +kernel
  simpa using List.all_eq_true.1 this n (List.mem_range.2 h)
/-- A day's number among 1024. -/
def sn (d : Int) : Nat := (max d 0).toNat % 1024
theorem sn_lt (d : Int) : sn d < 1024 := Nat.mod_lt _ (by omega)
def stT (n : Nat) : List UInt8 := [leB (n / 32), leB (n % 32)]
/-- What a letter stands for. -/
def vaB (c : UInt8) : Int := if 65 ≤ c.toNat ∧ c.toNat ≤ 90 then c.toNat - 65 else if 97 ≤ c.toNat ∧ c.toNat ≤ 122 then c.toNat - 97 else if 50 ≤ c.toNat ∧ c.toNat ≤ 55 then c.toNat - 24 else -1
theorem va_lt (c : UInt8) : -1 ≤ vaB c ∧ vaB c < 32 := by
  unfold vaB
  (repeat' split) <;> omega
/-- What is read of a stamp's text. -/
def pstF : List UInt8 → Nat × Nat
  | [a, b] => if vaB a < 0 ∨ vaB b < 0 then (0, 5) else ((32 * vaB a + vaB b).toNat, 0)
  | _ => (0, 5)
theorem pst_no {l : List UInt8} (h : l.length ≠ 2) : pstF l = (0, 5) := by
  unfold pstF
  split
  · simp at h
  · rfl
theorem pst_lt (l : List UInt8) : (pstF l).1 < 1024 := by
  unfold pstF
  split
  · rename_i a b
    have := va_lt a
    have := va_lt b
    split
    · decide
    · dsimp only; omega
  · decide
theorem va_le {n : Nat} (h : n < 32) : vaB (leB n) = n := by
  have : (List.range 32).all (fun n => vaB (leB n) == n) = true := by decide +kernel
  simpa using List.all_eq_true.1 this n (List.mem_range.2 h)
theorem pst_text {n : Nat} (h : n < 1024) : pstF (stT n) = (n, 0) := by
  show (if vaB (leB (n / 32)) < 0 ∨ vaB (leB (n % 32)) < 0 then _ else _) = _
  rw [va_le (by omega), va_le (by omega), if_neg (by omega)]
  congr 1
  omega
def agF (k d : Int) : Nat := (sn d + 1024 - sn k) % 1024

theorem tmod_nn {a : Int} {b : Nat} (h : 0 ≤ a) : a.tmod (b : Int) = ((a.toNat % b : Nat) : Int) := by
  obtain ⟨n, rfl⟩ := Int.eq_ofNat_of_zero_le h
  rw [tmod_nat, Int.toNat_natCast]
theorem stampOf_w {s : SS} {d : Int} (hd : d ≤ 9223372036854775807) : CallW pr n_stamp_stampOf [.int .i64 d] s fun v s' => v = .int .i64 (sn d) ∧ s' = s := by
  refine CallW.run good ok_stamp_stampOf (by simp) rfl ?_
  (repeat(first|refine pSeq ?_|refine pReg ?_|refine sCons ?_|refine sNil ?_|refine pRet ?_|refine gNone ?_))
  intro z1 h1
  (repeat(first|refine pSeq ?_|refine pReg ?_|refine sCons ?_|refine sNil ?_|refine pRet ?_|refine gNone ?_))
  refine ⟨by decide, ?_⟩
  intro z2 h2
  rw [show (1024 : Int) = ((1024 : Nat) : Int) from rfl, tmod_nn (by omega)] at h2
  (repeat(first|refine pSeq ?_|refine pReg ?_|refine sCons ?_|refine sNil ?_|refine pRet ?_|refine gNone ?_))
  refine ⟨?_, rfl⟩
  rw [h2, h1]
  rfl
theorem and31 {n : Nat} (h : n < 1024) : IntKind.wrap .i64 ((BitVec.ofInt IntKind.i64.bits (n : Int) &&& BitVec.ofInt IntKind.i64.bits 31).toNat : Int) = ((n % 32 : Nat) : Int) := by
  have : (List.range 1024).all (fun n => decide (IntKind.wrap .i64 ((BitVec.ofInt IntKind.i64.bits (n : Int) &&& BitVec.ofInt IntKind.i64.bits 31).toNat : Int) = ((n % 32 : Nat) : Int))) = true := by decide +kernel
  simpa using List.all_eq_true.1 this n (List.mem_range.2 h)
theorem or32 {n : Nat} (h : n < 1024) : IntKind.wrap .i64 ((BitVec.ofInt IntKind.i64.bits ((n / 32 : Nat) * 2 ^ 5) ||| BitVec.ofInt IntKind.i64.bits ((n % 32 : Nat) : Int)).toNat : Int) = (n : Int) := by
  have : (List.range 1024).all (fun n => decide (IntKind.wrap .i64 ((BitVec.ofInt IntKind.i64.bits ((n / 32 : Nat) * 2 ^ 5) ||| BitVec.ofInt IntKind.i64.bits ((n % 32 : Nat) : Int)).toNat : Int) = (n : Int))) = true := by decide +kernel
  simpa using List.all_eq_true.1 this n (List.mem_range.2 h)
theorem stext_w {s : SS} {d : Int} (hF : Fine s) (hd : d ≤ 9223372036854775807) : CallW pr n_stamp_Text [.int .i64 d] s fun v s' => v = str (stT (sn d)) ∧ Chg s s' [] := by
  refine CallW.run good ok_stamp_Text (by simp) rfl ?_
  have hn := sn_lt d
  (repeat(first|refine pSeq ?_|refine pReg ?_|refine sCons ?_|refine sNil ?_|refine rCons ?_|refine rNil ?_|refine kNo ?_|refine pRow ?_|refine pRet ?_|refine gNone ?_))
  refine (stampOf_w hd).mono fun v s q => ?_
  obtain ⟨rfl, rfl⟩ := q
  generalize sn d = n at *
  (repeat(first|refine pSeq ?_|refine pReg ?_|refine sCons ?_|refine sNil ?_|refine rCons ?_|refine rNil ?_|refine kNo ?_|refine pRow ?_|refine pRet ?_|refine gNone ?_))
  intro z1 h1
  rw [fdiv_nat] at h1
  subst h1
  (repeat(first|refine pSeq ?_|refine pReg ?_|refine sCons ?_|refine sNil ?_|refine rCons ?_|refine rNil ?_|refine kNo ?_|refine pRow ?_|refine pRet ?_|refine gNone ?_))
  refine ⟨by show 0 ≤ _ ∧ _ < ((leL.length : Nat) : Int); rw [le_len]; omega, ?_⟩
  intro m hm
  obtain rfl : m = n / 32 := by omega
  refine ⟨_, le_get (by omega), ?_⟩
  (repeat(first|refine pSeq ?_|refine pReg ?_|refine sCons ?_|refine sNil ?_|refine rCons ?_|refine rNil ?_|refine kNo ?_|refine pRow ?_|refine pRet ?_|refine gNone ?_))
  intro z2 h2
  rw [and31 hn] at h2
  subst h2
  (repeat(first|refine pSeq ?_|refine pReg ?_|refine sCons ?_|refine sNil ?_|refine rCons ?_|refine rNil ?_|refine kNo ?_|refine pRow ?_|refine pRet ?_|refine gNone ?_))
  refine ⟨by show 0 ≤ _ ∧ _ < ((leL.length : Nat) : Int); rw [le_len]; omega, ?_⟩
  intro m hm
  obtain rfl : m = n % 32 := by omega
  refine ⟨_, le_get (by omega), ?_⟩
  (repeat(first|refine pSeq ?_|refine pReg ?_|refine sCons ?_|refine sNil ?_|refine rCons ?_|refine rNil ?_|refine kNo ?_|refine pRow ?_|refine pRet ?_|refine gNone ?_))
  refine mkS_is rfl rfl (rNew hF.at ?_)
  (repeat(first|refine pSeq ?_|refine pReg ?_|refine sCons ?_|refine sNil ?_|refine rCons ?_|refine rNil ?_|refine kNo ?_|refine pRow ?_|refine pRet ?_|refine gNone ?_))
  refine toStr_is (l := stT n) rfl lkH (Nat.le_refl _) rfl ?_
  (repeat(first|refine pSeq ?_|refine pReg ?_|refine sCons ?_|refine sNil ?_|refine rCons ?_|refine rNil ?_|refine kNo ?_|refine pRow ?_|refine pRet ?_|refine gNone ?_))
  exact ⟨rfl, .new _⟩
theorem rslet_w {s : SS} {n : Nat} (h : n < 32) : CallW pr n_ref09_letter [.int .i64 n] s fun v s' => v = .int .u8 (leB n).toNat ∧ s' = s := by
  refine CallW.run good ok_ref09_letter (by simp) rfl ?_
  have hb := le_is h
  (repeat(first|refine pSeq ?_|refine pReg ?_|refine sCons ?_|refine sNil ?_|refine pSkip ?_|refine pRet ?_|refine pCond ?_|refine gNone ?_))
  intro q hq
  by_cases h26 : n < 26
  · obtain rfl : q = true := by rw [hq]; simp <;> omega
    rw [if_pos h26] at hb
    (repeat(first|refine pSeq ?_|refine pReg ?_|refine sCons ?_|refine sNil ?_|refine pSkip ?_|refine pRet ?_|refine pCond ?_|refine gNone ?_))
    intro z1 h1
    rw [i64_id (by omega)] at h1
    (repeat(first|refine pSeq ?_|refine pReg ?_|refine sCons ?_|refine sNil ?_|refine pSkip ?_|refine pRet ?_|refine pCond ?_|refine gNone ?_))
    intro z2 h2
    rw [u8_id (by omega)] at h2
    (repeat(first|refine pSeq ?_|refine pReg ?_|refine sCons ?_|refine sNil ?_|refine pSkip ?_|refine pRet ?_|refine pCond ?_|refine gNone ?_))
    refine ⟨?_, rfl⟩
    rw [show z2 = ((leB n).toNat : Int) by omega]
    rfl
  · obtain rfl : q = false := by rw [hq]; simp <;> omega
    rw [if_neg h26] at hb
    (repeat(first|refine pSeq ?_|refine pReg ?_|refine sCons ?_|refine sNil ?_|refine pSkip ?_|refine pRet ?_|refine pCond ?_|refine gNone ?_))
    intro z1 h1
    rw [i64_id (by omega)] at h1
    (repeat(first|refine pSeq ?_|refine pReg ?_|refine sCons ?_|refine sNil ?_|refine pSkip ?_|refine pRet ?_|refine pCond ?_|refine gNone ?_))
    intro z2 h2
    rw [i64_id (by omega)] at h2
    (repeat(first|refine pSeq ?_|refine pReg ?_|refine sCons ?_|refine sNil ?_|refine pSkip ?_|refine pRet ?_|refine pCond ?_|refine gNone ?_))
    intro z3 h3
    rw [u8_id (by omega)] at h3
    (repeat(first|refine pSeq ?_|refine pReg ?_|refine sCons ?_|refine sNil ?_|refine pSkip ?_|refine pRet ?_|refine pCond ?_|refine gNone ?_))
    refine ⟨?_, rfl⟩
    rw [show z3 = ((leB n).toNat : Int) by omega]
    rfl
theorem rstext_w {s : SS} {d : Int} (hd : d ≤ 9223372036854775807) : CallW pr n_ref09_Text [.int .i64 d] s fun v s' => v = str (stT (sn d)) ∧ Chg s s' [] := by
  refine CallW.run good ok_ref09_Text (by simp) rfl ?_
  obtain ⟨N, hN, hs, hN2⟩ : ∃ N : Nat, max d 0 = (N : Int) ∧ sn d = N % 1024 ∧ N ≤ 9223372036854775807 := ⟨(max d 0).toNat, by omega, rfl, by omega⟩
  rw [hs]
  have fin : ∀ K : SS → Prop, True := fun _ => trivial
  (repeat(first|refine pSeq ?_|refine pReg ?_|refine sCons ?_|refine sNil ?_|refine pSkip ?_|refine pRet ?_|refine pCond ?_|refine gNone ?_))
  intro q hq
  by_cases h0 : d < 0
  · obtain rfl : N = 0 := by omega
    obtain rfl : q = true := by rw [hq]; simp <;> omega
    (repeat(first|refine pSeq ?_|refine pReg ?_|refine sCons ?_|refine sNil ?_|refine pSkip ?_|refine pRet ?_|refine pCond ?_|refine gNone ?_))
    refine ⟨by decide, ?_⟩
    intro z1 h1
    obtain rfl : z1 = ((0 : Nat) : Int) := h1
    (repeat(first|refine pSeq ?_|refine pReg ?_|refine sCons ?_|refine sNil ?_|refine pSkip ?_|refine pRet ?_|refine pCond ?_|refine gNone ?_))
    refine ⟨by decide, ?_⟩
    intro z2 h2
    rw [i64_id (by decide)] at h2
    obtain rfl : z2 = ((0 : Nat) : Int) := h2
    (repeat(first|refine pSeq ?_|refine pReg ?_|refine sCons ?_|refine sNil ?_|refine pSkip ?_|refine pRet ?_|refine pCond ?_|refine gNone ?_))
    refine (rslet_w (by omega)).mono fun v s q => ?_
    obtain ⟨rfl, rfl⟩ := q
    (repeat(first|refine pSeq ?_|refine pReg ?_|refine sCons ?_|refine sNil ?_|refine pSkip ?_|refine pRet ?_|refine pCond ?_|refine gNone ?_))
    refine ⟨by decide, ?_⟩
    intro z3 h3
    obtain rfl : z3 = ((0 : Nat) : Int) := h3
    (repeat(first|refine pSeq ?_|refine pReg ?_|refine sCons ?_|refine sNil ?_|refine pSkip ?_|refine pRet ?_|refine pCond ?_|refine gNone ?_))
    refine (rslet_w (by omega)).mono fun v s q => ?_
    obtain ⟨rfl, rfl⟩ := q
    (repeat(first|refine pSeq ?_|refine pReg ?_|refine sCons ?_|refine sNil ?_|refine pSkip ?_|refine pRet ?_|refine pCond ?_|refine gNone ?_))
    refine toStr_is (l := stT 0) rfl lkH (Nat.le_refl _) rfl ?_
    (repeat(first|refine pSeq ?_|refine pReg ?_|refine sCons ?_|refine sNil ?_|refine pSkip ?_|refine pRet ?_|refine pCond ?_|refine gNone ?_))
    exact ⟨rfl, .new _⟩
  · obtain rfl : d = (N : Int) := by omega
    obtain rfl : q = false := by rw [hq]; simp <;> omega
    (repeat(first|refine pSeq ?_|refine pReg ?_|refine sCons ?_|refine sNil ?_|refine pSkip ?_|refine pRet ?_|refine pCond ?_|refine gNone ?_))
    refine ⟨by decide, ?_⟩
    intro z1 h1
    rw [show (1024 : Int) = ((1024 : Nat) : Int) from rfl, tmod_nat] at h1
    subst h1
    (repeat(first|refine pSeq ?_|refine pReg ?_|refine sCons ?_|refine sNil ?_|refine pSkip ?_|refine pRet ?_|refine pCond ?_|refine gNone ?_))
    refine ⟨by decide, ?_⟩
    intro z2 h2
    rw [show (32 : Int) = ((32 : Nat) : Int) from rfl, tdiv_nat, i64_id (by omega)] at h2
    subst h2
    (repeat(first|refine pSeq ?_|refine pReg ?_|refine sCons ?_|refine sNil ?_|refine pSkip ?_|refine pRet ?_|refine pCond ?_|refine gNone ?_))
    refine (rslet_w (n := N % 1024 / 32) (by omega)).mono fun v s q => ?_
    obtain ⟨rfl, rfl⟩ := q
    (repeat(first|refine pSeq ?_|refine pReg ?_|refine sCons ?_|refine sNil ?_|refine pSkip ?_|refine pRet ?_|refine pCond ?_|refine gNone ?_))
    refine ⟨by decide, ?_⟩
    intro z3 h3
    rw [show (32 : Int) = ((32 : Nat) : Int) from rfl, tmod_nat] at h3
    subst h3
    (repeat(first|refine pSeq ?_|refine pReg ?_|refine sCons ?_|refine sNil ?_|refine pSkip ?_|refine pRet ?_|refine pCond ?_|refine gNone ?_))
    refine (rslet_w (n := N % 32) (by omega)).mono fun v s q => ?_
    obtain ⟨rfl, rfl⟩ := q
    (repeat(first|refine pSeq ?_|refine pReg ?_|refine sCons ?_|refine sNil ?_|refine pSkip ?_|refine pRet ?_|refine pCond ?_|refine gNone ?_))
    have e : stT (N % 1024) = [leB (N % 1024 / 32), leB (N % 32)] := by unfold stT; rw [show N % 1024 % 32 = N % 32 by omega]
    refine toStr_is (l := [leB (N % 1024 / 32), leB (N % 32)]) rfl lkH (Nat.le_refl _) rfl ?_
    (repeat(first|refine pSeq ?_|refine pReg ?_|refine sCons ?_|refine sNil ?_|refine pSkip ?_|refine pRet ?_|refine pCond ?_|refine gNone ?_))
    rw [e]
    exact ⟨rfl, .new _⟩
theorem age_w {s : SS} {k d : Int} (hk : k ≤ 9223372036854775807) (hd : d ≤ 9223372036854775807) : CallW pr n_stamp_Age [.int .i64 k, .int .i64 d] s fun v s' => v = .int .i64 (agF k d) ∧ s' = s := by
  refine CallW.run good ok_stamp_Age (by simp) rfl ?_
  have h1 := sn_lt k
  have h2 := sn_lt d
  (repeat(first|refine pSeq ?_|refine pReg ?_|refine sCons ?_|refine sNil ?_|refine pRet ?_|refine gNone ?_))
  refine (stampOf_w hd).mono fun v s q => ?_
  obtain ⟨rfl, rfl⟩ := q
  (repeat(first|refine pSeq ?_|refine pReg ?_|refine sCons ?_|refine sNil ?_|refine pRet ?_|refine gNone ?_))
  refine (stampOf_w hk).mono fun v s q => ?_
  obtain ⟨rfl, rfl⟩ := q
  (repeat(first|refine pSeq ?_|refine pReg ?_|refine sCons ?_|refine sNil ?_|refine pRet ?_|refine gNone ?_))
  intro z1 g1
  rw [i64_id (by omega)] at g1
  (repeat(first|refine pSeq ?_|refine pReg ?_|refine sCons ?_|refine sNil ?_|refine pRet ?_|refine gNone ?_))
  intro z2 g2
  rw [i64_id (by omega)] at g2
  obtain rfl : z2 = ((sn d + 1024 - sn k : Nat) : Int) := by omega
  (repeat(first|refine pSeq ?_|refine pReg ?_|refine sCons ?_|refine sNil ?_|refine pRet ?_|refine gNone ?_))
  refine ⟨by decide, ?_⟩
  intro z3 g3
  rw [show (1024 : Int) = ((1024 : Nat) : Int) from rfl, tmod_nat] at g3
  subst g3
  (repeat(first|refine pSeq ?_|refine pReg ?_|refine sCons ?_|refine sNil ?_|refine pRet ?_|refine gNone ?_))
  exact ⟨rfl, rfl⟩
theorem rage_w {s : SS} {k d : Int} (hk : k ≤ 9223372036854775807) (hd : d ≤ 9223372036854775807) : CallW pr n_ref09_Age [.int .i64 k, .int .i64 d] s fun v s' => v = .int .i64 (agF k d) ∧ s' = s := by
  refine CallW.run good ok_ref09_Age (by simp) rfl ?_
  have h1 := sn_lt k
  have h2 := sn_lt d
  obtain ⟨D, hD, e1, hD2⟩ : ∃ D : Nat, max d 0 = (D : Int) ∧ sn d = D % 1024 ∧ D ≤ 9223372036854775807 := ⟨(max d 0).toNat, by omega, rfl, by omega⟩
  obtain ⟨K, hK, e2, hK2⟩ : ∃ K : Nat, max k 0 = (K : Int) ∧ sn k = K % 1024 ∧ K ≤ 9223372036854775807 := ⟨(max k 0).toNat, by omega, rfl, by omega⟩
  (repeat(first|refine pSeq ?_|refine pReg ?_|refine sCons ?_|refine sNil ?_|refine pSkip ?_|refine pRet ?_|refine pCond ?_|refine gNone ?_))
  intro q hq
  by_cases hk0 : k < 0
  · obtain rfl : q = true := by rw [hq]; simp <;> omega
    obtain rfl : K = 0 := by omega
    (repeat(first|refine pSeq ?_|refine pReg ?_|refine sCons ?_|refine sNil ?_|refine pSkip ?_|refine pRet ?_|refine pCond ?_|refine gNone ?_))
    intro q hq
    by_cases hd0 : d < 0
    · obtain rfl : q = true := by rw [hq]; simp <;> omega
      obtain rfl : D = 0 := by omega
      (repeat(first|refine pSeq ?_|refine pReg ?_|refine sCons ?_|refine sNil ?_|refine pSkip ?_|refine pRet ?_|refine pCond ?_|refine gNone ?_))
      refine ⟨by decide, ?_⟩
      intro x1 hx1
      obtain rfl : x1 = ((0 : Nat) : Int) := hx1
      (repeat(first|refine pSeq ?_|refine pReg ?_|refine sCons ?_|refine sNil ?_|refine pSkip ?_|refine pRet ?_|refine pCond ?_|refine gNone ?_))
      refine ⟨by decide, ?_⟩
      intro x2 hx2
      obtain rfl : x2 = ((0 : Nat) : Int) := hx2
      (repeat(first|refine pSeq ?_|refine pReg ?_|refine sCons ?_|refine sNil ?_|refine pSkip ?_|refine pRet ?_|refine pCond ?_|refine gNone ?_))
      intro z4 g4
      rw [i64_id (by omega)] at g4
      (repeat(first|refine pSeq ?_|refine pReg ?_|refine sCons ?_|refine sNil ?_|refine pSkip ?_|refine pRet ?_|refine pCond ?_|refine gNone ?_))
      intro q hq
      by_cases hc : z4 < 0
      · obtain rfl : q = true := by rw [hq]; simp <;> omega
        (repeat(first|refine pSeq ?_|refine pReg ?_|refine sCons ?_|refine sNil ?_|refine pSkip ?_|refine pRet ?_|refine pCond ?_|refine gNone ?_))
        intro z5 g5
        rw [i64_id (by omega)] at g5
        (repeat(first|refine pSeq ?_|refine pReg ?_|refine sCons ?_|refine sNil ?_|refine pSkip ?_|refine pRet ?_|refine pCond ?_|refine gNone ?_))
        rw [show z5 = ((agF k d : Nat) : Int) by unfold agF; rw [e1, e2]; omega]
        exact ⟨rfl, rfl⟩
      · obtain rfl : q = false := by rw [hq]; simp <;> omega
        (repeat(first|refine pSeq ?_|refine pReg ?_|refine sCons ?_|refine sNil ?_|refine pSkip ?_|refine pRet ?_|refine pCond ?_|refine gNone ?_))
        rw [show z4 = ((agF k d : Nat) : Int) by unfold agF; rw [e1, e2]; omega]
        exact ⟨rfl, rfl⟩
    · obtain rfl : q = false := by rw [hq]; simp <;> omega
      obtain rfl : d = (D : Int) := by omega
      (repeat(first|refine pSeq ?_|refine pReg ?_|refine sCons ?_|refine sNil ?_|refine pSkip ?_|refine pRet ?_|refine pCond ?_|refine gNone ?_))
      refine ⟨by decide, ?_⟩
      intro x1 hx1
      rw [show (1024 : Int) = ((1024 : Nat) : Int) from rfl, tmod_nat] at hx1
      subst hx1
      (repeat(first|refine pSeq ?_|refine pReg ?_|refine sCons ?_|refine sNil ?_|refine pSkip ?_|refine pRet ?_|refine pCond ?_|refine gNone ?_))
      refine ⟨by decide, ?_⟩
      intro x2 hx2
      obtain rfl : x2 = ((0 : Nat) : Int) := hx2
      (repeat(first|refine pSeq ?_|refine pReg ?_|refine sCons ?_|refine sNil ?_|refine pSkip ?_|refine pRet ?_|refine pCond ?_|refine gNone ?_))
      intro z4 g4
      rw [i64_id (by omega)] at g4
      (repeat(first|refine pSeq ?_|refine pReg ?_|refine sCons ?_|refine sNil ?_|refine pSkip ?_|refine pRet ?_|refine pCond ?_|refine gNone ?_))
      intro q hq
      by_cases hc : z4 < 0
      · obtain rfl : q = true := by rw [hq]; simp <;> omega
        (repeat(first|refine pSeq ?_|refine pReg ?_|refine sCons ?_|refine sNil ?_|refine pSkip ?_|refine pRet ?_|refine pCond ?_|refine gNone ?_))
        intro z5 g5
        rw [i64_id (by omega)] at g5
        (repeat(first|refine pSeq ?_|refine pReg ?_|refine sCons ?_|refine sNil ?_|refine pSkip ?_|refine pRet ?_|refine pCond ?_|refine gNone ?_))
        rw [show z5 = ((agF k (D : Int) : Nat) : Int) by unfold agF; rw [e1, e2]; omega]
        exact ⟨rfl, rfl⟩
      · obtain rfl : q = false := by rw [hq]; simp <;> omega
        (repeat(first|refine pSeq ?_|refine pReg ?_|refine sCons ?_|refine sNil ?_|refine pSkip ?_|refine pRet ?_|refine pCond ?_|refine gNone ?_))
        rw [show z4 = ((agF k (D : Int) : Nat) : Int) by unfold agF; rw [e1, e2]; omega]
        exact ⟨rfl, rfl⟩
  · obtain rfl : q = false := by rw [hq]; simp <;> omega
    obtain rfl : k = (K : Int) := by omega
    (repeat(first|refine pSeq ?_|refine pReg ?_|refine sCons ?_|refine sNil ?_|refine pSkip ?_|refine pRet ?_|refine pCond ?_|refine gNone ?_))
    intro q hq
    by_cases hd0 : d < 0
    · obtain rfl : q = true := by rw [hq]; simp <;> omega
      obtain rfl : D = 0 := by omega
      (repeat(first|refine pSeq ?_|refine pReg ?_|refine sCons ?_|refine sNil ?_|refine pSkip ?_|refine pRet ?_|refine pCond ?_|refine gNone ?_))
      refine ⟨by decide, ?_⟩
      intro x1 hx1
      obtain rfl : x1 = ((0 : Nat) : Int) := hx1
      (repeat(first|refine pSeq ?_|refine pReg ?_|refine sCons ?_|refine sNil ?_|refine pSkip ?_|refine pRet ?_|refine pCond ?_|refine gNone ?_))
      refine ⟨by decide, ?_⟩
      intro x2 hx2
      rw [show (1024 : Int) = ((1024 : Nat) : Int) from rfl, tmod_nat] at hx2
      subst hx2
      (repeat(first|refine pSeq ?_|refine pReg ?_|refine sCons ?_|refine sNil ?_|refine pSkip ?_|refine pRet ?_|refine pCond ?_|refine gNone ?_))
      intro z4 g4
      rw [i64_id (by omega)] at g4
      (repeat(first|refine pSeq ?_|refine pReg ?_|refine sCons ?_|refine sNil ?_|refine pSkip ?_|refine pRet ?_|refine pCond ?_|refine gNone ?_))
      intro q hq
      by_cases hc : z4 < 0
      · obtain rfl : q = true := by rw [hq]; simp <;> omega
        (repeat(first|refine pSeq ?_|refine pReg ?_|refine sCons ?_|refine sNil ?_|refine pSkip ?_|refine pRet ?_|refine pCond ?_|refine gNone ?_))
        intro z5 g5
        rw [i64_id (by omega)] at g5
        (repeat(first|refine pSeq ?_|refine pReg ?_|refine sCons ?_|refine sNil ?_|refine pSkip ?_|refine pRet ?_|refine pCond ?_|refine gNone ?_))
        rw [show z5 = ((agF (K : Int) d : Nat) : Int) by unfold agF; rw [e1, e2]; omega]
        exact ⟨rfl, rfl⟩
      · obtain rfl : q = false := by rw [hq]; simp <;> omega
        (repeat(first|refine pSeq ?_|refine pReg ?_|refine sCons ?_|refine sNil ?_|refine pSkip ?_|refine pRet ?_|refine pCond ?_|refine gNone ?_))
        rw [show z4 = ((agF (K : Int) d : Nat) : Int) by unfold agF; rw [e1, e2]; omega]
        exact ⟨rfl, rfl⟩
    · obtain rfl : q = false := by rw [hq]; simp <;> omega
      obtain rfl : d = (D : Int) := by omega
      (repeat(first|refine pSeq ?_|refine pReg ?_|refine sCons ?_|refine sNil ?_|refine pSkip ?_|refine pRet ?_|refine pCond ?_|refine gNone ?_))
      refine ⟨by decide, ?_⟩
      intro x1 hx1
      rw [show (1024 : Int) = ((1024 : Nat) : Int) from rfl, tmod_nat] at hx1
      subst hx1
      (repeat(first|refine pSeq ?_|refine pReg ?_|refine sCons ?_|refine sNil ?_|refine pSkip ?_|refine pRet ?_|refine pCond ?_|refine gNone ?_))
      refine ⟨by decide, ?_⟩
      intro x2 hx2
      rw [show (1024 : Int) = ((1024 : Nat) : Int) from rfl, tmod_nat] at hx2
      subst hx2
      (repeat(first|refine pSeq ?_|refine pReg ?_|refine sCons ?_|refine sNil ?_|refine pSkip ?_|refine pRet ?_|refine pCond ?_|refine gNone ?_))
      intro z4 g4
      rw [i64_id (by omega)] at g4
      (repeat(first|refine pSeq ?_|refine pReg ?_|refine sCons ?_|refine sNil ?_|refine pSkip ?_|refine pRet ?_|refine pCond ?_|refine gNone ?_))
      intro q hq
      by_cases hc : z4 < 0
      · obtain rfl : q = true := by rw [hq]; simp <;> omega
        (repeat(first|refine pSeq ?_|refine pReg ?_|refine sCons ?_|refine sNil ?_|refine pSkip ?_|refine pRet ?_|refine pCond ?_|refine gNone ?_))
        intro z5 g5
        rw [i64_id (by omega)] at g5
        (repeat(first|refine pSeq ?_|refine pReg ?_|refine sCons ?_|refine sNil ?_|refine pSkip ?_|refine pRet ?_|refine pCond ?_|refine gNone ?_))
        rw [show z5 = ((agF (K : Int) (D : Int) : Nat) : Int) by unfold agF; rw [e1, e2]; omega]
        exact ⟨rfl, rfl⟩
      · obtain rfl : q = false := by rw [hq]; simp <;> omega
        (repeat(first|refine pSeq ?_|refine pReg ?_|refine sCons ?_|refine sNil ?_|refine pSkip ?_|refine pRet ?_|refine pCond ?_|refine gNone ?_))
        rw [show z4 = ((agF (K : Int) (D : Int) : Nat) : Int) by unfold agF; rw [e1, e2]; omega]
        exact ⟨rfl, rfl⟩

/-! ### Read -/
def upSt (c : UInt8) : UInt8 := if 97 ≤ c.toNat ∧ c.toNat ≤ 122 then UInt8.ofNat (c.toNat - 32) else c
theorem up_is (c : UInt8) : Lib.indexByte leL (upSt c) = vaB c := by
  have : (List.range 256).all (fun n => Lib.indexByte leL (upSt (UInt8.ofNat n)) == vaB (UInt8.ofNat n)) = true := by decide +kernel
  have h := List.all_eq_true.1 this c.toNat (List.mem_range.2 c.toNat_lt)
  rw [UInt8.ofNat_toNat] at h
  simpa using h
theorem place_w {s : SS} {c : UInt8} : CallW pr n_stamp_place [.int .u8 c.toNat] s fun v s' => v = .int .i64 (vaB c) ∧ s' = s := by
  refine CallW.run good ok_stamp_place (by simp) rfl ?_
  have hc := c.toNat_lt
  have hu := up_is c
  (repeat(first|refine pSeq ?_|refine pReg ?_|refine sCons ?_|refine sNil ?_|refine pSkip ?_|refine pRet ?_|refine pCond ?_|refine gNone ?_|refine gOn rfl ?_|refine gOff rfl rfl ?_|refine gTup rfl ?_))
  intro q hq
  by_cases h1 : 97 ≤ c.toNat
  · obtain rfl : q = true := by rw [hq]; simp <;> omega
    (repeat(first|refine pSeq ?_|refine pReg ?_|refine sCons ?_|refine sNil ?_|refine pSkip ?_|refine pRet ?_|refine pCond ?_|refine gNone ?_|refine gOn rfl ?_|refine gOff rfl rfl ?_|refine gTup rfl ?_))
    intro q hq
    by_cases h2 : c.toNat ≤ 122
    · obtain rfl : q = true := by rw [hq]; simp <;> omega
      have e : upSt c = UInt8.ofNat (c.toNat - 32) := by unfold upSt; rw [if_pos ⟨h1, h2⟩]
      have e2 : (UInt8.ofNat (c.toNat - 32)).toNat = c.toNat - 32 := by rw [UInt8.toNat_ofNat']; omega
      rw [e] at hu
      (repeat(first|refine pSeq ?_|refine pReg ?_|refine sCons ?_|refine sNil ?_|refine pSkip ?_|refine pRet ?_|refine pCond ?_|refine gNone ?_|refine gOn rfl ?_|refine gOff rfl rfl ?_|refine gTup rfl ?_))
      intro z1 g1
      rw [u8_id (by omega)] at g1
      obtain rfl : z1 = ((UInt8.ofNat (c.toNat - 32)).toNat : Int) := by omega
      (repeat(first|refine pSeq ?_|refine pReg ?_|refine sCons ?_|refine sNil ?_|refine pSkip ?_|refine pRet ?_|refine pCond ?_|refine gNone ?_|refine gOn rfl ?_|refine gOff rfl rfl ?_|refine gTup rfl ?_))
      refine IndexByte_w.mono fun v s q => ?_
      obtain ⟨rfl, rfl⟩ := q
      (repeat(first|refine pSeq ?_|refine pReg ?_|refine sCons ?_|refine sNil ?_|refine pSkip ?_|refine pRet ?_|refine pCond ?_|refine gNone ?_|refine gOn rfl ?_|refine gOff rfl rfl ?_|refine gTup rfl ?_))
      exact ⟨by rw [← hu]; rfl, rfl⟩
    · obtain rfl : q = false := by rw [hq]; simp <;> omega
      have e : upSt c = c := by unfold upSt; rw [if_neg (by omega)]
      rw [e] at hu
      (repeat(first|refine pSeq ?_|refine pReg ?_|refine sCons ?_|refine sNil ?_|refine pSkip ?_|refine pRet ?_|refine pCond ?_|refine gNone ?_|refine gOn rfl ?_|refine gOff rfl rfl ?_|refine gTup rfl ?_))
      refine IndexByte_w.mono fun v s q => ?_
      obtain ⟨rfl, rfl⟩ := q
      (repeat(first|refine pSeq ?_|refine pReg ?_|refine sCons ?_|refine sNil ?_|refine pSkip ?_|refine pRet ?_|refine pCond ?_|refine gNone ?_|refine gOn rfl ?_|refine gOff rfl rfl ?_|refine gTup rfl ?_))
      exact ⟨by rw [← hu]; rfl, rfl⟩
  · obtain rfl : q = false := by rw [hq]; simp <;> omega
    have e : upSt c = c := by unfold upSt; rw [if_neg (by omega)]
    rw [e] at hu
    (repeat(first|refine pSeq ?_|refine pReg ?_|refine sCons ?_|refine sNil ?_|refine pSkip ?_|refine pRet ?_|refine pCond ?_|refine gNone ?_|refine gOn rfl ?_|refine gOff rfl rfl ?_|refine gTup rfl ?_))
    refine IndexByte_w.mono fun v s q => ?_
    obtain ⟨rfl, rfl⟩ := q
    (repeat(first|refine pSeq ?_|refine pReg ?_|refine sCons ?_|refine sNil ?_|refine pSkip ?_|refine pRet ?_|refine pCond ?_|refine gNone ?_|refine gOn rfl ?_|refine gOff rfl rfl ?_|refine gTup rfl ?_))
    exact ⟨by rw [← hu]; rfl, rfl⟩
theorem rvalue_w {s : SS} {c : UInt8} : CallW pr n_ref09_value [.int .u8 c.toNat] s fun v s' => v = .int .i64 (vaB c) ∧ s' = s := by
  refine CallW.run good ok_ref09_value (by simp) rfl ?_
  have hc := c.toNat_lt
  have fin : ∀ {z : Int} {s : SS}, z = vaB c → (one [Value.int .i64 z] = Value.int .i64 (vaB c) ∧ s = s) := fun e => ⟨by rw [e]; rfl, rfl⟩
  (repeat' (first | refine pSeq ?_ | refine pReg ?_ | refine sRaw ?_ | refine sCons ?_ | refine sNil ?_ | refine rCons ?_ | refine rNil ?_ | refine kNo ?_ | refine pRow ?_ | refine pBlock ?_ | refine pSkip ?_ | refine pExit ?_ | refine pRet ?_ | refine pCond ?_ | refine gNone ?_ | refine gOn rfl ?_ | refine gOff rfl rfl ?_ | refine gTup rfl ?_ | (intro q hq; cases q <;> simp only [true_eq_decide_iff, false_eq_decide_iff, Bool.not_true, Bool.not_false, Bool.true_eq, Bool.false_eq, decide_eq_true_eq, decide_eq_false_iff_not, reduceCtorEq] at hq)))
  all_goals first
    | exact fin (by unfold vaB; (repeat' split) <;> omega)
    | (intro z1 g1; rw [u8_id (by omega)] at g1; (repeat(first|refine pSeq ?_|refine pReg ?_|refine sCons ?_|refine sNil ?_|refine pSkip ?_|refine pRet ?_|refine pCond ?_|refine gNone ?_|refine gOn rfl ?_|refine gOff rfl rfl ?_|refine gTup rfl ?_)); intro z2 g2; rw [i64_id (by omega)] at g2; (repeat(first|refine pSeq ?_|refine pReg ?_|refine sCons ?_|refine sNil ?_|refine pSkip ?_|refine pRet ?_|refine pCond ?_|refine gNone ?_|refine gOn rfl ?_|refine gOff rfl rfl ?_|refine gTup rfl ?_)); exact fin (by unfold vaB; (repeat' split) <;> omega))
    | (intro z1 g1; rw [u8_id (by omega)] at g1; (repeat(first|refine pSeq ?_|refine pReg ?_|refine sCons ?_|refine sNil ?_|refine pSkip ?_|refine pRet ?_|refine pCond ?_|refine gNone ?_|refine gOn rfl ?_|refine gOff rfl rfl ?_|refine gTup rfl ?_)); intro z2 g2; rw [i64_id (by omega)] at g2; (repeat(first|refine pSeq ?_|refine pReg ?_|refine sCons ?_|refine sNil ?_|refine pSkip ?_|refine pRet ?_|refine pCond ?_|refine gNone ?_|refine gOn rfl ?_|refine gOff rfl rfl ?_|refine gTup rfl ?_)); intro z3 g3; rw [i64_id (by omega)] at g3; (repeat(first|refine pSeq ?_|refine pReg ?_|refine sCons ?_|refine sNil ?_|refine pSkip ?_|refine pRet ?_|refine pCond ?_|refine gNone ?_|refine gOn rfl ?_|refine gOff rfl rfl ?_|refine gTup rfl ?_)); exact fin (by unfold vaB; (repeat' split) <;> omega))
abbrev pRes (q : Nat × Nat) : Value := .tuple ⟨[.int .i64 q.1, .int .i64 q.2]⟩
theorem pst_two {a b : UInt8} (h : ¬(vaB a < 0 ∨ vaB b < 0)) : pstF [a, b] = ((32 * vaB a + vaB b).toNat, 0) := by
  show (if vaB a < 0 ∨ vaB b < 0 then _ else _) = _
  rw [if_neg h]
theorem pst_bad {a b : UInt8} (h : vaB a < 0 ∨ vaB b < 0) : pstF [a, b] = (0, 5) := by
  show (if vaB a < 0 ∨ vaB b < 0 then _ else _) = _
  rw [if_pos h]
theorem len_two {l : List UInt8} (h : l.length = 2) : ∃ a b, l = [a, b] := by
  match l, h with
  | [a, b], _ => exact ⟨a, b, rfl⟩
theorem pst_w {s : SS} {l : List UInt8} (hF : Fine s) (hl : l.length ≤ 1000000) : CallW pr n_stamp_Parse [str l] s fun v s' => v = pRes (pstF l) ∧ s' = s := by
  refine CallW.run good ok_stamp_Parse (by simp) rfl ?_
  (repeat(first|refine pSeq ?_|refine pReg ?_|refine sCons ?_|refine sNil ?_|refine rCons ?_|refine rNil ?_|refine kNo ?_|refine pRow ?_|refine pSkip ?_|refine pRet ?_|refine pCond ?_|refine gNone ?_|refine gOn rfl ?_|refine gOff rfl rfl ?_|refine gTup rfl ?_))
  intro n hn
  (repeat(first|refine pSeq ?_|refine pReg ?_|refine sCons ?_|refine sNil ?_|refine rCons ?_|refine rNil ?_|refine kNo ?_|refine pRow ?_|refine pSkip ?_|refine pRet ?_|refine pCond ?_|refine gNone ?_|refine gOn rfl ?_|refine gOff rfl rfl ?_|refine gTup rfl ?_))
  intro q hq
  by_cases h2 : l.length = 2
  · obtain ⟨a, b, rfl⟩ := len_two h2
    have va := va_lt a
    have vb := va_lt b
    obtain rfl : n = 2 := hn
    obtain rfl : q = false := by rw [hq]; simp <;> omega
    (repeat(first|refine pSeq ?_|refine pReg ?_|refine sCons ?_|refine sNil ?_|refine rCons ?_|refine rNil ?_|refine kNo ?_|refine pRow ?_|refine pSkip ?_|refine pRet ?_|refine pCond ?_|refine gNone ?_|refine gOn rfl ?_|refine gOff rfl rfl ?_|refine gTup rfl ?_))
    refine ⟨by simp, ?_⟩
    intro m hm
    obtain rfl : m = 0 := by omega
    refine ⟨a, rfl, ?_⟩
    (repeat(first|refine pSeq ?_|refine pReg ?_|refine sCons ?_|refine sNil ?_|refine rCons ?_|refine rNil ?_|refine kNo ?_|refine pRow ?_|refine pSkip ?_|refine pRet ?_|refine pCond ?_|refine gNone ?_|refine gOn rfl ?_|refine gOff rfl rfl ?_|refine gTup rfl ?_))
    refine ⟨by simp, ?_⟩
    intro m hm
    obtain rfl : m = 1 := by omega
    refine ⟨b, rfl, ?_⟩
    (repeat(first|refine pSeq ?_|refine pReg ?_|refine sCons ?_|refine sNil ?_|refine rCons ?_|refine rNil ?_|refine kNo ?_|refine pRow ?_|refine pSkip ?_|refine pRet ?_|refine pCond ?_|refine gNone ?_|refine gOn rfl ?_|refine gOff rfl rfl ?_|refine gTup rfl ?_))
    refine place_w.mono fun v s q => ?_
    obtain ⟨rfl, rfl⟩ := q
    (repeat(first|refine pSeq ?_|refine pReg ?_|refine sCons ?_|refine sNil ?_|refine rCons ?_|refine rNil ?_|refine kNo ?_|refine pRow ?_|refine pSkip ?_|refine pRet ?_|refine pCond ?_|refine gNone ?_|refine gOn rfl ?_|refine gOff rfl rfl ?_|refine gTup rfl ?_))
    refine place_w.mono fun v s q => ?_
    obtain ⟨rfl, rfl⟩ := q
    (repeat(first|refine pSeq ?_|refine pReg ?_|refine sCons ?_|refine sNil ?_|refine rCons ?_|refine rNil ?_|refine kNo ?_|refine pRow ?_|refine pSkip ?_|refine pRet ?_|refine pCond ?_|refine gNone ?_|refine gOn rfl ?_|refine gOff rfl rfl ?_|refine gTup rfl ?_))
    intro q hq
    by_cases ha : vaB a < 0
    · obtain rfl : q = true := by rw [hq]; simp <;> omega
      (repeat(first|refine pSeq ?_|refine pReg ?_|refine sCons ?_|refine sNil ?_|refine rCons ?_|refine rNil ?_|refine kNo ?_|refine pRow ?_|refine pSkip ?_|refine pRet ?_|refine pCond ?_|refine gNone ?_|refine gOn rfl ?_|refine gOff rfl rfl ?_|refine gTup rfl ?_))
      rw [pst_bad (.inl ha)]
      exact ⟨rfl, rfl⟩
    · obtain rfl : q = false := by rw [hq]; simp <;> omega
      (repeat(first|refine pSeq ?_|refine pReg ?_|refine sCons ?_|refine sNil ?_|refine rCons ?_|refine rNil ?_|refine kNo ?_|refine pRow ?_|refine pSkip ?_|refine pRet ?_|refine pCond ?_|refine gNone ?_|refine gOn rfl ?_|refine gOff rfl rfl ?_|refine gTup rfl ?_))
      intro q hq
      by_cases hb : vaB b < 0
      · obtain rfl : q = true := by rw [hq]; simp <;> omega
        (repeat(first|refine pSeq ?_|refine pReg ?_|refine sCons ?_|refine sNil ?_|refine rCons ?_|refine rNil ?_|refine kNo ?_|refine pRow ?_|refine pSkip ?_|refine pRet ?_|refine pCond ?_|refine gNone ?_|refine gOn rfl ?_|refine gOff rfl rfl ?_|refine gTup rfl ?_))
        rw [pst_bad (.inr hb)]
        exact ⟨rfl, rfl⟩
      · obtain rfl : q = false := by rw [hq]; simp <;> omega
        (repeat(first|refine pSeq ?_|refine pReg ?_|refine sCons ?_|refine sNil ?_|refine rCons ?_|refine rNil ?_|refine kNo ?_|refine pRow ?_|refine pSkip ?_|refine pRet ?_|refine pCond ?_|refine gNone ?_|refine gOn rfl ?_|refine gOff rfl rfl ?_|refine gTup rfl ?_))
        rw [pst_two (fun q => by omega)]
        intro z1 g1
        rw [i64_id (by omega)] at g1
        (repeat(first|refine pSeq ?_|refine pReg ?_|refine sCons ?_|refine sNil ?_|refine rCons ?_|refine rNil ?_|refine kNo ?_|refine pRow ?_|refine pSkip ?_|refine pRet ?_|refine pCond ?_|refine gNone ?_|refine gOn rfl ?_|refine gOff rfl rfl ?_|refine gTup rfl ?_))
        intro z2 g2
        have e := or32 (n := (32 * vaB a + vaB b).toNat) (by omega)
        rw [show (((32 * vaB a + vaB b).toNat / 32 : Nat) : Int) = vaB a by omega, show (((32 * vaB a + vaB b).toNat % 32 : Nat) : Int) = vaB b by omega] at e
        rw [g1, e] at g2
        (repeat(first|refine pSeq ?_|refine pReg ?_|refine sCons ?_|refine sNil ?_|refine rCons ?_|refine rNil ?_|refine kNo ?_|refine pRow ?_|refine pSkip ?_|refine pRet ?_|refine pCond ?_|refine gNone ?_|refine gOn rfl ?_|refine gOff rfl rfl ?_|refine gTup rfl ?_))
        exact ⟨by rw [g2]; rfl, rfl⟩
  · obtain rfl : q = true := by rw [hq]; simp <;> omega
    (repeat(first|refine pSeq ?_|refine pReg ?_|refine sCons ?_|refine sNil ?_|refine rCons ?_|refine rNil ?_|refine kNo ?_|refine pRow ?_|refine pSkip ?_|refine pRet ?_|refine pCond ?_|refine gNone ?_|refine gOn rfl ?_|refine gOff rfl rfl ?_|refine gTup rfl ?_))
    rw [pst_no h2]
    exact ⟨rfl, rfl⟩
theorem rpst_w {s : SS} {l : List UInt8} (hF : Fine s) (hl : l.length ≤ 1000000) : CallW pr n_ref09_Parse [str l] s fun v s' => v = pRes (pstF l) ∧ s' = s := by
  refine CallW.run good ok_ref09_Parse (by simp) rfl ?_
  (repeat(first|refine pSeq ?_|refine pReg ?_|refine sCons ?_|refine sNil ?_|refine rCons ?_|refine rNil ?_|refine kNo ?_|refine pRow ?_|refine pSkip ?_|refine pRet ?_|refine pCond ?_|refine gNone ?_|refine gOn rfl ?_|refine gOff rfl rfl ?_|refine gTup rfl ?_))
  intro n hn
  (repeat(first|refine pSeq ?_|refine pReg ?_|refine sCons ?_|refine sNil ?_|refine rCons ?_|refine rNil ?_|refine kNo ?_|refine pRow ?_|refine pSkip ?_|refine pRet ?_|refine pCond ?_|refine gNone ?_|refine gOn rfl ?_|refine gOff rfl rfl ?_|refine gTup rfl ?_))
  intro q hq
  by_cases h2 : l.length = 2
  · obtain ⟨a, b, rfl⟩ := len_two h2
    have va := va_lt a
    have vb := va_lt b
    obtain rfl : n = 2 := hn
    obtain rfl : q = false := by rw [hq]; simp <;> omega
    (repeat(first|refine pSeq ?_|refine pReg ?_|refine sCons ?_|refine sNil ?_|refine rCons ?_|refine rNil ?_|refine kNo ?_|refine pRow ?_|refine pSkip ?_|refine pRet ?_|refine pCond ?_|refine gNone ?_|refine gOn rfl ?_|refine gOff rfl rfl ?_|refine gTup rfl ?_))
    refine ⟨by simp, ?_⟩
    intro m hm
    obtain rfl : m = 0 := by omega
    refine ⟨a, rfl, ?_⟩
    (repeat(first|refine pSeq ?_|refine pReg ?_|refine sCons ?_|refine sNil ?_|refine rCons ?_|refine rNil ?_|refine kNo ?_|refine pRow ?_|refine pSkip ?_|refine pRet ?_|refine pCond ?_|refine gNone ?_|refine gOn rfl ?_|refine gOff rfl rfl ?_|refine gTup rfl ?_))
    refine rvalue_w.mono fun v s q => ?_
    obtain ⟨rfl, rfl⟩ := q
    (repeat(first|refine pSeq ?_|refine pReg ?_|refine sCons ?_|refine sNil ?_|refine rCons ?_|refine rNil ?_|refine kNo ?_|refine pRow ?_|refine pSkip ?_|refine pRet ?_|refine pCond ?_|refine gNone ?_|refine gOn rfl ?_|refine gOff rfl rfl ?_|refine gTup rfl ?_))
    intro q hq
    by_cases ha : vaB a < 0
    · obtain rfl : q = true := by rw [hq]; simp <;> omega
      (repeat(first|refine pSeq ?_|refine pReg ?_|refine sCons ?_|refine sNil ?_|refine rCons ?_|refine rNil ?_|refine kNo ?_|refine pRow ?_|refine pSkip ?_|refine pRet ?_|refine pCond ?_|refine gNone ?_|refine gOn rfl ?_|refine gOff rfl rfl ?_|refine gTup rfl ?_))
      rw [pst_bad (.inl ha)]
      exact ⟨rfl, rfl⟩
    · obtain rfl : q = false := by rw [hq]; simp <;> omega
      (repeat(first|refine pSeq ?_|refine pReg ?_|refine sCons ?_|refine sNil ?_|refine rCons ?_|refine rNil ?_|refine kNo ?_|refine pRow ?_|refine pSkip ?_|refine pRet ?_|refine pCond ?_|refine gNone ?_|refine gOn rfl ?_|refine gOff rfl rfl ?_|refine gTup rfl ?_))
      refine ⟨by simp, ?_⟩
      intro m hm
      obtain rfl : m = 1 := by omega
      refine ⟨b, rfl, ?_⟩
      (repeat(first|refine pSeq ?_|refine pReg ?_|refine sCons ?_|refine sNil ?_|refine rCons ?_|refine rNil ?_|refine kNo ?_|refine pRow ?_|refine pSkip ?_|refine pRet ?_|refine pCond ?_|refine gNone ?_|refine gOn rfl ?_|refine gOff rfl rfl ?_|refine gTup rfl ?_))
      refine rvalue_w.mono fun v s q => ?_
      obtain ⟨rfl, rfl⟩ := q
      (repeat(first|refine pSeq ?_|refine pReg ?_|refine sCons ?_|refine sNil ?_|refine rCons ?_|refine rNil ?_|refine kNo ?_|refine pRow ?_|refine pSkip ?_|refine pRet ?_|refine pCond ?_|refine gNone ?_|refine gOn rfl ?_|refine gOff rfl rfl ?_|refine gTup rfl ?_))
      intro q hq
      by_cases hb : vaB b < 0
      · obtain rfl : q = true := by rw [hq]; simp <;> omega
        (repeat(first|refine pSeq ?_|refine pReg ?_|refine sCons ?_|refine sNil ?_|refine rCons ?_|refine rNil ?_|refine kNo ?_|refine pRow ?_|refine pSkip ?_|refine pRet ?_|refine pCond ?_|refine gNone ?_|refine gOn rfl ?_|refine gOff rfl rfl ?_|refine gTup rfl ?_))
        rw [pst_bad (.inr hb)]
        exact ⟨rfl, rfl⟩
      · obtain rfl : q = false := by rw [hq]; simp <;> omega
        (repeat(first|refine pSeq ?_|refine pReg ?_|refine sCons ?_|refine sNil ?_|refine rCons ?_|refine rNil ?_|refine kNo ?_|refine pRow ?_|refine pSkip ?_|refine pRet ?_|refine pCond ?_|refine gNone ?_|refine gOn rfl ?_|refine gOff rfl rfl ?_|refine gTup rfl ?_))
        refine ⟨by simp, ?_⟩
        intro m hm
        obtain rfl : m = 0 := by omega
        refine ⟨a, rfl, ?_⟩
        (repeat(first|refine pSeq ?_|refine pReg ?_|refine sCons ?_|refine sNil ?_|refine rCons ?_|refine rNil ?_|refine kNo ?_|refine pRow ?_|refine pSkip ?_|refine pRet ?_|refine pCond ?_|refine gNone ?_|refine gOn rfl ?_|refine gOff rfl rfl ?_|refine gTup rfl ?_))
        refine ⟨by simp, ?_⟩
        intro m hm
        obtain rfl : m = 1 := by omega
        refine ⟨b, rfl, ?_⟩
        (repeat(first|refine pSeq ?_|refine pReg ?_|refine sCons ?_|refine sNil ?_|refine rCons ?_|refine rNil ?_|refine kNo ?_|refine pRow ?_|refine pSkip ?_|refine pRet ?_|refine pCond ?_|refine gNone ?_|refine gOn rfl ?_|refine gOff rfl rfl ?_|refine gTup rfl ?_))
        refine rvalue_w.mono fun v s q => ?_
        obtain ⟨rfl, rfl⟩ := q
        (repeat(first|refine pSeq ?_|refine pReg ?_|refine sCons ?_|refine sNil ?_|refine rCons ?_|refine rNil ?_|refine kNo ?_|refine pRow ?_|refine pSkip ?_|refine pRet ?_|refine pCond ?_|refine gNone ?_|refine gOn rfl ?_|refine gOff rfl rfl ?_|refine gTup rfl ?_))
        intro z1 g1
        rw [i64_id (by omega)] at g1
        (repeat(first|refine pSeq ?_|refine pReg ?_|refine sCons ?_|refine sNil ?_|refine rCons ?_|refine rNil ?_|refine kNo ?_|refine pRow ?_|refine pSkip ?_|refine pRet ?_|refine pCond ?_|refine gNone ?_|refine gOn rfl ?_|refine gOff rfl rfl ?_|refine gTup rfl ?_))
        refine rvalue_w.mono fun v s q => ?_
        obtain ⟨rfl, rfl⟩ := q
        (repeat(first|refine pSeq ?_|refine pReg ?_|refine sCons ?_|refine sNil ?_|refine rCons ?_|refine rNil ?_|refine kNo ?_|refine pRow ?_|refine pSkip ?_|refine pRet ?_|refine pCond ?_|refine gNone ?_|refine gOn rfl ?_|refine gOff rfl rfl ?_|refine gTup rfl ?_))
        intro z2 g2
        rw [i64_id (by omega)] at g2
        (repeat(first|refine pSeq ?_|refine pReg ?_|refine sCons ?_|refine sNil ?_|refine rCons ?_|refine rNil ?_|refine kNo ?_|refine pRow ?_|refine pSkip ?_|refine pRet ?_|refine pCond ?_|refine gNone ?_|refine gOn rfl ?_|refine gOff rfl rfl ?_|refine gTup rfl ?_))
        rw [pst_two (fun q => by omega)]
        rw [show z2 = (((32 * vaB a + vaB b).toNat : Nat) : Int) by omega]
        exact ⟨rfl, rfl⟩
  · obtain rfl : q = true := by rw [hq]; simp <;> omega
    (repeat(first|refine pSeq ?_|refine pReg ?_|refine sCons ?_|refine sNil ?_|refine rCons ?_|refine rNil ?_|refine kNo ?_|refine pRow ?_|refine pSkip ?_|refine pRet ?_|refine pCond ?_|refine gNone ?_|refine gOn rfl ?_|refine gOff rfl rfl ?_|refine gTup rfl ?_))
    rw [pst_no h2]
    exact ⟨rfl, rfl⟩
end Go.Vf.S
end
/- SmJ -/
section
/- A date's text, read: its parts, one after the other. -/
namespace Go.Vf.S
open Go Go.Vf Go.Proofs
attribute [local irreducible] wSeq wRow wp wG
set_option linter.unusedVariables false
set_option linter.unusedSimpArgs false
set_option maxRecDepth 10000

abbrev tSrd : TypeId := 83
/-- A reader: what is left, and whether something else stood there. -/
def RdA (s : SS) (b : Nat) (r : List UInt8) (w : Bool) : Prop := lookH s.heap b = some (.cells [str r, .bool w] tSrd false false)
theorem RdA.chg {s s' : SS} {b : Nat} {r : List UInt8} {w : Bool} {A : List Nat} (h : RdA s b r w) (hb : b < s.next) (c : Chg s s' A) (hA : b ∉ A) : RdA s' b r w := c.blk _ _ hb hA h
theorem opdG {T : TL} {gl g : Nat} (hg : g < gl) : opd T gl (.global g) = some (.pointer (some ⟨g, 0, none⟩)) := by
  have hb : Nat.blt g gl = true := by rw [Nat.blt_eq]; exact hg
  simp only [opd, hb, cond_true]

/-! ### A text that must stand there -/
def TkR (p r : List UInt8) (w : Bool) (r' : List UInt8) (w' : Bool) : Prop :=
  (∀ X, w = false → r = p ++ X → r' = X ∧ w' = false) ∧ (w' = false → w = false ∧ r = p ++ r') ∧ r'.length ≤ r.length
theorem has_w {s : SS} {b : Nat} {r p : List UInt8} {w : Bool} (hb : b < s.next) (h : RdA s b r w) : CallW pr n_stamp_reader_has [.pointer (some ⟨b, 0, none⟩), str p] s fun v s' => v = .bool (decide (r.take p.length = p)) ∧ RdA s' b (if r.take p.length = p then r.drop p.length else r) w ∧ Chg s s' [b] := by
  refine CallW.run good ok_stamp_reader_has (by simp) rfl ?_
  (repeat(first|refine pSeq ?_|refine pReg ?_|refine sCons ?_|refine sNil ?_|refine pRet ?_|refine gNone ?_))
  refine ldS_is rfl h rfl ?_
  (repeat(first|refine pSeq ?_|refine pReg ?_|refine sCons ?_|refine sNil ?_|refine pRet ?_|refine gNone ?_))
  refine cutP_w.mono fun v s q => ?_
  obtain ⟨rfl, rfl⟩ := q
  (repeat(first|refine pSeq ?_|refine pReg ?_|refine sCons ?_|refine sNil ?_|refine pRet ?_|refine gNone ?_))
  refine st_abs (cs' := [str (if r.take p.length = p then r.drop p.length else r), .bool w]) rfl rfl h hb rfl rfl fun s1 e1 c1 n1 => ?_
  (repeat(first|refine pSeq ?_|refine pReg ?_|refine sCons ?_|refine sNil ?_|refine pRet ?_|refine gNone ?_))
  exact ⟨rfl, e1, c1⟩
theorem tk_yes {p r : List UInt8} {w : Bool} (h : r.take p.length = p) : TkR p r w (r.drop p.length) w := by
  refine ⟨fun X hw hX => ⟨?_, hw⟩, fun hw => ⟨hw, ?_⟩, by rw [List.length_drop]; omega⟩
  · rw [hX]; simp
  · have := List.take_append_drop p.length r
    rw [h] at this
    exact this.symm
theorem tk_no {p r : List UInt8} {w : Bool} (h : ¬ r.take p.length = p) : TkR p r w r true := by
  refine ⟨fun X hw hX => absurd ?_ h, fun hw => (by cases hw), Nat.le_refl _⟩
  rw [hX]; simp
theorem rdtake_w {s : SS} {b : Nat} {r p : List UInt8} {w : Bool} (hb : b < s.next) (h : RdA s b r w) : CallW pr n_stamp_reader_take [.pointer (some ⟨b, 0, none⟩), str p] s fun v s' => ∃ r' w', RdA s' b r' w' ∧ TkR p r w r' w' ∧ Chg s s' [b] := by
  refine CallW.run good ok_stamp_reader_take (by simp) rfl ?_
  (repeat(first|refine pSeq ?_|refine pReg ?_|refine sCons ?_|refine sNil ?_|refine pSkip ?_|refine pCond ?_|refine gNone ?_))
  refine (has_w hb h).mono fun v s1 q => ?_
  obtain ⟨rfl, h1, c1⟩ := q
  have hb1 : b < s1.next := Nat.lt_of_lt_of_le hb c1.next
  (repeat(first|refine pSeq ?_|refine pReg ?_|refine sCons ?_|refine sNil ?_|refine pSkip ?_|refine pCond ?_|refine gNone ?_))
  intro q hq
  by_cases hp : r.take p.length = p
  · obtain rfl : q = false := by rw [hq, decide_eq_true hp]; rfl
    rw [if_pos hp] at h1
    (repeat(first|refine pSeq ?_|refine pReg ?_|refine sCons ?_|refine sNil ?_|refine pSkip ?_|refine pCond ?_|refine gNone ?_))
    exact ⟨_, _, h1, tk_yes hp, c1⟩
  · obtain rfl : q = true := by rw [hq, decide_eq_false hp]; rfl
    rw [if_neg hp] at h1
    (repeat(first|refine pSeq ?_|refine pReg ?_|refine sCons ?_|refine sNil ?_|refine pSkip ?_|refine pCond ?_|refine gNone ?_))
    refine st_abs (cs' := [str r, .bool true]) rfl rfl h1 hb1 rfl rfl fun s2 e2 c2 n2 => ?_
    (repeat(first|refine pSeq ?_|refine pReg ?_|refine sCons ?_|refine sNil ?_|refine pSkip ?_|refine pCond ?_|refine gNone ?_))
    exact ⟨_, _, e2, tk_no hp, (c1.trans c2).sub (by simp)⟩

/-! ### A weekday's name -/
def WkR (r : List UInt8) (w : Bool) (r' : List UInt8) (w' : Bool) : Prop :=
  (∀ i X, i < 7 → w = false → r = wkT i ++ X → r' = X ∧ w' = false) ∧ (w' = false → w = false ∧ ∃ i, i < 7 ∧ r = wkT i ++ r') ∧ r'.length ≤ r.length
theorem ix_wk {T : TL} {s : SS} {x i : Tmp} {n : Nat} (hx : look T x = some (.agg ⟨wkV⟩)) (hi : look T i = some (.int .i64 n)) (hn : n < 7) : aOp pr (toTr T) s.st (.index 53 (.tmp x) (.tmp i)) = some (RR.val (str (wkT n))).toN := by
  have e1 : operand (toTr T) s.st (.tmp x) = some (.agg ⟨wkV⟩) := by simp only [operand, toTr_get]; exact hx
  have e2 : operand (toTr T) s.st (.tmp i) = some (.int .i64 n) := by simp only [operand, toTr_get]; exact hi
  have e3 : pr.underlying 53 = some (.array 7 tS) := by kernel_rfl
  have e4 : sizeB pr tS = some 1 := by kernel_rfl
  simp only [aOp, e1, e2, e3, e4]
  have : n = 0 ∨ n = 1 ∨ n = 2 ∨ n = 3 ∨ n = 4 ∨ n = 5 ∨ n = 6 := by omega
  rcases this with rfl | rfl | rfl | rfl | rfl | rfl | rfl <;> rfl
theorem weekday_w {s : SS} {b : Nat} {r : List UInt8} {w : Bool} (hG : Gst s) (hb : b < s.next) (h : RdA s b r w) : CallW pr n_stamp_reader_weekday [.pointer (some ⟨b, 0, none⟩)] s fun v s' => ∃ r' w', RdA s' b r' w' ∧ WkR r w r' w' ∧ Chg s s' [b] := by
  refine CallW.run good ok_stamp_reader_weekday (by simp) rfl ?_
  (repeat(first|refine pSeq ?_|refine pReg ?_|refine sCons ?_|refine sNil ?_|refine pBlock ?_|refine pSkip ?_|refine pExit ?_|refine pRet ?_|refine pCond ?_|refine gNone ?_))
  refine ldN_is (new := wkV) (opdG hG.g0) hG.b0 rfl ?_
  (repeat(first|refine pSeq ?_|refine pReg ?_|refine sCons ?_|refine sNil ?_|refine pBlock ?_|refine pSkip ?_|refine pExit ?_|refine pRet ?_|refine pCond ?_|refine gNone ?_))
  refine pLoop (MW.head good (fun x : Nat × SS => 7 - x.1) (fun x => x.1 ≤ 7 ∧ (∀ j, j < x.1 → ¬ r.take 3 = wkT j) ∧ RdA x.2 b r w ∧ Chg s x.2 [b]) (fun x => [(0, .pointer (some ⟨b, 0, none⟩)), (4, .agg ⟨wkV⟩), (5, .int .i64 x.1)]) (fun x => x.2) (0, s) ⟨by omega, fun j hj => absurd hj (by dsimp only; omega), h, .refl _ _⟩ (Wk.same ⟨rfl, rfl, rfl, trivial⟩) ?_)
  intro ⟨i, s1⟩ ⟨hi, hj, h1, c1⟩
  dsimp only at hi hj h1 c1 ⊢
  have hb1 : b < s1.next := Nat.lt_of_lt_of_le hb c1.next
  (repeat(first|refine pSeq ?_|refine pReg ?_|refine sCons ?_|refine sNil ?_|refine pBlock ?_|refine pSkip ?_|refine pExit ?_|refine pRet ?_|refine pCond ?_|refine gNone ?_))
  intro q hq
  by_cases h7 : i < 7
  · have hl3 := wk_len h7
    obtain rfl : q = true := by rw [hq]; simp <;> omega
    (repeat(first|refine pSeq ?_|refine pReg ?_|refine sCons ?_|refine sNil ?_|refine pBlock ?_|refine pSkip ?_|refine pExit ?_|refine pRet ?_|refine pCond ?_|refine gNone ?_))
    refine ⟨.val (str (wkT i)), ix_wk rfl rfl h7, ?_⟩
    (repeat(first|refine pSeq ?_|refine pReg ?_|refine sCons ?_|refine sNil ?_|refine pBlock ?_|refine pSkip ?_|refine pExit ?_|refine pRet ?_|refine pCond ?_|refine gNone ?_))
    refine (has_w hb1 h1).mono fun v s2 q => ?_
    obtain ⟨rfl, h2, c2⟩ := q
    have hb2 : b < s2.next := Nat.lt_of_lt_of_le hb1 c2.next
    rw [hl3] at h2 ⊢
    by_cases hp : r.take 3 = wkT i
    · rw [decide_eq_true hp]
      rw [if_pos hp] at h2
      (repeat(first|refine pSeq ?_|refine pReg ?_|refine sCons ?_|refine sNil ?_|refine pBlock ?_|refine pSkip ?_|refine pExit ?_|refine pRet ?_|refine pCond ?_|refine gNone ?_))
      refine ⟨_, _, h2, ⟨fun k X hk hw hX => ?_, fun hw => ⟨hw, i, h7, ?_⟩, by rw [List.length_drop]; omega⟩, (c1.trans c2).sub (by simp)⟩
      · have e := wk_len hk
        subst hX
        rw [show (wkT k ++ X).take 3 = wkT k by rw [← e]; simp] at hp
        obtain rfl := wk_one hk h7 hp
        exact ⟨by rw [← e]; simp, hw⟩
      · have := List.take_append_drop 3 r
        rw [hp] at this
        exact this.symm
    · rw [decide_eq_false hp]
      rw [if_neg hp] at h2
      (repeat(first|refine pSeq ?_|refine pReg ?_|refine sCons ?_|refine sNil ?_|refine pBlock ?_|refine pSkip ?_|refine pExit ?_|refine pRet ?_|refine pCond ?_|refine gNone ?_))
      intro z hz
      rw [i64_id (by omega)] at hz
      obtain rfl : z = ((i + 1 : Nat) : Int) := by omega
      (repeat(first|refine pSeq ?_|refine pReg ?_|refine sCons ?_|refine sNil ?_|refine pBlock ?_|refine pSkip ?_|refine pExit ?_|refine pRet ?_|refine pCond ?_|refine gNone ?_))
      exact ⟨(i + 1, s2), ⟨h7, fun j hj' => by
        rcases Nat.lt_or_ge j i with q | q
        · exact hj j q
        · obtain rfl : j = i := by dsimp only at hj'; omega
          exact hp, h2, (c1.trans c2).sub (by simp)⟩, by show 7 - (i + 1) < 7 - i; omega, Wk.same ⟨rfl, rfl, rfl, trivial⟩⟩
  · obtain rfl : q = false := by rw [hq]; simp <;> omega
    (repeat(first|refine pSeq ?_|refine pReg ?_|refine sCons ?_|refine sNil ?_|refine pBlock ?_|refine pSkip ?_|refine pExit ?_|refine pRet ?_|refine pCond ?_|refine gNone ?_))
    refine st_abs (cs' := [str r, .bool true]) rfl rfl h1 hb1 rfl rfl fun s2 e2 c2 n2 => ?_
    (repeat(first|refine pSeq ?_|refine pReg ?_|refine sCons ?_|refine sNil ?_|refine pBlock ?_|refine pSkip ?_|refine pExit ?_|refine pRet ?_|refine pCond ?_|refine gNone ?_))
    refine ⟨_, _, e2, ⟨fun k X hk hw hX => absurd ?_ (hj k (by omega)), fun hw => (by cases hw), Nat.le_refl _⟩, (c1.trans c2).sub (by simp)⟩
    rw [hX, ← wk_len hk]
    simp

/-! ### A month's name -/
def MoR (r : List UInt8) (w : Bool) (v : Nat) (r' : List UInt8) (w' : Bool) : Prop :=
  (∀ i X, i < 12 → w = false → r = moT i ++ X → r' = X ∧ w' = false ∧ v = i) ∧ (w' = false → w = false ∧ v < 12 ∧ r = moT v ++ r') ∧ r'.length ≤ r.length ∧ v < 12
abbrev moAt (m : Nat) : Value := .agg ⟨[str (moT m), .int .i64 (ml0 m)]⟩
theorem ix_mo {T : TL} {s : SS} {x i : Tmp} {n : Nat} (hx : look T x = some (.agg ⟨moV⟩)) (hi : look T i = some (.int .i64 n)) (hn : n < 12) : aOp pr (toTr T) s.st (.index 56 (.tmp x) (.tmp i)) = some (RR.val (moAt n)).toN := by
  have e1 : operand (toTr T) s.st (.tmp x) = some (.agg ⟨moV⟩) := by simp only [operand, toTr_get]; exact hx
  have e2 : operand (toTr T) s.st (.tmp i) = some (.int .i64 n) := by simp only [operand, toTr_get]; exact hi
  have e3 : pr.underlying 56 = some (.array 12 tMo) := by kernel_rfl
  have e4 : sizeB pr tMo = some 2 := by kernel_rfl
  simp only [aOp, e1, e2, e3, e4]
  have : n = 0 ∨ n = 1 ∨ n = 2 ∨ n = 3 ∨ n = 4 ∨ n = 5 ∨ n = 6 ∨ n = 7 ∨ n = 8 ∨ n = 9 ∨ n = 10 ∨ n = 11 := by omega
  rcases this with rfl | rfl | rfl | rfl | rfl | rfl | rfl | rfl | rfl | rfl | rfl | rfl <;> rfl
theorem month_w {s : SS} {b : Nat} {r : List UInt8} {w : Bool} (hG : Gst s) (hb : b < s.next) (h : RdA s b r w) : CallW pr n_stamp_reader_month [.pointer (some ⟨b, 0, none⟩)] s fun v s' => ∃ (n : Nat) (r' : List UInt8) (w' : Bool), v = .int .i64 n ∧ RdA s' b r' w' ∧ MoR r w n r' w' ∧ Chg s s' [b] := by
  refine CallW.run good ok_stamp_reader_month (by simp) rfl ?_
  (repeat(first|refine pSeq ?_|refine pReg ?_|refine sCons ?_|refine sNil ?_|refine pBlock ?_|refine pSkip ?_|refine pExit ?_|refine pRet ?_|refine pCond ?_|refine gNone ?_))
  refine ldN_is (new := moV) (opdG hG.g1) hG.b1 rfl ?_
  (repeat(first|refine pSeq ?_|refine pReg ?_|refine sCons ?_|refine sNil ?_|refine pBlock ?_|refine pSkip ?_|refine pExit ?_|refine pRet ?_|refine pCond ?_|refine gNone ?_))
  refine pLoop (MW.head good (fun x : Nat × SS => 12 - x.1) (fun x => x.1 ≤ 12 ∧ (∀ j, j < x.1 → ¬ r.take 3 = moT j) ∧ RdA x.2 b r w ∧ Chg s x.2 [b]) (fun x => [(0, .pointer (some ⟨b, 0, none⟩)), (5, .agg ⟨moV⟩), (6, .int .i64 x.1)]) (fun x => x.2) (0, s) ⟨by omega, fun j hj => absurd hj (by dsimp only; omega), h, .refl _ _⟩ (Wk.same ⟨rfl, rfl, rfl, trivial⟩) ?_)
  intro ⟨i, s1⟩ ⟨hi, hj, h1, c1⟩
  dsimp only at hi hj h1 c1 ⊢
  have hb1 : b < s1.next := Nat.lt_of_lt_of_le hb c1.next
  (repeat(first|refine pSeq ?_|refine pReg ?_|refine sCons ?_|refine sNil ?_|refine pBlock ?_|refine pSkip ?_|refine pExit ?_|refine pRet ?_|refine pCond ?_|refine gNone ?_))
  intro q hq
  by_cases h7 : i < 12
  · have hl3 := mo_len h7
    obtain rfl : q = true := by rw [hq]; simp <;> omega
    (repeat(first|refine pSeq ?_|refine pReg ?_|refine sCons ?_|refine sNil ?_|refine pBlock ?_|refine pSkip ?_|refine pExit ?_|refine pRet ?_|refine pCond ?_|refine gNone ?_))
    refine ⟨.val (moAt i), ix_mo rfl rfl h7, ?_⟩
    (repeat(first|refine pSeq ?_|refine pReg ?_|refine sCons ?_|refine sNil ?_|refine pBlock ?_|refine pSkip ?_|refine pExit ?_|refine pRet ?_|refine pCond ?_|refine gNone ?_))
    have cn : Chg s1 ⟨(s1.next, some (.cells [str [], .int .i64 0] tMo false false)) :: s1.heap, s1.next + 1, s1.gl⟩ [] := .new []
    refine st_abs (cs' := [str (moT i), .int .i64 (ml0 i)]) rfl rfl lkH (Nat.lt_succ_self _) rfl rfl fun s2 e2 c2 n2 => ?_
    (repeat(first|refine pSeq ?_|refine pReg ?_|refine sCons ?_|refine sNil ?_|refine pBlock ?_|refine pSkip ?_|refine pExit ?_|refine pRet ?_|refine pCond ?_|refine gNone ?_))
    refine ldS_is rfl e2 rfl ?_
    (repeat(first|refine pSeq ?_|refine pReg ?_|refine sCons ?_|refine sNil ?_|refine pBlock ?_|refine pSkip ?_|refine pExit ?_|refine pRet ?_|refine pCond ?_|refine gNone ?_))
    have hnb : b ≠ s1.next := by omega
    have h2 : RdA s2 b r w := RdA.chg (s := ⟨(s1.next, some (.cells [str [], .int .i64 0] tMo false false)) :: s1.heap, s1.next + 1, s1.gl⟩) (h1.chg hb1 cn (by simp)) (Nat.lt_succ_of_lt hb1) c2 (by simp; omega)
    have c12 : Chg s1 s2 [] := cn.fresh c2 (by simp)
    have hb2 : b < s2.next := Nat.lt_of_lt_of_le hb1 c12.next
    refine (has_w hb2 h2).mono fun v s3 q => ?_
    obtain ⟨rfl, h3, c3⟩ := q
    have hb3 : b < s3.next := Nat.lt_of_lt_of_le hb2 c3.next
    have c13 : Chg s s3 [b] := ((c1.trans c12).trans c3).sub (by simp)
    rw [hl3] at h3 ⊢
    by_cases hp : r.take 3 = moT i
    · rw [decide_eq_true hp]
      rw [if_pos hp] at h3
      (repeat(first|refine pSeq ?_|refine pReg ?_|refine sCons ?_|refine sNil ?_|refine pBlock ?_|refine pSkip ?_|refine pExit ?_|refine pRet ?_|refine pCond ?_|refine gNone ?_))
      refine ⟨i, _, _, rfl, h3, ⟨fun k X hk hw hX => ?_, fun hw => ⟨hw, h7, ?_⟩, by rw [List.length_drop]; omega, h7⟩, c13⟩
      · have e := mo_len hk
        subst hX
        rw [show (moT k ++ X).take 3 = moT k by rw [← e]; simp] at hp
        obtain rfl := mo_one hk h7 hp
        exact ⟨by rw [← e]; simp, hw, rfl⟩
      · have := List.take_append_drop 3 r
        rw [hp] at this
        exact this.symm
    · rw [decide_eq_false hp]
      rw [if_neg hp] at h3
      (repeat(first|refine pSeq ?_|refine pReg ?_|refine sCons ?_|refine sNil ?_|refine pBlock ?_|refine pSkip ?_|refine pExit ?_|refine pRet ?_|refine pCond ?_|refine gNone ?_))
      intro z hz
      rw [i64_id (by omega)] at hz
      obtain rfl : z = ((i + 1 : Nat) : Int) := by omega
      (repeat(first|refine pSeq ?_|refine pReg ?_|refine sCons ?_|refine sNil ?_|refine pBlock ?_|refine pSkip ?_|refine pExit ?_|refine pRet ?_|refine pCond ?_|refine gNone ?_))
      exact ⟨(i + 1, s3), ⟨h7, fun j hj' => by
        rcases Nat.lt_or_ge j i with q | q
        · exact hj j q
        · obtain rfl : j = i := by dsimp only at hj'; omega
          exact hp, h3, c13⟩, by show 12 - (i + 1) < 12 - i; omega, Wk.same ⟨rfl, rfl, rfl, trivial⟩⟩
  · obtain rfl : q = false := by rw [hq]; simp <;> omega
    (repeat(first|refine pSeq ?_|refine pReg ?_|refine sCons ?_|refine sNil ?_|refine pBlock ?_|refine pSkip ?_|refine pExit ?_|refine pRet ?_|refine pCond ?_|refine gNone ?_))
    refine st_abs (cs' := [str r, .bool true]) rfl rfl h1 hb1 rfl rfl fun s2 e2 c2 n2 => ?_
    (repeat(first|refine pSeq ?_|refine pReg ?_|refine sCons ?_|refine sNil ?_|refine pBlock ?_|refine pSkip ?_|refine pExit ?_|refine pRet ?_|refine pCond ?_|refine gNone ?_))
    refine ⟨0, _, _, rfl, e2, ⟨fun k X hk hw hX => absurd ?_ (hj k (by omega)), fun hw => (by cases hw), Nat.le_refl _, by decide⟩, (c1.trans c2).sub (by simp)⟩
    rw [hX, ← mo_len hk]
    simp
end Go.Vf.S
end
/- SmK -/
section
/- A date's text, read: its numbers; all of it. -/
namespace Go.Vf.S
open Go Go.Vf Go.Proofs
attribute [local irreducible] wSeq wRow wp wG
set_option linter.unusedVariables false
set_option linter.unusedSimpArgs false
set_option maxRecDepth 10000

theorem vl_lt : ∀ (n : Nat) (l : List UInt8), l.length = n → l.all dgt = true → vl l < 10 ^ n
  | 0, l, hl, _ => by
    obtain rfl : l = [] := List.length_eq_zero_iff.1 hl
    decide
  | n + 1, l, hl, ha => by
    obtain ⟨l', c, rfl⟩ : ∃ l' c, l = l' ++ [c] := ⟨l.dropLast, l.getLast (by intro e; rw [e] at hl; cases hl), (List.dropLast_concat_getLast _).symm⟩
    rw [List.all_append, Bool.and_eq_true] at ha
    have hc : 48 ≤ c.toNat ∧ c.toNat ≤ 57 := by simpa [dgt] using ha.2
    have := vl_lt n l' (by simpa using hl) ha.1
    rw [vl_next, Nat.pow_succ]
    omega
theorem vl_10 {l : List UInt8} {k : Nat} (ha : l.all dgt = true) (hl : l.length ≤ k) : vl l < 10 ^ k := Nat.lt_of_lt_of_le (vl_lt _ l rfl ha) (Nat.pow_le_pow_right (by omega) hl)
def NmR (lo hi : Nat) (r : List UInt8) (w : Bool) (v : Nat) (r' : List UInt8) (w' : Bool) : Prop :=
  (∀ d X, w = false → r = d ++ X → d.all dgt = true → lo ≤ d.length → d.length ≤ hi → (lo < d.length → d.head? ≠ some 48) → (d.length = hi ∨ ∀ c, X.head? = some c → dgt c = false) → r' = X ∧ w' = false ∧ v = vl d) ∧
  (w' = false → w = false ∧ ∃ d, r = d ++ r' ∧ d.all dgt = true ∧ lo ≤ d.length ∧ d.length ≤ hi ∧ (lo < d.length → d.head? ≠ some 48) ∧ v = vl d) ∧ r'.length ≤ r.length ∧ v < 10 ^ hi
/-- The digits in front, so many at most: how many, and nothing else. -/
theorem run_one {r d X : List UInt8} {p hi : Nat} (hp : p ≤ hi) (hl : p ≤ r.length) (ha : (r.take p).all dgt = true) (he : p = hi ∨ p = r.length ∨ ∃ c, r[p]? = some c ∧ dgt c = false)
    (hr : r = d ++ X) (hd : d.all dgt = true) (hdl : d.length ≤ hi) (hX : d.length = hi ∨ ∀ c, X.head? = some c → dgt c = false) : p = d.length := by
  rcases Nat.lt_trichotomy p d.length with q | q | q
  · exfalso
    have hrl : d.length ≤ r.length := by rw [hr, List.length_append]; omega
    rcases he with e | e | ⟨c, e, e2⟩
    · omega
    · omega
    · rw [hr, List.getElem?_append_left q] at e
      have := List.all_eq_true.1 hd c (List.mem_of_getElem? e)
      rw [e2] at this
      cases this
  · exact q
  · exfalso
    rcases hX with e | e
    · omega
    · have hlx : d.length < r.length := by omega
      obtain ⟨c, hc⟩ : ∃ c, r[d.length]? = some c := ⟨_, List.getElem?_eq_getElem hlx⟩
      have h1 : (r.take p)[d.length]? = some c := by rw [List.getElem?_take, if_pos q]; exact hc
      have h2 := List.all_eq_true.1 ha c (List.mem_of_getElem? h1)
      have h3 : X.head? = some c := by
        rw [hr, List.getElem?_append_right (Nat.le_refl _), Nat.sub_self] at hc
        rw [List.head?_eq_getElem?]
        exact hc
      rw [e c h3] at h2
      cases h2
theorem head_tk {r : List UInt8} {p : Nat} (h : 0 < p) : (r.take p).head? = r.head? := by
  cases r with
  | nil => simp
  | cons a r => cases p with
    | zero => omega
    | succ p => rfl

set_option maxHeartbeats 1000000 in
theorem rdnum_w {s : SS} {b lo hi : Nat} {r : List UInt8} {w : Bool} (hb : b < s.next) (h : RdA s b r w) (hr : r.length ≤ 1000000) (hh : hi ≤ 10) (hlo : lo ≤ hi) :
    CallW pr n_stamp_reader_number [.pointer (some ⟨b, 0, none⟩), .int .i64 lo, .int .i64 hi] s fun v s' => ∃ (n : Nat) (r' : List UInt8) (w' : Bool), v = .int .i64 n ∧ RdA s' b r' w' ∧ NmR lo hi r w n r' w' ∧ Chg s s' [b] := by
  refine CallW.run good ok_stamp_reader_number (by simp) rfl ?_
  have tail : ∀ p : Nat, p ≤ hi → p ≤ r.length → (r.take p).all dgt = true → (p = hi ∨ p = r.length ∨ ∃ c, r[p]? = some c ∧ dgt c = false) →
      (¬(p < lo ∨ (lo < p ∧ r.head? = some 48)) → NmR lo hi r w (vl (r.take p)) (r.drop p) w) ∧ ((p < lo ∨ (lo < p ∧ r.head? = some 48)) → NmR lo hi r w 0 r true) := fun p hp hl ha he => by
    have hpl : (r.take p).length = p := by rw [List.length_take]; omega
    refine ⟨fun hn => ⟨fun d X hw hX hd h1 h2 h3 h4 => ?_, fun hw => ⟨hw, r.take p, ?_, ha, by omega, by omega, fun q => ?_, rfl⟩, by rw [List.length_drop]; omega, vl_10 ha (by omega)⟩, fun hn => ⟨fun d X hw hX hd h1 h2 h3 h4 => ?_, fun hw => (by cases hw), Nat.le_refl _, Nat.pow_pos (by omega)⟩⟩
    · obtain rfl := run_one hp hl ha he hX hd h2 h4
      refine ⟨by rw [hX]; simp, hw, by rw [hX]; simp⟩
    · exact (List.take_append_drop p r).symm
    · rw [hpl] at q
      rw [head_tk (by omega)]
      exact fun e => hn (.inr ⟨q, e⟩)
    · exfalso
      obtain rfl := run_one hp hl ha he hX hd h2 h4
      rcases hn with q | ⟨q1, q2⟩
      · omega
      · refine h3 q1 ?_
        rw [← q2, hX]
        cases d with
        | nil => simp at q1
        | cons a d => rfl
  (repeat(first|refine pSeq ?_|refine pReg ?_|refine sCons ?_|refine sNil ?_|refine pBlock ?_|refine pSkip ?_|refine pExit ?_|refine pRet ?_|refine pCond ?_|refine gNone ?_|refine gOn rfl ?_|refine gOff rfl rfl ?_|refine gTup rfl ?_))
  refine pLoop (MW.head good (fun p : Nat => hi - p) (fun p => p ≤ hi ∧ p ≤ r.length ∧ (r.take p).all dgt = true) (fun p => [(0, .pointer (some ⟨b, 0, none⟩)), (1, .int .i64 lo), (2, .int .i64 hi), (7, .int .i64 (vl (r.take p))), (8, .int .i64 p)]) (fun _ => s) 0 ⟨Nat.zero_le _, Nat.zero_le _, rfl⟩ (Wk.same ⟨rfl, rfl, rfl, rfl, rfl, trivial⟩) ?_)
  intro p ⟨hp, hl, ha⟩
  have hvl := vl_10 ha (k := 10) (by rw [List.length_take]; omega)
  (repeat(first|refine pSeq ?_|refine pReg ?_|refine sCons ?_|refine sNil ?_|refine pBlock ?_|refine pSkip ?_|refine pExit ?_|refine pRet ?_|refine pCond ?_|refine gNone ?_|refine gOn rfl ?_|refine gOff rfl rfl ?_|refine gTup rfl ?_))
  refine ldS_is rfl h rfl ?_
  (repeat(first|refine pSeq ?_|refine pReg ?_|refine sCons ?_|refine sNil ?_|refine pBlock ?_|refine pSkip ?_|refine pExit ?_|refine pRet ?_|refine pCond ?_|refine gNone ?_|refine gOn rfl ?_|refine gOff rfl rfl ?_|refine gTup rfl ?_))
  intro n hn
  (repeat(first|refine pSeq ?_|refine pReg ?_|refine sCons ?_|refine sNil ?_|refine pBlock ?_|refine pSkip ?_|refine pExit ?_|refine pRet ?_|refine pCond ?_|refine gNone ?_|refine gOn rfl ?_|refine gOff rfl rfl ?_|refine gTup rfl ?_))
  intro z hz
  (repeat(first|refine pSeq ?_|refine pReg ?_|refine sCons ?_|refine sNil ?_|refine pBlock ?_|refine pSkip ?_|refine pExit ?_|refine pRet ?_|refine pCond ?_|refine gNone ?_|refine gOn rfl ?_|refine gOff rfl rfl ?_|refine gTup rfl ?_))
  intro q hq
  by_cases hin : p < hi ∧ p < r.length
  · obtain ⟨hp1, hl1⟩ := hin
    obtain ⟨c, hc⟩ : ∃ c, r[p]? = some c := ⟨_, List.getElem?_eq_getElem hl1⟩
    obtain rfl : q = true := by rw [hq]; simp <;> omega
    (repeat(first|refine pSeq ?_|refine pReg ?_|refine sCons ?_|refine sNil ?_|refine pBlock ?_|refine pSkip ?_|refine pExit ?_|refine pRet ?_|refine pCond ?_|refine gNone ?_|refine gOn rfl ?_|refine gOff rfl rfl ?_|refine gTup rfl ?_))
    refine ldS_is rfl h rfl ?_
    (repeat(first|refine pSeq ?_|refine pReg ?_|refine sCons ?_|refine sNil ?_|refine pBlock ?_|refine pSkip ?_|refine pExit ?_|refine pRet ?_|refine pCond ?_|refine gNone ?_|refine gOn rfl ?_|refine gOff rfl rfl ?_|refine gTup rfl ?_))
    refine ⟨by omega, ?_⟩
    intro m hm
    obtain rfl : m = p := by omega
    refine ⟨c, hc, ?_⟩
    (repeat(first|refine pSeq ?_|refine pReg ?_|refine sCons ?_|refine sNil ?_|refine pBlock ?_|refine pSkip ?_|refine pExit ?_|refine pRet ?_|refine pCond ?_|refine gNone ?_|refine gOn rfl ?_|refine gOff rfl rfl ?_|refine gTup rfl ?_))
    intro q hq
    by_cases h48 : 48 ≤ c.toNat
    · obtain rfl : q = true := by rw [hq]; simp <;> omega
      (repeat(first|refine pSeq ?_|refine pReg ?_|refine sCons ?_|refine sNil ?_|refine pBlock ?_|refine pSkip ?_|refine pExit ?_|refine pRet ?_|refine pCond ?_|refine gNone ?_|refine gOn rfl ?_|refine gOff rfl rfl ?_|refine gTup rfl ?_))
      refine ldS_is rfl h rfl ?_
      (repeat(first|refine pSeq ?_|refine pReg ?_|refine sCons ?_|refine sNil ?_|refine pBlock ?_|refine pSkip ?_|refine pExit ?_|refine pRet ?_|refine pCond ?_|refine gNone ?_|refine gOn rfl ?_|refine gOff rfl rfl ?_|refine gTup rfl ?_))
      refine ⟨by omega, ?_⟩
      intro p hm
      obtain rfl : p = m := by omega
      refine ⟨c, hc, ?_⟩
      (repeat(first|refine pSeq ?_|refine pReg ?_|refine sCons ?_|refine sNil ?_|refine pBlock ?_|refine pSkip ?_|refine pExit ?_|refine pRet ?_|refine pCond ?_|refine gNone ?_|refine gOn rfl ?_|refine gOff rfl rfl ?_|refine gTup rfl ?_))
      intro q hq
      by_cases h57 : c.toNat ≤ 57
      · obtain rfl : q = true := by rw [hq]; simp <;> omega
        (repeat(first|refine pSeq ?_|refine pReg ?_|refine sCons ?_|refine sNil ?_|refine pBlock ?_|refine pSkip ?_|refine pExit ?_|refine pRet ?_|refine pCond ?_|refine gNone ?_|refine gOn rfl ?_|refine gOff rfl rfl ?_|refine gTup rfl ?_))
        intro z1 g1
        rw [i64_id (by omega)] at g1
        (repeat(first|refine pSeq ?_|refine pReg ?_|refine sCons ?_|refine sNil ?_|refine pBlock ?_|refine pSkip ?_|refine pExit ?_|refine pRet ?_|refine pCond ?_|refine gNone ?_|refine gOn rfl ?_|refine gOff rfl rfl ?_|refine gTup rfl ?_))
        refine ldS_is rfl h rfl ?_
        (repeat(first|refine pSeq ?_|refine pReg ?_|refine sCons ?_|refine sNil ?_|refine pBlock ?_|refine pSkip ?_|refine pExit ?_|refine pRet ?_|refine pCond ?_|refine gNone ?_|refine gOn rfl ?_|refine gOff rfl rfl ?_|refine gTup rfl ?_))
        refine ⟨by omega, ?_⟩
        intro m hm
        obtain rfl : m = p := by omega
        refine ⟨c, hc, ?_⟩
        (repeat(first|refine pSeq ?_|refine pReg ?_|refine sCons ?_|refine sNil ?_|refine pBlock ?_|refine pSkip ?_|refine pExit ?_|refine pRet ?_|refine pCond ?_|refine gNone ?_|refine gOn rfl ?_|refine gOff rfl rfl ?_|refine gTup rfl ?_))
        intro z2 g2
        rw [u8_id (by omega)] at g2
        (repeat(first|refine pSeq ?_|refine pReg ?_|refine sCons ?_|refine sNil ?_|refine pBlock ?_|refine pSkip ?_|refine pExit ?_|refine pRet ?_|refine pCond ?_|refine gNone ?_|refine gOn rfl ?_|refine gOff rfl rfl ?_|refine gTup rfl ?_))
        intro z3 g3
        rw [i64_id (by omega)] at g3
        (repeat(first|refine pSeq ?_|refine pReg ?_|refine sCons ?_|refine sNil ?_|refine pBlock ?_|refine pSkip ?_|refine pExit ?_|refine pRet ?_|refine pCond ?_|refine gNone ?_|refine gOn rfl ?_|refine gOff rfl rfl ?_|refine gTup rfl ?_))
        intro z4 g4
        rw [i64_id (by omega)] at g4
        have e4 : z4 = ((vl (r.take (m + 1)) : Nat) : Int) := by rw [take_next hc, vl_next]; omega
        subst e4
        (repeat(first|refine pSeq ?_|refine pReg ?_|refine sCons ?_|refine sNil ?_|refine pBlock ?_|refine pSkip ?_|refine pExit ?_|refine pRet ?_|refine pCond ?_|refine gNone ?_|refine gOn rfl ?_|refine gOff rfl rfl ?_|refine gTup rfl ?_))
        intro z5 g5
        rw [i64_id (by omega)] at g5
        obtain rfl : z5 = ((m + 1 : Nat) : Int) := by omega
        (repeat(first|refine pSeq ?_|refine pReg ?_|refine sCons ?_|refine sNil ?_|refine pBlock ?_|refine pSkip ?_|refine pExit ?_|refine pRet ?_|refine pCond ?_|refine gNone ?_|refine gOn rfl ?_|refine gOff rfl rfl ?_|refine gTup rfl ?_))
        exact ⟨m + 1, ⟨hp1, hl1, by rw [take_next hc, List.all_append, ha]; simp [dgt, h48, h57]⟩, by show hi - (m + 1) < hi - m; omega, Wk.same ⟨rfl, rfl, rfl, rfl, rfl, trivial⟩⟩
      · have he : p = hi ∨ p = r.length ∨ ∃ c, r[p]? = some c ∧ dgt c = false := .inr (.inr ⟨c, hc, by simp [dgt]; omega⟩)
        obtain rfl : q = false := by rw [hq]; simp <;> omega
        (repeat(first|refine pSeq ?_|refine pReg ?_|refine sCons ?_|refine sNil ?_|refine pBlock ?_|refine pSkip ?_|refine pExit ?_|refine pRet ?_|refine pCond ?_|refine gNone ?_|refine gOn rfl ?_|refine gOff rfl rfl ?_|refine gTup rfl ?_))
        intro q hq
        by_cases h1 : p < lo
        · obtain rfl : q = true := by rw [hq]; simp <;> omega
          (repeat(first|refine pSeq ?_|refine pReg ?_|refine sCons ?_|refine sNil ?_|refine pBlock ?_|refine pSkip ?_|refine pExit ?_|refine pRet ?_|refine pCond ?_|refine gNone ?_|refine gOn rfl ?_|refine gOff rfl rfl ?_|refine gTup rfl ?_))
          refine st_abs (cs' := [str r, .bool true]) rfl rfl h hb rfl rfl fun s1 e1 c1 n1 => ?_
          (repeat(first|refine pSeq ?_|refine pReg ?_|refine sCons ?_|refine sNil ?_|refine pBlock ?_|refine pSkip ?_|refine pExit ?_|refine pRet ?_|refine pCond ?_|refine gNone ?_|refine gOn rfl ?_|refine gOff rfl rfl ?_|refine gTup rfl ?_))
          exact ⟨0, _, _, rfl, e1, (tail p hp hl ha he).2 (.inl h1), c1⟩
        · obtain rfl : q = false := by rw [hq]; simp <;> omega
          (repeat(first|refine pSeq ?_|refine pReg ?_|refine sCons ?_|refine sNil ?_|refine pBlock ?_|refine pSkip ?_|refine pExit ?_|refine pRet ?_|refine pCond ?_|refine gNone ?_|refine gOn rfl ?_|refine gOff rfl rfl ?_|refine gTup rfl ?_))
          intro q hq
          by_cases h2 : lo < p
          · obtain rfl : q = true := by rw [hq]; simp <;> omega
            obtain ⟨a0, r2, hr2⟩ : ∃ a r2, r = a :: r2 := by
              cases r with
              | nil => exfalso; have hl' := hl; rw [List.length_nil] at hl'; omega
              | cons a r2 => exact ⟨a, r2, rfl⟩
            (repeat(first|refine pSeq ?_|refine pReg ?_|refine sCons ?_|refine sNil ?_|refine pBlock ?_|refine pSkip ?_|refine pExit ?_|refine pRet ?_|refine pCond ?_|refine gNone ?_|refine gOn rfl ?_|refine gOff rfl rfl ?_|refine gTup rfl ?_))
            refine ldS_is rfl h rfl ?_
            (repeat(first|refine pSeq ?_|refine pReg ?_|refine sCons ?_|refine sNil ?_|refine pBlock ?_|refine pSkip ?_|refine pExit ?_|refine pRet ?_|refine pCond ?_|refine gNone ?_|refine gOn rfl ?_|refine gOff rfl rfl ?_|refine gTup rfl ?_))
            refine ⟨by rw [hr2]; simp <;> omega, ?_⟩
            intro m hm
            obtain rfl : m = 0 := by omega
            refine ⟨a0, by rw [hr2]; rfl, ?_⟩
            (repeat(first|refine pSeq ?_|refine pReg ?_|refine sCons ?_|refine sNil ?_|refine pBlock ?_|refine pSkip ?_|refine pExit ?_|refine pRet ?_|refine pCond ?_|refine gNone ?_|refine gOn rfl ?_|refine gOff rfl rfl ?_|refine gTup rfl ?_))
            intro q hq
            by_cases h3 : a0 = 48
            · obtain rfl : q = true := by rw [hq, h3]; rfl
              (repeat(first|refine pSeq ?_|refine pReg ?_|refine sCons ?_|refine sNil ?_|refine pBlock ?_|refine pSkip ?_|refine pExit ?_|refine pRet ?_|refine pCond ?_|refine gNone ?_|refine gOn rfl ?_|refine gOff rfl rfl ?_|refine gTup rfl ?_))
              refine st_abs (cs' := [str r, .bool true]) rfl rfl h hb rfl rfl fun s1 e1 c1 n1 => ?_
              (repeat(first|refine pSeq ?_|refine pReg ?_|refine sCons ?_|refine sNil ?_|refine pBlock ?_|refine pSkip ?_|refine pExit ?_|refine pRet ?_|refine pCond ?_|refine gNone ?_|refine gOn rfl ?_|refine gOff rfl rfl ?_|refine gTup rfl ?_))
              exact ⟨0, _, _, rfl, e1, (tail p hp hl ha he).2 (.inr ⟨h2, by rw [hr2, h3]; rfl⟩), c1⟩
            · have h3n : a0.toNat ≠ 48 := fun e => h3 (UInt8.toNat_inj.1 e)
              have hno : r.head? ≠ some 48 := fun e => h3 (by rw [hr2] at e; exact Option.some.inj e)
              obtain rfl : q = false := by rw [hq]; simp <;> omega
              (repeat(first|refine pSeq ?_|refine pReg ?_|refine sCons ?_|refine sNil ?_|refine pBlock ?_|refine pSkip ?_|refine pExit ?_|refine pRet ?_|refine pCond ?_|refine gNone ?_|refine gOn rfl ?_|refine gOff rfl rfl ?_|refine gTup rfl ?_))
              refine ldS_is rfl h rfl ?_
              (repeat(first|refine pSeq ?_|refine pReg ?_|refine sCons ?_|refine sNil ?_|refine pBlock ?_|refine pSkip ?_|refine pExit ?_|refine pRet ?_|refine pCond ?_|refine gNone ?_|refine gOn rfl ?_|refine gOff rfl rfl ?_|refine gTup rfl ?_))
              refine ⟨by omega, ?_⟩
              intro a ha' r1 hr1
              obtain rfl : a = p := by omega
              rw [List.take_of_length_le (by rw [List.length_drop]; omega)] at hr1
              subst hr1
              (repeat(first|refine pSeq ?_|refine pReg ?_|refine sCons ?_|refine sNil ?_|refine pBlock ?_|refine pSkip ?_|refine pExit ?_|refine pRet ?_|refine pCond ?_|refine gNone ?_|refine gOn rfl ?_|refine gOff rfl rfl ?_|refine gTup rfl ?_))
              refine st_abs (cs' := [str (r.drop a), .bool w]) rfl rfl h hb rfl rfl fun s1 e1 c1 n1 => ?_
              (repeat(first|refine pSeq ?_|refine pReg ?_|refine sCons ?_|refine sNil ?_|refine pBlock ?_|refine pSkip ?_|refine pExit ?_|refine pRet ?_|refine pCond ?_|refine gNone ?_|refine gOn rfl ?_|refine gOff rfl rfl ?_|refine gTup rfl ?_))
              exact ⟨_, _, _, rfl, e1, (tail a hp hl ha he).1 (fun q => q.elim (fun q => h1 (by omega)) (fun q => hno q.2)), c1⟩
          · obtain rfl : q = false := by rw [hq]; simp <;> omega
            (repeat(first|refine pSeq ?_|refine pReg ?_|refine sCons ?_|refine sNil ?_|refine pBlock ?_|refine pSkip ?_|refine pExit ?_|refine pRet ?_|refine pCond ?_|refine gNone ?_|refine gOn rfl ?_|refine gOff rfl rfl ?_|refine gTup rfl ?_))
            refine ldS_is rfl h rfl ?_
            (repeat(first|refine pSeq ?_|refine pReg ?_|refine sCons ?_|refine sNil ?_|refine pBlock ?_|refine pSkip ?_|refine pExit ?_|refine pRet ?_|refine pCond ?_|refine gNone ?_|refine gOn rfl ?_|refine gOff rfl rfl ?_|refine gTup rfl ?_))
            refine ⟨by omega, ?_⟩
            intro a ha' r1 hr1
            obtain rfl : a = p := by omega
            rw [List.take_of_length_le (by rw [List.length_drop]; omega)] at hr1
            subst hr1
            (repeat(first|refine pSeq ?_|refine pReg ?_|refine sCons ?_|refine sNil ?_|refine pBlock ?_|refine pSkip ?_|refine pExit ?_|refine pRet ?_|refine pCond ?_|refine gNone ?_|refine gOn rfl ?_|refine gOff rfl rfl ?_|refine gTup rfl ?_))
            refine st_abs (cs' := [str (r.drop a), .bool w]) rfl rfl h hb rfl rfl fun s1 e1 c1 n1 => ?_
            (repeat(first|refine pSeq ?_|refine pReg ?_|refine sCons ?_|refine sNil ?_|refine pBlock ?_|refine pSkip ?_|refine pExit ?_|refine pRet ?_|refine pCond ?_|refine gNone ?_|refine gOn rfl ?_|refine gOff rfl rfl ?_|refine gTup rfl ?_))
            exact ⟨_, _, _, rfl, e1, (tail a hp hl ha he).1 (fun q => q.elim (fun q => h1 (by omega)) (fun q => h2 (by omega))), c1⟩
    · have he : m = hi ∨ m = r.length ∨ ∃ c, r[m]? = some c ∧ dgt c = false := .inr (.inr ⟨c, hc, by simp [dgt]; omega⟩)
      obtain rfl : q = false := by rw [hq]; simp <;> omega
      (repeat(first|refine pSeq ?_|refine pReg ?_|refine sCons ?_|refine sNil ?_|refine pBlock ?_|refine pSkip ?_|refine pExit ?_|refine pRet ?_|refine pCond ?_|refine gNone ?_|refine gOn rfl ?_|refine gOff rfl rfl ?_|refine gTup rfl ?_))
      intro q hq
      by_cases h1 : m < lo
      · obtain rfl : q = true := by rw [hq]; simp <;> omega
        (repeat(first|refine pSeq ?_|refine pReg ?_|refine sCons ?_|refine sNil ?_|refine pBlock ?_|refine pSkip ?_|refine pExit ?_|refine pRet ?_|refine pCond ?_|refine gNone ?_|refine gOn rfl ?_|refine gOff rfl rfl ?_|refine gTup rfl ?_))
        refine st_abs (cs' := [str r, .bool true]) rfl rfl h hb rfl rfl fun s1 e1 c1 n1 => ?_
        (repeat(first|refine pSeq ?_|refine pReg ?_|refine sCons ?_|refine sNil ?_|refine pBlock ?_|refine pSkip ?_|refine pExit ?_|refine pRet ?_|refine pCond ?_|refine gNone ?_|refine gOn rfl ?_|refine gOff rfl rfl ?_|refine gTup rfl ?_))
        exact ⟨0, _, _, rfl, e1, (tail m hp hl ha he).2 (.inl h1), c1⟩
      · obtain rfl : q = false := by rw [hq]; simp <;> omega
        (repeat(first|refine pSeq ?_|refine pReg ?_|refine sCons ?_|refine sNil ?_|refine pBlock ?_|refine pSkip ?_|refine pExit ?_|refine pRet ?_|refine pCond ?_|refine gNone ?_|refine gOn rfl ?_|refine gOff rfl rfl ?_|refine gTup rfl ?_))
        intro q hq
        by_cases h2 : lo < m
        · obtain rfl : q = true := by rw [hq]; simp <;> omega
          obtain ⟨a0, r2, hr2⟩ : ∃ a r2, r = a :: r2 := by
            cases r with
            | nil => exfalso; have hl' := hl; rw [List.length_nil] at hl'; omega
            | cons a r2 => exact ⟨a, r2, rfl⟩
          (repeat(first|refine pSeq ?_|refine pReg ?_|refine sCons ?_|refine sNil ?_|refine pBlock ?_|refine pSkip ?_|refine pExit ?_|refine pRet ?_|refine pCond ?_|refine gNone ?_|refine gOn rfl ?_|refine gOff rfl rfl ?_|refine gTup rfl ?_))
          refine ldS_is rfl h rfl ?_
          (repeat(first|refine pSeq ?_|refine pReg ?_|refine sCons ?_|refine sNil ?_|refine pBlock ?_|refine pSkip ?_|refine pExit ?_|refine pRet ?_|refine pCond ?_|refine gNone ?_|refine gOn rfl ?_|refine gOff rfl rfl ?_|refine gTup rfl ?_))
          refine ⟨by rw [hr2]; simp <;> omega, ?_⟩
          intro m2 hm
          obtain rfl : m2 = 0 := by omega
          refine ⟨a0, by rw [hr2]; rfl, ?_⟩
          (repeat(first|refine pSeq ?_|refine pReg ?_|refine sCons ?_|refine sNil ?_|refine pBlock ?_|refine pSkip ?_|refine pExit ?_|refine pRet ?_|refine pCond ?_|refine gNone ?_|refine gOn rfl ?_|refine gOff rfl rfl ?_|refine gTup rfl ?_))
          intro q hq
          by_cases h3 : a0 = 48
          · obtain rfl : q = true := by rw [hq, h3]; rfl
            (repeat(first|refine pSeq ?_|refine pReg ?_|refine sCons ?_|refine sNil ?_|refine pBlock ?_|refine pSkip ?_|refine pExit ?_|refine pRet ?_|refine pCond ?_|refine gNone ?_|refine gOn rfl ?_|refine gOff rfl rfl ?_|refine gTup rfl ?_))
            refine st_abs (cs' := [str r, .bool true]) rfl rfl h hb rfl rfl fun s1 e1 c1 n1 => ?_
            (repeat(first|refine pSeq ?_|refine pReg ?_|refine sCons ?_|refine sNil ?_|refine pBlock ?_|refine pSkip ?_|refine pExit ?_|refine pRet ?_|refine pCond ?_|refine gNone ?_|refine gOn rfl ?_|refine gOff rfl rfl ?_|refine gTup rfl ?_))
            exact ⟨0, _, _, rfl, e1, (tail m hp hl ha he).2 (.inr ⟨h2, by rw [hr2, h3]; rfl⟩), c1⟩
          · have h3n : a0.toNat ≠ 48 := fun e => h3 (UInt8.toNat_inj.1 e)
            have hno : r.head? ≠ some 48 := fun e => h3 (by rw [hr2] at e; exact Option.some.inj e)
            obtain rfl : q = false := by rw [hq]; simp <;> omega
            (repeat(first|refine pSeq ?_|refine pReg ?_|refine sCons ?_|refine sNil ?_|refine pBlock ?_|refine pSkip ?_|refine pExit ?_|refine pRet ?_|refine pCond ?_|refine gNone ?_|refine gOn rfl ?_|refine gOff rfl rfl ?_|refine gTup rfl ?_))
            refine ldS_is rfl h rfl ?_
            (repeat(first|refine pSeq ?_|refine pReg ?_|refine sCons ?_|refine sNil ?_|refine pBlock ?_|refine pSkip ?_|refine pExit ?_|refine pRet ?_|refine pCond ?_|refine gNone ?_|refine gOn rfl ?_|refine gOff rfl rfl ?_|refine gTup rfl ?_))
            refine ⟨by omega, ?_⟩
            intro a ha' r1 hr1
            obtain rfl : a = m := by omega
            rw [List.take_of_length_le (by rw [List.length_drop]; omega)] at hr1
            subst hr1
            (repeat(first|refine pSeq ?_|refine pReg ?_|refine sCons ?_|refine sNil ?_|refine pBlock ?_|refine pSkip ?_|refine pExit ?_|refine pRet ?_|refine pCond ?_|refine gNone ?_|refine gOn rfl ?_|refine gOff rfl rfl ?_|refine gTup rfl ?_))
            refine st_abs (cs' := [str (r.drop a), .bool w]) rfl rfl h hb rfl rfl fun s1 e1 c1 n1 => ?_
            (repeat(first|refine pSeq ?_|refine pReg ?_|refine sCons ?_|refine sNil ?_|refine pBlock ?_|refine pSkip ?_|refine pExit ?_|refine pRet ?_|refine pCond ?_|refine gNone ?_|refine gOn rfl ?_|refine gOff rfl rfl ?_|refine gTup rfl ?_))
            exact ⟨_, _, _, rfl, e1, (tail a hp hl ha he).1 (fun q => q.elim (fun q => h1 (by omega)) (fun q => hno q.2)), c1⟩
        · obtain rfl : q = false := by rw [hq]; simp <;> omega
          (repeat(first|refine pSeq ?_|refine pReg ?_|refine sCons ?_|refine sNil ?_|refine pBlock ?_|refine pSkip ?_|refine pExit ?_|refine pRet ?_|refine pCond ?_|refine gNone ?_|refine gOn rfl ?_|refine gOff rfl rfl ?_|refine gTup rfl ?_))
          refine ldS_is rfl h rfl ?_
          (repeat(first|refine pSeq ?_|refine pReg ?_|refine sCons ?_|refine sNil ?_|refine pBlock ?_|refine pSkip ?_|refine pExit ?_|refine pRet ?_|refine pCond ?_|refine gNone ?_|refine gOn rfl ?_|refine gOff rfl rfl ?_|refine gTup rfl ?_))
          refine ⟨by omega, ?_⟩
          intro a ha' r1 hr1
          obtain rfl : a = m := by omega
          rw [List.take_of_length_le (by rw [List.length_drop]; omega)] at hr1
          subst hr1
          (repeat(first|refine pSeq ?_|refine pReg ?_|refine sCons ?_|refine sNil ?_|refine pBlock ?_|refine pSkip ?_|refine pExit ?_|refine pRet ?_|refine pCond ?_|refine gNone ?_|refine gOn rfl ?_|refine gOff rfl rfl ?_|refine gTup rfl ?_))
          refine st_abs (cs' := [str (r.drop a), .bool w]) rfl rfl h hb rfl rfl fun s1 e1 c1 n1 => ?_
          (repeat(first|refine pSeq ?_|refine pReg ?_|refine sCons ?_|refine sNil ?_|refine pBlock ?_|refine pSkip ?_|refine pExit ?_|refine pRet ?_|refine pCond ?_|refine gNone ?_|refine gOn rfl ?_|refine gOff rfl rfl ?_|refine gTup rfl ?_))
          exact ⟨_, _, _, rfl, e1, (tail a hp hl ha he).1 (fun q => q.elim (fun q => h1 (by omega)) (fun q => h2 (by omega))), c1⟩
  · have he : p = hi ∨ p = r.length ∨ ∃ c, r[p]? = some c ∧ dgt c = false := by omega
    obtain rfl : q = false := by rw [hq]; simp <;> omega
    (repeat(first|refine pSeq ?_|refine pReg ?_|refine sCons ?_|refine sNil ?_|refine pBlock ?_|refine pSkip ?_|refine pExit ?_|refine pRet ?_|refine pCond ?_|refine gNone ?_|refine gOn rfl ?_|refine gOff rfl rfl ?_|refine gTup rfl ?_))
    intro q hq
    by_cases h1 : p < lo
    · obtain rfl : q = true := by rw [hq]; simp <;> omega
      (repeat(first|refine pSeq ?_|refine pReg ?_|refine sCons ?_|refine sNil ?_|refine pBlock ?_|refine pSkip ?_|refine pExit ?_|refine pRet ?_|refine pCond ?_|refine gNone ?_|refine gOn rfl ?_|refine gOff rfl rfl ?_|refine gTup rfl ?_))
      refine st_abs (cs' := [str r, .bool true]) rfl rfl h hb rfl rfl fun s1 e1 c1 n1 => ?_
      (repeat(first|refine pSeq ?_|refine pReg ?_|refine sCons ?_|refine sNil ?_|refine pBlock ?_|refine pSkip ?_|refine pExit ?_|refine pRet ?_|refine pCond ?_|refine gNone ?_|refine gOn rfl ?_|refine gOff rfl rfl ?_|refine gTup rfl ?_))
      exact ⟨0, _, _, rfl, e1, (tail p hp hl ha he).2 (.inl h1), c1⟩
    · obtain rfl : q = false := by rw [hq]; simp <;> omega
      (repeat(first|refine pSeq ?_|refine pReg ?_|refine sCons ?_|refine sNil ?_|refine pBlock ?_|refine pSkip ?_|refine pExit ?_|refine pRet ?_|refine pCond ?_|refine gNone ?_|refine gOn rfl ?_|refine gOff rfl rfl ?_|refine gTup rfl ?_))
      intro q hq
      by_cases h2 : lo < p
      · obtain rfl : q = true := by rw [hq]; simp <;> omega
        obtain ⟨a0, r2, hr2⟩ : ∃ a r2, r = a :: r2 := by
          cases r with
          | nil => exfalso; have hl' := hl; rw [List.length_nil] at hl'; omega
          | cons a r2 => exact ⟨a, r2, rfl⟩
        (repeat(first|refine pSeq ?_|refine pReg ?_|refine sCons ?_|refine sNil ?_|refine pBlock ?_|refine pSkip ?_|refine pExit ?_|refine pRet ?_|refine pCond ?_|refine gNone ?_|refine gOn rfl ?_|refine gOff rfl rfl ?_|refine gTup rfl ?_))
        refine ldS_is rfl h rfl ?_
        (repeat(first|refine pSeq ?_|refine pReg ?_|refine sCons ?_|refine sNil ?_|refine pBlock ?_|refine pSkip ?_|refine pExit ?_|refine pRet ?_|refine pCond ?_|refine gNone ?_|refine gOn rfl ?_|refine gOff rfl rfl ?_|refine gTup rfl ?_))
        refine ⟨by rw [hr2]; simp <;> omega, ?_⟩
        intro m hm
        obtain rfl : m = 0 := by omega
        refine ⟨a0, by rw [hr2]; rfl, ?_⟩
        (repeat(first|refine pSeq ?_|refine pReg ?_|refine sCons ?_|refine sNil ?_|refine pBlock ?_|refine pSkip ?_|refine pExit ?_|refine pRet ?_|refine pCond ?_|refine gNone ?_|refine gOn rfl ?_|refine gOff rfl rfl ?_|refine gTup rfl ?_))
        intro q hq
        by_cases h3 : a0 = 48
        · obtain rfl : q = true := by rw [hq, h3]; rfl
          (repeat(first|refine pSeq ?_|refine pReg ?_|refine sCons ?_|refine sNil ?_|refine pBlock ?_|refine pSkip ?_|refine pExit ?_|refine pRet ?_|refine pCond ?_|refine gNone ?_|refine gOn rfl ?_|refine gOff rfl rfl ?_|refine gTup rfl ?_))
          refine st_abs (cs' := [str r, .bool true]) rfl rfl h hb rfl rfl fun s1 e1 c1 n1 => ?_
          (repeat(first|refine pSeq ?_|refine pReg ?_|refine sCons ?_|refine sNil ?_|refine pBlock ?_|refine pSkip ?_|refine pExit ?_|refine pRet ?_|refine pCond ?_|refine gNone ?_|refine gOn rfl ?_|refine gOff rfl rfl ?_|refine gTup rfl ?_))
          exact ⟨0, _, _, rfl, e1, (tail p hp hl ha he).2 (.inr ⟨h2, by rw [hr2, h3]; rfl⟩), c1⟩
        · have h3n : a0.toNat ≠ 48 := fun e => h3 (UInt8.toNat_inj.1 e)
          have hno : r.head? ≠ some 48 := fun e => h3 (by rw [hr2] at e; exact Option.some.inj e)
          obtain rfl : q = false := by rw [hq]; simp <;> omega
          (repeat(first|refine pSeq ?_|refine pReg ?_|refine sCons ?_|refine sNil ?_|refine pBlock ?_|refine pSkip ?_|refine pExit ?_|refine pRet ?_|refine pCond ?_|refine gNone ?_|refine gOn rfl ?_|refine gOff rfl rfl ?_|refine gTup rfl ?_))
          refine ldS_is rfl h rfl ?_
          (repeat(first|refine pSeq ?_|refine pReg ?_|refine sCons ?_|refine sNil ?_|refine pBlock ?_|refine pSkip ?_|refine pExit ?_|refine pRet ?_|refine pCond ?_|refine gNone ?_|refine gOn rfl ?_|refine gOff rfl rfl ?_|refine gTup rfl ?_))
          refine ⟨by omega, ?_⟩
          intro a ha' r1 hr1
          obtain rfl : a = p := by omega
          rw [List.take_of_length_le (by rw [List.length_drop]; omega)] at hr1
          subst hr1
          (repeat(first|refine pSeq ?_|refine pReg ?_|refine sCons ?_|refine sNil ?_|refine pBlock ?_|refine pSkip ?_|refine pExit ?_|refine pRet ?_|refine pCond ?_|refine gNone ?_|refine gOn rfl ?_|refine gOff rfl rfl ?_|refine gTup rfl ?_))
          refine st_abs (cs' := [str (r.drop a), .bool w]) rfl rfl h hb rfl rfl fun s1 e1 c1 n1 => ?_
          (repeat(first|refine pSeq ?_|refine pReg ?_|refine sCons ?_|refine sNil ?_|refine pBlock ?_|refine pSkip ?_|refine pExit ?_|refine pRet ?_|refine pCond ?_|refine gNone ?_|refine gOn rfl ?_|refine gOff rfl rfl ?_|refine gTup rfl ?_))
          exact ⟨_, _, _, rfl, e1, (tail a hp hl ha he).1 (fun q => q.elim (fun q => h1 (by omega)) (fun q => hno q.2)), c1⟩
      · obtain rfl : q = false := by rw [hq]; simp <;> omega
        (repeat(first|refine pSeq ?_|refine pReg ?_|refine sCons ?_|refine sNil ?_|refine pBlock ?_|refine pSkip ?_|refine pExit ?_|refine pRet ?_|refine pCond ?_|refine gNone ?_|refine gOn rfl ?_|refine gOff rfl rfl ?_|refine gTup rfl ?_))
        refine ldS_is rfl h rfl ?_
        (repeat(first|refine pSeq ?_|refine pReg ?_|refine sCons ?_|refine sNil ?_|refine pBlock ?_|refine pSkip ?_|refine pExit ?_|refine pRet ?_|refine pCond ?_|refine gNone ?_|refine gOn rfl ?_|refine gOff rfl rfl ?_|refine gTup rfl ?_))
        refine ⟨by omega, ?_⟩
        intro a ha' r1 hr1
        obtain rfl : a = p := by omega
        rw [List.take_of_length_le (by rw [List.length_drop]; omega)] at hr1
        subst hr1
        (repeat(first|refine pSeq ?_|refine pReg ?_|refine sCons ?_|refine sNil ?_|refine pBlock ?_|refine pSkip ?_|refine pExit ?_|refine pRet ?_|refine pCond ?_|refine gNone ?_|refine gOn rfl ?_|refine gOff rfl rfl ?_|refine gTup rfl ?_))
        refine st_abs (cs' := [str (r.drop a), .bool w]) rfl rfl h hb rfl rfl fun s1 e1 c1 n1 => ?_
        (repeat(first|refine pSeq ?_|refine pReg ?_|refine sCons ?_|refine sNil ?_|refine pBlock ?_|refine pSkip ?_|refine pExit ?_|refine pRet ?_|refine pCond ?_|refine gNone ?_|refine gOn rfl ?_|refine gOff rfl rfl ?_|refine gTup rfl ?_))
        exact ⟨_, _, _, rfl, e1, (tail a hp hl ha he).1 (fun q => q.elim (fun q => h1 (by omega)) (fun q => h2 (by omega))), c1⟩
end Go.Vf.S
end
/- SmL -/
section
/- A date's text, read: the tick. -/
namespace Go.Vf.S
open Go Go.Vf Go.Proofs
attribute [local irreducible] wSeq wRow wp wG
set_option linter.unusedVariables false
set_option linter.unusedSimpArgs false
set_option maxRecDepth 10000

theorem mo_le (y : Nat) {m : Nat} (h : m ≤ 12) : mo y m ≤ 366 := by
  have := mo_mono (y := y) h
  have := lpY_le y
  rw [mo_12] at *
  omega
theorem ys_hi {y : Nat} (h : y ≤ 10000000000) : ys y ≤ 4000000000000 := by unfold ys leN; omega
theorem dayOf_w {s : SS} {y m o : Nat} (hG : Gst s) (hy : y ≤ 10000000000) (hm : m < 12) (ho : o ≤ 1000) : CallW pr n_stamp_dayOf [.int .i64 y, .int .i64 m, .int .i64 o] s fun v s' => v = .int .i64 (ys y + mo y m + o - 1) ∧ s' = s := by
  have h1 := ys_hi hy
  have h2 := ys_lo y
  refine CallW.run good ok_stamp_dayOf (by simp) rfl ?_
  (repeat(first|refine pSeq ?_|refine pReg ?_|refine sCons ?_|refine sNil ?_|refine pBlock ?_|refine pSkip ?_|refine pExit ?_|refine pRet ?_|refine pCond ?_|refine gNone ?_))
  refine (ystart_w (by omega)).mono fun v s q => ?_
  obtain ⟨rfl, rfl⟩ := q
  (repeat(first|refine pSeq ?_|refine pReg ?_|refine sCons ?_|refine sNil ?_|refine pBlock ?_|refine pSkip ?_|refine pExit ?_|refine pRet ?_|refine pCond ?_|refine gNone ?_))
  intro z1 g1
  rw [i64_id (by omega)] at g1
  (repeat(first|refine pSeq ?_|refine pReg ?_|refine sCons ?_|refine sNil ?_|refine pBlock ?_|refine pSkip ?_|refine pExit ?_|refine pRet ?_|refine pCond ?_|refine gNone ?_))
  intro z2 g2
  rw [i64_id (by omega)] at g2
  (repeat(first|refine pSeq ?_|refine pReg ?_|refine sCons ?_|refine sNil ?_|refine pBlock ?_|refine pSkip ?_|refine pExit ?_|refine pRet ?_|refine pCond ?_|refine gNone ?_))
  refine pLoop (MW.head good (fun i : Nat => m - i) (fun i => i ≤ m) (fun i => [(0, .int .i64 y), (7, .int .i64 (ys y + mo y i + o - 1)), (14, .int .i64 m), (15, .int .i64 i)]) (fun _ => s) 0 (Nat.zero_le _) (Wk.same ⟨rfl, by rw [show ys y + (mo y 0 : Nat) + (o : Int) - 1 = z2 by show ys y + ((0 : Nat) : Int) + _ - _ = _; omega]; rfl, rfl, rfl, trivial⟩) ?_)
  intro i hi
  have hmo := mo_le y (m := i) (by omega)
  (repeat(first|refine pSeq ?_|refine pReg ?_|refine sCons ?_|refine sNil ?_|refine pBlock ?_|refine pSkip ?_|refine pExit ?_|refine pRet ?_|refine pCond ?_|refine gNone ?_))
  intro q hq
  by_cases hlt : i < m
  · have e : mo y (i + 1) = mo y i + ml y i := rfl
    have hml := ml_le y i
    obtain rfl : q = true := by rw [hq]; simp <;> omega
    (repeat(first|refine pSeq ?_|refine pReg ?_|refine sCons ?_|refine sNil ?_|refine pBlock ?_|refine pSkip ?_|refine pExit ?_|refine pRet ?_|refine pCond ?_|refine gNone ?_))
    refine (mdays_w hG hy (m := i) (by omega)).mono fun v s q => ?_
    obtain ⟨rfl, rfl⟩ := q
    (repeat(first|refine pSeq ?_|refine pReg ?_|refine sCons ?_|refine sNil ?_|refine pBlock ?_|refine pSkip ?_|refine pExit ?_|refine pRet ?_|refine pCond ?_|refine gNone ?_))
    intro z3 g3
    rw [i64_id (by omega)] at g3
    obtain rfl : z3 = ys y + (mo y (i + 1) : Nat) + (o : Int) - 1 := by omega
    (repeat(first|refine pSeq ?_|refine pReg ?_|refine sCons ?_|refine sNil ?_|refine pBlock ?_|refine pSkip ?_|refine pExit ?_|refine pRet ?_|refine pCond ?_|refine gNone ?_))
    intro z4 g4
    rw [i64_id (by omega)] at g4
    obtain rfl : z4 = ((i + 1 : Nat) : Int) := by omega
    (repeat(first|refine pSeq ?_|refine pReg ?_|refine sCons ?_|refine sNil ?_|refine pBlock ?_|refine pSkip ?_|refine pExit ?_|refine pRet ?_|refine pCond ?_|refine gNone ?_))
    exact ⟨i + 1, hlt, by show m - (i + 1) < m - i; omega, Wk.same ⟨rfl, rfl, rfl, rfl, trivial⟩⟩
  · obtain rfl : i = m := by omega
    obtain rfl : q = false := by rw [hq]; simp <;> omega
    (repeat(first|refine pSeq ?_|refine pReg ?_|refine sCons ?_|refine sNil ?_|refine pBlock ?_|refine pSkip ?_|refine pExit ?_|refine pRet ?_|refine pCond ?_|refine gNone ?_))
    exact ⟨rfl, rfl⟩

theorem read_pure {l r1 r2 r3 r4 r5 r6 r7 r8 r9 r10 r11 r12 r13 r14 : List UInt8} {w1 w2 w3 w4 w5 w6 w7 w8 w9 w10 w11 w12 w13 w14 : Bool} {o M y h mi se : Nat} (t1 : WkR l false r1 w1) (t2 : TkR [44, 32] r1 w1 r2 w2) (t3 : NmR 2 2 r2 w2 o r3 w3) (t4 : TkR [32] r3 w3 r4 w4) (t5 : MoR r4 w4 M r5 w5) (t6 : TkR [32] r5 w5 r6 w6) (t7 : NmR 4 10 r6 w6 y r7 w7) (t8 : TkR [32] r7 w7 r8 w8) (t9 : NmR 2 2 r8 w8 h r9 w9) (t10 : TkR [58] r9 w9 r10 w10) (t11 : NmR 2 2 r10 w10 mi r11 w11) (t12 : TkR [58] r11 w11 r12 w12) (t13 : NmR 2 2 r12 w12 se r13 w13) (t14 : TkR zoneT r13 w13 r14 w14) :
    (w14 = false ∧ r14 = [] → readF l = ((ys y + mo y M + o - 1) * 86400 + h * 3600 + mi * 60 + se, true)) ∧ (¬(w14 = false ∧ r14 = []) → readF l = (0, false)) := by
  refine ⟨fun ⟨hw, hr⟩ => ?_, fun hn => ?_⟩
  · obtain ⟨k13, e13⟩ := t14.2.1 hw
    obtain ⟨k12, d12, e12, a12, b12, c12, f12, v12⟩ := t13.2.1 k13
    obtain ⟨k11, e11⟩ := t12.2.1 k12
    obtain ⟨k10, d10, e10, a10, b10, c10, f10, v10⟩ := t11.2.1 k11
    obtain ⟨k9, e9⟩ := t10.2.1 k10
    obtain ⟨k8, d8, e8, a8, b8, c8, f8, v8⟩ := t9.2.1 k9
    obtain ⟨k7, e7⟩ := t8.2.1 k8
    obtain ⟨k6, d6, e6, a6, b6, c6, f6, v6⟩ := t7.2.1 k7
    obtain ⟨k5, e5⟩ := t6.2.1 k6
    obtain ⟨k4, a4, e4⟩ := t5.2.1 k5
    obtain ⟨k3, e3⟩ := t4.2.1 k4
    obtain ⟨k2, d2, e2, a2, b2, c2, f2, v2⟩ := t3.2.1 k3
    obtain ⟨k1, e1⟩ := t2.2.1 k2
    obtain ⟨k0, wd, a0, e0⟩ := t1.2.1 k1
    have hf : Fd.ok ⟨wd, M, d2, d6, d8, d10, d12⟩ := ⟨a0, a4, ⟨Nat.le_antisymm c2 b2, a2⟩, ⟨b6, c6, a6, f6⟩, ⟨Nat.le_antisymm c8 b8, a8⟩, ⟨Nat.le_antisymm c10 b10, a10⟩, ⟨Nat.le_antisymm c12 b12, a12⟩⟩
    have ht : Fd.text ⟨wd, M, d2, d6, d8, d10, d12⟩ = l := by
      rw [e0, e1, e2, e3, e4, e5, e6, e7, e8, e9, e10, e11, e12, e13, hr]
      simp only [Fd.text, List.append_nil]
    unfold readF
    rw [← ht, form_of hf]
    show (Fd.tick _, true) = _
    rw [v2, v6, v8, v10, v12]
    rfl
  · unfold readF
    cases hx : fmtF l with
    | none => rfl
    | some f =>
      exfalso
      obtain ⟨hf, ht⟩ := form_is hx
      refine hn ?_
      have bl : ∀ (X : List UInt8) (c : UInt8), ([32] ++ X).head? = some c → dgt c = false := fun X c e => by
        obtain rfl : (32 : UInt8) = c := Option.some.inj e
        rfl
      unfold Fd.text at ht
      obtain ⟨q1, p1⟩ := t1.1 f.w _ hf.w rfl ht.symm
      obtain ⟨q2, p2⟩ := t2.1 _ p1 q1
      obtain ⟨q3, p3, _⟩ := t3.1 _ _ p2 q2 hf.o.2 (by rw [hf.o.1]; exact Nat.le_refl _) (by rw [hf.o.1]; exact Nat.le_refl _) (fun q => by rw [hf.o.1] at q; omega) (.inl hf.o.1)
      obtain ⟨q4, p4⟩ := t4.1 _ p3 q3
      obtain ⟨q5, p5, _⟩ := t5.1 f.M _ hf.M p4 q4
      obtain ⟨q6, p6⟩ := t6.1 _ p5 q5
      obtain ⟨q7, p7, _⟩ := t7.1 f.y _ p6 q6 hf.y.2.2.1 hf.y.1 hf.y.2.1 hf.y.2.2.2 (.inr (bl _))
      obtain ⟨q8, p8⟩ := t8.1 _ p7 q7
      obtain ⟨q9, p9, _⟩ := t9.1 _ _ p8 q8 hf.h.2 (by rw [hf.h.1]; exact Nat.le_refl _) (by rw [hf.h.1]; exact Nat.le_refl _) (fun q => by rw [hf.h.1] at q; omega) (.inl hf.h.1)
      obtain ⟨q10, p10⟩ := t10.1 _ p9 q9
      obtain ⟨q11, p11, _⟩ := t11.1 _ _ p10 q10 hf.mi.2 (by rw [hf.mi.1]; exact Nat.le_refl _) (by rw [hf.mi.1]; exact Nat.le_refl _) (fun q => by rw [hf.mi.1] at q; omega) (.inl hf.mi.1)
      obtain ⟨q12, p12⟩ := t12.1 _ p11 q11
      obtain ⟨q13, p13, _⟩ := t13.1 _ _ p12 q12 hf.se.2 (by rw [hf.se.1]; exact Nat.le_refl _) (by rw [hf.se.1]; exact Nat.le_refl _) (fun q => by rw [hf.se.1] at q; omega) (.inl hf.se.1)
      obtain ⟨q14, p14⟩ := t14.1 [] p13 (by rw [q13, List.append_nil])
      exact ⟨p14, q14⟩

set_option maxHeartbeats 1000000 in
theorem rdread_w {s : SS} {l : List UInt8} (hG : Gst s) (hl : l.length ≤ 1000) : CallW pr n_stamp_read [str l] s fun v s' => v = .tuple ⟨[.int .i64 (readF l).1, .bool (readF l).2]⟩ ∧ Chg s s' [] := by
  refine CallW.run good ok_stamp_read (by simp) rfl ?_
  (repeat(first|refine pSeq ?_|refine pReg ?_|refine sCons ?_|refine sNil ?_|refine pSkip ?_|refine pRet ?_|refine pCond ?_|refine gNone ?_|refine gOn rfl ?_|refine gOff rfl rfl ?_|refine gTup rfl ?_))
  have c00 : Chg s ⟨(s.next, some (.cells [str [], .bool false] tSrd false false)) :: s.heap, s.next + 1, s.gl⟩ [] := .new []
  refine st_abs (cs' := [str l, .bool false]) rfl rfl lkH (Nat.lt_succ_self _) rfl rfl fun s0 x0 c01 n0 => ?_
  have c0 : Chg s s0 [] := c00.fresh c01 (by simp)
  have g0 : Gst s0 := hG.chg c0 (by simp)
  have hx0 : RdA s0 s.next l false := x0
  have hb0 : s.next < s0.next := by rw [n0]; exact Nat.lt_succ_self _
  generalize hB : s.next = B at *
  have own : ∀ {s : SS} {r : List UInt8} {w : Bool}, RdA s B r w → ∀ id ∈ [B], s.next ≤ id ∨ ∃ c' t' g', lookH s.heap id = some (.cells c' t' g' false) := fun h id hid => by
    obtain rfl : id = B := by simpa using hid
    exact .inr ⟨_, _, _, h⟩

  (repeat(first|refine pSeq ?_|refine pReg ?_|refine sCons ?_|refine sNil ?_|refine pSkip ?_|refine pRet ?_|refine pCond ?_|refine gNone ?_|refine gOn rfl ?_|refine gOff rfl rfl ?_|refine gTup rfl ?_))
  refine (weekday_w g0 hb0 hx0).mono fun v s1 q => ?_
  obtain ⟨r1, w1, hx1, t1, c1⟩ := q
  have hb1 : B < s1.next := Nat.lt_of_lt_of_le hb0 c1.next
  have g1 : Gst s1 := g0.chg c1 (own hx0)
  have len1 : r1.length ≤ 1000 := Nat.le_trans t1.2.2 (by omega)
  (repeat(first|refine pSeq ?_|refine pReg ?_|refine sCons ?_|refine sNil ?_|refine pSkip ?_|refine pRet ?_|refine pCond ?_|refine gNone ?_|refine gOn rfl ?_|refine gOff rfl rfl ?_|refine gTup rfl ?_))
  refine (rdtake_w (p := [44, 32]) hb1 hx1).mono fun v s2 q => ?_
  obtain ⟨r2, w2, hx2, t2, c2⟩ := q
  have hb2 : B < s2.next := Nat.lt_of_lt_of_le hb1 c2.next
  have g2 : Gst s2 := g1.chg c2 (own hx1)
  have len2 : r2.length ≤ 1000 := Nat.le_trans t2.2.2 (by omega)
  (repeat(first|refine pSeq ?_|refine pReg ?_|refine sCons ?_|refine sNil ?_|refine pSkip ?_|refine pRet ?_|refine pCond ?_|refine gNone ?_|refine gOn rfl ?_|refine gOff rfl rfl ?_|refine gTup rfl ?_))
  refine (rdnum_w (lo := 2) (hi := 2) hb2 hx2 (by omega) (by omega) (by omega)).mono fun v s3 q => ?_
  obtain ⟨o, r3, w3, rfl, hx3, t3, c3⟩ := q
  have hb3 : B < s3.next := Nat.lt_of_lt_of_le hb2 c3.next
  have g3 : Gst s3 := g2.chg c3 (own hx2)
  have len3 : r3.length ≤ 1000 := Nat.le_trans t3.2.2.1 (by omega)
  (repeat(first|refine pSeq ?_|refine pReg ?_|refine sCons ?_|refine sNil ?_|refine pSkip ?_|refine pRet ?_|refine pCond ?_|refine gNone ?_|refine gOn rfl ?_|refine gOff rfl rfl ?_|refine gTup rfl ?_))
  refine (rdtake_w (p := [32]) hb3 hx3).mono fun v s4 q => ?_
  obtain ⟨r4, w4, hx4, t4, c4⟩ := q
  have hb4 : B < s4.next := Nat.lt_of_lt_of_le hb3 c4.next
  have g4 : Gst s4 := g3.chg c4 (own hx3)
  have len4 : r4.length ≤ 1000 := Nat.le_trans t4.2.2 (by omega)
  (repeat(first|refine pSeq ?_|refine pReg ?_|refine sCons ?_|refine sNil ?_|refine pSkip ?_|refine pRet ?_|refine pCond ?_|refine gNone ?_|refine gOn rfl ?_|refine gOff rfl rfl ?_|refine gTup rfl ?_))
  refine (month_w g4 hb4 hx4).mono fun v s5 q => ?_
  obtain ⟨M, r5, w5, rfl, hx5, t5, c5⟩ := q
  have hb5 : B < s5.next := Nat.lt_of_lt_of_le hb4 c5.next
  have g5 : Gst s5 := g4.chg c5 (own hx4)
  have len5 : r5.length ≤ 1000 := Nat.le_trans t5.2.2.1 (by omega)
  (repeat(first|refine pSeq ?_|refine pReg ?_|refine sCons ?_|refine sNil ?_|refine pSkip ?_|refine pRet ?_|refine pCond ?_|refine gNone ?_|refine gOn rfl ?_|refine gOff rfl rfl ?_|refine gTup rfl ?_))
  refine (rdtake_w (p := [32]) hb5 hx5).mono fun v s6 q => ?_
  obtain ⟨r6, w6, hx6, t6, c6⟩ := q
  have hb6 : B < s6.next := Nat.lt_of_lt_of_le hb5 c6.next
  have g6 : Gst s6 := g5.chg c6 (own hx5)
  have len6 : r6.length ≤ 1000 := Nat.le_trans t6.2.2 (by omega)
  (repeat(first|refine pSeq ?_|refine pReg ?_|refine sCons ?_|refine sNil ?_|refine pSkip ?_|refine pRet ?_|refine pCond ?_|refine gNone ?_|refine gOn rfl ?_|refine gOff rfl rfl ?_|refine gTup rfl ?_))
  refine (rdnum_w (lo := 4) (hi := 10) hb6 hx6 (by omega) (by omega) (by omega)).mono fun v s7 q => ?_
  obtain ⟨y, r7, w7, rfl, hx7, t7, c7⟩ := q
  have hb7 : B < s7.next := Nat.lt_of_lt_of_le hb6 c7.next
  have g7 : Gst s7 := g6.chg c7 (own hx6)
  have len7 : r7.length ≤ 1000 := Nat.le_trans t7.2.2.1 (by omega)
  (repeat(first|refine pSeq ?_|refine pReg ?_|refine sCons ?_|refine sNil ?_|refine pSkip ?_|refine pRet ?_|refine pCond ?_|refine gNone ?_|refine gOn rfl ?_|refine gOff rfl rfl ?_|refine gTup rfl ?_))
  refine (rdtake_w (p := [32]) hb7 hx7).mono fun v s8 q => ?_
  obtain ⟨r8, w8, hx8, t8, c8⟩ := q
  have hb8 : B < s8.next := Nat.lt_of_lt_of_le hb7 c8.next
  have g8 : Gst s8 := g7.chg c8 (own hx7)
  have len8 : r8.length ≤ 1000 := Nat.le_trans t8.2.2 (by omega)
  (repeat(first|refine pSeq ?_|refine pReg ?_|refine sCons ?_|refine sNil ?_|refine pSkip ?_|refine pRet ?_|refine pCond ?_|refine gNone ?_|refine gOn rfl ?_|refine gOff rfl rfl ?_|refine gTup rfl ?_))
  refine (rdnum_w (lo := 2) (hi := 2) hb8 hx8 (by omega) (by omega) (by omega)).mono fun v s9 q => ?_
  obtain ⟨h, r9, w9, rfl, hx9, t9, c9⟩ := q
  have hb9 : B < s9.next := Nat.lt_of_lt_of_le hb8 c9.next
  have g9 : Gst s9 := g8.chg c9 (own hx8)
  have len9 : r9.length ≤ 1000 := Nat.le_trans t9.2.2.1 (by omega)
  (repeat(first|refine pSeq ?_|refine pReg ?_|refine sCons ?_|refine sNil ?_|refine pSkip ?_|refine pRet ?_|refine pCond ?_|refine gNone ?_|refine gOn rfl ?_|refine gOff rfl rfl ?_|refine gTup rfl ?_))
  refine (rdtake_w (p := [58]) hb9 hx9).mono fun v s10 q => ?_
  obtain ⟨r10, w10, hx10, t10, c10⟩ := q
  have hb10 : B < s10.next := Nat.lt_of_lt_of_le hb9 c10.next
  have g10 : Gst s10 := g9.chg c10 (own hx9)
  have len10 : r10.length ≤ 1000 := Nat.le_trans t10.2.2 (by omega)
  (repeat(first|refine pSeq ?_|refine pReg ?_|refine sCons ?_|refine sNil ?_|refine pSkip ?_|refine pRet ?_|refine pCond ?_|refine gNone ?_|refine gOn rfl ?_|refine gOff rfl rfl ?_|refine gTup rfl ?_))
  refine (rdnum_w (lo := 2) (hi := 2) hb10 hx10 (by omega) (by omega) (by omega)).mono fun v s11 q => ?_
  obtain ⟨mi, r11, w11, rfl, hx11, t11, c11⟩ := q
  have hb11 : B < s11.next := Nat.lt_of_lt_of_le hb10 c11.next
  have g11 : Gst s11 := g10.chg c11 (own hx10)
  have len11 : r11.length ≤ 1000 := Nat.le_trans t11.2.2.1 (by omega)
  (repeat(first|refine pSeq ?_|refine pReg ?_|refine sCons ?_|refine sNil ?_|refine pSkip ?_|refine pRet ?_|refine pCond ?_|refine gNone ?_|refine gOn rfl ?_|refine gOff rfl rfl ?_|refine gTup rfl ?_))
  refine (rdtake_w (p := [58]) hb11 hx11).mono fun v s12 q => ?_
  obtain ⟨r12, w12, hx12, t12, c12⟩ := q
  have hb12 : B < s12.next := Nat.lt_of_lt_of_le hb11 c12.next
  have g12 : Gst s12 := g11.chg c12 (own hx11)
  have len12 : r12.length ≤ 1000 := Nat.le_trans t12.2.2 (by omega)
  (repeat(first|refine pSeq ?_|refine pReg ?_|refine sCons ?_|refine sNil ?_|refine pSkip ?_|refine pRet ?_|refine pCond ?_|refine gNone ?_|refine gOn rfl ?_|refine gOff rfl rfl ?_|refine gTup rfl ?_))
  refine (rdnum_w (lo := 2) (hi := 2) hb12 hx12 (by omega) (by omega) (by omega)).mono fun v s13 q => ?_
  obtain ⟨se, r13, w13, rfl, hx13, t13, c13⟩ := q
  have hb13 : B < s13.next := Nat.lt_of_lt_of_le hb12 c13.next
  have g13 : Gst s13 := g12.chg c13 (own hx12)
  have len13 : r13.length ≤ 1000 := Nat.le_trans t13.2.2.1 (by omega)
  (repeat(first|refine pSeq ?_|refine pReg ?_|refine sCons ?_|refine sNil ?_|refine pSkip ?_|refine pRet ?_|refine pCond ?_|refine gNone ?_|refine gOn rfl ?_|refine gOff rfl rfl ?_|refine gTup rfl ?_))
  refine (rdtake_w (p := zoneT) hb13 hx13).mono fun v s14 q => ?_
  obtain ⟨r14, w14, hx14, t14, c14⟩ := q
  have hb14 : B < s14.next := Nat.lt_of_lt_of_le hb13 c14.next
  have g14 : Gst s14 := g13.chg c14 (own hx13)
  have len14 : r14.length ≤ 1000 := Nat.le_trans t14.2.2 (by omega)
  have cB : Chg s0 s14 [B] := (((((((((((((c1.trans c2).trans c3).trans c4).trans c5).trans c6).trans c7).trans c8).trans c9).trans c10).trans c11).trans c12).trans c13).trans c14).sub (by simp)
  have call : Chg s s14 [] := c0.fresh cB (by simp; omega)
  obtain ⟨pr1, pr2⟩ := read_pure t1 t2 t3 t4 t5 t6 t7 t8 t9 t10 t11 t12 t13 t14
  have bo := t3.2.2.2
  have bM := t5.2.2.2
  have bY := t7.2.2.2
  have bh := t9.2.2.2
  have bmi := t11.2.2.2
  have bse := t13.2.2.2
  (repeat(first|refine pSeq ?_|refine pReg ?_|refine sCons ?_|refine sNil ?_|refine pSkip ?_|refine pRet ?_|refine pCond ?_|refine gNone ?_|refine gOn rfl ?_|refine gOff rfl rfl ?_|refine gTup rfl ?_))
  refine ldB_is rfl hx14 rfl ?_
  (repeat(first|refine pSeq ?_|refine pReg ?_|refine sCons ?_|refine sNil ?_|refine pSkip ?_|refine pRet ?_|refine pCond ?_|refine gNone ?_|refine gOn rfl ?_|refine gOff rfl rfl ?_|refine gTup rfl ?_))
  cases hw : w14 with
  | true =>
    have e := pr2 (by rw [hw]; simp)
    (repeat(first|refine pSeq ?_|refine pReg ?_|refine sCons ?_|refine sNil ?_|refine pSkip ?_|refine pRet ?_|refine pCond ?_|refine gNone ?_|refine gOn rfl ?_|refine gOff rfl rfl ?_|refine gTup rfl ?_))
    rw [e]
    exact ⟨rfl, call⟩
  | false =>
    (repeat(first|refine pSeq ?_|refine pReg ?_|refine sCons ?_|refine sNil ?_|refine pSkip ?_|refine pRet ?_|refine pCond ?_|refine gNone ?_|refine gOn rfl ?_|refine gOff rfl rfl ?_|refine gTup rfl ?_))
    refine ldS_is rfl hx14 rfl ?_
    (repeat(first|refine pSeq ?_|refine pReg ?_|refine sCons ?_|refine sNil ?_|refine pSkip ?_|refine pRet ?_|refine pCond ?_|refine gNone ?_|refine gOn rfl ?_|refine gOff rfl rfl ?_|refine gTup rfl ?_))
    intro q hq
    by_cases hr : r14 = []
    · obtain rfl : q = false := by rw [hq, hr]; rfl
      have e := pr1 ⟨hw, hr⟩
      have hyl := ys_lo y
      have hyh := ys_hi (y := y) (by omega)
      have hmo := mo_le y (m := M) (by omega)
      (repeat(first|refine pSeq ?_|refine pReg ?_|refine sCons ?_|refine sNil ?_|refine pSkip ?_|refine pRet ?_|refine pCond ?_|refine gNone ?_|refine gOn rfl ?_|refine gOff rfl rfl ?_|refine gTup rfl ?_))
      refine (dayOf_w (y := y) (m := M) (o := o) g14 (by omega) bM (by omega)).mono fun v sx q => ?_
      obtain ⟨rfl, rfl⟩ := q
      (repeat(first|refine pSeq ?_|refine pReg ?_|refine sCons ?_|refine sNil ?_|refine pSkip ?_|refine pRet ?_|refine pCond ?_|refine gNone ?_|refine gOn rfl ?_|refine gOff rfl rfl ?_|refine gTup rfl ?_))
      intro z1 q1
      rw [i64_id (by omega)] at q1
      (repeat(first|refine pSeq ?_|refine pReg ?_|refine sCons ?_|refine sNil ?_|refine pSkip ?_|refine pRet ?_|refine pCond ?_|refine gNone ?_|refine gOn rfl ?_|refine gOff rfl rfl ?_|refine gTup rfl ?_))
      intro z2 q2
      rw [i64_id (by omega)] at q2
      (repeat(first|refine pSeq ?_|refine pReg ?_|refine sCons ?_|refine sNil ?_|refine pSkip ?_|refine pRet ?_|refine pCond ?_|refine gNone ?_|refine gOn rfl ?_|refine gOff rfl rfl ?_|refine gTup rfl ?_))
      intro z3 q3
      rw [i64_id (by omega)] at q3
      (repeat(first|refine pSeq ?_|refine pReg ?_|refine sCons ?_|refine sNil ?_|refine pSkip ?_|refine pRet ?_|refine pCond ?_|refine gNone ?_|refine gOn rfl ?_|refine gOff rfl rfl ?_|refine gTup rfl ?_))
      intro z4 q4
      rw [i64_id (by omega)] at q4
      (repeat(first|refine pSeq ?_|refine pReg ?_|refine sCons ?_|refine sNil ?_|refine pSkip ?_|refine pRet ?_|refine pCond ?_|refine gNone ?_|refine gOn rfl ?_|refine gOff rfl rfl ?_|refine gTup rfl ?_))
      intro z5 q5
      rw [i64_id (by omega)] at q5
      (repeat(first|refine pSeq ?_|refine pReg ?_|refine sCons ?_|refine sNil ?_|refine pSkip ?_|refine pRet ?_|refine pCond ?_|refine gNone ?_|refine gOn rfl ?_|refine gOff rfl rfl ?_|refine gTup rfl ?_))
      intro z6 q6
      rw [i64_id (by omega)] at q6
      (repeat(first|refine pSeq ?_|refine pReg ?_|refine sCons ?_|refine sNil ?_|refine pSkip ?_|refine pRet ?_|refine pCond ?_|refine gNone ?_|refine gOn rfl ?_|refine gOff rfl rfl ?_|refine gTup rfl ?_))
      rw [e]
      refine ⟨?_, call⟩
      rw [q6, q5, q4, q3, q2, q1]
      rfl
    · obtain rfl : q = true := by rw [hq]; simp [hr]
      have e := pr2 (fun q => hr q.2)
      (repeat(first|refine pSeq ?_|refine pReg ?_|refine sCons ?_|refine sNil ?_|refine pSkip ?_|refine pRet ?_|refine pCond ?_|refine gNone ?_|refine gOn rfl ?_|refine gOff rfl rfl ?_|refine gTup rfl ?_))
      rw [e]
      exact ⟨rfl, call⟩
theorem pdate_w {s : SS} {l : List UInt8} (hG : Gst s) (hF : Fine s) (hl : l.length ≤ 1000) : CallW pr n_stamp_ParseDate [str l] s fun v s' => v = pRes (pdF l) ∧ Chg s s' [] := by
  refine CallW.run good ok_stamp_ParseDate (by simp) rfl ?_
  (repeat(first|refine pSeq ?_|refine pReg ?_|refine sCons ?_|refine sNil ?_|refine pBlock ?_|refine pSkip ?_|refine pRet ?_|refine pCond ?_|refine gNone ?_))
  refine (rdread_w hG hl).mono fun v s1 q => ?_
  obtain ⟨rfl, c1⟩ := q
  unfold readF pdF
  cases hx : fmtF l with
  | none =>
    (repeat(first|refine pSeq ?_|refine pReg ?_|refine sCons ?_|refine sNil ?_|refine pBlock ?_|refine pSkip ?_|refine pRet ?_|refine pCond ?_|refine gNone ?_))
    intro q hq; obtain rfl : q = true := (by rw [hq]; simp <;> omega); (repeat(first|refine pSeq ?_|refine pReg ?_|refine sCons ?_|refine sNil ?_|refine pBlock ?_|refine pSkip ?_|refine pRet ?_|refine pCond ?_|refine gNone ?_))
    exact ⟨rfl, c1⟩
  | some f =>
    obtain ⟨hf, ht⟩ := form_is hx
    have hd := date_eq hf
    (repeat(first|refine pSeq ?_|refine pReg ?_|refine sCons ?_|refine sNil ?_|refine pBlock ?_|refine pSkip ?_|refine pRet ?_|refine pCond ?_|refine gNone ?_))
    intro q hq; obtain rfl : q = false := (by rw [hq]; simp <;> omega); (repeat(first|refine pSeq ?_|refine pReg ?_|refine sCons ?_|refine sNil ?_|refine pBlock ?_|refine pSkip ?_|refine pRet ?_|refine pCond ?_|refine gNone ?_))
    refine (date_w (hG.chg0 c1) (c1.fine hF)).mono fun v s2 q => ?_
    obtain ⟨rfl, c2⟩ := q
    (repeat(first|refine pSeq ?_|refine pReg ?_|refine sCons ?_|refine sNil ?_|refine pBlock ?_|refine pSkip ?_|refine pRet ?_|refine pCond ?_|refine gNone ?_))
    intro q hq
    by_cases hth : f.there
    · obtain rfl : q = false := by rw [hq, hd.2 hth, ht]; simp
      have h0 := f.there_tick hth
      (repeat(first|refine pSeq ?_|refine pReg ?_|refine sCons ?_|refine sNil ?_|refine pBlock ?_|refine pSkip ?_|refine pRet ?_|refine pCond ?_|refine gNone ?_))
      simp only [if_pos hth]
      refine ⟨?_, c1.nil c2⟩
      show _ = pRes (f.tick.toNat, 0)
      unfold pRes
      rw [show ((f.tick.toNat : Nat) : Int) = f.tick by omega]
      rfl
    · obtain rfl : q = true := by
        rw [hq, decide_eq_true_iff]
        exact fun e => hth (hd.1 (e.trans ht.symm))
      (repeat(first|refine pSeq ?_|refine pReg ?_|refine sCons ?_|refine sNil ?_|refine pBlock ?_|refine pSkip ?_|refine pRet ?_|refine pCond ?_|refine gNone ?_))
      simp only [if_neg hth]
      exact ⟨rfl, c1.nil c2⟩
end Go.Vf.S
end

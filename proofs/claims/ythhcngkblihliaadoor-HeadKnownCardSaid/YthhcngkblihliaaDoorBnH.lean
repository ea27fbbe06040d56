import Derived.Test.YthhcngkblihliaaDoorEngBe
import Derived.Lib.IndexMore
import Derived.Test.YthhcngkblihliaaDoorBnA
import Derived.Test.YthhcngkblihliaaDoorLbD
import Derived.Test.YthhcngkblihliaaDoorFnHL
import Derived.Test.YthhcngkblihliaaDoorEngYm
import Derived.Test.YthhcngkblihliaaDoorFnHT
import Derived.Test.YthhcngkblihliaaDoorFnHF
/- HdA -/
section
/- Lines, each ended by 0d 0a; what a text of such lines is made of. (No program.) -/
namespace Go.Vf.S
open Go Go.Vf
set_option linter.unusedVariables false
set_option linter.unusedSimpArgs false

/-- A byte that may stand in a line. -/
def okB (c : UInt8) : Bool := decide (c.toNat = 9 ∨ 32 ≤ c.toNat ∧ c.toNat ≠ 127)
/-- Lines, joined. -/
def jn : List (List UInt8) → List UInt8
  | [] => []
  | a :: r => a ++ 13 :: 10 :: jn r
def Okl (ls : List (List UInt8)) : Prop := ∀ a ∈ ls, a.all okB = true
/-- A message's text. -/
def IsT (l : List UInt8) : Prop := ∃ ls, Okl ls ∧ l = jn ls

theorem jn_cons (a : List UInt8) (r : List (List UInt8)) : jn (a :: r) = a ++ 13 :: 10 :: jn r := rfl
theorem jn_app : ∀ (a b : List (List UInt8)), jn (a ++ b) = jn a ++ jn b
  | [], b => rfl
  | x :: a, b => by rw [List.cons_append, jn_cons, jn_cons, jn_app a b]; simp
theorem jn_one (a : List UInt8) : jn [a] = a ++ [13, 10] := rfl
theorem Okl.cons {a : List UInt8} {r : List (List UInt8)} (h : Okl (a :: r)) : a.all okB = true ∧ Okl r := ⟨h a (by simp), fun x hx => h x (by simp [hx])⟩
theorem Okl.mk {a : List UInt8} {r : List (List UInt8)} (h : a.all okB = true) (hr : Okl r) : Okl (a :: r) := fun x hx => by
  rcases List.mem_cons.1 hx with rfl | q
  · exact h
  · exact hr x q
theorem Okl.nil : Okl [] := fun x hx => by simp at hx
theorem Okl.app {a b : List (List UInt8)} (ha : Okl a) (hb : Okl b) : Okl (a ++ b) := fun x hx => (List.mem_append.1 hx).elim (ha x) (hb x)
theorem Okl.left {a b : List (List UInt8)} (h : Okl (a ++ b)) : Okl a := fun x hx => h x (List.mem_append_left _ hx)
theorem Okl.right {a b : List (List UInt8)} (h : Okl (a ++ b)) : Okl b := fun x hx => h x (List.mem_append_right _ hx)
theorem Okl.sub {a b : List (List UInt8)} (h : Okl b) (hs : ∀ x ∈ a, x ∈ b) : Okl a := fun x hx => h x (hs x hx)

theorem ok_no {a : List UInt8} {c : UInt8} (h : a.all okB = true) (hc : okB c = false) : c ∉ a := fun q => by
  have := List.all_eq_true.1 h c q
  rw [hc] at this; cases this
theorem ok_13 {a : List UInt8} (h : a.all okB = true) : (13 : UInt8) ∉ a := ok_no h (by decide)
theorem ok_10 {a : List UInt8} (h : a.all okB = true) : (10 : UInt8) ∉ a := ok_no h (by decide)

theorem first_eq {c : UInt8} {u v : List UInt8} : ∀ {a b : List UInt8}, c ∉ a → c ∉ b → a ++ c :: u = b ++ c :: v → a = b ∧ u = v
  | [], [], _, _, h => by simpa using h
  | [], y :: b, _, hb, h => by
    simp only [List.nil_append, List.cons_append, List.cons.injEq] at h
    exact absurd (by simp [h.1]) hb
  | x :: a, [], ha, _, h => by
    simp only [List.nil_append, List.cons_append, List.cons.injEq] at h
    exact absurd (by simp [h.1]) ha
  | x :: a, y :: b, ha, hb, h => by
    simp only [List.cons_append, List.cons.injEq] at h
    obtain ⟨e1, e2⟩ := first_eq (a := a) (b := b) (fun q => ha (by simp [q])) (fun q => hb (by simp [q])) h.2
    exact ⟨by rw [h.1, e1], e2⟩

theorem jn_ahead {t : List UInt8} : ∀ {ls ls' : List (List UInt8)}, Okl ls → Okl ls' → jn ls' = jn ls ++ t → ∃ r, ls' = ls ++ r ∧ t = jn r
  | [], ls', _, _, h => ⟨ls', rfl, h.symm⟩
  | a :: ls, [], _, _, h => by
    have := congrArg List.length h
    simp [jn] at this
  | a :: ls, b :: ls', h1, h2, h => by
    rw [jn_cons, jn_cons] at h
    simp only [List.append_assoc, List.cons_append] at h
    obtain ⟨e1, e2⟩ := first_eq (ok_13 h2.cons.1) (ok_13 h1.cons.1) h
    obtain ⟨r, e3, e4⟩ := jn_ahead h1.cons.2 h2.cons.2 (List.cons.inj e2).2
    exact ⟨r, by rw [e1, e3]; rfl, e4⟩
theorem jn_inj {ls ls' : List (List UInt8)} (h1 : Okl ls) (h2 : Okl ls') (h : jn ls = jn ls') : ls = ls' := by
  obtain ⟨r, e1, e2⟩ := jn_ahead (t := []) h1 h2 (by rw [h, List.append_nil])
  cases r with
  | nil => rw [e1, List.append_nil]
  | cons a r => have := congrArg List.length e2; simp [jn] at this

/-- A line as they are gone through: up to its end, or all that is left. -/
def Ln (x rest : List UInt8) : Prop := (∃ a, x = a ++ [10] ∧ (10 : UInt8) ∉ a) ∨ (rest = [] ∧ x ≠ [] ∧ (10 : UInt8) ∉ x)

theorem ln_ne {x rest : List UInt8} (h : Ln x rest) : x ≠ [] := by
  rcases h with ⟨a, rfl, _⟩ | ⟨_, h, _⟩
  · simp
  · exact h
theorem ln_ok {x rest : List UInt8} {ls : List (List UInt8)} (h : Ln x rest) (hk : Okl ls) (he : x ++ rest = jn ls) : ∃ b r, ls = b :: r ∧ x = b ++ [13, 10] ∧ rest = jn r := by
  cases ls with
  | nil =>
    have := congrArg List.length he
    simp [jn] at this
    exact absurd this.1 (ln_ne h)
  | cons b r =>
    refine ⟨b, r, rfl, ?_⟩
    rw [jn_cons] at he
    have hb : (10 : UInt8) ∉ b ++ [13] := by
      simp only [List.mem_append, List.mem_singleton, not_or]
      exact ⟨ok_10 hk.cons.1, by decide⟩
    have e : b ++ 13 :: 10 :: jn r = (b ++ [13]) ++ 10 :: jn r := by simp
    rw [e] at he
    rcases h with ⟨a, rfl, ha⟩ | ⟨rfl, _, hx⟩
    · rw [List.append_assoc] at he
      obtain ⟨e1, e2⟩ := first_eq ha hb he
      exact ⟨by rw [e1]; simp, e2⟩
    · rw [List.append_nil] at he
      exact absurd (by rw [he]; simp) hx
/-- What is a text's next line, and what none. -/
theorem ln_end {x : List UInt8} {b : List UInt8} (hx : x = b ++ [13, 10]) (hb : b.all okB = true) : x.all okB = false := by
  rw [hx, List.all_append]
  have : ([13, 10] : List UInt8).all okB = false := by decide
  rw [this, Bool.and_false]

/-! ### The header's lines, and the body -/

def isN (a : List UInt8) : Bool := !a.isEmpty
def hdr (ls : List (List UInt8)) : List (List UInt8) := ls.takeWhile isN
def beh (ls : List (List UInt8)) : List (List UInt8) := ls.dropWhile isN
def bdy (ls : List (List UInt8)) : List UInt8 := jn (beh ls).tail
def early (ls : List (List UInt8)) : Bool := (beh ls).isEmpty
theorem hdr_beh (ls : List (List UInt8)) : hdr ls ++ beh ls = ls := List.takeWhile_append_dropWhile
theorem beh_cons {ls : List (List UInt8)} (h : early ls = false) : ∃ r, beh ls = [] :: r := by
  unfold early at h
  have h2 : ∀ a r, beh ls = a :: r → isN a = false := by
    intro a r e
    unfold beh at e
    have := List.head?_dropWhile_not isN ls
    rw [e] at this
    simpa using this
  cases hb : beh ls with
  | nil => rw [hb] at h; simp at h
  | cons a r =>
    have := h2 a r hb
    have : a = [] := by cases a <;> simp [isN] at this ⊢
    exact ⟨r, by rw [this]⟩
theorem hdr_ne {ls : List (List UInt8)} : ∀ a ∈ hdr ls, a ≠ [] := fun a ha => by
  have : isN a = true := List.all_eq_true.1 (List.all_takeWhile (l := ls)) a ha
  cases a <;> simp [isN] at this ⊢

/-- Where an empty line follows: at the end of the line ahead of it. -/
theorem idx_skip {b : UInt8} {l sub : List UInt8} (h : sub.isPrefixOf (b :: l) = false) : Lib.index (b :: l) sub = if Lib.index l sub = -1 then -1 else Lib.index l sub + 1 := by
  rw [Lib.index, if_neg (by simp [h])]
  by_cases q : Lib.index l sub = -1 <;> simp [q]

abbrev e4 : List UInt8 := [13, 10, 13, 10]
theorem pre_e4 (l : List UInt8) : ∀ {a : List UInt8} {t : List UInt8}, a.all okB = true → a ≠ [] → e4.isPrefixOf (13 :: 10 :: (a ++ t)) = false
  | [], _, _, h => absurd rfl h
  | c :: a, t, h, _ => by
    have : c ≠ 13 := fun e => by subst e; simp [okB] at h
    simp [List.isPrefixOf, e4]
    intro hc; exact absurd hc.symm this
theorem idx_line {t : List UInt8} : ∀ {a : List UInt8}, a.all okB = true → Lib.index (a ++ t) e4 = if Lib.index t e4 = -1 then -1 else Lib.index t e4 + a.length
  | [], _ => by by_cases q : Lib.index t e4 = -1 <;> simp [q]
  | c :: a, h => by
    simp only [List.all_cons, Bool.and_eq_true] at h
    have hc : c ≠ 13 := fun e => by subst e; simp [okB] at h
    have hp : e4.isPrefixOf (c :: (a ++ t)) = false := by
      simp [List.isPrefixOf, e4]
      intro q; exact absurd q.symm hc
    rw [List.cons_append, idx_skip hp, idx_line (a := a) h.2]
    by_cases q : Lib.index t e4 = -1
    · simp [q]
    · have := Lib.index_ge t e4
      rw [if_neg q, if_neg (by omega), if_neg q, List.length_cons]
      omega
theorem idx_hdr : ∀ {ls : List (List UInt8)}, Okl ls → Lib.index (13 :: 10 :: jn ls) e4 = if early ls = true then -1 else ((jn (hdr ls)).length : Int)
  | [], _ => by decide
  | a :: ls, h => by
    by_cases ha : a = []
    · subst ha
      have e1 : early ([] :: ls) = false := rfl
      have e2 : hdr ([] :: ls) = [] := rfl
      rw [e1, e2, if_neg (by simp)]
      rw [jn_cons, Lib.index, if_pos (by simp [List.isPrefixOf, e4])]
      rfl
    · have hn : isN a = true := by cases a <;> simp_all [isN]
      have e1 : early (a :: ls) = early ls := by unfold early beh; rw [List.dropWhile_cons, if_pos hn]
      have e2 : hdr (a :: ls) = a :: hdr ls := by unfold hdr; rw [List.takeWhile_cons, if_pos hn]
      rw [e1, e2, jn_cons, jn_cons]
      have p1 : e4.isPrefixOf (13 :: 10 :: (a ++ 13 :: 10 :: jn ls)) = false := pre_e4 [] h.cons.1 ha
      have p2 : e4.isPrefixOf (10 :: (a ++ 13 :: 10 :: jn ls)) = false := by simp [List.isPrefixOf, e4]
      have ih := idx_hdr h.cons.2
      have q := idx_line (t := 13 :: 10 :: jn ls) h.cons.1
      rw [idx_skip p1, idx_skip p2, q, ih]
      cases early ls with
      | true => simp
      | false =>
        have hx : ((jn (hdr ls)).length : Int) ≠ -1 := by omega
        have hx2 : ((jn (hdr ls)).length : Int) + (a.length : Int) ≠ -1 := by omega
        have hx3 : ((jn (hdr ls)).length : Int) + (a.length : Int) + 1 ≠ -1 := by omega
        simp only [Bool.false_eq_true, if_false, hx, hx2, hx3, List.length_append, List.length_cons]
        omega
end Go.Vf.S
end
/- HdB -/
section
/- Messages: fields, a header's fields. (No program.) -/
namespace Go.Vf.S
open Go Go.Vf
set_option linter.unusedVariables false
set_option linter.unusedSimpArgs false

structure Fld where
  n : List UInt8
  v : List UInt8
  r : List UInt8
deriving DecidableEq
structure Msg where
  fs : List Fld
  b : List UInt8
  e : Bool
deriving DecidableEq
def msZ : Msg := ⟨[], [], false⟩
def flZ : Fld := ⟨[], [], []⟩

def nameB (c : UInt8) : Bool := decide (33 ≤ c.toNat ∧ c.toNat ≤ 126 ∧ c.toNat ≠ 58)
def isNm (l : List UInt8) : Bool := !l.isEmpty && l.all nameB
/-- Without the bytes of lines' ends. -/
def noE (l : List UInt8) : List UInt8 := l.filter fun c => c != 13 && c != 10
def fieldF (raw : List UInt8) : Option Fld :=
  if (cutF 58 raw).2.2 = true ∧ isNm (dropR (cutF 58 raw).1) = true then some ⟨dropR (cutF 58 raw).1, trimF (noE (cutF 58 raw).2.1), raw⟩ else none
/-- A line that belongs to the one ahead of it. -/
def stW (l : List UInt8) : Bool := match l with
  | c :: _ => wh c
  | [] => false
def grp (h : List UInt8) (t : List (List UInt8)) : List (List UInt8) := h :: t.takeWhile stW
def fieldsF : Nat → List (List UInt8) → Option (List Fld)
  | _, [] => some []
  | 0, _ :: _ => none
  | n + 1, h :: t => match fieldF (jn (grp h t)) with
    | none => none
    | some f => match fieldsF n (t.dropWhile stW) with
      | none => none
      | some fs => some (f :: fs)
def mesF (ls : List (List UInt8)) : Option Msg := match fieldsF (hdr ls).length (hdr ls) with
  | none => none
  | some fs => some ⟨fs, bdy ls, early ls⟩

theorem grp_split (h : List UInt8) (t : List (List UInt8)) : grp h t ++ t.dropWhile stW = h :: t := by
  unfold grp
  rw [List.cons_append, List.takeWhile_append_dropWhile]
theorem drop_le (t : List (List UInt8)) : (t.dropWhile stW).length ≤ t.length := by
  have := congrArg List.length (List.takeWhile_append_dropWhile (p := stW) (l := t))
  rw [List.length_append] at this
  omega
/-- More steps than lines are as good as just so many. -/
theorem fields_more : ∀ (n m : Nat) (l : List (List UInt8)), l.length ≤ n → l.length ≤ m → fieldsF n l = fieldsF m l
  | _, _, [], _, _ => by unfold fieldsF; rfl
  | 0, _, _ :: _, h, _ => by simp at h
  | _, 0, _ :: _, _, h => by simp at h
  | n + 1, m + 1, a :: t, h1, h2 => by
    have := drop_le t
    rw [List.length_cons] at h1 h2
    rw [fieldsF, fieldsF, fields_more n m _ (by omega) (by omega)]
theorem fields_cons {n : Nat} {h : List UInt8} {t : List (List UInt8)} (hn : t.length ≤ n) : fieldsF (t.length + 1) (h :: t) = match fieldF (jn (grp h t)) with
    | none => none
    | some f => match fieldsF (t.dropWhile stW).length (t.dropWhile stW) with
      | none => none
      | some fs => some (f :: fs) := by
  rw [fieldsF, fields_more t.length (t.dropWhile stW).length _ (drop_le t) (Nat.le_refl _)]

theorem okl_grp {h : List UInt8} {t : List (List UInt8)} (hk : Okl (h :: t)) : Okl (grp h t) ∧ Okl (t.dropWhile stW) := by
  have e := grp_split h t
  rw [← e] at hk
  exact ⟨hk.left, hk.right⟩

/-! ### Line ends taken out -/

theorem rep_no {c : List UInt8} {t : List UInt8} : (13 : UInt8) ∉ c → rep 13 10 [] (c ++ t) = c ++ rep 13 10 [] t := by
  induction c with
  | nil => intro _; rfl
  | cons x c ih =>
    intro h
    have hx : x ≠ 13 := fun e => h (by simp [e])
    have ih := ih fun q => h (by simp [q])
    cases hc : c ++ t with
    | nil =>
      rw [hc] at ih
      have : c = [] := by cases c <;> simp_all
      subst this
      simp only [List.nil_append] at hc
      subst hc
      rfl
    | cons y r =>
      rw [List.cons_append, hc, rep_cons, if_neg (fun q => hx q.1), ← hc, ih]
      rfl
theorem rep_e (t : List UInt8) : rep 13 10 [] (13 :: 10 :: t) = rep 13 10 [] t := by rw [rep_cons, if_pos ⟨rfl, rfl⟩]; rfl
theorem noE_app (a b : List UInt8) : noE (a ++ b) = noE a ++ noE b := by simp [noE]
theorem noE_ok {c : List UInt8} (h : c.all okB = true) : noE c = c := by
  unfold noE
  rw [List.filter_eq_self]
  intro x hx
  have h1 : x ≠ 13 := fun e => ok_13 h (e ▸ hx)
  have h2 : x ≠ 10 := fun e => ok_10 h (e ▸ hx)
  simp [h1, h2]
theorem rep_jn {c : List UInt8} : ∀ {ls : List (List UInt8)}, c.all okB = true → Okl ls → rep 13 10 [] (c ++ jn ls) = noE (c ++ jn ls)
  | [], hc, _ => by
    show rep 13 10 [] (c ++ []) = noE (c ++ [])
    rw [rep_no (ok_13 hc), List.append_nil, noE_ok hc]
    show c ++ [] = c
    rw [List.append_nil]
  | a :: ls, hc, h => by
    rw [rep_no (ok_13 hc), noE_app, noE_ok hc, jn_cons, rep_no (ok_13 h.cons.1), rep_e]
    have ih := rep_jn (c := []) (ls := ls) rfl h.cons.2
    simp only [List.nil_append] at ih
    rw [ih, noE_app, noE_ok h.cons.1]
    rfl
/-- What stands behind a colon. -/
theorem behind_ok {c : UInt8} (hc : okB c = true) : ∀ {ls : List (List UInt8)} {f t : List UInt8}, Okl ls → jn ls = f ++ c :: t → ∃ a r, a.all okB = true ∧ Okl r ∧ t = a ++ 13 :: 10 :: jn r
  | [], f, t, _, h => by cases f <;> simp [jn] at h
  | a :: ls, f, t, hk, h => by
    rw [jn_cons] at h
    rcases List.append_eq_append_iff.1 h with ⟨q, e1, e2⟩ | ⟨q, e1, e2⟩
    · match q, e2 with
      | [], e2 =>
        simp only [List.nil_append, List.cons.injEq] at e2
        rw [← e2.1] at hc
        exact absurd hc (by decide)
      | [x], e2 =>
        simp only [List.cons_append, List.nil_append, List.cons.injEq] at e2
        rw [← e2.2.1] at hc
        exact absurd hc (by decide)
      | x :: y :: q, e2 =>
        simp only [List.cons_append, List.cons.injEq] at e2
        exact behind_ok hc hk.cons.2 e2.2.2
    · cases q with
      | nil =>
        simp only [List.nil_append, List.cons.injEq] at e2
        rw [e2.1] at hc
        exact absurd hc (by decide)
      | cons x q =>
        simp only [List.cons_append, List.cons.injEq] at e2
        have ha := hk.cons.1
        rw [e1, List.all_append, List.all_cons] at ha
        simp only [Bool.and_eq_true] at ha
        exact ⟨q, ls, ha.2.2, hk.cons.2, e2.2⟩
theorem cut_yes {c : UInt8} {l : List UInt8} (h : (cutF c l).2.2 = true) : l = (cutF c l).1 ++ c :: (cutF c l).2.1 ∧ c ∉ (cutF c l).1 := by
  unfold cutF at h ⊢
  split at h
  · rename_i hm
    rw [if_pos hm]
    obtain ⟨f, r, rfl, hf⟩ := List.eq_append_cons_of_mem hm
    have e := while_first (r := r) hf
    dsimp only
    rw [e]
    refine ⟨?_, hf⟩
    have : (f ++ c :: r).drop (f.length + 1) = r := by
      rw [show f ++ c :: r = (f ++ [c]) ++ r by simp, show f.length + 1 = (f ++ [c]).length by simp, List.drop_left]
    rw [this]
  · cases h
/-- The library's way to take line ends out, and the document's. -/
theorem rep_field {g : List (List UInt8)} (hk : Okl g) (h : (cutF 58 (jn g)).2.2 = true) : rep 13 10 [] (cutF 58 (jn g)).2.1 = noE (cutF 58 (jn g)).2.1 := by
  obtain ⟨a, r, h1, h2, h3⟩ := behind_ok (by decide) hk (cut_yes h).1
  rw [h3]
  have := rep_jn (c := a) (ls := [] :: r) h1 (Okl.mk rfl h2)
  exact this

/-! ### Names -/

theorem dropR_split (l : List UInt8) : ∃ w, l = dropR l ++ w ∧ w.all wh = true := by
  refine ⟨(l.reverse.takeWhile wh).reverse, ?_, ?_⟩
  · unfold dropR
    rw [← List.reverse_append, List.takeWhile_append_dropWhile, List.reverse_reverse]
  · rw [List.all_reverse]; exact List.all_takeWhile
theorem all_mem_no {l : List UInt8} {c : UInt8} {f : UInt8 → Bool} (h : c ∈ l) (hf : f c = false) : l.all f = false := by
  rw [List.all_eq_false]
  exact ⟨c, h, by simp [hf]⟩
theorem nm_13 {l : List UInt8} (h : (13 : UInt8) ∈ l) : isNm (dropR l) = false := by
  obtain ⟨w, e, hw⟩ := dropR_split l
  rw [e] at h
  rcases List.mem_append.1 h with q | q
  · unfold isNm
    rw [all_mem_no q (by decide), Bool.and_false]
  · have := List.all_eq_true.1 hw _ q
    exact absurd this (by decide)
end Go.Vf.S
end
/- HdD -/
section
/- Messages: bytes, names, parts of a text. -/
namespace Go.Vf.S
open Go Go.Vf Go.Proofs Go.RowKit
attribute [local irreducible] wSeq wRow wp wG
set_option linter.unusedVariables false
set_option linter.unusedSimpArgs false
set_option maxRecDepth 10000

theorem callV_f {f : FuncId} {m : MF} (h : compF pr f = some m) (x : Value) : callV pr (.func (.func f) ⟨[]⟩ ⟨[]⟩) [x] = some (.enter f [x]) := by
  unfold compF at h
  split at h
  · cases h
  · rename_i fn hfn
    split at h
    · cases h
    · rename_i b hb
      have e : pr.funcs[f]? = some fn := hfn
      simp only [callV, e, hb, Option.isSome_some, cond_true]
      rfl

theorem valueByte_w {s : SS} {c : UInt8} : CallW pr n_head_valueByte [.int .u8 c.toNat] s fun v s' => v = .bool (okB c) ∧ s' = s := by
  have := c.toNat_lt
  refine CallW.run good ok_head_valueByte (by simp) rfl ?_
  (repeat' (first | refine pSeq ?_ | refine pReg ?_ | refine sRaw ?_ | refine sCons ?_ | refine sNil ?_ | refine rCons ?_ | refine rNil ?_ | refine kNo ?_ | refine pRow ?_ | refine pBlock ?_ | refine pSkip ?_ | refine pExit ?_ | refine pRet ?_ | refine pCond ?_ | refine gNone ?_ | refine gOn rfl ?_ | refine gOff rfl rfl ?_ | refine gTup rfl ?_ | (intro q hq; cases q <;> simp only [true_eq_decide_iff, false_eq_decide_iff, Bool.not_true, Bool.not_false, Bool.true_eq, Bool.false_eq, decide_eq_true_eq, decide_eq_false_iff_not, reduceCtorEq] at hq)))
  all_goals (refine ⟨bool_eq ?_, rfl⟩; unfold okB; rw [Bool.eq_iff_iff]; simp only [decide_eq_true_eq, true_iff, false_iff, reduceCtorEq]; omega)
theorem nameByte_w {s : SS} {c : UInt8} : CallW pr n_head_nameByte [.int .u8 c.toNat] s fun v s' => v = .bool (nameB c) ∧ s' = s := by
  have := c.toNat_lt
  refine CallW.run good ok_head_nameByte (by simp) rfl ?_
  (repeat' (first | refine pSeq ?_ | refine pReg ?_ | refine sRaw ?_ | refine sCons ?_ | refine sNil ?_ | refine rCons ?_ | refine rNil ?_ | refine kNo ?_ | refine pRow ?_ | refine pBlock ?_ | refine pSkip ?_ | refine pExit ?_ | refine pRet ?_ | refine pCond ?_ | refine gNone ?_ | refine gOn rfl ?_ | refine gOff rfl rfl ?_ | refine gTup rfl ?_ | (intro q hq; cases q <;> simp only [true_eq_decide_iff, false_eq_decide_iff, Bool.not_true, Bool.not_false, Bool.true_eq, Bool.false_eq, decide_eq_true_eq, decide_eq_false_iff_not, reduceCtorEq] at hq)))
  all_goals (refine ⟨bool_eq ?_, rfl⟩; unfold nameB; rw [Bool.eq_iff_iff]; simp only [decide_eq_true_eq, true_iff, false_iff, reduceCtorEq]; omega)
theorem hrow_w {s : SS} {l : List UInt8} {f : FuncId} {g : UInt8 → Bool} (hl : l.length ≤ 1000000) (hf : ∀ x, callV pr (.func (.func f) ⟨[]⟩ ⟨[]⟩) [x] = some (.enter f [x]))
    (hc : ∀ (c : UInt8) s1, CallW pr f [.int .u8 c.toNat] s1 fun v s2 => v = .bool (g c) ∧ s2 = s1) :
    CallW pr n_head_row [str l, .func (.func f) ⟨[]⟩ ⟨[]⟩] s fun v s' => v = .bool (l.all g) ∧ s' = s := by
  refine CallW.run good ok_head_row (by simp) rfl ?_
  (repeat(first|refine pSeq ?_|refine pReg ?_|refine sCons ?_|refine sNil ?_|refine pBlock ?_|refine pSkip ?_|refine pExit ?_|refine pRet ?_|refine pCond ?_|refine gNone ?_))
  intro n hn
  (repeat(first|refine pSeq ?_|refine pReg ?_|refine sCons ?_|refine sNil ?_|refine pBlock ?_|refine pSkip ?_|refine pExit ?_|refine pRet ?_|refine pCond ?_|refine gNone ?_))
  subst hn
  refine pLoop (MW.head good (fun i : Nat => l.length - i) (fun i => i ≤ l.length ∧ (l.take i).all g = true) (fun i => [(0, str l), (1, .func (.func f) ⟨[]⟩ ⟨[]⟩), (7, .int .i64 l.length), (8, .int .i64 i)]) (fun i => s) 0 ⟨Nat.zero_le _, rfl⟩ (Wk.same ⟨rfl, rfl, rfl, rfl, trivial⟩) ?_)
  intro i ⟨h1, h2⟩
  (repeat(first|refine pSeq ?_|refine pReg ?_|refine sCons ?_|refine sNil ?_|refine pBlock ?_|refine pSkip ?_|refine pExit ?_|refine pRet ?_|refine pCond ?_|refine gNone ?_))
  intro q hq
  by_cases hlt : i < l.length
  · obtain rfl : q = true := by rw [hq]; simp; omega
    (repeat(first|refine pSeq ?_|refine pReg ?_|refine sCons ?_|refine sNil ?_|refine pBlock ?_|refine pSkip ?_|refine pExit ?_|refine pRet ?_|refine pCond ?_|refine gNone ?_))
    refine ⟨by omega, ?_⟩
    intro m hm
    obtain rfl : m = i := by omega
    obtain ⟨c, hcc⟩ : ∃ c, l[m]? = some c := ⟨_, List.getElem?_eq_getElem hlt⟩
    refine ⟨c, hcc, ?_⟩
    (repeat(first|refine pSeq ?_|refine pReg ?_|refine sCons ?_|refine sNil ?_|refine pBlock ?_|refine pSkip ?_|refine pExit ?_|refine pRet ?_|refine pCond ?_|refine gNone ?_))
    refine ⟨.call f [.int .u8 c.toNat], hf _, ?_⟩
    refine (hc c _).mono fun v s q => ?_
    obtain ⟨rfl, rfl⟩ := q
    (repeat(first|refine pSeq ?_|refine pReg ?_|refine sCons ?_|refine sNil ?_|refine pBlock ?_|refine pSkip ?_|refine pExit ?_|refine pRet ?_|refine pCond ?_|refine gNone ?_))
    intro q hq
    by_cases hp : g c = true
    · obtain rfl : q = false := by rw [hq, hp]; rfl
      (repeat(first|refine pSeq ?_|refine pReg ?_|refine sCons ?_|refine sNil ?_|refine pBlock ?_|refine pSkip ?_|refine pExit ?_|refine pRet ?_|refine pCond ?_|refine gNone ?_))
      intro z hz
      rw [i64_id (by omega)] at hz
      obtain rfl : z = ((m + 1 : Nat) : Int) := by omega
      (repeat(first|refine pSeq ?_|refine pReg ?_|refine sCons ?_|refine sNil ?_|refine pBlock ?_|refine pSkip ?_|refine pExit ?_|refine pRet ?_|refine pCond ?_|refine gNone ?_))
      exact ⟨m + 1, ⟨hlt, by rw [take_next hcc]; simp [h2, hp]⟩, by show l.length - (m + 1) < l.length - m; omega, Wk.same ⟨rfl, rfl, rfl, rfl, trivial⟩⟩
    · obtain rfl : q = true := by rw [hq, Bool.eq_false_iff.2 hp]; rfl
      (repeat(first|refine pSeq ?_|refine pReg ?_|refine sCons ?_|refine sNil ?_|refine pBlock ?_|refine pSkip ?_|refine pExit ?_|refine pRet ?_|refine pCond ?_|refine gNone ?_))
      exact ⟨bool_eq (all_no hcc (Bool.eq_false_iff.2 hp)).symm, rfl⟩
  · obtain rfl : q = false := by rw [hq]; simp; omega
    (repeat(first|refine pSeq ?_|refine pReg ?_|refine sCons ?_|refine sNil ?_|refine pBlock ?_|refine pSkip ?_|refine pExit ?_|refine pRet ?_|refine pCond ?_|refine gNone ?_))
    exact ⟨bool_eq (by rw [← h2, List.take_of_length_le (by omega)]), rfl⟩

theorem isName_w {s : SS} {l : List UInt8} (hl : l.length ≤ 1000000) : CallW pr n_head_isName [str l] s fun v s' => v = .bool (isNm l) ∧ s' = s := by
  refine CallW.run good ok_head_isName (by simp) rfl ?_
  (repeat(first|refine pSeq ?_|refine pReg ?_|refine sCons ?_|refine sNil ?_|refine pRet ?_|refine gNone ?_|refine gOn rfl ?_|refine gOff rfl rfl ?_|refine gTup rfl ?_))
  intro q hq
  by_cases h : l = []
  · obtain rfl : q = false := by rw [hq, h]; rfl
    (repeat(first|refine pSeq ?_|refine pReg ?_|refine sCons ?_|refine sNil ?_|refine pRet ?_|refine gNone ?_|refine gOn rfl ?_|refine gOff rfl rfl ?_|refine gTup rfl ?_))
    exact ⟨bool_eq (by rw [h]; rfl), rfl⟩
  · obtain rfl : q = true := by rw [hq]; simp [h]
    (repeat(first|refine pSeq ?_|refine pReg ?_|refine sCons ?_|refine sNil ?_|refine pRet ?_|refine gNone ?_|refine gOn rfl ?_|refine gOff rfl rfl ?_|refine gTup rfl ?_))
    refine (hrow_w (g := nameB) hl (callV_f ok_head_nameByte) (fun c s1 => nameByte_w)).mono fun v s q => ?_
    obtain ⟨rfl, rfl⟩ := q
    (repeat(first|refine pSeq ?_|refine pReg ?_|refine sCons ?_|refine sNil ?_|refine pRet ?_|refine gNone ?_|refine gOn rfl ?_|refine gOff rfl rfl ?_|refine gTup rfl ?_))
    exact ⟨bool_eq (by unfold isNm; cases l <;> simp_all), rfl⟩

theorem TrimRight_w {s : SS} {l : List UInt8} (hl : l.length ≤ 1000000) : CallW pr n_strings_TrimRight [str l, .string ⟨#[32, 9]⟩] s fun v s' => v = str (dropR l) ∧ Chg s s' [] := by
  refine CallW.run good ok_strings_TrimRight (by simp) rfl ?_
  (repeat(first|refine pSeq ?_|refine pReg ?_|refine sCons ?_|refine sNil ?_|refine pSkip ?_|refine pRet ?_|refine pCond ?_|refine gNone ?_|refine gOn rfl ?_|refine gOff rfl rfl ?_|refine gTup rfl ?_))
  intro q hq
  by_cases h0 : l = []
  · subst h0
    obtain rfl : q = true := by rw [hq]; rfl
    (repeat(first|refine pSeq ?_|refine pReg ?_|refine sCons ?_|refine sNil ?_|refine pSkip ?_|refine pRet ?_|refine pCond ?_|refine gNone ?_|refine gOn rfl ?_|refine gOff rfl rfl ?_|refine gTup rfl ?_))
    exact ⟨rfl, .refl _ _⟩
  · obtain rfl : q = false := by rw [hq]; simp [h0]
    (repeat(first|refine pSeq ?_|refine pReg ?_|refine sCons ?_|refine sNil ?_|refine pSkip ?_|refine pRet ?_|refine pCond ?_|refine gNone ?_|refine gOn rfl ?_|refine gOff rfl rfl ?_|refine gTup rfl ?_))
    intro q hq
    obtain rfl : q = false := by rw [hq]; rfl
    (repeat(first|refine pSeq ?_|refine pReg ?_|refine sCons ?_|refine sNil ?_|refine pSkip ?_|refine pRet ?_|refine pCond ?_|refine gNone ?_|refine gOn rfl ?_|refine gOff rfl rfl ?_|refine gTup rfl ?_))
    intro n hn
    (repeat(first|refine pSeq ?_|refine pReg ?_|refine sCons ?_|refine sNil ?_|refine pSkip ?_|refine pRet ?_|refine pCond ?_|refine gNone ?_|refine gOn rfl ?_|refine gOff rfl rfl ?_|refine gTup rfl ?_))
    intro q hq
    obtain rfl : q = false := by rw [hq, hn]; rfl
    (repeat(first|refine pSeq ?_|refine pReg ?_|refine sCons ?_|refine sNil ?_|refine pSkip ?_|refine pRet ?_|refine pCond ?_|refine gNone ?_|refine gOn rfl ?_|refine gOff rfl rfl ?_|refine gTup rfl ?_))
    refine (makeSet_w (k := [32, 9]) (by simp) (by simp)).mono fun v s1 q => ?_
    obtain ⟨rfl, c1⟩ := q
    (repeat(first|refine pSeq ?_|refine pReg ?_|refine sCons ?_|refine sNil ?_|refine pSkip ?_|refine pRet ?_|refine pCond ?_|refine gNone ?_|refine gOn rfl ?_|refine gOff rfl rfl ?_|refine gTup rfl ?_))
    have n1 := c1.next
    refine st_abs (cs := tab fun _ => false) rfl rfl lkH (Nat.lt_succ_self _) (tab_all1 _) (tab_row _ _) fun s2 e2 c2 n2 => ?_
    (repeat(first|refine pSeq ?_|refine pReg ?_|refine sCons ?_|refine sNil ?_|refine pSkip ?_|refine pRet ?_|refine pCond ?_|refine gNone ?_|refine gOn rfl ?_|refine gOff rfl rfl ?_|refine gTup rfl ?_))
    refine (trimR_w hl e2).mono fun v s2 q => ?_
    obtain ⟨rfl, rfl⟩ := q
    (repeat(first|refine pSeq ?_|refine pReg ?_|refine sCons ?_|refine sNil ?_|refine pSkip ?_|refine pRet ?_|refine pCond ?_|refine gNone ?_|refine gOn rfl ?_|refine gOff rfl rfl ?_|refine gTup rfl ?_))
    exact ⟨rfl, (c1.nil (.new [])).fresh c2 (by simp; omega)⟩

theorem sIndex_w {s : SS} {l m : List UInt8} (hM : Gx s) (hl : l.length ≤ 1000000) : CallW pr 63 [str l, str m] s fun v s' => v = .int .i64 (Lib.index l m) ∧ s' = s := by
  refine CallW.kit rfl fun B w0 ρ args' w H hr => ?_
  obtain ⟨v1, v2, rfl, q1, q2⟩ := lrel_2 hr
  obtain rfl := str_inv q1
  obtain rfl := str_inv q2
  obtain ⟨g1, g2, m1, g4⟩ := hM
  obtain ⟨e, he, hb, ho⟩ := H.glob gMx g1
  obtain ⟨v', p1, p2⟩ := H.cellAt g4 he (off := 0) rfl
  rw [hb, ho, int_inv p2] at p1
  exact (Any.strings_Index Tryd.lays143 ⟨⟨l⟩⟩ ⟨⟨m⟩⟩ m1 w (by show l.length < _; omega) p1).mono fun e w' ⟨q, r⟩ => ⟨q, by rw [r]; exact Below.refl _ _⟩

/-- The lines of the header, and the body. -/
theorem part_w {s : SS} {ls : List (List UInt8)} (hM : Gx s) (hk : Okl ls) (hl : (jn ls).length ≤ 100000) :
    CallW pr n_head_part [str (jn ls)] s fun v s' => v = .tuple ⟨[str (jn (hdr ls)), str (bdy ls), .bool (early ls)]⟩ ∧ s' = s := by
  refine CallW.run good ok_head_part (by simp) rfl ?_
  (repeat(first|refine pSeq ?_|refine pReg ?_|refine sCons ?_|refine sNil ?_|refine rCons ?_|refine rNil ?_|refine kNo ?_|refine pRow ?_|refine pSkip ?_|refine pRet ?_|refine pCond ?_|refine gNone ?_))
  refine ⟨by simp; omega, ?_⟩
  intro x hx
  subst hx
  (repeat(first|refine pSeq ?_|refine pReg ?_|refine sCons ?_|refine sNil ?_|refine rCons ?_|refine rNil ?_|refine kNo ?_|refine pRow ?_|refine pSkip ?_|refine pRet ?_|refine pCond ?_|refine gNone ?_))
  refine (sIndex_w hM (by simp; omega)).mono fun v s q => ?_
  obtain ⟨rfl, rfl⟩ := q
  have hi := idx_hdr hk
  have hsp : jn ls = jn (hdr ls) ++ jn (beh ls) := by rw [← jn_app, hdr_beh]
  (repeat(first|refine pSeq ?_|refine pReg ?_|refine sCons ?_|refine sNil ?_|refine rCons ?_|refine rNil ?_|refine kNo ?_|refine pRow ?_|refine pSkip ?_|refine pRet ?_|refine pCond ?_|refine gNone ?_))
  have hi' : Lib.index ([13, 10] ++ jn ls) [13, 10, 13, 10] = if early ls = true then -1 else ((jn (hdr ls)).length : Int) := hi
  rw [hi']
  intro q hq
  cases he : early ls with
  | true =>
    rw [he, if_pos rfl] at hq
    obtain rfl : q = true := by rw [hq]; rfl
    have hb : beh ls = [] := by unfold early at he; simpa using he
    have h1 : jn (hdr ls) = jn ls := by rw [hsp, hb]; simp [jn]
    have h2 : bdy ls = [] := by unfold bdy; rw [hb]; rfl
    rw [h1, h2]
    (repeat(first|refine pSeq ?_|refine pReg ?_|refine sCons ?_|refine sNil ?_|refine rCons ?_|refine rNil ?_|refine kNo ?_|refine pRow ?_|refine pSkip ?_|refine pRet ?_|refine pCond ?_|refine gNone ?_))
    exact ⟨rfl, rfl⟩
  | false =>
    rw [he, if_neg (by simp)] at hq
    obtain rfl : q = false := by rw [hq]; simp
    rw [if_neg (by simp)]
    obtain ⟨r, hr⟩ := beh_cons he
    have hb : bdy ls = jn r := by unfold bdy; rw [hr]; rfl
    rw [hr, jn_cons] at hsp
    have hlen := congrArg List.length hsp
    simp only [List.nil_append, List.length_append, List.length_cons] at hlen
    (repeat(first|refine pSeq ?_|refine pReg ?_|refine sCons ?_|refine sNil ?_|refine rCons ?_|refine rNil ?_|refine kNo ?_|refine pRow ?_|refine pSkip ?_|refine pRet ?_|refine pCond ?_|refine gNone ?_))
    refine ⟨by omega, ?_⟩
    intro m hm g hg
    obtain rfl : m = (jn (hdr ls)).length := by omega
    have eg : g = jn (hdr ls) := by rw [hg, hsp]; simp
    clear hg
    subst eg
    (repeat(first|refine pSeq ?_|refine pReg ?_|refine sCons ?_|refine sNil ?_|refine rCons ?_|refine rNil ?_|refine kNo ?_|refine pRow ?_|refine pSkip ?_|refine pRet ?_|refine pCond ?_|refine gNone ?_))
    intro z hz
    rw [i64_id (by omega)] at hz
    (repeat(first|refine pSeq ?_|refine pReg ?_|refine sCons ?_|refine sNil ?_|refine rCons ?_|refine rNil ?_|refine kNo ?_|refine pRow ?_|refine pSkip ?_|refine pRet ?_|refine pCond ?_|refine gNone ?_))
    refine ⟨by omega, ?_⟩
    intro m hm g hg
    obtain rfl : m = (jn (hdr ls)).length + 2 := by omega
    have eg : g = bdy ls := by
      rw [hg, List.take_of_length_le (by simp), hb, hsp, show jn (hdr ls) ++ ([] ++ 13 :: 10 :: jn r) = (jn (hdr ls) ++ [13, 10]) ++ jn r by simp]
      exact List.drop_left' (by simp)
    clear hg
    subst eg
    (repeat(first|refine pSeq ?_|refine pReg ?_|refine sCons ?_|refine sNil ?_|refine rCons ?_|refine rNil ?_|refine kNo ?_|refine pRow ?_|refine pSkip ?_|refine pRet ?_|refine pCond ?_|refine gNone ?_))
    exact ⟨rfl, rfl⟩
end Go.Vf.S
end
/- HdE -/
section
/- A field's text, read: the program and the document. -/
namespace Go.Vf.S
open Go Go.Vf Go.Proofs Go.RowKit
attribute [local irreducible] wSeq wRow wp wG
set_option linter.unusedVariables false
set_option linter.unusedSimpArgs false
set_option maxRecDepth 10000

abbrev tFl : TypeId := 33
abbrev tRf : TypeId := 37
def flC (f : Fld) : List Value := [str f.n, str f.v, str f.r]
abbrev flV (f : Fld) : Value := .agg ⟨flC f⟩
theorem agg_Fl : aggB pr tFl = some true := by kernel_rfl
theorem sz_Fl : sizeB pr tFl = some 3 := by kernel_rfl
theorem agg_Rf7 : aggB pr tRf = some true := by kernel_rfl
theorem sz_Rf7 : sizeB pr tRf = some 3 := by kernel_rfl
theorem agg3 {f : Fld} : takeN 3 ((flC f).drop 0) = some (flC f) := rfl

def fOr (o : Option Fld) : Fld := o.getD flZ
def eOr (o : Option Fld) : Nat := if o.isSome = true then 0 else 5

theorem cut_at {c : UInt8} {f r : List UInt8} (hf : c ∉ f) : cutF c (f ++ c :: r) = (f, r, true) := by
  unfold cutF
  rw [if_pos (by simp), while_first hf]
  congr 1
  rw [show f ++ c :: r = (f ++ [c]) ++ r by simp, show f.length + 1 = (f ++ [c]).length by simp, List.drop_left]
theorem cut_none {c : UInt8} {l : List UInt8} (h : c ∉ l) : cutF c l = (l, [], false) := by unfold cutF; rw [if_neg h]
theorem dropR_len (l : List UInt8) : (dropR l).length ≤ l.length := by
  obtain ⟨w, e, -⟩ := dropR_split l
  have := congrArg List.length e
  rw [List.length_append] at this
  omega
theorem rep_len (a b : UInt8) : ∀ (n : Nat) (l : List UInt8), l.length ≤ n → (rep a b [] l).length ≤ l.length
  | _, [], _ => Nat.le_refl _
  | _, [x], _ => Nat.le_refl _
  | 0, x :: y :: r, h => by simp at h
  | 1, x :: y :: r, h => by simp at h
  | n + 2, x :: y :: r, h => by
    rw [rep_cons]
    simp only [List.length_cons] at h ⊢
    split
    · have := rep_len a b n r (by omega)
      simp only [List.nil_append]
      omega
    · have := rep_len a b (n + 1) (y :: r) (by simp; omega)
      simp only [List.length_cons] at this ⊢
      omega

set_option maxHeartbeats 1000000 in
theorem read_w {s : SS} {g : List (List UInt8)} (hM : Gx s) (hk : Okl g) (hl : (jn g).length ≤ 100000) :
    CallW pr n_head_read [str (jn g)] s fun v s' => v = .tuple ⟨[flV (fOr (fieldF (jn g))), .int .i64 (eOr (fieldF (jn g)))]⟩ ∧ Chg s s' [] := by
  have eF : fieldF (jn g) = if (cutF 58 (jn g)).2.2 = true ∧ isNm (dropR (cutF 58 (jn g)).1) = true then some ⟨dropR (cutF 58 (jn g)).1, trimF (noE (cutF 58 (jn g)).2.1), jn g⟩ else none := rfl
  have hrep := rep_field hk
  have hcl := cut_len 58 (jn g)
  have hrl := rep_len 13 10 _ (cutF 58 (jn g)).2.1 (Nat.le_refl _)
  refine CallW.run good ok_head_read (by simp) rfl ?_
  have cA : Chg s { s with heap := (s.next, some (.cells (flC flZ) tFl false false)) :: s.heap, next := s.next + 1 } [] := .new _
  (repeat(first|refine pSeq ?_|refine pReg ?_|refine sCons ?_|refine sNil ?_|refine pSkip ?_|refine pRet ?_|refine pCond ?_|refine gNone ?_|refine gOn rfl ?_|refine gOff rfl rfl ?_|refine gTup rfl ?_))
  refine (cut1_w (by omega)).mono fun v s0 q => ?_
  obtain ⟨rfl, e0⟩ := q
  have kA : lookH s0.heap s.next = some (.cells (flC flZ) tFl false false) := by rw [e0]; exact lkH
  have nA : s.next < s0.next := by rw [e0]; exact Nat.lt_succ_self _
  rw [← show s0 = ({ s with heap := (s.next, some (.cells (flC flZ) tFl false false)) :: s.heap, next := s.next + 1 } : SS) from e0] at cA
  clear e0
  generalize jn g = raw at *
  generalize cutF 58 raw = C at *
  obtain ⟨a, b, fd⟩ := C
  dsimp only at eF hrep hcl hrl ⊢
  (repeat(first|refine pSeq ?_|refine pReg ?_|refine sCons ?_|refine sNil ?_|refine pSkip ?_|refine pRet ?_|refine pCond ?_|refine gNone ?_|refine gOn rfl ?_|refine gOff rfl rfl ?_|refine gTup rfl ?_))
  refine (TrimRight_w (by omega)).mono fun v s1 q => ?_
  obtain ⟨rfl, c1⟩ := q
  have k1 := c1.blk _ _ nA (by simp) kA
  have n1 : s.next < s1.next := Nat.lt_of_lt_of_le nA c1.next
  have c01 := cA.nil c1
  have hdl := dropR_len a
  (repeat(first|refine pSeq ?_|refine pReg ?_|refine sCons ?_|refine sNil ?_|refine pSkip ?_|refine pRet ?_|refine pCond ?_|refine gNone ?_|refine gOn rfl ?_|refine gOff rfl rfl ?_|refine gTup rfl ?_))
  cases fd with
  | false =>
    rw [if_neg (by simp)] at eF
    rw [eF]
    intro q hq
    obtain rfl : q = true := hq
    (repeat(first|refine pSeq ?_|refine pReg ?_|refine sCons ?_|refine sNil ?_|refine pSkip ?_|refine pRet ?_|refine pCond ?_|refine gNone ?_|refine gOn rfl ?_|refine gOff rfl rfl ?_|refine gTup rfl ?_))
    refine st_abs (cs' := flC flZ) rfl rfl k1 n1 rfl rfl fun s2 e2 c2 n2 => ?_
    (repeat(first|refine pSeq ?_|refine pReg ?_|refine sCons ?_|refine sNil ?_|refine pSkip ?_|refine pRet ?_|refine pCond ?_|refine gNone ?_|refine gOn rfl ?_|refine gOff rfl rfl ?_|refine gTup rfl ?_))
    (repeat (first | with_reducible refine sqRet ?_ | with_reducible refine bkRet ?_ | with_reducible refine hdRet ?_))
    exact ret_cell agg_Fl sz_Fl rfl e2 agg3 rfl ⟨rfl, c01.fresh c2 (by simp)⟩
  | true =>
    intro q hq
    obtain rfl : q = false := hq
    (repeat(first|refine pSeq ?_|refine pReg ?_|refine sCons ?_|refine sNil ?_|refine pSkip ?_|refine pRet ?_|refine pCond ?_|refine gNone ?_|refine gOn rfl ?_|refine gOff rfl rfl ?_|refine gTup rfl ?_))
    refine (isName_w (by omega)).mono fun v s1 q => ?_
    obtain ⟨rfl, rfl⟩ := q
    (repeat(first|refine pSeq ?_|refine pReg ?_|refine sCons ?_|refine sNil ?_|refine pSkip ?_|refine pRet ?_|refine pCond ?_|refine gNone ?_|refine gOn rfl ?_|refine gOff rfl rfl ?_|refine gTup rfl ?_))
    intro q hq
    cases hn : isNm (dropR a) with
    | false =>
      rw [hn] at hq
      obtain rfl : q = true := hq
      rw [hn, if_neg (by simp)] at eF
      rw [eF]
      (repeat(first|refine pSeq ?_|refine pReg ?_|refine sCons ?_|refine sNil ?_|refine pSkip ?_|refine pRet ?_|refine pCond ?_|refine gNone ?_|refine gOn rfl ?_|refine gOff rfl rfl ?_|refine gTup rfl ?_))
      refine st_abs (cs' := flC flZ) rfl rfl k1 n1 rfl rfl fun s2 e2 c2 n2 => ?_
      (repeat(first|refine pSeq ?_|refine pReg ?_|refine sCons ?_|refine sNil ?_|refine pSkip ?_|refine pRet ?_|refine pCond ?_|refine gNone ?_|refine gOn rfl ?_|refine gOff rfl rfl ?_|refine gTup rfl ?_))
      (repeat (first | with_reducible refine sqRet ?_ | with_reducible refine bkRet ?_ | with_reducible refine hdRet ?_))
      exact ret_cell agg_Fl sz_Fl rfl e2 agg3 rfl ⟨rfl, c01.fresh c2 (by simp)⟩
    | true =>
      rw [hn] at hq
      obtain rfl : q = false := hq
      rw [hn, if_pos ⟨rfl, rfl⟩] at eF
      rw [eF]
      (repeat(first|refine pSeq ?_|refine pReg ?_|refine sCons ?_|refine sNil ?_|refine pSkip ?_|refine pRet ?_|refine pCond ?_|refine gNone ?_|refine gOn rfl ?_|refine gOff rfl rfl ?_|refine gTup rfl ?_))
      refine (replace_w (new := []) (hM.chg c01) (by omega) (by simp) (by simp)).mono fun v s1 q => ?_
      obtain ⟨rfl, rfl⟩ := q
      rw [hrep rfl]
      rw [hrep rfl] at hrl
      (repeat(first|refine pSeq ?_|refine pReg ?_|refine sCons ?_|refine sNil ?_|refine pSkip ?_|refine pRet ?_|refine pCond ?_|refine gNone ?_|refine gOn rfl ?_|refine gOff rfl rfl ?_|refine gTup rfl ?_))
      refine (textTrim_w (by omega)).mono fun v s2 q => ?_
      obtain ⟨rfl, c2⟩ := q
      have k2 := c2.blk _ _ n1 (by simp) k1
      have n2 : s.next < s2.next := Nat.lt_of_lt_of_le n1 c2.next
      (repeat(first|refine pSeq ?_|refine pReg ?_|refine sCons ?_|refine sNil ?_|refine pSkip ?_|refine pRet ?_|refine pCond ?_|refine gNone ?_|refine gOn rfl ?_|refine gOff rfl rfl ?_|refine gTup rfl ?_))
      refine st_abs (cs' := flC ⟨dropR a, trimF (noE b), raw⟩) rfl rfl k2 n2 rfl rfl fun s3 e3 c3 n3 => ?_
      (repeat(first|refine pSeq ?_|refine pReg ?_|refine sCons ?_|refine sNil ?_|refine pSkip ?_|refine pRet ?_|refine pCond ?_|refine gNone ?_|refine gOn rfl ?_|refine gOff rfl rfl ?_|refine gTup rfl ?_))
      (repeat (first | with_reducible refine sqRet ?_ | with_reducible refine bkRet ?_ | with_reducible refine hdRet ?_))
      exact ret_cell agg_Fl sz_Fl rfl e3 agg3 rfl ⟨rfl, (c01.nil c2).fresh c3 (by simp)⟩

theorem noE_next {l : List UInt8} {k j : Nat} {c : UInt8} (hj : j ≤ k) (h : l[k]? = some c) : noE ((l.take (k + 1)).drop j) = noE ((l.take k).drop j) ++ noE [c] := by
  have hk := lt_of_get h
  rw [take_next h, List.drop_append_of_le_length (by rw [List.length_take]; omega), noE_app]

end Go.Vf.S
end
/- HdF -/
section
/- Lines, gone through one by one. -/
namespace Go.Vf.S
open Go Go.Vf Go.Proofs Go.RowKit
attribute [local irreducible] wSeq wRow wp wG
set_option linter.unusedVariables false
set_option linter.unusedSimpArgs false
set_option maxRecDepth 10000

theorem Lines_w {s : SS} {l : List UInt8} : CallW pr n_strings_Lines [str l] s fun v s' => v = .func (.func n_strings_Lines_1) #[] #[.pointer (some ⟨s.next, 0, none⟩)] ∧ lookH s'.heap s.next = some (.cells [str l] tS false false) ∧ Chg s s' [] ∧ s'.next = s.next + 1 := by
  refine CallW.run good ok_strings_Lines (by simp) rfl ?_
  (repeat(first|refine pSeq ?_|refine pReg ?_|refine sCons ?_|refine sNil ?_|refine pRet ?_|refine gNone ?_))
  refine ⟨.val (.func (.func n_strings_Lines_1) #[] #[.pointer (some ⟨s.next, 0, none⟩)]), rfl, ?_⟩
  (repeat(first|refine pSeq ?_|refine pReg ?_|refine sCons ?_|refine sNil ?_|refine pRet ?_|refine gNone ?_))
  exact ⟨rfl, lkH, .new _, rfl⟩

structure LnI where
  dn : List UInt8
  r : List UInt8
  s : SS

theorem lines1_w {Inv : List UInt8 → SS → Prop} {Stop : SS → Prop} {lo bx : Nat} {l0 : List UInt8} {s : SS} (hb : lookH s.heap bx = some (.cells [str l0] tS false false)) (hlt : bx < s.next) (hl : l0.length ≤ 100000) (hI : Inv [] s)
    (hst : ∀ dn s s', Inv dn s → Chg s s' [bx] → Inv dn s')
    (hY : ∀ dn x rest s1, l0 = dn ++ (x ++ rest) → Ln x rest → Inv dn s1 → bx < s1.next → YieldW pr lo [str x] s1 fun v s' => ∃ b, v = .bool b ∧ (b = true → Inv (dn ++ x) s') ∧ (b = false → Stop s') ∧ ∃ Z, Chg s1 s' Z ∧ bx ∉ Z) :
    CallW pr n_strings_Lines_1 [.func (.yield lo) #[] #[], .pointer (some ⟨bx, 0, none⟩)] s fun v s' => Inv l0 s' ∨ Stop s' := by
  refine CallW.pieces (nt := 25) (res := []) (c := .block 0 (.loop (.seq code_HL_RA (.block 1 (.seq code_HL_RB (.seq code_HL_RC (.seq (.region 6 ops_HL_Y6 false) code_HL_CD))))))) (by kernel_rfl) (by kernel_rfl) (by kernel_rfl) (by kernel_rfl) (by simp) ?_
  refine W.block (W.loop (k := s.next) (fun i : LnI => i.r.length) (fun i => lookH i.s.heap bx = some (.cells [str i.r] tS false false) ∧ bx < i.s.next ∧ Inv i.dn i.s ∧ l0 = i.dn ++ i.r)
    (fun i => [(0, .func (.yield lo) #[] #[]), (1, .pointer (some ⟨bx, 0, none⟩))]) (fun i => i.s) ⟨[], l0, s⟩ ⟨hb, hlt, hI, rfl⟩ (Wk.same ⟨rfl, rfl, trivial⟩) ?_)
  rintro ⟨dn, r, s0⟩ ⟨hb, hlt, hI, he⟩
  dsimp only at hb hlt hI he ⊢
  have hrl := congrArg List.length he
  rw [List.length_append] at hrl
  refine W.seq (comp_ok good ok_HL_RA (Box.out (p := wp pr 25 s.next _ _ _ _) ?_))
  (repeat(first|refine pSeq ?_|refine pReg ?_|refine sCons ?_|refine sNil ?_|refine rCons ?_|refine rNil ?_|refine kNo ?_|refine pRow ?_|refine pSkip ?_|refine pExit ?_|refine pRet ?_|refine pCond ?_|refine gNone ?_))
  refine ldS_is rfl hb rfl ?_
  (repeat(first|refine pSeq ?_|refine pReg ?_|refine sCons ?_|refine sNil ?_|refine rCons ?_|refine rNil ?_|refine kNo ?_|refine pRow ?_|refine pSkip ?_|refine pExit ?_|refine pRet ?_|refine pCond ?_|refine gNone ?_))
  intro n hn
  (repeat(first|refine pSeq ?_|refine pReg ?_|refine sCons ?_|refine sNil ?_|refine rCons ?_|refine rNil ?_|refine kNo ?_|refine pRow ?_|refine pSkip ?_|refine pExit ?_|refine pRet ?_|refine pCond ?_|refine gNone ?_))
  intro q hq
  by_cases hr : r = []
  · obtain rfl : q = false := by rw [hq, hn, hr]; rfl
    rw [hr, List.append_nil] at he
    (repeat(first|refine pSeq ?_|refine pReg ?_|refine sCons ?_|refine sNil ?_|refine rCons ?_|refine rNil ?_|refine kNo ?_|refine pRow ?_|refine pSkip ?_|refine pExit ?_|refine pRet ?_|refine pCond ?_|refine gNone ?_))
    rw [he]
    exact .inl hI
  · have hpos : 0 < r.length := List.length_pos_iff.2 hr
    obtain rfl : q = true := by rw [hq, hn]; simp; omega
    (repeat(first|refine pSeq ?_|refine pReg ?_|refine sCons ?_|refine sNil ?_|refine rCons ?_|refine rNil ?_|refine kNo ?_|refine pRow ?_|refine pSkip ?_|refine pExit ?_|refine pRet ?_|refine pCond ?_|refine gNone ?_))
    refine W.block (W.seq (comp_ok good ok_HL_RB (Box.out (p := wp pr 25 s.next _ _ _ _) ?_)))
    (repeat(first|refine pSeq ?_|refine pReg ?_|refine sCons ?_|refine sNil ?_|refine rCons ?_|refine rNil ?_|refine kNo ?_|refine pRow ?_|refine pSkip ?_|refine pExit ?_|refine pRet ?_|refine pCond ?_|refine gNone ?_))
    refine W.seq (comp_ok good ok_HL_RC (Box.out (p := wp pr 25 s.next _ _ _ _) ?_))
    (repeat(first|refine pSeq ?_|refine pReg ?_|refine sCons ?_|refine sNil ?_|refine rCons ?_|refine rNil ?_|refine kNo ?_|refine pRow ?_|refine pSkip ?_|refine pExit ?_|refine pRet ?_|refine pCond ?_|refine gNone ?_))
    refine ldS_is rfl hb rfl ?_
    (repeat(first|refine pSeq ?_|refine pReg ?_|refine sCons ?_|refine sNil ?_|refine rCons ?_|refine rNil ?_|refine kNo ?_|refine pRow ?_|refine pSkip ?_|refine pExit ?_|refine pRet ?_|refine pCond ?_|refine gNone ?_))
    refine (IndexByte_w (c := 10)).mono fun v s0 q => ?_
    obtain ⟨rfl, rfl⟩ := q
    (repeat(first|refine pSeq ?_|refine pReg ?_|refine sCons ?_|refine sNil ?_|refine rCons ?_|refine rNil ?_|refine kNo ?_|refine pRow ?_|refine pSkip ?_|refine pExit ?_|refine pRet ?_|refine pCond ?_|refine gNone ?_))
    intro q hq
    rcases Classical.em ((10 : UInt8) ∈ r) with hm | hm
    obtain ⟨f, r2, hfr, hf⟩ := List.eq_append_cons_of_mem hm
    have ei : Lib.indexByte r 10 = f.length := by rw [hfr]; exact index_first hf
    rw [ei] at hq ⊢
    have hlen : r.length = f.length + 1 + r2.length := by rw [hfr]; simp; omega
    obtain rfl : q = true := by rw [hq]; simp
    obtain ⟨x, hx⟩ : ∃ x, x = f ++ [10] := ⟨_, rfl⟩
    obtain ⟨rest, hrest⟩ : ∃ y, y = r2 := ⟨_, rfl⟩
    have hsp : r = x ++ rest := by rw [hx, hrest, hfr]; simp
    have hLn : Ln x rest := .inl ⟨f, hx, hf⟩
    (repeat(first|refine pSeq ?_|refine pReg ?_|refine sCons ?_|refine sNil ?_|refine rCons ?_|refine rNil ?_|refine kNo ?_|refine pRow ?_|refine pSkip ?_|refine pExit ?_|refine pRet ?_|refine pCond ?_|refine gNone ?_))
    refine ldS_is rfl hb rfl ?_
    (repeat(first|refine pSeq ?_|refine pReg ?_|refine sCons ?_|refine sNil ?_|refine rCons ?_|refine rNil ?_|refine kNo ?_|refine pRow ?_|refine pSkip ?_|refine pExit ?_|refine pRet ?_|refine pCond ?_|refine gNone ?_))
    intro z hz
    rw [i64_id (by omega)] at hz
    (repeat(first|refine pSeq ?_|refine pReg ?_|refine sCons ?_|refine sNil ?_|refine rCons ?_|refine rNil ?_|refine kNo ?_|refine pRow ?_|refine pSkip ?_|refine pExit ?_|refine pRet ?_|refine pCond ?_|refine gNone ?_))
    refine ⟨by omega, ?_⟩
    intro m1 hm1 g1 hg1
    obtain rfl : m1 = f.length + 1 := by omega
    have eg : x = g1 := by rw [hg1, hfr, hx, show f ++ 10 :: r2 = (f ++ [10]) ++ r2 by simp, List.drop_zero, Nat.sub_zero]; exact (List.take_left' (by simp)).symm
    subst eg
    (repeat(first|refine pSeq ?_|refine pReg ?_|refine sCons ?_|refine sNil ?_|refine rCons ?_|refine rNil ?_|refine kNo ?_|refine pRow ?_|refine pSkip ?_|refine pExit ?_|refine pRet ?_|refine pCond ?_|refine gNone ?_))
    refine ldS_is rfl hb rfl ?_
    (repeat(first|refine pSeq ?_|refine pReg ?_|refine sCons ?_|refine sNil ?_|refine rCons ?_|refine rNil ?_|refine kNo ?_|refine pRow ?_|refine pSkip ?_|refine pExit ?_|refine pRet ?_|refine pCond ?_|refine gNone ?_))
    intro z hz
    rw [i64_id (by omega)] at hz
    (repeat(first|refine pSeq ?_|refine pReg ?_|refine sCons ?_|refine sNil ?_|refine rCons ?_|refine rNil ?_|refine kNo ?_|refine pRow ?_|refine pSkip ?_|refine pExit ?_|refine pRet ?_|refine pCond ?_|refine gNone ?_))
    refine ⟨by omega, ?_⟩
    intro m1 hm1 g2 hg2
    obtain rfl : m1 = f.length + 1 := by omega
    have eg : rest = g2 := by rw [hg2, List.take_of_length_le (by simp), hrest, hfr, show f ++ 10 :: r2 = (f ++ [10]) ++ r2 by simp]; exact (List.drop_left' (by simp)).symm
    subst eg
    (repeat(first|refine pSeq ?_|refine pReg ?_|refine sCons ?_|refine sNil ?_|refine rCons ?_|refine rNil ?_|refine kNo ?_|refine pRow ?_|refine pSkip ?_|refine pExit ?_|refine pRet ?_|refine pCond ?_|refine gNone ?_))
    refine st_abs (cs' := [str rest]) rfl rfl hb hlt rfl rfl fun s1 e1 c1 n1 => ?_
    (repeat(first|refine pSeq ?_|refine pReg ?_|refine sCons ?_|refine sNil ?_|refine rCons ?_|refine rNil ?_|refine kNo ?_|refine pRow ?_|refine pSkip ?_|refine pExit ?_|refine pRet ?_|refine pCond ?_|refine gNone ?_))
    refine W.weak (k := s.next) (T' := [(0, .func (.yield lo) #[] #[]), (1, .pointer (some ⟨bx, 0, none⟩)), (3, str x)]) (s' := s1) (Wk.same ⟨rfl, rfl, rfl, trivial⟩) ?_
    rotate_left
    have ei : Lib.indexByte r 10 = -1 := idx_no hm
    rw [ei] at hq ⊢
    obtain rfl : q = false := by rw [hq]; rfl
    obtain ⟨x, hx⟩ : ∃ x, x = r := ⟨_, rfl⟩
    obtain ⟨rest, hrest⟩ : ∃ y : List UInt8, y = [] := ⟨_, rfl⟩
    have hsp : r = x ++ rest := by rw [hx, hrest]; simp
    have hLn : Ln x rest := .inr ⟨hrest, by rw [hx]; exact hr, by rw [hx]; exact hm⟩
    (repeat(first|refine pSeq ?_|refine pReg ?_|refine sCons ?_|refine sNil ?_|refine rCons ?_|refine rNil ?_|refine kNo ?_|refine pRow ?_|refine pSkip ?_|refine pExit ?_|refine pRet ?_|refine pCond ?_|refine gNone ?_))
    refine ldS_is rfl hb rfl ?_
    (repeat(first|refine pSeq ?_|refine pReg ?_|refine sCons ?_|refine sNil ?_|refine rCons ?_|refine rNil ?_|refine kNo ?_|refine pRow ?_|refine pSkip ?_|refine pExit ?_|refine pRet ?_|refine pCond ?_|refine gNone ?_))
    refine st_abs (cs' := [str rest]) rfl rfl hb hlt rfl (by rw [hrest]; rfl) fun s1 e1 c1 n1 => ?_
    (repeat(first|refine pSeq ?_|refine pReg ?_|refine sCons ?_|refine sNil ?_|refine rCons ?_|refine rNil ?_|refine kNo ?_|refine pRow ?_|refine pSkip ?_|refine pExit ?_|refine pRet ?_|refine pCond ?_|refine gNone ?_))
    refine W.weak (k := s.next) (T' := [(0, .func (.yield lo) #[] #[]), (1, .pointer (some ⟨bx, 0, none⟩)), (3, str x)]) (s' := s1) (Wk.same ⟨rfl, rfl, by rw [hx]; rfl, trivial⟩) ?_
    all_goals
      have hx0 : 0 < x.length := List.length_pos_iff.2 (ln_ne hLn)
      have hrl2 := congrArg List.length hsp
      rw [List.length_append] at hrl2
      have lt1 : bx < s1.next := by omega
      refine W.seq (k := s.next) (W.regY2 (z := ⟨2, none, some 23, 21, [22]⟩) good (by kernel_rfl) ok_HL_Y6a ok_HL_Y6b ?_)
      (repeat(first|refine pSeq ?_|refine pReg ?_|refine sCons ?_|refine sNil ?_|refine rCons ?_|refine rNil ?_|refine kNo ?_|refine pRow ?_|refine pSkip ?_|refine pExit ?_|refine pRet ?_|refine pCond ?_|refine gNone ?_))
      refine ⟨lo, _, rfl, rfl, ?_⟩
      refine (hY dn x rest s1 (by rw [he, hsp]) hLn (hst _ _ _ hI c1) lt1).mono fun v s2 q => ?_
      obtain ⟨b, rfl, y1, y2, Z, y3, y4⟩ := q
      (repeat(first|refine pSeq ?_|refine pReg ?_|refine sCons ?_|refine sNil ?_|refine rCons ?_|refine rNil ?_|refine kNo ?_|refine pRow ?_|refine pSkip ?_|refine pExit ?_|refine pRet ?_|refine pCond ?_|refine gNone ?_))
      intro q hq
      cases b with
      | true =>
        obtain rfl : q = false := hq
        (repeat(first|refine pSeq ?_|refine pReg ?_|refine sCons ?_|refine sNil ?_|refine rCons ?_|refine rNil ?_|refine kNo ?_|refine pRow ?_|refine pSkip ?_|refine pExit ?_|refine pRet ?_|refine pCond ?_|refine gNone ?_))
        refine comp_ok good ok_HL_CD (Box.out (p := wp pr 25 s.next _ _ _ _) ?_)
        (repeat(first|refine pSeq ?_|refine pReg ?_|refine sCons ?_|refine sNil ?_|refine rCons ?_|refine rNil ?_|refine kNo ?_|refine pRow ?_|refine pSkip ?_|refine pExit ?_|refine pRet ?_|refine pCond ?_|refine gNone ?_))
        exact ⟨⟨dn ++ x, rest, s2⟩, ⟨y3.blk _ _ lt1 y4 e1, Nat.lt_of_lt_of_le lt1 y3.next, y1 rfl, by rw [he, hsp]; simp⟩, by show rest.length < r.length; omega, Wk.same ⟨rfl, rfl, trivial⟩⟩
      | false =>
        obtain rfl : q = true := hq
        (repeat(first|refine pSeq ?_|refine pReg ?_|refine sCons ?_|refine sNil ?_|refine rCons ?_|refine rNil ?_|refine kNo ?_|refine pRow ?_|refine pSkip ?_|refine pExit ?_|refine pRet ?_|refine pCond ?_|refine gNone ?_))
        refine comp_ok good ok_HL_CD (Box.out (p := wp pr 25 s.next _ _ _ _) ?_)
        (repeat(first|refine pSeq ?_|refine pReg ?_|refine sCons ?_|refine sNil ?_|refine rCons ?_|refine rNil ?_|refine kNo ?_|refine pRow ?_|refine pSkip ?_|refine pExit ?_|refine pRet ?_|refine pCond ?_|refine gNone ?_))
        exact .inr (y2 rfl)
end Go.Vf.S
end
/- HdG -/
section
/- Is it a message's text? -/
namespace Go.Vf.S
open Go Go.Vf Go.Proofs Go.RowKit
attribute [local irreducible] wSeq wRow wp wG
set_option linter.unusedVariables false
set_option linter.unusedSimpArgs false
set_option maxRecDepth 10000

/-- The only result, one value in a cell of its own. -/
theorem ret_cellS {P : Program} {T : TL} {s : SS} {K : Value → SS → Prop} {a : Tmp} {t : TypeId} {c off : Nat} {cs : List Value} {e : TypeId} {g r : Bool} {v : Value} (hA : aggB P t = some false)
    (ha : look T a = some (.pointer (some ⟨c, off, none⟩))) (hb : lookH s.heap c = some (.cells cs e g r)) (hv : cs[off]? = some v) (h : K v s) : runQ P [.cell a t] K .ret T s := by
  have h1 : aOp P (toTr T) s.st (.load t (.tmp a)) = some (.val v) := by
    simp only [aOp, operand, toTr_get, ha, hA, loadCell, SS.get, hb, hv]
    rfl
  unfold runQ
  simp only [resS, h1]
  exact h

theorem turn_chg {s : SS} {l : Nat} {r : ALoop} (h : l < s.next) : Chg s (s.loop l r) [l] := .turn h

/-- A line that ends as it must, of bytes that may be. -/
def goodLn (x : List UInt8) : Bool := decide (([13, 10] : List UInt8) <:+ x) && (x.take (x.length - 2)).all okB
theorem good_ln {x : List UInt8} : goodLn x = true ↔ ∃ b, b.all okB = true ∧ x = b ++ [13, 10] := by
  unfold goodLn
  rw [Bool.and_eq_true, decide_eq_true_eq]
  constructor
  · rintro ⟨⟨b, hb⟩, h2⟩
    refine ⟨b, ?_, hb.symm⟩
    rw [← hb] at h2
    simpa using h2
  · rintro ⟨b, h1, rfl⟩
    exact ⟨⟨b, rfl⟩, by simpa using h1⟩

noncomputable abbrev htR (T : TL) : ALoop := loop0 21 T #[8] code_HT_A2 code_HT_BD
structure HtI (l : List UInt8) (lo cl : Nat) (r : ALoop) (s0 : SS) (dn : List UInt8) (s : SS) : Prop where
  chg : Chg s0 s []
  lp : lookH s.heap lo = some (.loop r)
  lt : lo < s.next
  cell : lookH s.heap cl = some (.cells [.bool false] 4 false false)
  text : ∃ ls, Okl ls ∧ dn = jn ls
structure HtS (l : List UInt8) (lo cl : Nat) (r : ALoop) (s0 : SS) (s : SS) : Prop where
  chg : Chg s0 s []
  lp : lookH s.heap lo = some (.loop { r with state := .done, pending := some .ret })
  lt : lo < s.next
  cell : lookH s.heap cl = some (.cells [.bool false] 4 false false)
  no : ¬IsT l

theorem htRound_w {l : List UInt8} {lo cl bx : Nat} {T : TL} {s0 s1 : SS} {dn x rest : List UInt8} (hT : look T 2 = some (.pointer (some ⟨cl, 0, none⟩))) (h : HtI l lo cl (htR T) s0 dn s1) (he : l = dn ++ (x ++ rest)) (hL : Ln x rest) (hl : l.length ≤ 100000)
    (h0 : s0.next ≤ lo) (h1 : s0.next ≤ cl) (h2 : s0.next ≤ bx) (hc : cl < lo) (hb : bx < lo) (hn : bx ≠ cl) : YieldW pr lo [str x] s1 fun v s' => ∃ b, v = .bool b ∧ (b = true → HtI l lo cl (htR T) s0 (dn ++ x) s') ∧ (b = false → HtS l lo cl (htR T) s0 s') ∧ ∃ Z, Chg s1 s' Z ∧ bx ∉ Z := by
  have hlt := h.lt
  have hxl : x.length ≤ 100000 := by have := congrArg List.length he; simp at this; omega
  refine YieldW.round (k := s1.next) h.lp rfl rfl rfl (by simp [loop0]) ?_
  refine comp_ok good ok_HT_A2 (Box.out (p := wp pr 21 s1.next _ _ _ _) ?_)
  (repeat(first|refine pSeq ?_|refine pReg ?_|refine sCons ?_|refine sNil ?_|refine pBlock ?_|refine pSkip ?_|refine pRet ?_|refine pCond ?_|refine gNone ?_|refine gOn rfl ?_|refine gOff rfl rfl ?_|refine gTup rfl ?_))
  refine ⟨rfl, h.lp, ?_⟩
  have c1 := turn_chg (r := { htR T with state := .busy }) h.lt
  have lp1 : lookH (s1.loop lo { htR T with state := .busy }).heap lo = some (.loop { htR T with state := .busy }) := lkH
  have cl1 := c1.blk _ _ (by omega) (by simp; omega) h.cell
  have n1 : (s1.loop lo { htR T with state := .busy }).next = s1.next := rfl
  have cs := h.chg.next
  show W pr 21 s1.next code_HT_BD _ (s1.loop lo { htR T with state := .busy }) _
  generalize s1.loop lo { htR T with state := .busy } = s2 at c1 lp1 cl1 n1 ⊢
  refine comp_ok good ok_HT_BD (Box.out (p := wp pr 21 s1.next _ _ _ _) ?_)
  (repeat(first|refine pSeq ?_|refine pReg ?_|refine sCons ?_|refine sNil ?_|refine pBlock ?_|refine pSkip ?_|refine pRet ?_|refine pCond ?_|refine gNone ?_|refine gOn rfl ?_|refine gOff rfl rfl ?_|refine gTup rfl ?_))
  refine (cutS_w (b := [13, 10]) (by omega)).mono fun v s2 q => ?_
  obtain ⟨rfl, rfl⟩ := q
  have fin : ∀ r : ALoop, Chg s1 (s2.loop lo r) [lo] := fun r => c1.trans' (turn_chg (by omega)) (fun id q _ => q) (fun id q _ => q)
  have good : goodLn x = true → HtI l lo cl (htR T) s0 (dn ++ x) (s2.loop lo (htR T)) := fun hg => by
    obtain ⟨b, hb1, hb2⟩ := good_ln.1 hg
    obtain ⟨ls, k1, k2⟩ := h.text
    refine ⟨h.chg.fresh (fin _) (by simp; omega), lkH, by show lo < s2.next; omega, (fin _).blk _ _ (by omega) (by simp; omega) h.cell, ls ++ [b], k1.app (Okl.mk hb1 Okl.nil), by rw [jn_app, jn_one, k2, hb2]⟩
  have bad : ∀ s3, goodLn x = false → lookH s3.heap cl = some (.cells [.bool false] 4 false false) → Chg s2 s3 [cl] → s3.next = s2.next → HtS l lo cl (htR T) s0 (s3.loop lo { htR T with state := .done, pending := some .ret }) ∧ Chg s1 (s3.loop lo { htR T with state := .done, pending := some .ret }) [lo, cl] := fun s3 hg e3 c3 n3 => by
    have c4 := turn_chg (s := s3) (l := lo) (r := { htR T with state := .done, pending := some .ret }) (by omega)
    have c14 : Chg s1 (s3.loop lo { htR T with state := .done, pending := some .ret }) [lo, cl] := (c1.trans' c3 (C := [lo, cl]) (fun id q _ => by simp at q; simp [q]) (fun id q _ => by simp at q; simp [q])).trans' c4 (fun id q _ => q) (fun id q _ => by simp at q; simp [q])
    refine ⟨⟨h.chg.fresh c14 (by simp; omega), lkH, by show lo < s3.next; omega, c4.blk _ _ (by omega) (by simp; omega) e3, ?_⟩, c14⟩
    rintro ⟨ls', k1, k2⟩
    obtain ⟨ls, k3, k4⟩ := h.text
    obtain ⟨r, e1, e2⟩ := jn_ahead (t := x ++ rest) k3 k1 (by rw [← k2, he, k4])
    rw [e1] at k1
    obtain ⟨b, r2, f1, f2, f3⟩ := ln_ok hL k1.right e2
    have := good_ln.2 ⟨b, k1.right b (by rw [f1]; simp), f2⟩
    rw [hg] at this; cases this
  by_cases hs : ([13, 10] : List UInt8) <:+ x
  · rw [if_pos hs, decide_eq_true hs]
    (repeat(first|refine pSeq ?_|refine pReg ?_|refine sCons ?_|refine sNil ?_|refine pBlock ?_|refine pSkip ?_|refine pRet ?_|refine pCond ?_|refine gNone ?_|refine gOn rfl ?_|refine gOff rfl rfl ?_|refine gTup rfl ?_))
    intro q hq
    obtain rfl : q = false := hq
    (repeat(first|refine pSeq ?_|refine pReg ?_|refine sCons ?_|refine sNil ?_|refine pBlock ?_|refine pSkip ?_|refine pRet ?_|refine pCond ?_|refine gNone ?_|refine gOn rfl ?_|refine gOff rfl rfl ?_|refine gTup rfl ?_))
    refine (hrow_w (l := x.take (x.length - ([13, 10] : List UInt8).length)) (g := okB) (by rw [List.length_take]; omega) (callV_f ok_head_valueByte) (fun c s1 => valueByte_w)).mono fun v s3 q => ?_
    obtain ⟨rfl, rfl⟩ := q
    have eg : goodLn x = (x.take (x.length - 2)).all okB := by unfold goodLn; rw [decide_eq_true hs]; rfl
    have eg' : (x.take (x.length - ([13, 10] : List UInt8).length)).all okB = goodLn x := eg.symm
    rw [eg']
    (repeat(first|refine pSeq ?_|refine pReg ?_|refine sCons ?_|refine sNil ?_|refine pBlock ?_|refine pSkip ?_|refine pRet ?_|refine pCond ?_|refine gNone ?_|refine gOn rfl ?_|refine gOff rfl rfl ?_|refine gTup rfl ?_))
    intro q hq
    cases hg : goodLn x with
    | true =>
      rw [hg] at hq
      obtain rfl : q = false := hq
      (repeat(first|refine pSeq ?_|refine pReg ?_|refine sCons ?_|refine sNil ?_|refine pBlock ?_|refine pSkip ?_|refine pRet ?_|refine pCond ?_|refine gNone ?_|refine gOn rfl ?_|refine gOff rfl rfl ?_|refine gTup rfl ?_))
      exact ⟨lp1, true, rfl, fun _ => good hg, (fun q => by cases q), [lo], fin _, by simp; omega⟩
    | false =>
      rw [hg] at hq
      obtain rfl : q = true := hq
      (repeat(first|refine pSeq ?_|refine pReg ?_|refine sCons ?_|refine sNil ?_|refine pBlock ?_|refine pSkip ?_|refine pRet ?_|refine pCond ?_|refine gNone ?_|refine gOn rfl ?_|refine gOff rfl rfl ?_|refine gTup rfl ?_))
      refine st_abs (cs' := [.bool false]) hT rfl cl1 (by omega) rfl rfl fun s3 e3 c3 n3 => ?_
      (repeat(first|refine pSeq ?_|refine pReg ?_|refine sCons ?_|refine sNil ?_|refine pBlock ?_|refine pSkip ?_|refine pRet ?_|refine pCond ?_|refine gNone ?_|refine gOn rfl ?_|refine gOff rfl rfl ?_|refine gTup rfl ?_))
      have := bad s3 hg e3 c3 n3
      exact ⟨c3.blk _ _ (by omega) (by simp; omega) lp1, false, rfl, (fun q => by cases q), fun _ => this.1, [lo, cl], this.2, by simp; omega⟩
  · rw [if_neg hs, decide_eq_false hs]
    have hg : goodLn x = false := by unfold goodLn; rw [decide_eq_false hs]; rfl
    (repeat(first|refine pSeq ?_|refine pReg ?_|refine sCons ?_|refine sNil ?_|refine pBlock ?_|refine pSkip ?_|refine pRet ?_|refine pCond ?_|refine gNone ?_|refine gOn rfl ?_|refine gOff rfl rfl ?_|refine gTup rfl ?_))
    intro q hq
    obtain rfl : q = true := hq
    (repeat(first|refine pSeq ?_|refine pReg ?_|refine sCons ?_|refine sNil ?_|refine pBlock ?_|refine pSkip ?_|refine pRet ?_|refine pCond ?_|refine gNone ?_|refine gOn rfl ?_|refine gOff rfl rfl ?_|refine gTup rfl ?_))
    refine st_abs (cs' := [.bool false]) hT rfl cl1 (by omega) rfl rfl fun s3 e3 c3 n3 => ?_
    (repeat(first|refine pSeq ?_|refine pReg ?_|refine sCons ?_|refine sNil ?_|refine pBlock ?_|refine pSkip ?_|refine pRet ?_|refine pCond ?_|refine gNone ?_|refine gOn rfl ?_|refine gOff rfl rfl ?_|refine gTup rfl ?_))
    have := bad s3 hg e3 c3 n3
    exact ⟨c3.blk _ _ (by omega) (by simp; omega) lp1, false, rfl, (fun q => by cases q), fun _ => this.1, [lo, cl], this.2, by simp; omega⟩

theorem isText_w {s : SS} {l : List UInt8} (hl : l.length ≤ 100000) : CallW pr n_head_isText [str l] s fun v s' => ∃ b, v = .bool b ∧ (b = true ↔ IsT l) ∧ Chg s s' [] := by
  refine CallW.pieces0 (nt := 21) (res := [.cell 2 4]) (c := .seq code_HT_R0 (.seq (.seq code_HT_R1 (.block 0 (.rangeFunc (.tmp 7) #[8] code_HT_A2 code_HT_BD))) code_HT_TL)) (by kernel_rfl) (by kernel_rfl) (by kernel_rfl) (by kernel_rfl) (by simp) ?_
  refine W0.seq (W0.of (comp_ok good ok_HT_R0 (Box.out (p := wp pr 21 s.next _ _ _ _) ?_)))
  (repeat(first|refine pSeq ?_|refine pReg ?_|refine sCons ?_|refine sNil ?_|refine pRet ?_|refine gNone ?_))
  obtain ⟨s1, hs1⟩ : ∃ s1 : SS, s1 = { s with heap := (s.next, some (.cells [.bool false] 4 false false)) :: s.heap, next := s.next + 1 } := ⟨_, rfl⟩
  have c1 : Chg s s1 [] := by rw [hs1]; exact .new _
  have k1 : lookH s1.heap s.next = some (.cells [.bool false] 4 false false) := by rw [hs1]; exact lkH
  have n1 : s1.next = s.next + 1 := by rw [hs1]
  refine W0.weak (k := s.next) (T' := [(0, str l), (2, .pointer (some ⟨s.next, 0, none⟩))]) (s' := s1) (by subst hs1; exact Wk.same ⟨rfl, rfl, trivial⟩) ?_
  clear hs1
  refine W0.seq (W0.seq (W0.of (comp_ok good ok_HT_R1 (Box.out (p := wp pr 21 s.next _ _ _ _) ?_))))
  (repeat(first|refine pSeq ?_|refine pReg ?_|refine sCons ?_|refine sNil ?_|refine pRet ?_|refine gNone ?_))
  refine Lines_w.mono fun v s2 q => ?_
  obtain ⟨rfl, e2, c2, n2⟩ := q
  have k2 := c2.blk _ _ (by omega) (by simp) k1
  (repeat(first|refine pSeq ?_|refine pReg ?_|refine sCons ?_|refine sNil ?_|refine pRet ?_|refine gNone ?_))
  refine W0.block (W0.weak (k := s.next) (T' := [(2, .pointer (some ⟨s.next, 0, none⟩)), (7, .func (.func n_strings_Lines_1) #[] #[.pointer (some ⟨s1.next, 0, none⟩)])]) (s' := s2) (Wk.same ⟨rfl, rfl, trivial⟩) (W0.range good (f := n_strings_Lines_1) (first := #[]) (captured := #[.pointer (some ⟨s1.next, 0, none⟩)]) rfl (by kernel_rfl) ?_))
  have c3 : Chg s2 ({ s2 with heap := (s2.next, some (.loop (htR [(2, .pointer (some ⟨s.next, 0, none⟩)), (7, .func (.func n_strings_Lines_1) #[] #[.pointer (some ⟨s1.next, 0, none⟩)])]))) :: s2.heap, next := s2.next + 1 } : SS) [] := .new []
  have e3 : lookH ({ s2 with heap := (s2.next, some (.loop (htR [(2, .pointer (some ⟨s.next, 0, none⟩)), (7, .func (.func n_strings_Lines_1) #[] #[.pointer (some ⟨s1.next, 0, none⟩)])]))) :: s2.heap, next := s2.next + 1 } : SS).heap s2.next = some (.loop (htR [(2, .pointer (some ⟨s.next, 0, none⟩)), (7, .func (.func n_strings_Lines_1) #[] #[.pointer (some ⟨s1.next, 0, none⟩)])])) := lkH
  have n3 : ({ s2 with heap := (s2.next, some (.loop (htR [(2, .pointer (some ⟨s.next, 0, none⟩)), (7, .func (.func n_strings_Lines_1) #[] #[.pointer (some ⟨s1.next, 0, none⟩)])]))) :: s2.heap, next := s2.next + 1 } : SS).next = s2.next + 1 := rfl
  generalize ({ s2 with heap := (s2.next, some (.loop (htR [(2, .pointer (some ⟨s.next, 0, none⟩)), (7, .func (.func n_strings_Lines_1) #[] #[.pointer (some ⟨s1.next, 0, none⟩)])]))) :: s2.heap, next := s2.next + 1 } : SS) = s3 at c3 e3 n3 ⊢
  have c03 : Chg s s3 [] := (c1.nil c2).nil c3
  generalize hTT : [(2, Value.pointer (some ⟨s.next, 0, none⟩)), (7, Value.func (.func n_strings_Lines_1) #[] #[.pointer (some ⟨s1.next, 0, none⟩)])] = TT at *
  refine (lines1_w (Inv := HtI l s2.next s.next (htR TT) s) (Stop := HtS l s2.next s.next (htR TT) s) (lo := s2.next) (bx := s1.next) (l0 := l) (s := s3) (c3.blk _ _ (by omega) (by simp) e2) (by omega) hl ⟨c03, e3, by omega, c3.blk _ _ (by omega) (by simp) k2, [], Okl.nil, rfl⟩ ?_ ?_).mono fun v s4 hq => ?_
  · rintro dn a b ⟨h1, h2, h3, h4, h5⟩ c
    exact ⟨h1.fresh c (by simp; omega), c.blk _ _ h3 (by simp; omega) h2, Nat.lt_of_lt_of_le h3 c.next, c.blk _ _ (by omega) (by simp; omega) h4, h5⟩
  · intro dn x rest sx he hL hI hlt
    exact htRound_w (by rw [← hTT]; rfl) hI he hL hl (by omega) (by omega) (by omega) (by omega) (by omega) (by omega)
  · rcases hq with hI | hS
    · refine ⟨_, .normal, hI.lp, by simp [loop0], rfl, ?_⟩
      have c5 := turn_chg (r := { htR TT with state := .exhausted }) hI.lt
      have k5 := c5.blk _ _ (by have := hI.lt; omega) (by simp; omega) hI.cell
      have c05 := hI.chg.fresh c5 (by simp; omega)
      have n5 : s.next < (s4.loop s2.next { htR TT with state := .exhausted }).next := by show s.next < s4.next; have := hI.lt; omega
      show W0 pr 21 _ _ (s4.loop s2.next { htR TT with state := .exhausted }) _
      generalize s4.loop s2.next { htR TT with state := .exhausted } = s5 at c5 k5 c05 n5 ⊢
      refine W0.of (comp_ok good ok_HT_TL (Box.out (p := wp pr 21 s.next _ _ _ _) ?_))
      subst hTT
      (repeat(first|refine pSeq ?_|refine pReg ?_|refine sCons ?_|refine sNil ?_|refine pRet ?_|refine gNone ?_))
      refine st_abs (cs' := [.bool true]) rfl rfl k5 n5 rfl rfl fun s6 e6 c6 n6 => ?_
      (repeat(first|refine pSeq ?_|refine pReg ?_|refine sCons ?_|refine sNil ?_|refine pRet ?_|refine gNone ?_))
      (repeat (first | with_reducible refine sqRet ?_ | with_reducible refine bkRet ?_ | with_reducible refine hdRet ?_))
      refine ret_cellS (by kernel_rfl) rfl e6 rfl ⟨true, rfl, ⟨fun _ => ?_, fun _ => rfl⟩, c05.fresh c6 (by simp)⟩
      obtain ⟨ls, q1, q2⟩ := hI.text
      exact ⟨ls, q1, q2⟩
    · refine ⟨_, .ret, hS.lp, by simp, rfl, ?_⟩
      have c5 := turn_chg (r := { htR TT with state := .exhausted, pending := some .ret }) hS.lt
      have k5 := c5.blk _ _ (by have := hS.lt; omega) (by simp; omega) hS.cell
      have c05 := hS.chg.fresh c5 (by simp; omega)
      subst hTT
      (repeat (first | with_reducible refine sqRet ?_ | with_reducible refine bkRet ?_ | with_reducible refine hdRet ?_))
      exact ret_cellS (by kernel_rfl) rfl k5 rfl ⟨false, rfl, ⟨(fun q => by cases q), fun q => absurd q hS.no⟩, c05⟩
end Go.Vf.S
end
/- HdH -/
section
/- A header's first field: its lines. -/
namespace Go.Vf.S
open Go Go.Vf Go.Proofs Go.RowKit
attribute [local irreducible] wSeq wRow wp wG
set_option linter.unusedVariables false
set_option linter.unusedSimpArgs false
set_option maxRecDepth 10000

noncomputable abbrev hfR (T : TL) : ALoop := loop0 23 T #[7] code_HF_A3 (.block 1 (.seq code_HF_BL code_HF_BR))
abbrev tI7 : TypeId := 3
structure HfI (h : List UInt8) (t : List (List UInt8)) (lo cl : Nat) (r : ALoop) (s0 : SS) (dn : List UInt8) (s : SS) : Prop where
  chg : Chg s0 s []
  lp : lookH s.heap lo = some (.loop r)
  lt : lo < s.next
  cell : lookH s.heap cl = some (.cells [.int .i64 dn.length] tI7 false false)
  text : ∃ u v, h :: t = u ++ v ∧ dn = jn u ∧ (u = [] ∨ ∃ w, u = h :: w ∧ w.all stW = true)
structure HfS (h : List UInt8) (t : List (List UInt8)) (lo cl : Nat) (r : ALoop) (s0 : SS) (s : SS) : Prop where
  chg : Chg s0 s []
  lp : lookH s.heap lo = some (.loop { r with state := .done, pending := some (.exit 0) })
  lt : lo < s.next
  cell : lookH s.heap cl = some (.cells [.int .i64 (jn (grp h t)).length] tI7 false false)

theorem jn_pos {u : List (List UInt8)} : 0 < (jn u).length ↔ u ≠ [] := by
  cases u with
  | nil => simp [jn]
  | cons a r => simp [jn]; omega
theorem take_self {α : Type} {p : α → Bool} : ∀ {w : List α}, w.all p = true → w.takeWhile p = w
  | [], _ => rfl
  | a :: w, h => by
    simp only [List.all_cons, Bool.and_eq_true] at h
    rw [List.takeWhile_cons, if_pos h.1, take_self h.2]
theorem take_all {α : Type} {p : α → Bool} : ∀ {w : List α} {b : α} {r : List α}, w.all p = true → p b = false → (w ++ b :: r).takeWhile p = w
  | [], b, r, _, h => by simp [h]
  | a :: w, b, r, h, hb => by
    simp only [List.all_cons, Bool.and_eq_true] at h
    rw [List.cons_append, List.takeWhile_cons, if_pos h.1, take_all h.2 hb]
/-- A line's first byte tells whether it belongs to the one ahead. -/
theorem stW_is {b : List UInt8} {c : UInt8} {g : List UInt8} (h : b ++ [13, 10] = c :: g) : decide (c ∈ ([32, 9] : List UInt8)) = stW b := by
  have hw : ∀ d : UInt8, decide (d ∈ ([32, 9] : List UInt8)) = wh d := fun d => by
    rw [Bool.eq_iff_iff]
    simp only [wh, decide_eq_true_eq, List.mem_cons, List.not_mem_nil, or_false]
    constructor
    · rintro (rfl | rfl)
      · exact .inl rfl
      · exact .inr rfl
    · rintro (q | q)
      · exact .inl (UInt8.toNat_inj.1 q)
      · exact .inr (UInt8.toNat_inj.1 q)
  cases b with
  | nil =>
    simp only [List.nil_append, List.cons.injEq] at h
    rw [← h.1]
    rfl
  | cons d b =>
    simp only [List.cons_append, List.cons.injEq] at h
    rw [← h.1]
    exact hw d

set_option maxHeartbeats 1000000 in
theorem hfRound_w {h : List UInt8} {t : List (List UInt8)} {lo cl bx : Nat} {T : TL} {s0 s1 : SS} {dn x rest : List UInt8} (hT : look T 3 = some (.pointer (some ⟨cl, 0, none⟩))) (hI : HfI h t lo cl (hfR T) s0 dn s1) (he : jn (h :: t) = dn ++ (x ++ rest)) (hL : Ln x rest) (hk : Okl (h :: t)) (hl : (jn (h :: t)).length ≤ 100000)
    (h0 : s0.next ≤ lo) (h1 : s0.next ≤ cl) (h2 : s0.next ≤ bx) (hc : cl < lo) (hb : bx < lo) (hn : bx ≠ cl) : YieldW pr lo [str x] s1 fun v s' => ∃ b, v = .bool b ∧ (b = true → HfI h t lo cl (hfR T) s0 (dn ++ x) s') ∧ (b = false → HfS h t lo cl (hfR T) s0 s') ∧ ∃ Z, Chg s1 s' Z ∧ bx ∉ Z := by
  have hlt := hI.lt
  have hle := congrArg List.length he
  simp only [List.length_append] at hle
  obtain ⟨u, v, q1, q2, q3⟩ := hI.text
  have hkv : Okl v := by rw [q1] at hk; exact hk.right
  have hxv : x ++ rest = jn v := by
    rw [q1, jn_app, q2] at he
    exact (List.append_cancel_left he).symm
  obtain ⟨b, v2, f1, f2, f3⟩ := ln_ok hL hkv hxv
  refine YieldW.round (k := s1.next) hI.lp rfl rfl rfl (by simp [loop0]) ?_
  refine comp_ok good ok_HF_A3 (Box.out (p := wp pr 23 s1.next _ _ _ _) ?_)
  (repeat(first|refine pSeq ?_|refine pReg ?_|refine sCons ?_|refine sNil ?_|refine pSkip ?_|refine pExit ?_|refine pCond ?_|refine gNone ?_|refine gOn rfl ?_|refine gOff rfl rfl ?_|refine gTup rfl ?_))
  refine ⟨rfl, hI.lp, ?_⟩
  have c1 := turn_chg (r := { hfR T with state := .busy }) hI.lt
  have lp1 : lookH (s1.loop lo { hfR T with state := .busy }).heap lo = some (.loop { hfR T with state := .busy }) := lkH
  have cl1 := c1.blk _ _ (by omega) (by simp; omega) hI.cell
  have n1 : (s1.loop lo { hfR T with state := .busy }).next = s1.next := rfl
  have cs := hI.chg.next
  show W pr 23 s1.next (.block 1 (.seq code_HF_BL code_HF_BR)) _ (s1.loop lo { hfR T with state := .busy }) _
  generalize s1.loop lo { hfR T with state := .busy } = s2 at c1 lp1 cl1 n1 ⊢
  have fin : ∀ s3 r, lookH s3.heap lo = some (.loop { hfR T with state := .busy }) → Chg s2 s3 [cl] → s3.next = s2.next → Chg s1 (s3.loop lo r) [lo, cl] := fun s3 r e3 c3 n3 =>
    (c1.trans' c3 (C := [lo, cl]) (fun id q _ => by simp at q; simp [q]) (fun id q _ => by simp at q; simp [q])).trans' (turn_chg (by omega)) (fun id q _ => q) (fun id q _ => by simp at q; simp [q])
  have gocase : (u = [] ∨ stW b = true) → ∀ s3, lookH s3.heap lo = some (.loop { hfR T with state := .busy }) → lookH s3.heap cl = some (.cells [.int .i64 ((dn ++ x).length : Nat)] tI7 false false) → Chg s2 s3 [cl] → s3.next = s2.next → HfI h t lo cl (hfR T) s0 (dn ++ x) (s3.loop lo (hfR T)) := fun hq s3 e3 k3 c3 n3 => by
    refine ⟨hI.chg.fresh (fin s3 _ e3 c3 n3) (by simp; omega), lkH, by show lo < s3.next; omega, ?_, u ++ [b], v2, by rw [q1, f1]; simp, by rw [jn_app, jn_one, q2, f2], ?_⟩
    · exact (turn_chg (s := s3) (by omega)).blk _ _ (by omega) (by simp; omega) k3
    · refine .inr ?_
      rcases q3 with rfl | ⟨w, rfl, hw⟩
      · rw [List.nil_append, f1] at q1
        refine ⟨[], ?_, rfl⟩
        rw [(List.cons.inj q1).1]; rfl
      · refine ⟨w ++ [b], rfl, ?_⟩
        rw [List.all_append, hw]
        have := hq.resolve_left (by simp)
        simp [this]
  refine W.block (W.seq (comp_ok good ok_HF_BL (Box.out (p := wp pr 23 s1.next _ _ _ _) ?_)))
  (repeat(first|refine pSeq ?_|refine pReg ?_|refine sCons ?_|refine sNil ?_|refine pSkip ?_|refine pExit ?_|refine pCond ?_|refine gNone ?_|refine gOn rfl ?_|refine gOff rfl rfl ?_|refine gTup rfl ?_))
  refine ldI_is hT cl1 rfl ?_
  (repeat(first|refine pSeq ?_|refine pReg ?_|refine sCons ?_|refine sNil ?_|refine pSkip ?_|refine pExit ?_|refine pCond ?_|refine gNone ?_|refine gOn rfl ?_|refine gOff rfl rfl ?_|refine gTup rfl ?_))
  intro q hq
  have more : (u = [] ∨ stW b = true) → True := fun _ => trivial
  have hxne := ln_ne hL
  rcases Classical.em (u = []) with hu | hu
  have hgo : u = [] ∨ stW b = true := .inl hu
  obtain rfl : q = false := by rw [hq, q2, hu]; rfl
  (repeat(first|refine pSeq ?_|refine pReg ?_|refine sCons ?_|refine sNil ?_|refine pSkip ?_|refine pExit ?_|refine pCond ?_|refine gNone ?_|refine gOn rfl ?_|refine gOff rfl rfl ?_|refine gTup rfl ?_))
  rotate_left
  have hpos : 0 < dn.length := by rw [q2]; exact jn_pos.2 hu
  obtain rfl : q = true := by rw [hq]; simp; omega
  (repeat(first|refine pSeq ?_|refine pReg ?_|refine sCons ?_|refine sNil ?_|refine pSkip ?_|refine pExit ?_|refine pCond ?_|refine gNone ?_|refine gOn rfl ?_|refine gOff rfl rfl ?_|refine gTup rfl ?_))
  obtain ⟨c, g, hcg⟩ : ∃ c g, x = c :: g := by cases x with | nil => exact absurd rfl hxne | cons c g => exact ⟨c, g, rfl⟩
  refine ⟨by rw [hcg]; simp; omega, ?_⟩
  intro m hm g2 hg2
  obtain rfl : m = 1 := by omega
  have eg : g2 = [c] := by rw [hg2, hcg]; rfl
  clear hg2
  subst eg
  (repeat(first|refine pSeq ?_|refine pReg ?_|refine sCons ?_|refine sNil ?_|refine pSkip ?_|refine pExit ?_|refine pCond ?_|refine gNone ?_|refine gOn rfl ?_|refine gOff rfl rfl ?_|refine gTup rfl ?_))
  refine (contains1_w (l := [32, 9])).mono fun v s2 q => ?_
  obtain ⟨rfl, rfl⟩ := q
  rw [stW_is (b := b) (c := c) (g := g) (by rw [← hcg, f2])]
  (repeat(first|refine pSeq ?_|refine pReg ?_|refine sCons ?_|refine sNil ?_|refine pSkip ?_|refine pExit ?_|refine pCond ?_|refine gNone ?_|refine gOn rfl ?_|refine gOff rfl rfl ?_|refine gTup rfl ?_))
  intro q hq
  cases hw : stW b
  rw [hw] at hq
  obtain rfl : q = true := hq
  (repeat(first|refine pSeq ?_|refine pReg ?_|refine sCons ?_|refine sNil ?_|refine pSkip ?_|refine pExit ?_|refine pCond ?_|refine gNone ?_|refine gOn rfl ?_|refine gOff rfl rfl ?_|refine gTup rfl ?_))
  rotate_left
  rw [hw] at hq
  obtain rfl : q = false := hq
  have hgo : u = [] ∨ stW b = true := .inr hw
  (repeat(first|refine pSeq ?_|refine pReg ?_|refine sCons ?_|refine sNil ?_|refine pSkip ?_|refine pExit ?_|refine pCond ?_|refine gNone ?_|refine gOn rfl ?_|refine gOff rfl rfl ?_|refine gTup rfl ?_))
  rotate_right
  · refine ⟨lp1, false, rfl, (fun q => by cases q), fun _ => ⟨hI.chg.fresh (fin s2 _ lp1 (.refl _ _) rfl) (by simp; omega), lkH, by show lo < s2.next; omega, ?_⟩, [lo, cl], fin s2 _ lp1 (.refl _ _) rfl, by simp; omega⟩
    have eg : grp h t = u := by
      rcases q3 with e | ⟨w, rfl, hw2⟩
      · exact absurd e hu
      · have et : t = w ++ b :: v2 := by
          rw [f1] at q1
          exact (List.cons.inj q1).2
        unfold grp
        rw [et, take_all hw2 hw]
    rw [eg, ← q2]
    exact (turn_chg (s := s2) (by omega)).blk _ _ (by omega) (by simp; omega) cl1
  all_goals
    refine comp_ok good ok_HF_BR (Box.out (p := wp pr 23 s1.next _ _ _ _) ?_)
    (repeat(first|refine pSeq ?_|refine pReg ?_|refine sCons ?_|refine sNil ?_|refine pSkip ?_|refine pExit ?_|refine pCond ?_|refine gNone ?_|refine gOn rfl ?_|refine gOff rfl rfl ?_|refine gTup rfl ?_))
    refine ldI_is hT cl1 rfl ?_
    (repeat(first|refine pSeq ?_|refine pReg ?_|refine sCons ?_|refine sNil ?_|refine pSkip ?_|refine pExit ?_|refine pCond ?_|refine gNone ?_|refine gOn rfl ?_|refine gOff rfl rfl ?_|refine gTup rfl ?_))
    intro n hn
    (repeat(first|refine pSeq ?_|refine pReg ?_|refine sCons ?_|refine sNil ?_|refine pSkip ?_|refine pExit ?_|refine pCond ?_|refine gNone ?_|refine gOn rfl ?_|refine gOff rfl rfl ?_|refine gTup rfl ?_))
    intro z hz
    rw [i64_id (by omega)] at hz
    obtain rfl : z = (((dn ++ x).length : Nat) : Int) := by rw [List.length_append]; omega
    (repeat(first|refine pSeq ?_|refine pReg ?_|refine sCons ?_|refine sNil ?_|refine pSkip ?_|refine pExit ?_|refine pCond ?_|refine gNone ?_|refine gOn rfl ?_|refine gOff rfl rfl ?_|refine gTup rfl ?_))
    refine st_abs (cs' := [.int .i64 ((dn ++ x).length : Nat)]) hT rfl cl1 (by omega) rfl rfl fun s3 e3 c3 n3 => ?_
    (repeat(first|refine pSeq ?_|refine pReg ?_|refine sCons ?_|refine sNil ?_|refine pSkip ?_|refine pExit ?_|refine pCond ?_|refine gNone ?_|refine gOn rfl ?_|refine gOff rfl rfl ?_|refine gTup rfl ?_))
    have lp3 := c3.blk _ _ (by omega) (by simp; omega) lp1
    exact ⟨lp3, true, rfl, (fun _ => gocase hgo s3 lp3 e3 c3 n3), (fun q => by cases q), [lo, cl], fin s3 _ lp3 c3 n3, by simp; omega⟩

set_option maxHeartbeats 1000000 in
theorem firstRaw_w {s : SS} {h : List UInt8} {t : List (List UInt8)} (hk : Okl (h :: t)) (hl : (jn (h :: t)).length ≤ 100000) : CallW pr n_head_firstRaw [str (jn (h :: t))] s fun v s' => v = str (jn (grp h t)) ∧ Chg s s' [] := by
  have hsp := congrArg jn (grp_split h t)
  rw [jn_app] at hsp
  have hgl := congrArg List.length hsp
  rw [List.length_append] at hgl
  refine CallW.pieces0 (nt := 23) (res := [.tmp 2]) (c := .seq code_HF_R0 (.seq code_HF_R1 (.seq (.seq code_HF_R2 (.block 0 (.rangeFunc (.tmp 6) #[7] code_HF_A3 (.block 1 (.seq code_HF_BL code_HF_BR))))) code_HF_TL))) (by kernel_rfl) (by kernel_rfl) (by kernel_rfl) (by kernel_rfl) (by simp) ?_
  refine W0.seq (W0.of (comp_ok good ok_HF_R0 (Box.out (p := wp pr 23 s.next _ _ _ _) ?_)))
  (repeat(first|refine pSeq ?_|refine pReg ?_|refine sCons ?_|refine sNil ?_|refine pRet ?_|refine gNone ?_))
  refine W0.seq (W0.of (comp_ok good ok_HF_R1 (Box.out (p := wp pr 23 s.next _ _ _ _) ?_)))
  (repeat(first|refine pSeq ?_|refine pReg ?_|refine sCons ?_|refine sNil ?_|refine pRet ?_|refine gNone ?_))
  refine st_abs (cs' := [.int .i64 0]) rfl rfl lkH (Nat.lt_succ_self _) rfl rfl fun s1 k1 c1 n1 => ?_
  have c01 : Chg s s1 [] := (Chg.new (b := .cells [.int .i64 0] tI7 false false) []).fresh c1 (by simp)
  have n1 : s1.next = s.next + 1 := n1
  have k1 : lookH s1.heap s.next = some (.cells [.int .i64 0] tI7 false false) := k1
  (repeat(first|refine pSeq ?_|refine pReg ?_|refine sCons ?_|refine sNil ?_|refine pRet ?_|refine gNone ?_))
  refine W0.seq (W0.seq (W0.of (comp_ok good ok_HF_R2 (Box.out (p := wp pr 23 s.next _ _ _ _) ?_))))
  (repeat(first|refine pSeq ?_|refine pReg ?_|refine sCons ?_|refine sNil ?_|refine pRet ?_|refine gNone ?_))
  refine Lines_w.mono fun v s2 q => ?_
  obtain ⟨rfl, e2, c2, n2⟩ := q
  have k2 := c2.blk _ _ (by omega) (by simp) k1
  (repeat(first|refine pSeq ?_|refine pReg ?_|refine sCons ?_|refine sNil ?_|refine pRet ?_|refine gNone ?_))
  refine W0.block (W0.weak (k := s.next) (T' := [(0, str (jn (h :: t))), (3, .pointer (some ⟨s.next, 0, none⟩)), (6, .func (.func n_strings_Lines_1) #[] #[.pointer (some ⟨s1.next, 0, none⟩)])]) (s' := s2) (Wk.same ⟨rfl, rfl, rfl, trivial⟩) (W0.range good (f := n_strings_Lines_1) (first := #[]) (captured := #[.pointer (some ⟨s1.next, 0, none⟩)]) rfl (by kernel_rfl) ?_))
  generalize hTT : [(0, str (jn (h :: t))), (3, Value.pointer (some ⟨s.next, 0, none⟩)), (6, Value.func (.func n_strings_Lines_1) #[] #[.pointer (some ⟨s1.next, 0, none⟩)])] = TT at *
  have c3 : Chg s2 ({ s2 with heap := (s2.next, some (.loop (hfR TT))) :: s2.heap, next := s2.next + 1 } : SS) [] := .new []
  have e3 : lookH ({ s2 with heap := (s2.next, some (.loop (hfR TT))) :: s2.heap, next := s2.next + 1 } : SS).heap s2.next = some (.loop (hfR TT)) := lkH
  have n3 : ({ s2 with heap := (s2.next, some (.loop (hfR TT))) :: s2.heap, next := s2.next + 1 } : SS).next = s2.next + 1 := rfl
  generalize ({ s2 with heap := (s2.next, some (.loop (hfR TT))) :: s2.heap, next := s2.next + 1 } : SS) = s3 at c3 e3 n3 ⊢
  have c03 : Chg s s3 [] := (c01.nil c2).nil c3
  refine (lines1_w (Inv := HfI h t s2.next s.next (hfR TT) s) (Stop := HfS h t s2.next s.next (hfR TT) s) (lo := s2.next) (bx := s1.next) (l0 := jn (h :: t)) (s := s3) (c3.blk _ _ (by omega) (by simp) e2) (by omega) hl ⟨c03, e3, by omega, c3.blk _ _ (by omega) (by simp) k2, [], h :: t, rfl, rfl, .inl rfl⟩ ?_ ?_).mono fun v s4 hq => ?_
  · rintro dn a b ⟨h1, h2, h3, h4, h5⟩ c
    exact ⟨h1.fresh c (by simp; omega), c.blk _ _ h3 (by simp; omega) h2, Nat.lt_of_lt_of_le h3 c.next, c.blk _ _ (by omega) (by simp; omega) h4, h5⟩
  · intro dn x rest sx he hL hI hlt
    exact hfRound_w (by rw [← hTT]; rfl) hI he hL hk hl (by omega) (by omega) (by omega) (by omega) (by omega) (by omega)
  · have key : ∃ r ex, lookH s4.heap s2.next = some (.loop r) ∧ r.state ≠ .busy ∧ leave r.pending = some ex ∧ (ex = .normal ∨ ex = .exit 0) ∧ s2.next < s4.next ∧ Chg s s4 [] ∧ lookH s4.heap s.next = some (.cells [.int .i64 (jn (grp h t)).length] tI7 false false) := by
      rcases hq with hI | hS
      · refine ⟨_, _, hI.lp, by simp [loop0], rfl, .inl rfl, hI.lt, hI.chg, ?_⟩
        have hc := hI.cell
        obtain ⟨u, v, q1, q2, q3⟩ := hI.text
        have ht : h :: t = u := jn_inj hk (by rw [q1] at hk; exact hk.left) q2
        rcases q3 with e | ⟨w, e, hw⟩
        · rw [e] at ht; cases ht
        · rw [e] at ht
          have : grp h t = h :: t := by
            unfold grp
            rw [(List.cons.inj ht).2, take_self hw]
          rw [this]; exact hc
      · exact ⟨_, _, hS.lp, by simp, rfl, .inr rfl, hS.lt, hS.chg, hS.cell⟩
    obtain ⟨r, ex, r1, r2, r3, r4, r5, r6, r7⟩ := key
    refine ⟨r, ex, r1, r2, r3, ?_⟩
    have c5 := turn_chg (r := { r with state := .exhausted }) r5
    have k5 := c5.blk _ _ (by omega) (by simp; omega) r7
    have c05 := r6.fresh c5 (by simp; omega)
    generalize s4.loop s2.next { r with state := .exhausted } = s5 at c5 k5 c05 ⊢
    rcases r4 with rfl | rfl
    all_goals
      subst hTT
      dsimp only
      show W0 pr 23 code_HF_TL _ s5 _
      refine W0.of (comp_ok good ok_HF_TL (Box.out (p := wp pr 23 s.next _ _ _ _) ?_))
      (repeat(first|refine pSeq ?_|refine pReg ?_|refine sCons ?_|refine sNil ?_|refine pRet ?_|refine gNone ?_))
      refine ldI_is rfl k5 rfl ?_
      (repeat(first|refine pSeq ?_|refine pReg ?_|refine sCons ?_|refine sNil ?_|refine pRet ?_|refine gNone ?_))
      refine ⟨by omega, ?_⟩
      intro m hm g hg
      obtain rfl : m = (jn (grp h t)).length := by omega
      have eg : g = jn (grp h t) := by rw [hg, ← hsp]; simp
      clear hg
      subst eg
      (repeat(first|refine pSeq ?_|refine pReg ?_|refine sCons ?_|refine sNil ?_|refine pRet ?_|refine gNone ?_))
      exact ⟨rfl, c05⟩
end Go.Vf.S
end
/- HdI -/
section
/- A message, read. -/
namespace Go.Vf.S
open Go Go.Vf Go.Proofs Go.RowKit
attribute [local irreducible] wSeq wRow wp wG
set_option linter.unusedVariables false
set_option linter.unusedSimpArgs false
set_option maxRecDepth 10000

open Classical in
/-- A text's lines, if it is a message's. -/
noncomputable def linesF (l : List UInt8) : Option (List (List UInt8)) := if h : IsT l then some h.choose else none
theorem lines_jn {ls : List (List UInt8)} (h : Okl ls) : linesF (jn ls) = some ls := by
  have hT : IsT (jn ls) := ⟨ls, h, rfl⟩
  unfold linesF
  rw [dif_pos hT]
  obtain ⟨h1, h2⟩ := hT.choose_spec
  rw [jn_inj h1 h h2.symm]
theorem lines_no {l : List UInt8} (h : ¬IsT l) : linesF l = none := by
  unfold linesF
  rw [dif_neg h]
/-- What is told of a text. -/
noncomputable def parsF (l : List UInt8) : Msg × Nat :=
  if 8192 < l.length then (msZ, 3) else match linesF l with
    | none => (msZ, 5)
    | some ls => match mesF ls with
      | none => (msZ, 5)
      | some m => (m, 0)
theorem pars_long {l : List UInt8} (h : 8192 < l.length) : parsF l = (msZ, 3) := by unfold parsF; rw [if_pos h]
theorem pars_no {l : List UInt8} (h : ¬8192 < l.length) (hT : ¬IsT l) : parsF l = (msZ, 5) := by unfold parsF; rw [if_neg h, lines_no hT]
theorem pars_jn {ls : List (List UInt8)} (h : ¬8192 < (jn ls).length) (hk : Okl ls) : parsF (jn ls) = match mesF ls with
      | none => (msZ, 5)
      | some m => (m, 0) := by unfold parsF; rw [if_neg h, lines_jn hk]

theorem jn_many : ∀ (ls : List (List UInt8)), ls.length ≤ (jn ls).length
  | [] => Nat.le_refl _
  | a :: ls => by
    have := jn_many ls
    rw [jn_cons]
    simp only [List.length_append, List.length_cons]
    omega
theorem fields_many : ∀ (n : Nat) (l : List (List UInt8)) (fs : List Fld), fieldsF n l = some fs → fs.length ≤ l.length
  | n, [], fs, h => by
    unfold fieldsF at h
    cases h
    exact Nat.le_refl _
  | 0, a :: t, fs, h => by
    unfold fieldsF at h
    cases h
  | n + 1, a :: t, fs, h => by
    rw [fieldsF] at h
    cases hf : fieldF (jn (grp a t)) with
    | none => rw [hf] at h; cases h
    | some f =>
      rw [hf] at h
      dsimp only at h
      cases hg : fieldsF n (t.dropWhile stW) with
      | none => rw [hg] at h; cases h
      | some g =>
        rw [hg] at h
        cases h
        have := fields_many n _ g hg
        have := drop_le t
        simp only [List.length_cons]
        omega
theorem mes_many {ls : List (List UInt8)} {m : Msg} (h : mesF ls = some m) : m.fs.length ≤ (jn ls).length := by
  unfold mesF at h
  cases hf : fieldsF (hdr ls).length (hdr ls) with
  | none => rw [hf] at h; cases h
  | some fs =>
    rw [hf] at h
    cases h
    have h1 := fields_many _ _ _ hf
    have h2 := congrArg List.length (hdr_beh ls)
    rw [List.length_append] at h2
    have h3 := jn_many ls
    show fs.length ≤ _
    omega
theorem pars_many (l : List UInt8) : (parsF l).1.fs.length ≤ l.length := by
  by_cases h : 8192 < l.length
  · rw [pars_long h]; exact Nat.zero_le _
  by_cases hT : IsT l
  · obtain ⟨ls, hk, rfl⟩ := hT
    rw [pars_jn h hk]
    cases hm : mesF ls with
    | none => exact Nat.zero_le _
    | some m => exact mes_many hm
  · rw [pars_no h hT]; exact Nat.zero_le _

abbrev tMs : TypeId := 24
def msC (m : Msg) (W : Option Addr) (cw : Nat) : List Value := [.slice W m.fs.length cw, str m.b, .bool m.e]
abbrev msV (m : Msg) (W : Option Addr) (cw : Nat) : Value := .agg ⟨msC m W cw⟩
theorem agg_Ms : aggB pr tMs = some true := by kernel_rfl
theorem sz_Ms : sizeB pr tMs = some 3 := by kernel_rfl
theorem agm3 {m : Msg} {W : Option Addr} {cw : Nat} : takeN 3 ((msC m W cw).drop 0) = some (msC m W cw) := rfl

/-- Fields, as cells. -/
def fsC (fs : List Fld) : List Value := fs.flatMap flC
theorem fsC_len (fs : List Fld) : (fsC fs).length = fs.length * 3 := by
  induction fs with
  | nil => rfl
  | cons f fs ih =>
    unfold fsC at ih ⊢
    rw [List.flatMap_cons, List.length_append, ih, List.length_cons]
    show 3 + _ = _
    omega
theorem fsC_app (a b : List Fld) : fsC (a ++ b) = fsC a ++ fsC b := by unfold fsC; rw [List.flatMap_append]
/-- A row of fields of one's own. -/
abbrev FsO (s : SS) (W : Option Addr) (cw : Nat) (fs : List Fld) : Prop := OwnR tFl s W cw fs.length (fsC fs)
theorem fs_none {s : SS} : FsO s none 0 [] := ⟨rfl, rfl, rfl⟩

structure PIx where
  r : List (List UInt8)
  fs : List Fld
  W : Option Addr
  cw : Nat
  s : SS

/-- What is left to be read, behind what was. -/
def goF (fs : List Fld) (o : Option (List Fld)) : Option (List Fld) := o.map (fs ++ ·)

theorem fieldsF_nil (n : Nat) : fieldsF n [] = some [] := by unfold fieldsF; rfl
theorem go_step {fs : List Fld} {h : List UInt8} {t : List (List UInt8)} : goF fs (fieldsF (h :: t).length (h :: t)) = match fieldF (jn (grp h t)) with
    | none => none
    | some f => goF (fs ++ [f]) (fieldsF (t.dropWhile stW).length (t.dropWhile stW)) := by
  rw [List.length_cons, fields_cons (Nat.le_refl _)]
  cases fieldF (jn (grp h t)) with
  | none => rfl
  | some f =>
    cases fieldsF (t.dropWhile stW).length (t.dropWhile stW) with
    | none => rfl
    | some g => simp [goF]

set_option maxHeartbeats 2000000 in
theorem hparse_w {s : SS} {l : List UInt8} (hM : Gx s) (hl : l.length ≤ 100000) :
    CallW pr n_head_Parse [str l] s fun v s' => ∃ W cw, v = .tuple ⟨[msV (parsF l).1 W cw, .int .i64 (parsF l).2]⟩ ∧ FsO s' W cw (parsF l).1.fs ∧ Chg s s' [] ∧ ∀ id ∈ blkOf W, s.next ≤ id := by
  refine CallW.run good ok_head_Parse (by simp) rfl ?_
  obtain ⟨s0, hs0⟩ : ∃ s0 : SS, s0 = { s with heap := (s.next, some (.cells (msC msZ none 0) tMs false false)) :: s.heap, next := s.next + 1 } := ⟨_, rfl⟩
  have c0 : Chg s s0 [] := by rw [hs0]; exact .new _
  have k0 : lookH s0.heap s.next = some (.cells (msC msZ none 0) tMs false false) := by rw [hs0]; exact lkH
  have n0 : s0.next = s.next + 1 := by rw [hs0]
  (repeat(first|refine pSeq ?_|refine pReg ?_|refine sCons ?_|refine sNil ?_|refine pBlock ?_|refine pSkip ?_|refine pExit ?_|refine pRet ?_|refine pCond ?_|refine gNone ?_))
  intro n hn
  (repeat(first|refine pSeq ?_|refine pReg ?_|refine sCons ?_|refine sNil ?_|refine pBlock ?_|refine pSkip ?_|refine pExit ?_|refine pRet ?_|refine pCond ?_|refine gNone ?_))
  intro q hq
  have hn0 : (s0.heap, s0.next, s0.gl) = ((s.next, some (ABlk.cells (msC msZ none 0) tMs false false)) :: s.heap, s.next + 1, s.gl) := by rw [hs0]
  by_cases hlong : 8192 < l.length
  · obtain rfl : q = true := by rw [hq]; simp; omega
    rw [pars_long hlong]
    subst hs0
    (repeat(first|refine pSeq ?_|refine pReg ?_|refine sCons ?_|refine sNil ?_|refine pBlock ?_|refine pSkip ?_|refine pExit ?_|refine pRet ?_|refine pCond ?_|refine gNone ?_))
    refine st_abs (cs' := msC msZ none 0) rfl rfl k0 (by rw [n0]; omega) rfl rfl fun s2 e2 c2 n2 => ?_
    (repeat(first|refine pSeq ?_|refine pReg ?_|refine sCons ?_|refine sNil ?_|refine pBlock ?_|refine pSkip ?_|refine pExit ?_|refine pRet ?_|refine pCond ?_|refine gNone ?_))
    (repeat (first | with_reducible refine sqRet ?_ | with_reducible refine bkRet ?_ | with_reducible refine hdRet ?_))
    exact ret_cell agg_Ms sz_Ms rfl e2 agm3 rfl ⟨none, 0, rfl, fs_none, c0.fresh c2 (by simp), by simp [blkOf]⟩
  · obtain rfl : q = false := by rw [hq]; simp; omega
    (repeat(first|refine pSeq ?_|refine pReg ?_|refine sCons ?_|refine sNil ?_|refine pBlock ?_|refine pSkip ?_|refine pExit ?_|refine pRet ?_|refine pCond ?_|refine gNone ?_))
    refine (isText_w (s := { s with heap := (s.next, some (.cells (msC msZ none 0) tMs false false)) :: s.heap, next := s.next + 1 }) hl).mono fun v s1 q => ?_
    rw [← hs0] at q
    clear hs0 hn0
    obtain ⟨b, rfl, hb, c1⟩ := q
    have k1 := c1.blk _ _ (by omega) (by simp) k0
    have c01 := c0.nil c1
    have n1 : s.next < s1.next := by have := c1.next; omega
    (repeat(first|refine pSeq ?_|refine pReg ?_|refine sCons ?_|refine sNil ?_|refine pBlock ?_|refine pSkip ?_|refine pExit ?_|refine pRet ?_|refine pCond ?_|refine gNone ?_))
    intro q hq
    cases b with
    | false =>
      obtain rfl : q = true := hq
      rw [pars_no hlong (fun h => by have := hb.2 h; cases this)]
      (repeat(first|refine pSeq ?_|refine pReg ?_|refine sCons ?_|refine sNil ?_|refine pBlock ?_|refine pSkip ?_|refine pExit ?_|refine pRet ?_|refine pCond ?_|refine gNone ?_))
      refine st_abs (cs' := msC msZ none 0) rfl rfl k1 n1 rfl rfl fun s2 e2 c2 n2 => ?_
      (repeat(first|refine pSeq ?_|refine pReg ?_|refine sCons ?_|refine sNil ?_|refine pBlock ?_|refine pSkip ?_|refine pExit ?_|refine pRet ?_|refine pCond ?_|refine gNone ?_))
      (repeat (first | with_reducible refine sqRet ?_ | with_reducible refine bkRet ?_ | with_reducible refine hdRet ?_))
      exact ret_cell agg_Ms sz_Ms rfl e2 agm3 rfl ⟨none, 0, rfl, fs_none, c01.fresh c2 (by simp), by simp [blkOf]⟩
    | true =>
      obtain rfl : q = false := hq
      obtain ⟨ls, hk, rfl⟩ := hb.1 rfl
      rw [pars_jn hlong hk]
      (repeat(first|refine pSeq ?_|refine pReg ?_|refine sCons ?_|refine sNil ?_|refine pBlock ?_|refine pSkip ?_|refine pExit ?_|refine pRet ?_|refine pCond ?_|refine gNone ?_))
      refine (part_w (hM.chg c01) hk hl).mono fun v s1 q => ?_
      obtain ⟨rfl, rfl⟩ := q
      have hkh : Okl (hdr ls) := hk.sub fun x hx => by rw [← hdr_beh ls]; exact List.mem_append_left _ hx
      have hlh : (jn (hdr ls)).length ≤ 100000 := by
        have := congrArg (fun x => (jn x).length) (hdr_beh ls)
        simp only [jn_app, List.length_append] at this
        omega
      (repeat(first|refine pSeq ?_|refine pReg ?_|refine sCons ?_|refine sNil ?_|refine pBlock ?_|refine pSkip ?_|refine pExit ?_|refine pRet ?_|refine pCond ?_|refine gNone ?_))
      refine st_abs (cs' := msC ⟨[], bdy ls, early ls⟩ none 0) rfl rfl lkH (Nat.lt_succ_self _) rfl rfl fun s2 e2 c2 n2 => ?_
      have c12 : Chg s1 s2 [] := (Chg.new []).fresh c2 (by simp)
      have k2 := c12.blk _ _ n1 (by simp) k1
      have e2 : lookH s2.heap s1.next = some (.cells (msC ⟨[], bdy ls, early ls⟩ none 0) tMs false false) := e2
      have n2 : s2.next = s1.next + 1 := n2
      have c02 := c01.nil c12
      (repeat(first|refine pSeq ?_|refine pReg ?_|refine sCons ?_|refine sNil ?_|refine pBlock ?_|refine pSkip ?_|refine pExit ?_|refine pRet ?_|refine pCond ?_|refine gNone ?_))
      have hmes : mesF ls = match fieldsF (hdr ls).length (hdr ls) with
        | none => none
        | some fs => some ⟨fs, bdy ls, early ls⟩ := rfl
      refine pLoop (MW.head good (fun x : PIx => x.r.length) (fun x => Okl x.r ∧ (jn x.r).length + x.fs.length ≤ 100000 ∧ fieldsF (hdr ls).length (hdr ls) = goF x.fs (fieldsF x.r.length x.r) ∧ Chg s x.s [] ∧ FsO x.s x.W x.cw x.fs ∧ (∀ id ∈ blkOf x.W, s.next ≤ id) ∧ s1.next < x.s.next ∧
          lookH x.s.heap s.next = some (.cells (msC msZ none 0) tMs false false) ∧ lookH x.s.heap s1.next = some (.cells (msC ⟨x.fs, bdy ls, early ls⟩ x.W x.cw) tMs false false))
        (fun x => [(2, .pointer (some ⟨s.next, 0, none⟩)), (4, str (jn x.r)), (7, .pointer (some ⟨s1.next, 0, none⟩))]) (fun x => x.s) ⟨hdr ls, [], none, 0, s2⟩ ⟨hkh, by simpa using hlh, by show _ = goF [] _; cases fieldsF (hdr ls).length (hdr ls) <;> simp [goF], c02, fs_none, by simp [blkOf], by show s1.next < s2.next; omega, k2, e2⟩ (Wk.same ⟨rfl, rfl, rfl, trivial⟩) ?_)
      rintro ⟨r, fs, W, cw, s3⟩ ⟨i1, i2, i3, i4, i5, i6, i7, i8, i9⟩
      dsimp only at i1 i2 i3 i4 i5 i6 i7 i8 i9 ⊢
      (repeat(first|refine pSeq ?_|refine pReg ?_|refine sCons ?_|refine sNil ?_|refine pBlock ?_|refine pSkip ?_|refine pExit ?_|refine pRet ?_|refine pCond ?_|refine gNone ?_))
      intro q hq
      cases r with
      | nil =>
        obtain rfl : q = false := by rw [hq]; rfl
        rw [fieldsF_nil] at i3
        have i3 : fieldsF (hdr ls).length (hdr ls) = some fs := by rw [i3]; simp [goF]
        rw [i3] at hmes
        rw [hmes]
        (repeat(first|refine pSeq ?_|refine pReg ?_|refine sCons ?_|refine sNil ?_|refine pBlock ?_|refine pSkip ?_|refine pExit ?_|refine pRet ?_|refine pCond ?_|refine gNone ?_))
        refine ldN_is rfl i9 agm3 ?_
        (repeat(first|refine pSeq ?_|refine pReg ?_|refine sCons ?_|refine sNil ?_|refine pBlock ?_|refine pSkip ?_|refine pExit ?_|refine pRet ?_|refine pCond ?_|refine gNone ?_))
        refine st_abs (cs' := msC ⟨fs, bdy ls, early ls⟩ W cw) rfl rfl i8 (by omega) rfl rfl fun s4 e4 c4 n4 => ?_
        (repeat(first|refine pSeq ?_|refine pReg ?_|refine sCons ?_|refine sNil ?_|refine pBlock ?_|refine pSkip ?_|refine pExit ?_|refine pRet ?_|refine pCond ?_|refine gNone ?_))
        (repeat (first | with_reducible refine sqRet ?_ | with_reducible refine bkRet ?_ | with_reducible refine hdRet ?_))
        have hoff : ∀ id ∈ blkOf W, id ≠ s.next := fun id hid => by
          obtain ⟨gr, hg⟩ := i5.at id hid
          exact tyNe hg i8 (by decide)
        exact ret_cell agg_Ms sz_Ms rfl e4 agm3 rfl ⟨W, cw, rfl, i5.chg c4 (fun id hid q => hoff id hid (by simpa using q)), i4.fresh c4 (by simp), i6⟩
      | cons h t =>
        obtain rfl : q = true := by rw [hq]; simp [jn]
        have hsp := congrArg jn (grp_split h t)
        rw [jn_app] at hsp
        have hgl := congrArg List.length hsp
        rw [List.length_append] at hgl
        have hg2 : 2 ≤ (jn (grp h t)).length := by unfold grp; rw [jn_cons]; simp; omega
        obtain ⟨og1, og2⟩ := okl_grp i1
        rw [go_step] at i3
        (repeat(first|refine pSeq ?_|refine pReg ?_|refine sCons ?_|refine sNil ?_|refine pBlock ?_|refine pSkip ?_|refine pExit ?_|refine pRet ?_|refine pCond ?_|refine gNone ?_))
        refine (firstRaw_w i1 (by omega)).mono fun v s4 q => ?_
        obtain ⟨rfl, c4⟩ := q
        have i44 := i4.nil c4
        (repeat(first|refine pSeq ?_|refine pReg ?_|refine sCons ?_|refine sNil ?_|refine pBlock ?_|refine pSkip ?_|refine pExit ?_|refine pRet ?_|refine pCond ?_|refine gNone ?_))
        refine (read_w (hM.chg i44) og1 (by omega)).mono fun v s5 q => ?_
        obtain ⟨rfl, c5⟩ := q
        have c35 := c4.nil c5
        have i45 := i4.nil c35
        have m5 := c35.next
        have j8 := c35.blk _ _ (by omega) (by simp) i8
        have j9 := c35.blk _ _ i7 (by simp) i9
        have j5 := i5.chg c35 (by simp)
        (repeat(first|refine pSeq ?_|refine pReg ?_|refine sCons ?_|refine sNil ?_|refine pBlock ?_|refine pSkip ?_|refine pExit ?_|refine pRet ?_|refine pCond ?_|refine gNone ?_))
        refine st_abs (cs' := flC (fOr (fieldF (jn (grp h t))))) rfl rfl lkH (Nat.lt_succ_self _) rfl rfl fun s6 e6 c6 n6 => ?_
        have c56 : Chg s5 s6 [] := (Chg.new []).fresh c6 (by simp)
        have n6 : s6.next = s5.next + 1 := n6
        have e6 : lookH s6.heap s5.next = some (.cells (flC (fOr (fieldF (jn (grp h t))))) tFl false false) := e6
        replace j8 := c56.blk _ _ (by omega) (by simp) j8
        replace j9 := c56.blk _ _ (by omega) (by simp) j9
        replace j5 := j5.chg c56 (by simp)
        have i46 := i45.nil c56
        (repeat(first|refine pSeq ?_|refine pReg ?_|refine sCons ?_|refine sNil ?_|refine pBlock ?_|refine pSkip ?_|refine pExit ?_|refine pRet ?_|refine pCond ?_|refine gNone ?_))
        intro q hq
        cases hf : fieldF (jn (grp h t)) with
        | none =>
          rw [hf] at hq i3
          obtain rfl : q = true := by rw [hq]; rfl
          dsimp only at i3
          rw [i3] at hmes
          rw [hmes]
          (repeat(first|refine pSeq ?_|refine pReg ?_|refine sCons ?_|refine sNil ?_|refine pBlock ?_|refine pSkip ?_|refine pExit ?_|refine pRet ?_|refine pCond ?_|refine gNone ?_))
          refine st_abs (cs' := msC msZ none 0) rfl rfl j8 (by omega) rfl rfl fun s7 e7 c7 n7 => ?_
          (repeat(first|refine pSeq ?_|refine pReg ?_|refine sCons ?_|refine sNil ?_|refine pBlock ?_|refine pSkip ?_|refine pExit ?_|refine pRet ?_|refine pCond ?_|refine gNone ?_))
          (repeat (first | with_reducible refine sqRet ?_ | with_reducible refine bkRet ?_ | with_reducible refine hdRet ?_))
          exact ret_cell agg_Ms sz_Ms rfl e7 agm3 rfl ⟨none, 0, rfl, fs_none, i46.fresh c7 (by simp), by simp [blkOf]⟩
        | some f =>
          rw [hf] at hq i3 e6
          obtain rfl : q = false := by rw [hq]; rfl
          dsimp only at i3
          have e6 : lookH s6.heap s5.next = some (.cells (flC f) tFl false false) := e6
          have hoff : ∀ id ∈ blkOf W, id ≠ s.next ∧ id ≠ s1.next := fun id hid => by
            obtain ⟨gr, hg⟩ := j5.at id hid
            exact ⟨tyNe hg j8 (by decide), tyNe hg j9 (by decide)⟩
          (repeat(first|refine pSeq ?_|refine pReg ?_|refine sCons ?_|refine sNil ?_|refine pBlock ?_|refine pSkip ?_|refine pExit ?_|refine pRet ?_|refine pCond ?_|refine gNone ?_))
          refine ld1_is rfl j9 rfl ?_
          (repeat(first|refine pSeq ?_|refine pReg ?_|refine sCons ?_|refine sNil ?_|refine pBlock ?_|refine pSkip ?_|refine pExit ?_|refine pRet ?_|refine pCond ?_|refine gNone ?_))
          refine ldN_is rfl e6 agg3 ?_
          (repeat(first|refine pSeq ?_|refine pReg ?_|refine sCons ?_|refine sNil ?_|refine pBlock ?_|refine pSkip ?_|refine pExit ?_|refine pRet ?_|refine pCond ?_|refine gNone ?_))
          refine appR (j5.chg (.new []) (by simp)) (fsC_len fs) ⟨by omega, by omega⟩ rfl rfl lkH rfl rfl fun s7 r7 c7 n7 => ?_
          have c67 : Chg s6 s7 (blkOf W) := (Chg.new (b := .cells (flC f) tFl false false) []).trans' c7 (fun id q _ => by simp at q) (fun id q _ => q)
          have n7 : s7.next = s6.next + 2 := n7
          have l8 := c67.blk _ _ (by omega) (fun q => (hoff _ q).1 rfl) j8
          have l9 := c67.blk _ _ (by omega) (fun q => (hoff _ q).2 rfl) j9
          have i47 := i46.fresh c67 i6
          (repeat(first|refine pSeq ?_|refine pReg ?_|refine sCons ?_|refine sNil ?_|refine pBlock ?_|refine pSkip ?_|refine pExit ?_|refine pRet ?_|refine pCond ?_|refine gNone ?_))
          refine st_abs (cs' := msC ⟨fs ++ [f], bdy ls, early ls⟩ (some ⟨s6.next + 1, 0, none⟩) 0) rfl rfl l9 (by omega) rfl (by simp only [msC, List.length_append]; rfl) fun s8 e8 c8 n8 => ?_
          have l8' := c8.blk _ _ (by omega) (by simp; omega) l8
          (repeat(first|refine pSeq ?_|refine pReg ?_|refine sCons ?_|refine sNil ?_|refine pBlock ?_|refine pSkip ?_|refine pExit ?_|refine pRet ?_|refine pCond ?_|refine gNone ?_))
          intro nn hnn
          (repeat(first|refine pSeq ?_|refine pReg ?_|refine sCons ?_|refine sNil ?_|refine pBlock ?_|refine pSkip ?_|refine pExit ?_|refine pRet ?_|refine pCond ?_|refine gNone ?_))
          refine ⟨by omega, ?_⟩
          intro m hm g hg
          obtain rfl : m = (jn (grp h t)).length := by omega
          have eg : g = jn (t.dropWhile stW) := by rw [hg, List.take_of_length_le (by simp), ← hsp, List.drop_left]
          clear hg
          subst eg
          (repeat(first|refine pSeq ?_|refine pReg ?_|refine sCons ?_|refine sNil ?_|refine pBlock ?_|refine pSkip ?_|refine pExit ?_|refine pRet ?_|refine pCond ?_|refine gNone ?_))
          have dl := drop_le t
          refine ⟨⟨t.dropWhile stW, fs ++ [f], some ⟨s6.next + 1, 0, none⟩, 0, s8⟩, ⟨og2, by dsimp only; rw [List.length_append]; simp only [List.length_cons, List.length_nil]; omega, i3, i47.fresh c8 (by simp; omega), ?_, by simp [blkOf]; omega, by dsimp only; omega, l8', e8⟩, by show (t.dropWhile stW).length < (h :: t).length; rw [List.length_cons]; omega, Wk.same ⟨rfl, rfl, rfl, trivial⟩⟩
          have r8 := r7.chg c8 (fun id q r => by
            simp only [blkOf, List.mem_singleton] at q r
            omega)
          show OwnR tFl s8 _ 0 (fs ++ [f]).length (fsC (fs ++ [f]))
          rw [fsC_app, List.length_append]
          exact r8
end Go.Vf.S
end
/- HdJ -/
section
/- A message, read: the document's. -/
namespace Go.Vf.S
open Go Go.Vf Go.Proofs Go.RowKit
attribute [local irreducible] wSeq wRow wp wG
set_option linter.unusedVariables false
set_option linter.unusedSimpArgs false
set_option maxRecDepth 10000

theorem max_eq {p : UInt8 → Bool} {y : UInt8} {t rest : List UInt8} : ∀ {a b : List UInt8}, a.all p = true → b.all p = true → a ++ rest = b ++ y :: t → p y = false → (rest = [] ∨ ∃ c r, rest = c :: r ∧ p c = false) → a = b ∧ rest = y :: t
  | [], [], _, _, h, _, _ => ⟨rfl, h⟩
  | [], d :: b, _, hb, h, _, hr => by
    rcases hr with rfl | ⟨c, r, rfl, hc⟩
    · simp at h
    · simp only [List.nil_append, List.cons_append, List.cons.injEq] at h
      simp only [List.all_cons, Bool.and_eq_true] at hb
      rw [h.1, hb.1] at hc; cases hc
  | d :: a, [], ha, _, h, hy, _ => by
    simp only [List.nil_append, List.cons_append, List.cons.injEq] at h
    simp only [List.all_cons, Bool.and_eq_true] at ha
    rw [← h.1, ha.1] at hy; cases hy
  | d :: a, e :: b, ha, hb, h, hy, hr => by
    simp only [List.cons_append, List.cons.injEq] at h
    simp only [List.all_cons, Bool.and_eq_true] at ha hb
    obtain ⟨e1, e2⟩ := max_eq ha.2 hb.2 h.2 hy hr
    exact ⟨by rw [h.1, e1], e2⟩

/-- A line begins there. -/
def LnAt (l : List UInt8) (k : Nat) (b : List UInt8) : Prop := b.all okB = true ∧ ∃ t, l.drop k = b ++ 13 :: 10 :: t

theorem lnAt_jn {ls u r : List (List UInt8)} {a : List UInt8} (hk : Okl ls) (h : ls = u ++ a :: r) {b : List UInt8} (hb : LnAt (jn ls) (jn u).length b) : b = a := by
  obtain ⟨h1, t, h2⟩ := hb
  rw [h, jn_app, List.drop_left, jn_cons] at h2
  rw [h] at hk
  exact (first_eq (ok_13 hk.right.cons.1) (ok_13 h1) h2).1.symm
theorem lnAt_yes {ls u r : List (List UInt8)} {a : List UInt8} (hk : Okl ls) (h : ls = u ++ a :: r) : LnAt (jn ls) (jn u).length a := by
  rw [h] at hk
  exact ⟨hk.right.cons.1, jn r, by rw [h, jn_app, List.drop_left, jn_cons]⟩
theorem stW_ne {x : List UInt8} (h : stW x = true) : x ≠ [] := fun e => by rw [e] at h; cases h
theorem isN_ne {x : List UInt8} : isN x = true ↔ x ≠ [] := by cases x <;> simp [isN]
theorem hdr_app {v : List (List UInt8)} : ∀ {w : List (List UInt8)}, (∀ x ∈ w, x ≠ []) → hdr (w ++ v) = w ++ hdr v ∧ beh (w ++ v) = beh v
  | [], _ => ⟨rfl, rfl⟩
  | x :: w, h => by
    obtain ⟨e1, e2⟩ := hdr_app (v := v) (w := w) fun y hy => h y (by simp [hy])
    have hx : isN x = true := isN_ne.2 (h x (by simp))
    unfold hdr at e1
    unfold beh at e2
    unfold hdr beh
    rw [List.cons_append, List.takeWhile_cons, List.dropWhile_cons, if_pos hx, if_pos hx, e1, e2]
    exact ⟨rfl, rfl⟩
theorem hdr_first {v : List (List UInt8)} (h : v = [] ∨ ∃ c v', v = c :: v' ∧ stW c = false) : hdr v = [] ∨ ∃ c v', hdr v = c :: v' ∧ stW c = false := by
  rcases h with rfl | ⟨c, v', rfl, hc⟩
  · exact .inl rfl
  · by_cases hn : isN c = true
    · exact .inr ⟨c, hdr v', by unfold hdr; rw [List.takeWhile_cons, if_pos hn], hc⟩
    · exact .inl (by unfold hdr; rw [List.takeWhile_cons, if_neg hn])
theorem drop_all {α : Type} {p : α → Bool} {t : List α} (ht : t = [] ∨ ∃ c r, t = c :: r ∧ p c = false) : ∀ {w : List α}, w.all p = true → (w ++ t).takeWhile p = w ∧ (w ++ t).dropWhile p = t
  | [], _ => by
    rcases ht with rfl | ⟨c, r, rfl, hc⟩
    · exact ⟨rfl, rfl⟩
    · rw [List.nil_append, List.takeWhile_cons, List.dropWhile_cons, hc]; exact ⟨rfl, rfl⟩
  | a :: w, h => by
    simp only [List.all_cons, Bool.and_eq_true] at h
    obtain ⟨e1, e2⟩ := drop_all ht (w := w) h.2
    rw [List.cons_append, List.takeWhile_cons, List.dropWhile_cons, if_pos h.1, if_pos h.1, e1, e2]
    exact ⟨rfl, rfl⟩
/-- What is told of what is left, behind fields that were read. -/
def restF (fs : List Fld) (r : List (List UInt8)) : Option Msg := match goF fs (fieldsF (hdr r).length (hdr r)) with
  | none => none
  | some g => some ⟨g, bdy r, early r⟩
theorem rest_mes (ls : List (List UInt8)) : mesF ls = restF [] ls := by
  unfold mesF restF goF
  cases fieldsF (hdr ls).length (hdr ls) <;> simp
theorem rest_nil (fs : List Fld) : restF fs [] = some ⟨fs, [], true⟩ := by
  have e : hdr [] = [] := rfl
  unfold restF
  rw [e, fieldsF_nil]
  simp [goF]
  exact ⟨rfl, rfl⟩
theorem rest_empty (fs : List Fld) (r : List (List UInt8)) : restF fs ([] :: r) = some ⟨fs, jn r, false⟩ := by
  have e : hdr ([] :: r) = [] := rfl
  unfold restF
  rw [e, fieldsF_nil]
  simp [goF]
  exact ⟨rfl, rfl⟩
theorem rest_step {fs : List Fld} {a : List UInt8} {w v : List (List UInt8)} (ha : a ≠ []) (hw : w.all stW = true) (hv : v = [] ∨ ∃ c v', v = c :: v' ∧ stW c = false) :
    restF fs (a :: (w ++ v)) = match fieldF (jn (a :: w)) with
      | none => none
      | some f => restF (fs ++ [f]) v := by
  have hne : ∀ x ∈ a :: w, x ≠ [] := fun x hx => by
    rcases List.mem_cons.1 hx with rfl | q
    · exact ha
    · exact stW_ne (List.all_eq_true.1 hw x q)
  obtain ⟨e1, e2⟩ := hdr_app (v := v) hne
  obtain ⟨d1, d2⟩ := drop_all (hdr_first hv) hw
  rw [List.cons_append] at e1 e2
  have e3 : bdy (a :: (w ++ v)) = bdy v := by unfold bdy; rw [e2]
  have e4 : early (a :: (w ++ v)) = early v := by unfold early; rw [e2]
  unfold restF
  rw [e1, e3, e4, List.cons_append, go_step]
  have e5 : grp a (w ++ hdr v) = a :: w := by unfold grp; rw [d1]
  rw [e5, d2]
  cases fieldF (jn (a :: w)) <;> rfl
end Go.Vf.S
end
/- HdK -/
section
/- A message, read: the document's way through. -/
namespace Go.Vf.S
open Go Go.Vf Go.Proofs Go.RowKit
attribute [local irreducible] wSeq wRow wp wG
set_option linter.unusedVariables false
set_option linter.unusedSimpArgs false
set_option maxRecDepth 10000

abbrev tRm : TypeId := 30
theorem agg_Rm : aggB pr tRm = some true := by kernel_rfl
theorem sz_Rm : sizeB pr tRm = some 3 := by kernel_rfl
/-- A row of the document's fields. -/
abbrev FsR (s : SS) (W : Option Addr) (cw : Nat) (fs : List Fld) : Prop := OwnR tRf s W cw fs.length (fsC fs)
theorem fr_none {s : SS} : FsR s none 0 [] := ⟨rfl, rfl, rfl⟩

theorem first_wh {c t : List UInt8} {d : UInt8} {g : List UInt8} (h : c ++ 13 :: t = d :: g) : wh d = stW c := by
  cases c with
  | nil =>
    simp only [List.nil_append, List.cons.injEq] at h
    rw [← h.1]
    rfl
  | cons x c =>
    simp only [List.cons_append, List.cons.injEq] at h
    rw [← h.1]
    rfl

structure RIx where
  u : List (List UInt8)
  r : List (List UInt8)
  fs : List Fld
  W : Option Addr
  cw : Nat
  s : SS

end Go.Vf.S
end
/- HdL -/
section
/- Messages: the document's of the program's; are they the same? -/
namespace Go.Vf.S
open Go Go.Vf Go.Proofs Go.RowKit
attribute [local irreducible] wSeq wRow wp wG
set_option linter.unusedVariables false
set_option linter.unusedSimpArgs false
set_option maxRecDepth 10000

/-- Fields that a slice reads. -/
def FsRd (s : SS) (W : Option Addr) (fs : List Fld) : Prop := match W with
  | none => fs = []
  | some ⟨b, off, sp⟩ => off = 0 ∧ sp = none ∧ b < s.next ∧ ∃ cs t g r tl, lookH s.heap b = some (.cells cs t g r) ∧ cs = fsC fs ++ tl
theorem rd_of {t : TypeId} {s : SS} {W : Option Addr} {cw : Nat} {fs : List Fld} (h : OwnR t s W cw fs.length (fsC fs)) : FsRd s W fs := by
  cases W with
  | none => exact List.length_eq_zero_iff.1 h.2.1
  | some a =>
    obtain ⟨b, off, sp⟩ := a
    obtain ⟨h1, h2, h3, g, h4, h5⟩ := h
    exact ⟨h1, h2, h3, _, _, _, _, [], h4, by rw [List.append_nil]⟩
theorem FsRd.chg {s s' : SS} {W : Option Addr} {fs : List Fld} {A : List Nat} (h : FsRd s W fs) (c : Chg s s' A) (hA : ∀ id ∈ blkOf W, id ∉ A) : FsRd s' W fs := by
  cases W with
  | none => exact h
  | some a =>
    obtain ⟨b, off, sp⟩ := a
    obtain ⟨h1, h2, h3, cs, t, g, r, tl, h4, h5⟩ := h
    exact ⟨h1, h2, Nat.lt_of_lt_of_le h3 c.next, cs, t, g, r, tl, c.blk _ _ h3 (hA b (by simp [blkOf])) h4, h5⟩
theorem FsRd.lt {s : SS} {W : Option Addr} {fs : List Fld} (h : FsRd s W fs) : ∀ id ∈ blkOf W, id < s.next := by
  cases W with
  | none => simp [blkOf]
  | some a =>
    obtain ⟨b, off, sp⟩ := a
    intro id hid
    simp only [blkOf, List.mem_singleton] at hid
    subst hid
    exact h.2.2.1

theorem FsRd.at {s : SS} {W : Option Addr} {fs : List Fld} (h : FsRd s W fs) (hn : fs ≠ []) : ∃ b cs t g r tl, W = some ⟨b, 0, none⟩ ∧ lookH s.heap b = some (.cells cs t g r) ∧ cs = fsC fs ++ tl := by
  cases W with
  | none => exact absurd h hn
  | some a =>
    obtain ⟨b, off, sp⟩ := a
    obtain ⟨rfl, rfl, h3, cs, t, g, r, tl, h4, h5⟩ := h
    exact ⟨b, cs, t, g, r, tl, rfl, h4, h5⟩
theorem fsC_at : ∀ {fs : List Fld} {i : Nat} {f : Fld} (tl : List Value), fs[i]? = some f → (fsC fs ++ tl).drop (i * 3) = flC f ++ (fsC (fs.drop (i + 1)) ++ tl)
  | [], i, f, tl, h => by simp at h
  | g :: fs, 0, f, tl, h => by
    simp only [List.getElem?_cons_zero, Option.some.injEq] at h
    subst h
    show (fsC (g :: fs) ++ tl).drop 0 = flC g ++ (fsC fs ++ tl)
    rw [List.drop_zero, ← List.append_assoc]
    rfl
  | g :: fs, i + 1, f, tl, h => by
    have ih := fsC_at (fs := fs) (i := i) (f := f) tl (by simpa using h)
    rw [List.drop_succ_cons, ← ih, show (i + 1) * 3 = 3 + i * 3 by omega, ← List.drop_drop]
    rfl
theorem fsC_take {fs : List Fld} {i : Nat} {f : Fld} {cs tl : List Value} (hc : cs = fsC fs ++ tl) (h : fs[i]? = some f) : takeN 3 (cs.drop (i * 3)) = some (flC f) := by
  rw [hc, fsC_at tl h]
  rfl

structure OfI where
  i : Nat
  W : Option Addr
  cw : Nat
  s : SS

theorem msg_eq {a b : Msg} : a = b ↔ a.fs = b.fs ∧ a.b = b.b ∧ a.e = b.e := by
  cases a; cases b; simp
theorem fld_eq {a b : Fld} : a = b ↔ a.n = b.n ∧ a.v = b.v ∧ a.r = b.r := by
  cases a; cases b; simp

theorem fld_dec {f g : Fld} : (decide (f.n = g.n) && (decide (f.v = g.v) && (decide (f.r = g.r) && true))) = decide (f = g) := by
  rw [Bool.eq_iff_iff]
  simp only [Bool.and_eq_true, decide_eq_true_eq, Bool.and_true]
  exact fld_eq.symm

end Go.Vf.S
end
/- HdM -/
section
/- Messages: what the document's example says; the law HeadReads. -/
namespace Go.Vf.S
open Go Go.Vf Go.Proofs Go.RowKit
attribute [local irreducible] wSeq wRow wp wG
set_option linter.unusedVariables false
set_option linter.unusedSimpArgs false
set_option maxRecDepth 10000

def exL : List (List UInt8) := [[84, 111, 58, 32, 97], [98, 58, 32, 32, 99, 44], [32, 100], [], [120]]
def exM : Msg := ⟨[⟨[84, 111], [97], [84, 111, 58, 32, 97, 13, 10]⟩, ⟨[98], [99, 44, 32, 100], [98, 58, 32, 32, 99, 44, 13, 10, 32, 100, 13, 10]⟩], [120, 13, 10], false⟩
theorem ex_ok : Okl exL := fun x hx => by
  have : exL.all (fun x => x.all okB) = true := by kernel_rfl
  exact List.all_eq_true.1 this x hx
theorem ex_mes : mesF exL = some exM := by kernel_rfl
theorem ex_jn : jn exL = [84, 111, 58, 32, 97, 13, 10, 98, 58, 32, 32, 99, 44, 13, 10, 32, 100, 13, 10, 13, 10, 120, 13, 10] := by kernel_rfl
theorem ex_pars : parsF [84, 111, 58, 32, 97, 13, 10, 98, 58, 32, 32, 99, 44, 13, 10, 32, 100, 13, 10, 13, 10, 120, 13, 10] = (exM, 0) := by
  rw [← ex_jn, pars_jn (by rw [ex_jn]; simp) ex_ok, ex_mes]

set_option maxHeartbeats 1000000 in
theorem hwakes_w {s : SS} (hM : Gx s) : CallW pr n_law07_wakes [] s fun v s' => v = .bool true ∧ Chg s s' [] := by
  refine CallW.run good ok_law07_wakes (by simp) rfl ?_
  (repeat(first|refine pSeq ?_|refine pReg ?_|refine sCons ?_|refine sNil ?_|refine pRet ?_|refine gNone ?_|refine gOn rfl ?_|refine gOff rfl rfl ?_|refine gTup rfl ?_))
  refine (hparse_w hM (by simp)).mono fun v s1 q => ?_
  obtain ⟨W, cw, rfl, o1, c1, h1⟩ := q
  rw [ex_pars]
  rw [ex_pars] at o1
  obtain ⟨b, g, rfl, hb⟩ := OwnR.pos o1 (by decide)
  have hlt := o1.lt b (by simp [blkOf])
  (repeat(first|refine pSeq ?_|refine pReg ?_|refine sCons ?_|refine sNil ?_|refine pRet ?_|refine gNone ?_|refine gOn rfl ?_|refine gOff rfl rfl ?_|refine gTup rfl ?_))
  refine st_abs (cs' := msC exM (some ⟨b, 0, none⟩) cw) rfl rfl lkH (Nat.lt_succ_self _) rfl rfl fun s2 e2 c2 n2 => ?_
  have c12 : Chg s1 s2 [] := (Chg.new []).fresh c2 (by simp)
  have e2 : lookH s2.heap s1.next = some (.cells (msC exM (some ⟨b, 0, none⟩) cw) tMs false false) := e2
  have hb2 := c12.blk _ _ hlt (by simp) hb
  (repeat(first|refine pSeq ?_|refine pReg ?_|refine sCons ?_|refine sNil ?_|refine pRet ?_|refine gNone ?_|refine gOn rfl ?_|refine gOff rfl rfl ?_|refine gTup rfl ?_))
  intro q hq
  obtain rfl : q = true := by rw [hq]; rfl
  (repeat(first|refine pSeq ?_|refine pReg ?_|refine sCons ?_|refine sNil ?_|refine pRet ?_|refine gNone ?_|refine gOn rfl ?_|refine gOff rfl rfl ?_|refine gTup rfl ?_))
  refine ld1_is rfl e2 rfl ?_
  (repeat(first|refine pSeq ?_|refine pReg ?_|refine sCons ?_|refine sNil ?_|refine pRet ?_|refine gNone ?_|refine gOn rfl ?_|refine gOff rfl rfl ?_|refine gTup rfl ?_))
  intro q hq
  obtain rfl : q = true := by rw [hq]; rfl
  (repeat(first|refine pSeq ?_|refine pReg ?_|refine sCons ?_|refine sNil ?_|refine pRet ?_|refine gNone ?_|refine gOn rfl ?_|refine gOff rfl rfl ?_|refine gTup rfl ?_))
  refine ld1_is rfl e2 rfl ?_
  (repeat(first|refine pSeq ?_|refine pReg ?_|refine sCons ?_|refine sNil ?_|refine pRet ?_|refine gNone ?_|refine gOn rfl ?_|refine gOff rfl rfl ?_|refine gTup rfl ?_))
  refine ⟨by decide, ?_⟩
  intro m hm o ho
  obtain rfl : m = 0 := by omega
  (repeat(first|refine pSeq ?_|refine pReg ?_|refine sCons ?_|refine sNil ?_|refine pRet ?_|refine gNone ?_|refine gOn rfl ?_|refine gOff rfl rfl ?_|refine gTup rfl ?_))
  refine ldS_is (l := [97]) rfl hb2 (by rw [ho]; rfl) ?_
  (repeat(first|refine pSeq ?_|refine pReg ?_|refine sCons ?_|refine sNil ?_|refine pRet ?_|refine gNone ?_|refine gOn rfl ?_|refine gOff rfl rfl ?_|refine gTup rfl ?_))
  intro q hq
  obtain rfl : q = true := by rw [hq]; rfl
  (repeat(first|refine pSeq ?_|refine pReg ?_|refine sCons ?_|refine sNil ?_|refine pRet ?_|refine gNone ?_|refine gOn rfl ?_|refine gOff rfl rfl ?_|refine gTup rfl ?_))
  refine ld1_is rfl e2 rfl ?_
  (repeat(first|refine pSeq ?_|refine pReg ?_|refine sCons ?_|refine sNil ?_|refine pRet ?_|refine gNone ?_|refine gOn rfl ?_|refine gOff rfl rfl ?_|refine gTup rfl ?_))
  refine ⟨by decide, ?_⟩
  intro m hm o2 ho2
  obtain rfl : m = 1 := by omega
  (repeat(first|refine pSeq ?_|refine pReg ?_|refine sCons ?_|refine sNil ?_|refine pRet ?_|refine gNone ?_|refine gOn rfl ?_|refine gOff rfl rfl ?_|refine gTup rfl ?_))
  refine ldN_is (new := flC ⟨[98], [99, 44, 32, 100], [98, 58, 32, 32, 99, 44, 13, 10, 32, 100, 13, 10]⟩) rfl hb2 (by rw [ho2]; rfl) ?_
  (repeat(first|refine pSeq ?_|refine pReg ?_|refine sCons ?_|refine sNil ?_|refine pRet ?_|refine gNone ?_|refine gOn rfl ?_|refine gOff rfl rfl ?_|refine gTup rfl ?_))
  intro q hq
  obtain rfl : q = true := by rw [hq]; rfl
  (repeat(first|refine pSeq ?_|refine pReg ?_|refine sCons ?_|refine sNil ?_|refine pRet ?_|refine gNone ?_|refine gOn rfl ?_|refine gOff rfl rfl ?_|refine gTup rfl ?_))
  refine ldS_is (l := [120, 13, 10]) rfl e2 rfl ?_
  (repeat(first|refine pSeq ?_|refine pReg ?_|refine sCons ?_|refine sNil ?_|refine pRet ?_|refine gNone ?_|refine gOn rfl ?_|refine gOff rfl rfl ?_|refine gTup rfl ?_))
  intro q hq
  obtain rfl : q = true := by rw [hq]; rfl
  (repeat(first|refine pSeq ?_|refine pReg ?_|refine sCons ?_|refine sNil ?_|refine pRet ?_|refine gNone ?_|refine gOn rfl ?_|refine gOff rfl rfl ?_|refine gTup rfl ?_))
  refine ldB_is rfl e2 rfl ?_
  (repeat(first|refine pSeq ?_|refine pReg ?_|refine sCons ?_|refine sNil ?_|refine pRet ?_|refine gNone ?_|refine gOn rfl ?_|refine gOff rfl rfl ?_|refine gTup rfl ?_))
  intro q hq
  obtain rfl : q = true := hq
  (repeat(first|refine pSeq ?_|refine pReg ?_|refine sCons ?_|refine sNil ?_|refine pRet ?_|refine gNone ?_|refine gOn rfl ?_|refine gOff rfl rfl ?_|refine gTup rfl ?_))
  exact ⟨rfl, c1.nil c12⟩

theorem few8 {l0 l : List UInt8} {n k : Nat} (h : l = (l0.drop 0).take (n - 0)) (hn : n ≤ k) : l.length ≤ k := by
  rw [h, List.length_take]
  omega

end Go.Vf.S
end

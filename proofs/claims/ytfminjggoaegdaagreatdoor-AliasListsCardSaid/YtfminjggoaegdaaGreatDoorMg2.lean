import Derived.Test.YtfminjggoaegdaaGreatDoorMg1
import Derived.Lib.Join
section
namespace Go.Vf.S
open Go Go.Vf
attribute [local irreducible] wSeq wRow wp wG
set_option linter.unusedVariables false
set_option linter.unusedSimpArgs false
set_option maxRecDepth 10000
def qd : List UInt8 → Bool → List UInt8 → Nat → List UInt8 × Nat × Nat
 | [], _, _, _ => ([], 0, 4)
 | c :: r, e, o, i => if plainB c = true then
   (if e = false ∧ c.toNat = 34 then (o, i + 2, 0) else if e = false ∧ c.toNat = 92 then qd r true o (i + 1) else qd r false (o ++ [c]) (i + 1))
  else ([], 0, 5)
def quotedF (l : List UInt8) : List UInt8 × Nat × Nat := if l.take 1 = [34] then qd (l.drop 1) false [] 0 else ([], 0, 5)
abbrev qRes (q : List UInt8 × Nat × Nat) : Value := .tuple ⟨[str q.1, .int .i64 q.2.1, .int .i64 q.2.2]⟩
structure RIt where
 p : Nat
 s : SS
 base : Option Addr
 out : List UInt8
 e : Bool
theorem quoted_w {s : SS} {l : List UInt8} (hl : l.length ≤ 1000000) : CallW pr n_text_Quoted [str l] s fun v s' => v = qRes (quotedF l) ∧ Chg s s' [] := by
 refine CallW.run good ok_text_Quoted (by simp) rfl ?_
 (try refine pSeq ?_); (repeat(first|refine sb ?_|refine gOn rfl ?_|refine gOff rfl rfl ?_|refine gTup rfl ?_))
 refine prefix_w.mono fun v s q => ?_
 obtain ⟨rfl, rfl⟩ := q
 (repeat(first|refine sb ?_|refine gOn rfl ?_|refine gOff rfl rfl ?_|refine gTup rfl ?_))
 intro q hq
 by_cases hfr : l.take 1 = [34]
 ·have eF : quotedF l = qd (l.drop 1) false [] 0 := by unfold quotedF; rw [if_pos hfr]
  obtain rfl : q = false := by rw [hq]; simp [hfr]
  have h1l : 1 ≤ l.length := by
   have := congrArg List.length hfr
   simp at this
   omega
  (repeat(first|refine sb ?_|refine gOn rfl ?_|refine gOff rfl rfl ?_|refine gTup rfl ?_))
  refine ⟨by omega, ?_⟩
  intro m hm r hr
  obtain rfl : m = 1 := by omega
  have hrl : r.length ≤ 1000000 := by rw [hr]; simp; omega
  have er : r = l.drop 1 := by rw [hr, List.take_of_length_le (by simp)]
  rw [← er] at eF
  clear hr hfr
  (repeat(first|refine sb ?_|refine gOn rfl ?_|refine gOff rfl rfl ?_|refine gTup rfl ?_))
  refine srange_W rfl un_S rfl ?_
  (repeat(first|refine sb ?_|refine gOn rfl ?_|refine gOff rfl rfl ?_|refine gTup rfl ?_))
  refine pLoop (MW.head good (fun x : RIt => r.length - x.p) (fun x => qd (r.drop x.p) x.e x.out x.p = quotedF l ∧ x.p ≤ r.length ∧ x.out.length ≤ x.p ∧ At s s.next r ⟨x.p, x.s⟩ ∧ Own tB x.s x.base x.out ∧ ∀ i ∈ blkOf x.base, s.next ≤ i ∧ i ≠ s.next)
   (fun x => [(5, .slice x.base x.out.length 0), (6, .bool x.e), (14, .pointer (some ⟨s.next, 0, none⟩))]) (fun x => x.s) ⟨0, _, none, [], false⟩ ⟨eF.symm, Nat.zero_le _, Nat.zero_le _, .start s r, rfl, by simp [blkOf]⟩ (Wk.same ⟨rfl, rfl, rfl, trivial⟩) ?_)
  intro ⟨p, s1, base, out, e⟩ ⟨h0, hp, ho, h1, h2, h3⟩
  dsimp only at h0 hp ho h1 h2 h3 ⊢
  (repeat(first|refine sb ?_|refine gOn rfl ?_|refine gOff rfl rfl ?_|refine gTup rfl ?_))
  refine snext_L rfl rfl h1.2.2.2 (fun he => ?_) (fun c hc h7 => ?_) (fun c r w hc h7 hr hr2 _ hw _ => ?_)
  ·(repeat(first|refine sb ?_|refine gOn rfl ?_|refine gOff rfl rfl ?_|refine gTup rfl ?_))
   rw [← h0, List.drop_of_length_le he]
   exact ⟨rfl, h1.1⟩
  ·have hlt : p < r.length := lt_of_get hc
   rw [drop_next (show r[p]? = some c from hc), qd] at h0
   (repeat(first|refine sb ?_|refine gOn rfl ?_|refine gOff rfl rfl ?_|refine gTup rfl ?_))
   refine (plain_w (by omega)).mono fun v s2 q => ?_
   obtain ⟨rfl, rfl⟩ := q
   (repeat(first|refine sb ?_|refine gOn rfl ?_|refine gOff rfl rfl ?_|refine gTup rfl ?_))
   intro q hq
   have e0 : decide (32 ≤ c.toNat ∧ c.toNat ≤ 126) = plainB c := rfl
   rw [e0] at hq
   have off : ∀ i ∈ blkOf base, i ∉ [s.next] := fun i hi q => (h3 i hi).2 (List.mem_singleton.1 q)
   by_cases hpl : plainB c = true
   ·obtain rfl : q = false := by rw [hq, hpl]; rfl
    rw [if_pos hpl] at h0
    (repeat(first|refine sb ?_|refine gOn rfl ?_|refine gOff rfl rfl ?_|refine gTup rfl ?_))
    intro q hq
    cases e with
    | false =>
     obtain rfl : q = true := by rw [hq]; simp <;> omega
     (repeat(first|refine sb ?_|refine gOn rfl ?_|refine gOff rfl rfl ?_|refine gTup rfl ?_))
     intro q hq
     by_cases h34 : c.toNat = 34
     ·obtain rfl : q = true := by rw [hq]; simp <;> omega
      rw [if_pos ⟨rfl, h34⟩] at h0
      (repeat(first|refine sb ?_|refine gOn rfl ?_|refine gOff rfl rfl ?_|refine gTup rfl ?_))
      refine toStr_Rdb rfl (h2.chg (Chg.turn h1.2.2.1) off).rdb ?_
      (repeat(first|refine sb ?_|refine gOn rfl ?_|refine gOff rfl rfl ?_|refine gTup rfl ?_))
      intro z hz
      dsimp only at hz
      rw [i64_id (by omega)] at hz
      (repeat(first|refine sb ?_|refine gOn rfl ?_|refine gOff rfl rfl ?_|refine gTup rfl ?_))
      rw [← h0]
      refine ⟨?_, (h1.go _).1⟩
      rw [hz]
      rfl
     ·obtain rfl : q = false := by rw [hq]; simp <;> omega
      rw [if_neg (fun q => h34 q.2)] at h0
      (repeat(first|refine sb ?_|refine gOn rfl ?_|refine gOff rfl rfl ?_|refine gTup rfl ?_))
      intro q hq
      obtain rfl : q = true := by rw [hq]; simp <;> omega
      (repeat(first|refine sb ?_|refine gOn rfl ?_|refine gOff rfl rfl ?_|refine gTup rfl ?_))
      intro q hq
      by_cases h92 : c.toNat = 92
      ·obtain rfl : q = true := by rw [hq]; simp <;> omega
       rw [if_pos ⟨rfl, h92⟩] at h0
       (repeat(first|refine sb ?_|refine gOn rfl ?_|refine gOff rfl rfl ?_|refine gTup rfl ?_))
       exact ⟨⟨p + 1, _, base, out, true⟩, ⟨h0, hlt, by show out.length ≤ p + 1; omega, h1.go _, h2.chg (Chg.turn h1.2.2.1) off, h3⟩, by show r.length - (p + 1) < r.length - p; omega, Wk.same ⟨rfl, rfl, rfl, trivial⟩⟩
      ·obtain rfl : q = false := by rw [hq]; simp <;> omega
       rw [if_neg (fun q => h92 q.2)] at h0
       (repeat(first|refine sb ?_|refine gOn rfl ?_|refine gOff rfl rfl ?_|refine gTup rfl ?_))
       intro z hz
       rw [byte_id] at hz
       (repeat(first|refine sb ?_|refine gOn rfl ?_|refine gOff rfl rfl ?_|refine gTup rfl ?_))
       refine app_lit (d := c) (h2.chg (Chg.turn h1.2.2.1) off).buf rfl rfl rfl hz (by omega) fun s2 o2 c2 n2 => ?_
       (repeat(first|refine sb ?_|refine gOn rfl ?_|refine gOff rfl rfl ?_|refine gTup rfl ?_))
       have a2 : At s s.next r ⟨p + 1, s2⟩ := (h1.go (p + 1)).chg c2 h3
       refine ⟨⟨p + 1, s2, _, out ++ [c], false⟩, ⟨h0, hlt, by simp; omega, a2, o2, fun i hi => ?_⟩, by show r.length - (p + 1) < r.length - p; omega, Wk.same ⟨?_, rfl, rfl, trivial⟩⟩
       ·simp only [blkOf, List.mem_singleton] at hi
        have := h1.1.next
        have := h1.2.2.1
        dsimp only at *
        omega
       ·show look _ 5 = _
        rw [List.length_append]
        rfl
    | true =>
     obtain rfl : q = false := by rw [hq]; simp <;> omega
     rw [if_neg (fun q => by cases q.1), if_neg (fun q => by cases q.1)] at h0
     (repeat(first|refine sb ?_|refine gOn rfl ?_|refine gOff rfl rfl ?_|refine gTup rfl ?_))
     intro q hq
     obtain rfl : q = false := by rw [hq]; simp <;> omega
     (repeat(first|refine sb ?_|refine gOn rfl ?_|refine gOff rfl rfl ?_|refine gTup rfl ?_))
     intro z hz
     rw [byte_id] at hz
     (repeat(first|refine sb ?_|refine gOn rfl ?_|refine gOff rfl rfl ?_|refine gTup rfl ?_))
     refine app_lit (d := c) (h2.chg (Chg.turn h1.2.2.1) off).buf rfl rfl rfl hz (by omega) fun s2 o2 c2 n2 => ?_
     (repeat(first|refine sb ?_|refine gOn rfl ?_|refine gOff rfl rfl ?_|refine gTup rfl ?_))
     have a2 : At s s.next r ⟨p + 1, s2⟩ := (h1.go (p + 1)).chg c2 h3
     refine ⟨⟨p + 1, s2, _, out ++ [c], false⟩, ⟨h0, hlt, by simp; omega, a2, o2, fun i hi => ?_⟩, by show r.length - (p + 1) < r.length - p; omega, Wk.same ⟨?_, rfl, rfl, trivial⟩⟩
     ·simp only [blkOf, List.mem_singleton] at hi
      have := h1.1.next
      have := h1.2.2.1
      dsimp only at *
      omega
     ·show look _ 5 = _
      rw [List.length_append]
      rfl
   ·obtain rfl : q = true := by rw [hq, plain_no hpl]; rfl
    rw [if_neg hpl] at h0
    (repeat(first|refine sb ?_|refine gOn rfl ?_|refine gOff rfl rfl ?_|refine gTup rfl ?_))
    rw [← h0]
    exact ⟨rfl, (h1.go _).1⟩
  ·rw [drop_next hc, qd, if_neg (by rw [plain_hi h7]; simp)] at h0
   (repeat(first|refine sb ?_|refine gOn rfl ?_|refine gOff rfl rfl ?_|refine gTup rfl ?_))
   refine (plain_w (by omega)).mono fun v s2 q => ?_
   obtain ⟨rfl, rfl⟩ := q
   (repeat(first|refine sb ?_|refine gOn rfl ?_|refine gOff rfl rfl ?_|refine gTup rfl ?_))
   intro q hq
   obtain rfl : q = true := by rw [hq]; simp <;> omega
   (repeat(first|refine sb ?_|refine gOn rfl ?_|refine gOff rfl rfl ?_|refine gTup rfl ?_))
   rw [← h0]
   exact ⟨rfl, (h1.go _).1⟩
 ·have eF : quotedF l = ([], 0, 5) := by unfold quotedF; rw [if_neg hfr]
  obtain rfl : q = true := by rw [hq]; simp [hfr]
  (repeat(first|refine sb ?_|refine gOn rfl ?_|refine gOff rfl rfl ?_|refine gTup rfl ?_))
  rw [eF]
  exact ⟨rfl, .refl _ _⟩
end Go.Vf.S
end
section
namespace Go.Vf.S
open Go Go.Vf
attribute [local irreducible] wSeq wRow wp wG
set_option linter.unusedVariables false
set_option linter.unusedSimpArgs false
set_option maxRecDepth 10000
def cm : List UInt8 → Nat → Bool → Nat → Nat × Nat
 | [], _, _, _ => (0, 4)
 | c :: r, d, e, i =>
  if plainB c = false ∧ (e = true ∨ c.toNat ≠ 9) then (0, 5)
  else if e = true then cm r d false (i + 1)
  else if c.toNat = 92 then cm r d true (i + 1)
  else if c.toNat = 40 ∧ d = 8 then (0, 3)
  else if c.toNat = 40 then cm r (d + 1) false (i + 1)
  else if c.toNat = 41 ∧ d = 1 then (i + 1, 0)
  else if c.toNat = 41 then cm r (d - 1) false (i + 1)
  else cm r d false (i + 1)
def commentF (l : List UInt8) : Nat × Nat := if l.take 1 = [40] then cm l 0 false 0 else (0, 5)
structure CIt where
 p : Nat
 s : SS
 d : Nat
 e : Bool
end Go.Vf.S
end
section
namespace Go.Vf.S
open Go Go.Vf
attribute [local irreducible] wSeq wRow wp wG
set_option linter.unusedVariables false
set_option linter.unusedSimpArgs false
set_option maxRecDepth 10000
end Go.Vf.S
end
section
namespace Go.Vf.S
open Go Go.Vf
attribute [local irreducible] wSeq wRow wp wG
set_option linter.unusedVariables false
set_option linter.unusedSimpArgs false
set_option maxRecDepth 10000
def bl : Nat → List UInt8 → Nat → Nat × Nat
 | 0, _, a => (a, 0)
 | f + 1, l, a =>
  if (l.dropWhile wh).take 1 = [40] then
   (if (commentF (l.dropWhile wh)).2 = 0 then bl f ((l.dropWhile wh).drop (commentF (l.dropWhile wh)).1) (a + (l.length - (l.dropWhile wh).length) + (commentF (l.dropWhile wh)).1) else (0, (commentF (l.dropWhile wh)).2))
  else (a + (l.length - (l.dropWhile wh).length), 0)
structure BIt where
 f : Nat
 m : Nat
 s : SS
end Go.Vf.S
end
section
namespace Go.Vf.S
open Go Go.Vf
attribute [local irreducible] wSeq wRow wp wG
set_option linter.unusedVariables false
set_option linter.unusedSimpArgs false
set_option maxRecDepth 10000
end Go.Vf.S
end
section
namespace Go.Vf.S
open Go Go.Vf
attribute [local irreducible] wSeq wRow wp wG
set_option linter.unusedVariables false
set_option linter.unusedSimpArgs false
set_option maxRecDepth 10000
def eL (l : List UInt8) : Nat := (l.flatMap escB).length
theorem esc_one (c : UInt8) : (escB c).length = if needs c then 2 else 1 := by unfold escB; split <;> rfl
theorem eL_cons (c : UInt8) (l : List UInt8) : eL (c :: l) = (escB c).length + eL l := by simp [eL]
theorem eL_append (a b : List UInt8) : eL (a ++ b) = eL a + eL b := by simp [eL]
theorem plain_34 {c : UInt8} (h : c.toNat = 34) : plainB c = true := by unfold plainB; simp; omega
theorem plain_92 {c : UInt8} (h : c.toNat = 92) : plainB c = true := by unfold plainB; simp; omega
theorem qd_esc : ∀ (l o r : List UInt8) (i : Nat), l.all plainB = true → qd (l.flatMap escB ++ 34 :: r) false o i = (o ++ l, i + eL l + 2, 0)
 | [], o, r, i, _ => by
  have h34 : (34 : UInt8).toNat = 34 := rfl
  show qd (34 :: r) false o i = _
  rw [qd, if_pos (plain_34 h34), if_pos ⟨rfl, h34⟩, List.append_nil]
  rfl
 | c :: l, o, r, i, h => by
  rw [List.all_cons, Bool.and_eq_true] at h
  rw [List.flatMap_cons, List.append_assoc, eL_cons]
  by_cases hn : needs c = true
  ·have e : escB c = [92, c] := by unfold escB; rw [if_pos hn]
   have h92 : (92 : UInt8).toNat = 92 := rfl
   rw [e]
   show qd (92 :: c :: (l.flatMap escB ++ 34 :: r)) false o i = _
   rw [qd, if_pos (plain_92 h92), if_neg (fun q => by omega), if_pos ⟨rfl, h92⟩, qd, if_pos h.1, if_neg (fun q => by cases q.1), if_neg (fun q => by cases q.1), qd_esc l _ r _ h.2]
   simp only [List.append_assoc, List.singleton_append, List.length_cons, List.length_nil, Prod.mk.injEq, true_and, and_true]
   omega
  ·have e : escB c = [c] := by unfold escB; rw [if_neg hn]
   have hc : ¬c.toNat = 34 ∧ ¬c.toNat = 92 := by simpa [needs] using hn
   rw [e]
   show qd (c :: (l.flatMap escB ++ 34 :: r)) false o i = _
   rw [qd, if_pos h.1, if_neg (fun q => hc.1 q.2), if_neg (fun q => hc.2 q.2), qd_esc l _ r _ h.2]
   simp only [List.append_assoc, List.singleton_append, List.length_cons, List.length_nil, Prod.mk.injEq, true_and, and_true]
   omega
theorem qd_is : ∀ (l : List UInt8) (e : Bool) (o : List UInt8) (i : Nat) (t : List UInt8) (n : Nat), o.all plainB = true → qd l e o i = (t, n, 0) →
  t.all plainB = true ∧ i + 2 ≤ n ∧ n ≤ i + 1 + l.length ∧ l[n - 2 - i]? = some 34 ∧ eL t + i + (if e then 1 else 2) ≤ n + eL o
 | [], e, o, i, t, n, ho, h => by rw [qd] at h; cases h
 | c :: l, e, o, i, t, n, ho, h => by
  rw [qd] at h
  by_cases hp : plainB c = true
  ·rw [if_pos hp] at h
   have next : ∀ (e' : Bool) (o' : List UInt8), o'.all plainB = true → qd l e' o' (i + 1) = (t, n, 0) → (eL o' + (if e then 1 else 2) ≤ eL o + 1 + (if e' then 1 else 2)) →
     t.all plainB = true ∧ i + 2 ≤ n ∧ n ≤ i + 1 + (c :: l).length ∧ (c :: l)[n - 2 - i]? = some 34 ∧ eL t + i + (if e then 1 else 2) ≤ n + eL o := fun e' o' ho' h' he => by
    obtain ⟨q1, q2, q3, q4, q5⟩ := qd_is l e' o' (i + 1) t n ho' h'
    refine ⟨q1, by omega, by simp; omega, ?_, by omega⟩
    rw [show n - 2 - i = n - 2 - (i + 1) + 1 by omega, List.getElem?_cons_succ]
    exact q4
   by_cases h34 : e = false ∧ c.toNat = 34
   ·rw [if_pos h34] at h
    obtain ⟨rfl, hc⟩ := h34
    cases h
    refine ⟨ho, Nat.le_refl _, by simp only [List.length_cons]; omega, ?_, by show eL o + i + 2 ≤ i + 2 + eL o; omega⟩
    rw [show i + 2 - 2 - i = 0 by omega, List.getElem?_cons_zero, UInt8.toNat_inj.1 (show c.toNat = (34 : UInt8).toNat from hc)]
   ·rw [if_neg h34] at h
    by_cases h92 : e = false ∧ c.toNat = 92
    ·rw [if_pos h92] at h
     obtain ⟨rfl, hc⟩ := h92
     exact next true o ho h (by simp only [if_true, Bool.false_eq_true, if_false]; omega)
    ·rw [if_neg h92] at h
     refine next false (o ++ [c]) (by rw [List.all_append, ho]; simp [hp]) h ?_
     have : eL (o ++ [c]) = eL o + (escB c).length := by rw [eL_append, eL_cons]; rfl
     rw [this, esc_one]
     cases e with
     | false =>
      have hn : needs c = false := by simp only [needs, decide_eq_false_iff_not]; intro q; rcases q with q | q; exact h34 ⟨rfl, q⟩; exact h92 ⟨rfl, q⟩
      rw [hn]
      simp only [Bool.false_eq_true, if_false]
      omega
     | true => simp only [if_true, Bool.false_eq_true, if_false]; split <;> omega
  ·rw [if_neg hp] at h; cases h
theorem quoteL_len (l : List UInt8) : (quoteL l).length = eL l + 2 := by simp [quoteL, eL]
theorem quoted_of {l : List UInt8} (r : List UInt8) (h : l.all plainB = true) : quotedF (quoteL l ++ r) = (l, (quoteL l).length, 0) := by
 have e : quoteL l ++ r = 34 :: (l.flatMap escB ++ 34 :: r) := by simp [quoteL]
 unfold quotedF
 rw [e, if_pos (by rfl), quoteL_len]
 show qd (l.flatMap escB ++ 34 :: r) false [] 0 = _
 rw [qd_esc l [] r 0 h, List.nil_append, Nat.zero_add]
theorem quoted_is {l t : List UInt8} {n : Nat} (h : quotedF l = (t, n, 0)) : t.all plainB = true ∧ 2 ≤ n ∧ n ≤ l.length ∧ l[n - 1]? = some 34 ∧ (quoteL t).length ≤ n := by
 unfold quotedF at h
 split at h
 ·rename_i hf
  cases l with
  | nil => simp at hf
  | cons c l =>
   obtain ⟨q1, q2, q3, q4, q5⟩ := qd_is l false [] 0 t n rfl h
   refine ⟨q1, q2, by simp; omega, ?_, ?_⟩
   ·rw [show n - 1 = n - 2 - 0 + 1 by omega, List.getElem?_cons_succ]
    exact q4
   ·rw [quoteL_len]
    have e0 : eL [] = 0 := rfl
    simp only [Bool.false_eq_true, if_false, e0, Nat.add_zero] at q5
    exact q5
 ·cases h
theorem qd_err : ∀ (l : List UInt8) (e : Bool) (o : List UInt8) (i : Nat), (qd l e o i).2.2 ≠ 0 → (qd l e o i).1 = [] ∧ (qd l e o i).2.1 = 0
 | [], e, o, i, _ => ⟨rfl, rfl⟩
 | c :: l, e, o, i, h => by
  rw [qd] at h ⊢
  by_cases h1 : plainB c = true
  ·rw [if_pos h1] at h ⊢
   by_cases h2 : e = false ∧ c.toNat = 34
   ·rw [if_pos h2] at h; exact absurd rfl h
   ·rw [if_neg h2] at h ⊢
    by_cases h3 : e = false ∧ c.toNat = 92
    ·rw [if_pos h3] at h ⊢; exact qd_err l _ _ _ h
    ·rw [if_neg h3] at h ⊢; exact qd_err l _ _ _ h
  ·rw [if_neg h1]; exact ⟨rfl, rfl⟩
theorem quoted_err {l t : List UInt8} {n e : Nat} (h : quotedF l = (t, n, e)) (he : e ≠ 0) : t = [] ∧ n = 0 := by
 unfold quotedF at h
 split at h
 ·have := qd_err (l.drop 1) false [] 0 (by rw [h]; exact he)
  rw [h] at this
  exact this
 ·cases h; exact ⟨rfl, rfl⟩
end Go.Vf.S
end
section
namespace Go.Vf.S
open Go Go.Vf
attribute [local irreducible] wSeq wRow wp wG
set_option linter.unusedVariables false
set_option linter.unusedSimpArgs false
set_option maxRecDepth 10000
def signsL : List UInt8 := [33, 35, 36, 37, 38, 39, 42, 43, 45, 47, 61, 63, 94, 95, 96, 123, 124, 125, 126]
def letN (n : Nat) : Bool := decide (97 ≤ n ∧ n ≤ 122) || (decide (65 ≤ n ∧ n ≤ 90) || (decide (48 ≤ n ∧ n ≤ 57) || signsL.any fun c => c.toNat == n))
def letB (c : UInt8) : Bool := letN c.toNat
def atomsV : List Value := (List.range 128).map fun i => .bool (letN i)
theorem atoms_get {i : Nat} (h : i < 128) : atomsV[i]? = some (.bool (letN i)) := by simp [atomsV, h]
abbrev gAt : Nat := 5
def gA : ABlk := .cells atomsV 4 false true
def Gb (s : SS) : Prop := gAt < s.gl ∧ gAt < s.next ∧ lookH s.heap gAt = some gA
theorem Gb.chg {s s' : SS} {A : List Nat} (h : Gb s) (c : Chg s s' A) (hA : gAt ∉ A) : Gb s' := ⟨by rw [c.gl]; exact h.1, Nat.lt_of_lt_of_le h.2.1 c.next, c.blk gAt _ h.2.1 hA h.2.2⟩
theorem signs_lt : ∀ c ∈ signsL, c.toNat < 127 := by decide
theorem let_hi {n : Nat} (h : 127 ≤ n) : letN n = false := by
 have : (signsL.any fun c => c.toNat == n) = false := by
  rw [List.any_eq_false]
  intro c hc
  have := signs_lt c hc
  simp
  omega
 unfold letN
 rw [this]
 simp
 omega
theorem ixaG {P : Program} {T : TL} {s : SS} {K : RR → Prop} {len z g : Nat} {i : Operand} {k : IntKind} {iv : Int} (hg : g < s.gl) (hi : opd T s.gl i = some (.int k iv)) (h : wIdx (.int k iv) len fun m => ∀ o, o = 0 + m * z → K (.val (.pointer (some ⟨g, o, none⟩)))) : wN P (.ixaA len z (.global g) i) T s K := by
 have e : opd T s.gl (.global g) = some (.pointer (some ⟨g, 0, none⟩)) := by
  have hb : Nat.blt g s.gl = true := by rw [Nat.blt_eq]; exact hg
  simp only [opd, hb, cond_true]
 simp only [wN, e, hi]
 exact h
def atomF (l : List UInt8) : Bool := l.all letB && !l.isEmpty
theorem atom_w {s : SS} {l : List UInt8} (hG : Gb s) : CallW pr n_text_Atom [str l] s fun v s' => v = .bool (atomF l) ∧ Chg s s' [] := by
 refine CallW.run good ok_text_Atom (by simp) rfl ?_
 (try refine pSeq ?_); (repeat(first|refine sb ?_|refine gOn rfl ?_|refine gOff rfl rfl ?_|refine gTup rfl ?_))
 refine srange_W rfl un_S rfl ?_
 (repeat(first|refine sb ?_|refine gOn rfl ?_|refine gOff rfl rfl ?_|refine gTup rfl ?_))
 refine pLoop (MW.head good (fun x : It => l.length - x.p) (fun x => At s s.next l x ∧ (l.take x.p).all letB = true) (fun x => [(0, str l), (6, .pointer (some ⟨s.next, 0, none⟩))]) (fun x => x.s) ⟨0, _⟩ ⟨.start s l, rfl⟩ (Wk.same ⟨rfl, rfl, trivial⟩) ?_)
 intro ⟨p, s1⟩ ⟨h1, h2⟩
 dsimp only at h1 h2 ⊢
 (repeat(first|refine sb ?_|refine gOn rfl ?_|refine gOff rfl rfl ?_|refine gTup rfl ?_))
 refine snext_L rfl rfl (show lookH s1.heap _ = some (.siter ⟨⟨l⟩⟩ p) from h1.2.2.2) (fun he => ?_) (fun c hc h7 => ?_) (fun c r w hc h7 hr hr2 _ hw _ => ?_)
 ·rw [List.take_of_length_le he] at h2
  (repeat(first|refine sb ?_|refine gOn rfl ?_|refine gOff rfl rfl ?_|refine gTup rfl ?_))
  intro q hq
  (repeat(first|refine sb ?_|refine gOn rfl ?_|refine gOff rfl rfl ?_|refine gTup rfl ?_))
  refine ⟨bool_eq ?_, h1.1⟩
  rw [hq, atomF, h2]
  cases l <;> simp
 ·have hlt : p < l.length := lt_of_get hc
  have g1 := hG.chg (h1.go (p + 1)).1 (by simp)
  (repeat(first|refine sb ?_|refine gOn rfl ?_|refine gOff rfl rfl ?_|refine gTup rfl ?_))
  intro q hq; obtain rfl : q = false := (by rw [hq]; simp <;> omega); (repeat(first|refine sb ?_|refine gOn rfl ?_|refine gOff rfl rfl ?_|refine gTup rfl ?_))
  refine ixaG (by show gAt < s1.gl; exact g1.1) rfl ?_
  refine ⟨by omega, ?_⟩
  intro m hm o ho
  obtain rfl : m = c.toNat := by omega
  (repeat(first|refine sb ?_|refine gOn rfl ?_|refine gOff rfl rfl ?_|refine gTup rfl ?_))
  refine ldB_is rfl g1.2.2 (by rw [ho, Nat.zero_add, Nat.mul_one]; exact atoms_get (by omega)) ?_
  (repeat(first|refine sb ?_|refine gOn rfl ?_|refine gOff rfl rfl ?_|refine gTup rfl ?_))
  intro q hq
  by_cases hb : letB c = true
  ·obtain rfl : q = false := by rw [hq, show letN c.toNat = true from hb]; rfl
   (repeat(first|refine sb ?_|refine gOn rfl ?_|refine gOff rfl rfl ?_|refine gTup rfl ?_))
   exact ⟨⟨p + 1, _⟩, ⟨h1.go _, by rw [take_next hc]; simp [h2, hb]⟩, by show l.length - (p + 1) < l.length - p; omega, Wk.same ⟨rfl, rfl, trivial⟩⟩
  ·obtain rfl : q = true := by rw [hq, show letN c.toNat = false from by simpa [letB] using hb]; rfl
   (repeat(first|refine sb ?_|refine gOn rfl ?_|refine gOff rfl rfl ?_|refine gTup rfl ?_))
   exact ⟨bool_eq (by rw [atomF, all_no hc (by simpa using hb)]; rfl), (h1.go _).1⟩
 ·(repeat(first|refine sb ?_|refine gOn rfl ?_|refine gOff rfl rfl ?_|refine gTup rfl ?_))
  intro q hq; obtain rfl : q = true := (by rw [hq]; simp <;> omega); (repeat(first|refine sb ?_|refine gOn rfl ?_|refine gOff rfl rfl ?_|refine gTup rfl ?_))
  exact ⟨bool_eq (by rw [atomF, all_no hc (show letB c = false from let_hi (by omega))]; rfl), (h1.go _).1⟩
end Go.Vf.S
end
section
namespace Go.Vf.S
open Go Go.Vf
attribute [local irreducible] wSeq wRow wp wG
set_option linter.unusedVariables false
set_option linter.unusedSimpArgs false
set_option maxRecDepth 10000
def dotF (l : List UInt8) : Bool := (splitF 46 l).all atomF
theorem dotatom_w {s : SS} {l : List UInt8} (hG : Gb s) (hl : l.length ≤ 1000000) : CallW pr n_text_DotAtom [str l] s fun v s' => v = .bool (dotF l) ∧ Chg s s' [] := by
 refine CallW.run good ok_text_DotAtom (by simp) rfl ?_
 (try refine pSeq ?_); (repeat refine sb ?_)
 refine (Split_w (c := 46) hl).mono fun v s1 q => ?_
 obtain ⟨base, cap, rfl, h1, c1, hB⟩ := q
 generalize hls : splitF 46 l = ls at *
 obtain ⟨b, rfl, cs, t, g, r, h2, h3⟩ := h1.at
 have hlen : ls.length ≤ 1000001 := by
  rw [← hls, split_len]
  have := List.count_le_length (a := (46 : UInt8)) (l := l)
  omega
 (repeat refine sb ?_)
 refine pLoop (MW.head good (fun x : SIt => ls.length - x.i) (fun x => x.i ≤ ls.length ∧ Chg s x.s [] ∧ Chg s1 x.s [] ∧ (ls.take x.i).all atomF = true) (fun x => [(6, .slice (some ⟨b, 0, none⟩) ls.length cap), (7, .int .i64 ls.length), (8, .int .i64 x.i)]) (fun x => x.s) ⟨0, s1⟩ ⟨Nat.zero_le _, c1, .refl _ _, rfl⟩ (Wk.same ⟨rfl, rfl, rfl, trivial⟩) ?_)
 intro ⟨i, s2⟩ ⟨hi, c2, c12, h4⟩
 dsimp only at hi c2 c12 h4 ⊢
 (repeat refine sb ?_)
 intro q hq
 by_cases hlt : i < ls.length
 ·obtain rfl : q = true := by rw [hq]; simp <;> omega
  obtain ⟨x, hx⟩ : ∃ x, ls[i]? = some x := ⟨_, List.getElem?_eq_getElem hlt⟩
  (repeat refine sb ?_)
  refine ⟨by omega, ?_⟩
  intro m hm o ho
  obtain rfl : m = i := by omega
  (repeat refine sb ?_)
  have hb2 := c12.blk b _ (by obtain ⟨_, _, _, _, _, e, q, _⟩ := h1; cases e; exact q) (by simp) h2
  refine ldS_is rfl hb2 (by rw [ho, Nat.zero_add, Nat.mul_one]; exact h3 m x hx) ?_
  (repeat refine sb ?_)
  refine (atom_w (hG.chg c2 (by simp))).mono fun v s3 q => ?_
  obtain ⟨rfl, c3⟩ := q
  (repeat refine sb ?_)
  intro q hq
  by_cases ha : atomF x = true
  ·obtain rfl : q = false := by rw [hq, ha]; rfl
   (repeat refine sb ?_)
   intro z hz
   rw [i64_id (by omega)] at hz
   obtain rfl : z = ((m + 1 : Nat) : Int) := by omega
   (repeat refine sb ?_)
   exact ⟨⟨m + 1, s3⟩, ⟨hlt, c2.nil c3, c12.nil c3, by rw [take_next hx]; simp [h4, ha]⟩, by show ls.length - (m + 1) < ls.length - m; omega, Wk.same ⟨rfl, rfl, rfl, trivial⟩⟩
  ·obtain rfl : q = true := by rw [hq]; simp [ha]
   (repeat refine sb ?_)
   refine ⟨bool_eq ?_, c2.nil c3⟩
   unfold dotF
   rw [hls]
   symm
   rw [List.all_eq_false]
   exact ⟨x, List.mem_of_getElem? hx, by simp [ha]⟩
 ·obtain rfl : q = false := by rw [hq]; simp <;> omega
  (repeat refine sb ?_)
  refine ⟨bool_eq ?_, c2⟩
  unfold dotF
  rw [hls, ← h4, List.take_of_length_le (by omega)]
def dropR (l : List UInt8) : List UInt8 := (l.reverse.dropWhile wh).reverse
def trimF (l : List UInt8) : List UInt8 := dropR (l.dropWhile wh)
theorem dropR_wh {l : List UInt8} {c : UInt8} (h : wh c = true) : dropR (l ++ [c]) = dropR l := by
 unfold dropR
 rw [List.reverse_append, List.reverse_singleton, List.singleton_append, List.dropWhile_cons, if_pos h]
theorem dropR_no {l : List UInt8} {c : UInt8} (h : wh c = false) : dropR (l ++ [c]) = l ++ [c] := by
 unfold dropR
 rw [List.reverse_append, List.reverse_singleton, List.singleton_append, List.dropWhile_cons, if_neg (by simp [h])]
 simp
theorem take_last {l : List UInt8} {n : Nat} {c : UInt8} (hn : l.length = n + 1) (h : l[n]? = some c) : l = l.take n ++ [c] := by
 rw [← take_next h, List.take_of_length_le (by omega)]
theorem in_wh (c : UInt8) : inB [32, 9] c.toNat = wh c := by
 rw [Bool.eq_iff_iff]
 simp only [inB, wh, List.any_cons, List.any_nil, Bool.or_false, Bool.or_eq_true, beq_iff_eq, decide_eq_true_eq]
 have e1 : (32 : UInt8).toNat = 32 := rfl
 have e2 : (9 : UInt8).toNat = 9 := rfl
 omega
theorem dropR_cons (c : UInt8) (l : List UInt8) : dropR (c :: l) = if dropR l = [] then (if wh c then [] else [c]) else c :: dropR l := by
 unfold dropR
 rw [List.reverse_cons, List.dropWhile_append]
 by_cases h : l.reverse.dropWhile wh = []
 ·rw [h]
  cases hc : wh c <;> simp [hc]
 ·have h2 : (l.reverse.dropWhile wh).isEmpty = false := by cases q : l.reverse.dropWhile wh with
   | nil => exact absurd q h
   | cons a b => rfl
  rw [h2]
  simp [h]
theorem trim_comm (l : List UInt8) : trimF l = (dropR l).dropWhile wh := by
 unfold trimF
 induction l with
 | nil => rfl
 | cons c l ih =>
  rw [dropR_cons]
  cases hc : wh c with
  | true =>
   rw [List.dropWhile_cons, if_pos hc, ih]
   by_cases h : dropR l = []
   ·rw [if_pos h, h]; rfl
   ·rw [if_neg h, List.dropWhile_cons, if_pos hc]
  | false =>
   rw [List.dropWhile_cons, if_neg (by simp [hc]), dropR_cons, hc]
   by_cases h : dropR l = []
   ·rw [if_pos h]; simp [hc]
   ·rw [if_neg h, List.dropWhile_cons, if_neg (by simp [hc])]
theorem trimR_w {s : SS} {b : Nat} {g r : Bool} {l : List UInt8} (hl : l.length ≤ 1000000) (hb : lookH s.heap b = some (.cells (tab (inB [32, 9])) tA g r)) :
  CallW pr n_strings_trimRightASCII [str l, .pointer (some ⟨b, 0, none⟩)] s fun v s' => v = str (dropR l) ∧ s' = s := by
 refine CallW.run good ok_strings_trimRightASCII (by simp) rfl ?_
 (try refine pSeq ?_); (repeat refine sb ?_)
 refine pLoop (MW.head good (fun x : List UInt8 => x.length) (fun x => x.length ≤ l.length ∧ dropR x = dropR l)
  (fun x => [(0, str x), (1, .pointer (some ⟨b, 0, none⟩))]) (fun x => s) l ⟨Nat.le_refl _, rfl⟩ (Wk.same ⟨rfl, rfl, trivial⟩) ?_)
 intro x ⟨hx, h0⟩
 (repeat refine sb ?_)
 intro n hn
 (repeat refine sb ?_)
 intro q hq
 rcases Nat.eq_zero_or_pos x.length with h | h
 ·have : x = [] := List.eq_nil_of_length_eq_zero h
  subst this
  obtain rfl : q = false := by rw [hq, hn]; rfl
  (repeat refine sb ?_)
  rw [← h0]
  exact ⟨rfl, rfl⟩
 ·obtain ⟨k, hk⟩ : ∃ k, x.length = k + 1 := ⟨x.length - 1, by omega⟩
  obtain ⟨c, hc⟩ : ∃ c, x[k]? = some c := ⟨_, List.getElem?_eq_getElem (by omega)⟩
  have hx2 := take_last hk hc
  obtain rfl : q = true := by rw [hq, hn]; simp; omega
  (repeat refine sb ?_)
  intro n2 hn2
  (repeat refine sb ?_)
  intro z hz
  rw [i64_id (by omega)] at hz
  (repeat refine sb ?_)
  refine ⟨by omega, ?_⟩
  intro m hm
  obtain rfl : m = k := by omega
  refine ⟨c, hc, ?_⟩
  (repeat refine sb ?_)
  refine (contains_w hb).mono fun v s q => ?_
  obtain ⟨rfl, rfl⟩ := q
  rw [show inB [32, 9] c.toNat = wh c from in_wh c]
  (repeat refine sb ?_)
  intro q hq
  by_cases hf : wh c = true
  ·obtain rfl : q = false := by rw [hq, hf]; rfl
   rw [hx2, dropR_wh hf] at h0
   (repeat refine sb ?_)
   intro n3 hn3
   (repeat refine sb ?_)
   intro z2 hz2
   rw [i64_id (by omega)] at hz2
   (repeat refine sb ?_)
   refine ⟨by omega, ?_⟩
   intro m2 hm2 y hy
   obtain rfl : m2 = m := by omega
   have ey : y = x.take m2 := by rw [hy]; simp
   clear hy
   subst ey
   (repeat refine sb ?_)
   exact ⟨x.take m2, ⟨by simp; omega, h0⟩, by show (x.take m2).length < x.length; simp; omega, Wk.same ⟨rfl, rfl, trivial⟩⟩
  ·obtain rfl : q = true := by rw [hq]; simp [hf]
   rw [hx2, dropR_no (by simpa using hf), ← hx2] at h0
   (repeat refine sb ?_)
   rw [← h0]
   exact ⟨rfl, rfl⟩
theorem Trim_w {s : SS} {l : List UInt8} (hl : l.length ≤ 1000000) : CallW pr n_strings_Trim [str l, .string ⟨#[32, 9]⟩] s fun v s' => v = str (trimF l) ∧ Chg s s' [] := by
 refine CallW.run good ok_strings_Trim (by simp) rfl ?_
 (try refine pSeq ?_); (repeat(first|refine sb ?_|refine kNo ?_|refine gOn rfl ?_|refine gOff rfl rfl ?_|refine gTup rfl ?_))
 intro q hq
 by_cases h0 : l = []
 ·subst h0
  obtain rfl : q = true := by rw [hq]; rfl
  (repeat(first|refine sb ?_|refine kNo ?_|refine gOn rfl ?_|refine gOff rfl rfl ?_|refine gTup rfl ?_))
  exact ⟨rfl, .refl _ _⟩
 ·obtain rfl : q = false := by rw [hq]; simp [h0]
  (repeat(first|refine sb ?_|refine kNo ?_|refine gOn rfl ?_|refine gOff rfl rfl ?_|refine gTup rfl ?_))
  intro q hq
  obtain rfl : q = false := by rw [hq]; rfl
  (repeat(first|refine sb ?_|refine kNo ?_|refine gOn rfl ?_|refine gOff rfl rfl ?_|refine gTup rfl ?_))
  intro n hn
  (repeat(first|refine sb ?_|refine kNo ?_|refine gOn rfl ?_|refine gOff rfl rfl ?_|refine gTup rfl ?_))
  intro q hq
  obtain rfl : q = false := by rw [hq, hn]; rfl
  (repeat(first|refine sb ?_|refine kNo ?_|refine gOn rfl ?_|refine gOff rfl rfl ?_|refine gTup rfl ?_))
  refine (makeSet_w (k := [32, 9]) (by simp) (by simp)).mono fun v s1 q => ?_
  obtain ⟨rfl, c1⟩ := q
  (repeat(first|refine sb ?_|refine kNo ?_|refine gOn rfl ?_|refine gOff rfl rfl ?_|refine gTup rfl ?_))
  have n1 := c1.next
  refine st_abs (cs := tab fun _ => false) rfl rfl lkH (Nat.lt_succ_self _) (tab_all1 _) (tab_row _ _) fun s2 e2 c2 n2 => ?_
  (repeat(first|refine sb ?_|refine kNo ?_|refine gOn rfl ?_|refine gOff rfl rfl ?_|refine gTup rfl ?_))
  refine (trimR_w hl e2).mono fun v s2 q => ?_
  obtain ⟨rfl, rfl⟩ := q
  have hlen : (dropR l).length ≤ l.length := by
   unfold dropR
   have := (List.dropWhile_sublist (l := l.reverse) wh).length_le
   simp at this ⊢
   exact this
  (repeat(first|refine sb ?_|refine kNo ?_|refine gOn rfl ?_|refine gOff rfl rfl ?_|refine gTup rfl ?_))
  refine (trimL_w (by omega) e2).mono fun v s2 q => ?_
  obtain ⟨rfl, rfl⟩ := q
  (repeat(first|refine sb ?_|refine kNo ?_|refine gOn rfl ?_|refine gOff rfl rfl ?_|refine gTup rfl ?_))
  refine ⟨?_, (c1.nil (.new [])).fresh c2 (by simp; omega)⟩
  rw [trim_comm]
  show str _ = str _
  congr 4
  funext c
  exact in_wh c
theorem textTrim_w {s : SS} {l : List UInt8} (hl : l.length ≤ 1000000) : CallW pr n_text_Trim [str l] s fun v s' => v = str (trimF l) ∧ Chg s s' [] := by
 refine CallW.run good ok_text_Trim (by simp) rfl ?_
 (try refine pSeq ?_); (repeat refine sb ?_)
 refine (Trim_w hl).mono fun v s1 q => ?_
 obtain ⟨rfl, c1⟩ := q
 (repeat refine sb ?_)
 exact ⟨rfl, c1⟩
end Go.Vf.S
end
section
namespace Go.Vf.S
open Go Go.Vf
attribute [local irreducible] wSeq wRow wp wG
set_option linter.unusedVariables false
set_option linter.unusedSimpArgs false
set_option maxRecDepth 10000
abbrev tAd : TypeId := 41
abbrev adV (a d : List UInt8) : Value := .agg ⟨[str a, str d]⟩
theorem agg_Ad : aggB pr tAd = some true := by kernel_rfl
theorem sz_Ad : sizeB pr tAd = some 2 := by kernel_rfl
def atRest (r : List UInt8) : List UInt8 := if r.take 1 = [64] then r.drop 1 else r
def partsF (l : List UInt8) : List UInt8 × List UInt8 × Bool :=
 if l.take 1 = [34] then ((quotedF l).1, atRest (l.drop (quotedF l).2.1), decide ((l.drop (quotedF l).2.1).take 1 = [64] ∧ (quotedF l).2.2 = 0 ∧ (quotedF l).1 ≠ []))
 else ((cutF 64 l).1, (cutF 64 l).2.1, (cutF 64 l).2.2 && dotF (cutF 64 l).1)
def parseF (l : List UInt8) : List UInt8 × List UInt8 × Nat :=
 if (partsF l).2.2 = false then ([], [], 5) else if domF (partsF l).2.1 ≠ 0 then ([], [], domF (partsF l).2.1) else if 64 < (partsF l).1.length then ([], [], 3) else ((partsF l).1, (partsF l).2.1, 0)
theorem quoted_len (l : List UInt8) : (quotedF l).2.1 ≤ l.length := by
 by_cases h : (quotedF l).2.2 = 0
 ·exact (quoted_is (l := l) (t := (quotedF l).1) (n := (quotedF l).2.1) (by rw [← h])).2.2.1
 ·rw [(quoted_err (l := l) (t := (quotedF l).1) (n := (quotedF l).2.1) (e := (quotedF l).2.2) rfl h).2]
  exact Nat.zero_le _
theorem quote_long (l : List UInt8) : l.length + 2 ≤ (quoteL l).length := by
 unfold quoteL
 have := (esc_len l).1
 rw [List.length_append, List.length_cons, List.length_singleton]
 omega
theorem quoted_short (l : List UInt8) : (quotedF l).1.length ≤ l.length := by
 by_cases h : (quotedF l).2.2 = 0
 ·have q := quoted_is (l := l) (t := (quotedF l).1) (n := (quotedF l).2.1) (by rw [← h])
  have := quote_long (quotedF l).1
  omega
 ·rw [(quoted_err (l := l) (t := (quotedF l).1) (n := (quotedF l).2.1) (e := (quotedF l).2.2) rfl h).1]
  exact Nat.zero_le _
theorem parts_len (l : List UInt8) : (partsF l).1.length ≤ l.length ∧ (partsF l).2.1.length ≤ l.length := by
 unfold partsF
 split
 ·refine ⟨quoted_short l, ?_⟩
  show (atRest _).length ≤ _
  unfold atRest
  split <;> simp <;> omega
 ·exact cut_len 64 l
theorem aparts_w {s : SS} {l : List UInt8} (hG : Gb s) (hl : l.length ≤ 1000000) : CallW pr n_addr_parts [str l] s fun v s' => v = .tuple ⟨[str (partsF l).1, str (partsF l).2.1, .bool (partsF l).2.2]⟩ ∧ Chg s s' [] := by
 refine CallW.run good ok_addr_parts (by simp) rfl ?_
 (try refine pSeq ?_); (repeat(first|refine sb ?_|refine gOn rfl ?_|refine gOff rfl rfl ?_|refine gTup rfl ?_))
 refine prefix_w.mono fun v s q => ?_
 obtain ⟨rfl, rfl⟩ := q
 by_cases h34 : l.take 1 = [34]
 ·have e34 : l.take [(34 : UInt8)].length = [34] := h34
  have eP : partsF l = ((quotedF l).1, atRest (l.drop (quotedF l).2.1), decide ((l.drop (quotedF l).2.1).take 1 = [64] ∧ (quotedF l).2.2 = 0 ∧ (quotedF l).1 ≠ [])) := by unfold partsF; rw [if_pos h34]
  rw [decide_eq_true e34, eP]
  have hq := quoted_len l
  (repeat(first|refine sb ?_|refine gOn rfl ?_|refine gOff rfl rfl ?_|refine gTup rfl ?_))
  intro q hq; obtain rfl : q = false := (by rw [hq]; simp <;> omega); (repeat(first|refine sb ?_|refine gOn rfl ?_|refine gOff rfl rfl ?_|refine gTup rfl ?_))
  refine (quoted_w hl).mono fun v s1 q => ?_
  obtain ⟨rfl, c1⟩ := q
  generalize quotedF l = Q at *
  obtain ⟨w, many, e⟩ := Q
  have hq : many ≤ l.length := hq
  dsimp only
  (repeat(first|refine sb ?_|refine gOn rfl ?_|refine gOff rfl rfl ?_|refine gTup rfl ?_))
  refine ⟨by omega, ?_⟩
  intro m hm r hr
  have hm : (m : Int) = (many : Int) := hm
  obtain rfl : m = many := by omega
  rw [List.take_of_length_le (by simp)] at hr
  subst hr
  (repeat(first|refine sb ?_|refine gOn rfl ?_|refine gOff rfl rfl ?_|refine gTup rfl ?_))
  refine cutP_w.mono fun v s q => ?_
  obtain ⟨rfl, rfl⟩ := q
  have e1 : (l.drop m).take [(64 : UInt8)].length = (l.drop m).take 1 := rfl
  have e2 : (if (l.drop m).take [(64 : UInt8)].length = [64] then (l.drop m).drop [(64 : UInt8)].length else l.drop m) = atRest (l.drop m) := rfl
  rw [e2, e1]
  by_cases h64 : (l.drop m).take 1 = [64]
  ·rw [decide_eq_true h64]
   (repeat(first|refine sb ?_|refine gOn rfl ?_|refine gOff rfl rfl ?_|refine gTup rfl ?_))
   intro q hq
   by_cases he : e = 0
   ·subst he
    obtain rfl : q = true := by rw [hq]; rfl
    (repeat(first|refine sb ?_|refine gOn rfl ?_|refine gOff rfl rfl ?_|refine gTup rfl ?_))
    intro q hq
    (repeat(first|refine sb ?_|refine gOn rfl ?_|refine gOff rfl rfl ?_|refine gTup rfl ?_))
    refine ⟨?_, c1⟩
    have : decide ((l.drop m).take 1 = [64] ∧ (0 : Nat) = 0 ∧ w ≠ []) = q := by rw [hq]; simp [h64]
    rw [this]
    rfl
   ·obtain rfl : q = false := by rw [hq]; simp; omega
    (repeat(first|refine sb ?_|refine gOn rfl ?_|refine gOff rfl rfl ?_|refine gTup rfl ?_))
    refine ⟨?_, c1⟩
    have : decide ((l.drop m).take 1 = [64] ∧ e = 0 ∧ w ≠ []) = false := by simp [he]
    rw [this]
    rfl
  ·rw [decide_eq_false h64]
   (repeat(first|refine sb ?_|refine gOn rfl ?_|refine gOff rfl rfl ?_|refine gTup rfl ?_))
   refine ⟨?_, c1⟩
   have : decide ((l.drop m).take 1 = [64] ∧ e = 0 ∧ w ≠ []) = false := by simp [h64]
   rw [this]
   rfl
 ·have e34 : ¬l.take [(34 : UInt8)].length = [34] := h34
  have eP : partsF l = ((cutF 64 l).1, (cutF 64 l).2.1, (cutF 64 l).2.2 && dotF (cutF 64 l).1) := by unfold partsF; rw [if_neg h34]
  rw [decide_eq_false e34, eP]
  have hcl := (cut_len 64 l).1
  (repeat(first|refine sb ?_|refine gOn rfl ?_|refine gOff rfl rfl ?_|refine gTup rfl ?_))
  intro q hq; obtain rfl : q = true := (by rw [hq]; simp <;> omega); (repeat(first|refine sb ?_|refine gOn rfl ?_|refine gOff rfl rfl ?_|refine gTup rfl ?_))
  refine (cut1_w hl).mono fun v s q => ?_
  obtain ⟨rfl, rfl⟩ := q
  generalize cutF 64 l = C at *
  obtain ⟨w, r, f⟩ := C
  dsimp only at hcl ⊢
  cases f with
  | true =>
   (repeat(first|refine sb ?_|refine gOn rfl ?_|refine gOff rfl rfl ?_|refine gTup rfl ?_))
   refine (dotatom_w hG (by omega)).mono fun v s1 q => ?_
   obtain ⟨rfl, c1⟩ := q
   (repeat(first|refine sb ?_|refine gOn rfl ?_|refine gOff rfl rfl ?_|refine gTup rfl ?_))
   exact ⟨rfl, c1⟩
  | false =>
   (repeat(first|refine sb ?_|refine gOn rfl ?_|refine gOff rfl rfl ?_|refine gTup rfl ?_))
   exact ⟨rfl, .refl _ _⟩
theorem agg2 {a b : Value} : takeN 2 (([a, b] : List Value).drop 0) = some [a, b] := rfl
theorem parse_w {s : SS} {l : List UInt8} (hG : Gb s) (hl : l.length ≤ 1000000) : CallW pr n_addr_Parse [str l] s fun v s' => v = .tuple ⟨[adV (parseF l).1 (parseF l).2.1, .int .i64 (parseF l).2.2]⟩ ∧ Chg s s' [] := by
 refine CallW.run good ok_addr_Parse (by simp) rfl ?_
 (try refine pSeq ?_); (repeat(first|refine sb ?_|refine gOn rfl ?_|refine gOff rfl rfl ?_|refine gTup rfl ?_))
 have c0 : Chg s { s with heap := (s.next, some (.cells [str [], str []] tAd false false)) :: s.heap, next := s.next + 1 } [] := .new _
 refine (aparts_w (hG.chg c0 (by simp)) hl).mono fun v s1 q => ?_
 obtain ⟨rfl, c1⟩ := q
 have hp := parts_len l
 have eF : parseF l = if (partsF l).2.2 = false then ([], [], 5) else if domF (partsF l).2.1 ≠ 0 then ([], [], domF (partsF l).2.1) else if 64 < (partsF l).1.length then ([], [], 3) else ((partsF l).1, (partsF l).2.1, 0) := rfl
 rw [eF]
 generalize partsF l = Q at *
 obtain ⟨w, r, f⟩ := Q
 dsimp only at hp ⊢
 have hk : lookH s1.heap s.next = some (.cells [str [], str []] tAd false false) := c1.blk _ _ (Nat.lt_succ_self _) (by simp) lkH
 have hlt : s.next < s1.next := Nat.lt_of_lt_of_le (Nat.lt_succ_self _) c1.next
 have cc : Chg s s1 [] := c0.nil c1
 cases f with
 | false =>
  (repeat(first|refine sb ?_|refine gOn rfl ?_|refine gOff rfl rfl ?_|refine gTup rfl ?_))
  intro q hq; obtain rfl : q = true := (by rw [hq]; simp <;> omega); (repeat(first|refine sb ?_|refine gOn rfl ?_|refine gOff rfl rfl ?_|refine gTup rfl ?_))
  refine st_abs (cs' := [str [], str []]) rfl rfl hk hlt rfl rfl fun s2 e2 c2 n2 => ?_
  (repeat(first|refine sb ?_|refine gOn rfl ?_|refine gOff rfl rfl ?_|refine gTup rfl ?_))
  (repeat (first | with_reducible refine sqRet ?_ | with_reducible refine bkRet ?_ | with_reducible refine hdRet ?_))
  exact ret_cell agg_Ad sz_Ad rfl e2 agg2 rfl ⟨rfl, cc.fresh c2 (by simp)⟩
 | true =>
  (repeat(first|refine sb ?_|refine gOn rfl ?_|refine gOff rfl rfl ?_|refine gTup rfl ?_))
  intro q hq; obtain rfl : q = false := (by rw [hq]; simp <;> omega); (repeat(first|refine sb ?_|refine gOn rfl ?_|refine gOff rfl rfl ?_|refine gTup rfl ?_))
  refine (domErr_w (by omega)).mono fun v s2 q => ?_
  obtain ⟨rfl, c2⟩ := q
  have hk2 := c2.blk _ _ hlt (by simp) hk
  have hlt2 : s.next < s2.next := Nat.lt_of_lt_of_le hlt c2.next
  have cc2 : Chg s s2 [] := cc.nil c2
  rw [if_neg (by simp)]
  (repeat(first|refine sb ?_|refine gOn rfl ?_|refine gOff rfl rfl ?_|refine gTup rfl ?_))
  intro q hq
  by_cases hd : domF r = 0
  ·obtain rfl : q = true := by rw [hq, hd]; rfl
   rw [if_neg (by simp [hd])]
   (repeat(first|refine sb ?_|refine gOn rfl ?_|refine gOff rfl rfl ?_|refine gTup rfl ?_))
   intro n hn
   (repeat(first|refine sb ?_|refine gOn rfl ?_|refine gOff rfl rfl ?_|refine gTup rfl ?_))
   intro q hq
   by_cases hw : 64 < w.length
   ·obtain rfl : q = true := by rw [hq]; simp <;> omega
    rw [if_pos hw]
    (repeat(first|refine sb ?_|refine gOn rfl ?_|refine gOff rfl rfl ?_|refine gTup rfl ?_))
    intro q hq; obtain rfl : q = true := (by rw [hq]; simp <;> omega); (repeat(first|refine sb ?_|refine gOn rfl ?_|refine gOff rfl rfl ?_|refine gTup rfl ?_))
    refine st_abs (cs' := [str [], str []]) rfl rfl hk2 hlt2 rfl rfl fun s3 e3 c3 n3 => ?_
    (repeat(first|refine sb ?_|refine gOn rfl ?_|refine gOff rfl rfl ?_|refine gTup rfl ?_))
    (repeat (first | with_reducible refine sqRet ?_ | with_reducible refine bkRet ?_ | with_reducible refine hdRet ?_))
    exact ret_cell agg_Ad sz_Ad rfl e3 agg2 rfl ⟨rfl, cc2.fresh c3 (by simp)⟩
   ·obtain rfl : q = false := by rw [hq]; simp <;> omega
    rw [if_neg hw, hd]
    (repeat(first|refine sb ?_|refine gOn rfl ?_|refine gOff rfl rfl ?_|refine gTup rfl ?_))
    intro q hq
    obtain rfl : q = false := by rw [hq]; rfl
    (repeat(first|refine sb ?_|refine gOn rfl ?_|refine gOff rfl rfl ?_|refine gTup rfl ?_))
    refine st_abs (cs' := [str w, str r]) rfl rfl hk2 hlt2 rfl rfl fun s3 e3 c3 n3 => ?_
    (repeat(first|refine sb ?_|refine gOn rfl ?_|refine gOff rfl rfl ?_|refine gTup rfl ?_))
    (repeat (first | with_reducible refine sqRet ?_ | with_reducible refine bkRet ?_ | with_reducible refine hdRet ?_))
    exact ret_cell agg_Ad sz_Ad rfl e3 agg2 rfl ⟨rfl, cc2.fresh c3 (by simp)⟩
  ·obtain rfl : q = false := by rw [hq]; simp; omega
   rw [if_pos hd]
   (repeat(first|refine sb ?_|refine gOn rfl ?_|refine gOff rfl rfl ?_|refine gTup rfl ?_))
   intro q hq
   obtain rfl : q = true := by rw [hq]; simp; omega
   (repeat(first|refine sb ?_|refine gOn rfl ?_|refine gOff rfl rfl ?_|refine gTup rfl ?_))
   refine st_abs (cs' := [str [], str []]) rfl rfl hk2 hlt2 rfl rfl fun s3 e3 c3 n3 => ?_
   (repeat(first|refine sb ?_|refine gOn rfl ?_|refine gOff rfl rfl ?_|refine gTup rfl ?_))
   (repeat (first | with_reducible refine sqRet ?_ | with_reducible refine bkRet ?_ | with_reducible refine hdRet ?_))
   exact ret_cell agg_Ad sz_Ad rfl e3 agg2 rfl ⟨rfl, cc2.fresh c3 (by simp)⟩
end Go.Vf.S
end
section
namespace Go.Vf.S
open Go Go.Vf
attribute [local irreducible] wSeq wRow wp wG
set_option linter.unusedVariables false
set_option linter.unusedSimpArgs false
set_option maxRecDepth 10000
def spF (l : List UInt8) : List UInt8 × List UInt8 × Bool :=
 if 43 ∈ l.drop 1 then (l.take (((l.drop 1).takeWhile (· != 43)).length + 1), l.drop (((l.drop 1).takeWhile (· != 43)).length + 2), true) else (l, [], false)
theorem sp_at {l : List UInt8} {p : Nat} (hp : 0 < p) (hc : l[p]? = some 43) (hno : (43 : UInt8) ∉ (l.take p).drop 1) : spF l = (l.take p, l.drop (p + 1), true) := by
 have hlt := lt_of_get hc
 have e : l.drop 1 = (l.take p).drop 1 ++ 43 :: l.drop (p + 1) := by
  rw [List.drop_take, ← drop_next hc]
  conv => lhs; rw [← List.take_append_drop (p - 1) (l.drop 1)]
  rw [List.drop_drop, show 1 + (p - 1) = p by omega]
 have e2 : ((l.take p).drop 1).length + 1 = p := by rw [List.length_drop, List.length_take]; omega
 unfold spF
 rw [e, if_pos (by simp), while_first hno, e2, show ((l.take p).drop 1).length + 2 = p + 1 by omega]
theorem sp_end {l : List UInt8} (hno : (43 : UInt8) ∉ l.drop 1) : spF l = (l, [], false) := by unfold spF; rw [if_neg hno]
theorem plus_next {l : List UInt8} {p : Nat} {c : UInt8} (hc : l[p]? = some c) (h : (43 : UInt8) ∉ (l.take p).drop 1) (hn : c ≠ 43 ∨ p = 0) : (43 : UInt8) ∉ (l.take (p + 1)).drop 1 := by
 rcases Nat.eq_zero_or_pos p with h0 | h0
 ·subst h0
  rw [take_next hc]
  simp
 ·have hlt := lt_of_get hc
  rw [take_next hc, List.drop_append_of_le_length (by rw [List.length_take]; omega), List.mem_append, List.mem_singleton]
  rintro (q | q)
  ·exact h q
  ·rcases hn with hn | hn
   ·exact hn q.symm
   ·omega
theorem plus_more {l : List UInt8} {p : Nat} : ∀ {w : Nat}, (∀ j, j < w → ∃ d, l[p + j]? = some d ∧ 128 ≤ d.toNat) → (43 : UInt8) ∉ (l.take p).drop 1 → (43 : UInt8) ∉ (l.take (p + w)).drop 1
 | 0, _, h => h
 | w + 1, hd, h => by
  obtain ⟨d, h1, h2⟩ := hd w (Nat.lt_succ_self _)
  rw [← Nat.add_assoc]
  exact plus_next h1 (plus_more (fun j hj => hd j (Nat.lt_succ_of_lt hj)) h) (.inl fun e => by rw [e] at h2; simp at h2)
abbrev spV (q : List UInt8 × List UInt8 × Bool) : Value := .tuple ⟨[str q.1, str q.2.1, .bool q.2.2]⟩
theorem asplit_w {s : SS} {l : List UInt8} (hl : l.length ≤ 1000000) : CallW pr n_addr_Split [str l] s fun v s' => v = spV (spF l) ∧ Chg s s' [] := by
 refine CallW.run good ok_addr_Split (by simp) rfl ?_
 (try refine pSeq ?_); (repeat(first|refine sb ?_|refine kNo ?_|refine gOn rfl ?_|refine gOff rfl rfl ?_|refine gTup rfl ?_))
 refine srange_W rfl un_S rfl ?_
 (repeat(first|refine sb ?_|refine kNo ?_|refine gOn rfl ?_|refine gOff rfl rfl ?_|refine gTup rfl ?_))
 refine pLoop (MW.head good (fun x : It => l.length - x.p) (fun x => At s s.next l x ∧ (43 : UInt8) ∉ (l.take x.p).drop 1) (fun x => [(0, str l), (8, .pointer (some ⟨s.next, 0, none⟩))]) (fun x => x.s) ⟨0, _⟩ ⟨.start s l, by simp⟩ (Wk.same ⟨rfl, rfl, trivial⟩) ?_)
 intro ⟨p, s1⟩ ⟨h1, h2⟩
 dsimp only at h1 h2 ⊢
 (repeat(first|refine sb ?_|refine kNo ?_|refine gOn rfl ?_|refine gOff rfl rfl ?_|refine gTup rfl ?_))
 refine snext_L rfl rfl (show lookH s1.heap _ = some (.siter ⟨⟨l⟩⟩ p) from h1.2.2.2) (fun he => ?_) (fun c hc h7 => ?_) (fun c r w hc h7 hr hr2 hdec hw _ => ?_)
 ·rw [List.take_of_length_le he] at h2
  rw [sp_end h2]
  (repeat(first|refine sb ?_|refine kNo ?_|refine gOn rfl ?_|refine gOff rfl rfl ?_|refine gTup rfl ?_))
  exact ⟨rfl, h1.1⟩
 ·have hlt : p < l.length := lt_of_get hc
  (repeat(first|refine sb ?_|refine kNo ?_|refine gOn rfl ?_|refine gOff rfl rfl ?_|refine gTup rfl ?_))
  intro q hq
  by_cases h43 : c = 43
  ·obtain rfl : q = true := by rw [hq, h43]; rfl
   (repeat(first|refine sb ?_|refine kNo ?_|refine gOn rfl ?_|refine gOff rfl rfl ?_|refine gTup rfl ?_))
   intro q hq
   by_cases h0 : 0 < p
   ·obtain rfl : q = true := by rw [hq]; simp <;> omega
    rw [sp_at h0 (by rw [hc, h43]) h2]
    (repeat(first|refine sb ?_|refine kNo ?_|refine gOn rfl ?_|refine gOff rfl rfl ?_|refine gTup rfl ?_))
    refine ⟨by omega, ?_⟩
    intro m hm a ha
    obtain rfl : m = p := by omega
    rw [List.drop_zero, Nat.sub_zero] at ha
    subst ha
    (repeat(first|refine sb ?_|refine kNo ?_|refine gOn rfl ?_|refine gOff rfl rfl ?_|refine gTup rfl ?_))
    intro z hz
    rw [i64_id (by omega)] at hz
    (repeat(first|refine sb ?_|refine kNo ?_|refine gOn rfl ?_|refine gOff rfl rfl ?_|refine gTup rfl ?_))
    refine ⟨by omega, ?_⟩
    intro m2 hm2 b hb
    obtain rfl : m2 = m + 1 := by omega
    rw [List.take_of_length_le (by simp)] at hb
    subst hb
    (repeat(first|refine sb ?_|refine kNo ?_|refine gOn rfl ?_|refine gOff rfl rfl ?_|refine gTup rfl ?_))
    exact ⟨rfl, (h1.go (m + 1)).1⟩
   ·obtain rfl : q = false := by rw [hq]; simp <;> omega
    (repeat(first|refine sb ?_|refine kNo ?_|refine gOn rfl ?_|refine gOff rfl rfl ?_|refine gTup rfl ?_))
    exact ⟨⟨p + 1, _⟩, ⟨h1.go _, plus_next hc h2 (.inr (by omega))⟩, by show l.length - (p + 1) < l.length - p; omega, Wk.same ⟨rfl, rfl, trivial⟩⟩
  ·have c43 : c.toNat ≠ 43 := byte_ne h43
   obtain rfl : q = false := by rw [hq]; simp; omega
   (repeat(first|refine sb ?_|refine kNo ?_|refine gOn rfl ?_|refine gOff rfl rfl ?_|refine gTup rfl ?_))
   exact ⟨⟨p + 1, _⟩, ⟨h1.go _, plus_next hc h2 (.inl h43)⟩, by show l.length - (p + 1) < l.length - p; omega, Wk.same ⟨rfl, rfl, trivial⟩⟩
 ·have hlt : p < l.length := lt_of_get hc
  (repeat(first|refine sb ?_|refine kNo ?_|refine gOn rfl ?_|refine gOff rfl rfl ?_|refine gTup rfl ?_))
  intro q hq
  obtain rfl : q = false := by rw [hq]; simp; omega
  (repeat(first|refine sb ?_|refine kNo ?_|refine gOn rfl ?_|refine gOff rfl rfl ?_|refine gTup rfl ?_))
  exact ⟨⟨p + w, _⟩, ⟨h1.go _, plus_more (dec_more hdec hc h7) h2⟩, by show l.length - (p + w) < l.length - p; omega, Wk.same ⟨rfl, rfl, trivial⟩⟩
end Go.Vf.S
end
section
namespace Go.Vf.S
open Go Go.Vf
attribute [local irreducible] wSeq wRow wp wG
set_option linter.unusedVariables false
set_option linter.unusedSimpArgs false
set_option maxRecDepth 10000
def mayF (a d : List UInt8) : Bool := decide (a ≠ [] ∧ a.length ≤ 64 ∧ a.all plainB = true ∧ domF d = 0)
theorem may_no {a d : List UInt8} (h : ¬(a ≠ [] ∧ a.length ≤ 64 ∧ a.all plainB = true ∧ domF d = 0)) : mayF a d = false := decide_eq_false h
theorem may_w {s : SS} {a d : List UInt8} (ha : a.length ≤ 1000000) (hd : d.length ≤ 1000000) : CallW pr n_addr_May [adV a d] s fun v s' => v = .bool (mayF a d) ∧ Chg s s' [] := by
 refine CallW.run good ok_addr_May (by simp) rfl ?_
 (try refine pSeq ?_); (repeat(first|refine sb ?_|refine gOn rfl ?_|refine gOff rfl rfl ?_|refine gTup rfl ?_))
 refine ldS_is rfl lkH rfl ?_
 (repeat(first|refine sb ?_|refine gOn rfl ?_|refine gOff rfl rfl ?_|refine gTup rfl ?_))
 intro q hq
 by_cases h1 : a = []
 ·obtain rfl : q = false := by rw [hq]; simp [h1]
  (repeat(first|refine sb ?_|refine gOn rfl ?_|refine gOff rfl rfl ?_|refine gTup rfl ?_))
  exact ⟨bool_eq (may_no fun h => h.1 h1).symm, .new _⟩
 ·obtain rfl : q = true := by rw [hq]; simp [h1]
  (repeat(first|refine sb ?_|refine gOn rfl ?_|refine gOff rfl rfl ?_|refine gTup rfl ?_))
  refine ldS_is rfl lkH rfl ?_
  (repeat(first|refine sb ?_|refine gOn rfl ?_|refine gOff rfl rfl ?_|refine gTup rfl ?_))
  intro n hn
  (repeat(first|refine sb ?_|refine gOn rfl ?_|refine gOff rfl rfl ?_|refine gTup rfl ?_))
  intro q hq
  by_cases h2 : a.length ≤ 64
  ·obtain rfl : q = true := by rw [hq]; simp <;> omega
   (repeat(first|refine sb ?_|refine gOn rfl ?_|refine gOff rfl rfl ?_|refine gTup rfl ?_))
   refine ldS_is rfl lkH rfl ?_
   (repeat(first|refine sb ?_|refine gOn rfl ?_|refine gOff rfl rfl ?_|refine gTup rfl ?_))
   refine Plain_w.mono fun v s1 q => ?_
   obtain ⟨rfl, c1⟩ := q
   have cc : Chg s s1 [] := (Chg.new []).nil c1
   cases hp : a.all plainB with
   | false =>
    (repeat(first|refine sb ?_|refine gOn rfl ?_|refine gOff rfl rfl ?_|refine gTup rfl ?_))
    exact ⟨bool_eq (may_no fun h => by rw [h.2.2.1] at hp; cases hp).symm, cc⟩
   | true =>
    (repeat(first|refine sb ?_|refine gOn rfl ?_|refine gOff rfl rfl ?_|refine gTup rfl ?_))
    refine ldS_is rfl (c1.blk _ _ (Nat.lt_succ_self _) (by simp) lkH) rfl ?_
    (repeat(first|refine sb ?_|refine gOn rfl ?_|refine gOff rfl rfl ?_|refine gTup rfl ?_))
    refine (mayDomain_w hd).mono fun v s2 q => ?_
    obtain ⟨rfl, c2⟩ := q
    (repeat(first|refine sb ?_|refine gOn rfl ?_|refine gOff rfl rfl ?_|refine gTup rfl ?_))
    refine ⟨bool_eq ?_, cc.nil c2⟩
    unfold mayF
    rw [decide_eq_decide]
    exact ⟨fun h => ⟨h1, h2, hp, h⟩, fun h => h.2.2.2⟩
  ·obtain rfl : q = false := by rw [hq]; simp <;> omega
   (repeat(first|refine sb ?_|refine gOn rfl ?_|refine gOff rfl rfl ?_|refine gTup rfl ?_))
   exact ⟨bool_eq (may_no fun h => h2 h.2.1).symm, .new _⟩
def wordF (a : List UInt8) : List UInt8 := if dotF a = true then a else (quoteF a).1
def textF (a d : List UInt8) : List UInt8 := if mayF a d = true then wordF a ++ 64 :: d else []
theorem quote_len (a : List UInt8) : (quoteF a).1.length ≤ 2 * a.length + 2 := by
 unfold quoteF
 split
 ·show (quoteL a).length ≤ _
  unfold quoteL
  have := (esc_len a).2
  rw [List.length_append, List.length_cons, List.length_singleton]
  omega
 ·simp
theorem text_w {s : SS} {a d : List UInt8} (hG : Gb s) (ha : a.length ≤ 1000000) (hd : d.length ≤ 1000000) : CallW pr n_addr_Text [adV a d] s fun v s' => v = str (textF a d) ∧ Chg s s' [] := by
 refine CallW.run good ok_addr_Text (by simp) rfl ?_
 (try refine pSeq ?_); (repeat refine sb ?_)
 refine ldN_is rfl lkH agg2 ?_
 (repeat refine sb ?_)
 refine (may_w ha hd).mono fun v s1 q => ?_
 obtain ⟨rfl, c1⟩ := q
 have c0 : Chg s s1 [] := (Chg.new []).nil c1
 have hk : lookH s1.heap s.next = some (.cells [str a, str d] tAd false false) := c1.blk _ _ (Nat.lt_succ_self _) (by simp) lkH
 have hlt : s.next < s1.next := Nat.lt_of_lt_of_le (Nat.lt_succ_self _) c1.next
 cases hm : mayF a d with
 | false =>
  (repeat refine sb ?_)
  intro q hq; obtain rfl : q = true := (by rw [hq]; simp <;> omega); (repeat refine sb ?_)
  exact ⟨by unfold textF; rw [hm]; rfl, c0⟩
 | true =>
  have eT : textF a d = wordF a ++ 64 :: d := by unfold textF; rw [if_pos hm]
  rw [eT]
  (repeat refine sb ?_)
  intro q hq; obtain rfl : q = false := (by rw [hq]; simp <;> omega); (repeat refine sb ?_)
  refine ldS_is rfl hk rfl ?_
  (repeat refine sb ?_)
  refine (dotatom_w (hG.chg c0 (by simp)) ha).mono fun v s2 q => ?_
  obtain ⟨rfl, c2⟩ := q
  have hk2 := c2.blk _ _ hlt (by simp) hk
  cases hdo : dotF a with
  | true =>
   have eW : wordF a = a := by unfold wordF; rw [if_pos hdo]
   rw [eW]
   (repeat refine sb ?_)
   intro q hq; obtain rfl : q = false := (by rw [hq]; simp <;> omega); (repeat refine sb ?_)
   refine ⟨by simp <;> omega, ?_⟩
   intro x hx
   (repeat refine sb ?_)
   refine ldS_is rfl hk2 rfl ?_
   (repeat refine sb ?_)
   refine ⟨by rw [hx]; simp <;> omega, ?_⟩
   intro y hy
   (repeat refine sb ?_)
   subst hx hy
   exact ⟨by rw [List.append_assoc]; rfl, c0.nil c2⟩
  | false =>
   have eW : wordF a = (quoteF a).1 := by unfold wordF; rw [hdo]; rfl
   rw [eW]
   have hql := quote_len a
   (repeat refine sb ?_)
   intro q hq; obtain rfl : q = true := (by rw [hq]; simp <;> omega); (repeat refine sb ?_)
   refine (quote_w ha).mono fun v s3 q => ?_
   obtain ⟨rfl, c3⟩ := q
   generalize (quoteF a).1 = qa at *
   have hk3 := c3.blk _ _ (Nat.lt_of_lt_of_le hlt c2.next) (by simp) hk2
   (repeat refine sb ?_)
   refine ⟨by simp <;> omega, ?_⟩
   intro x hx
   (repeat refine sb ?_)
   refine ldS_is rfl hk3 rfl ?_
   (repeat refine sb ?_)
   refine ⟨by rw [hx]; simp <;> omega, ?_⟩
   intro y hy
   (repeat refine sb ?_)
   subst hx hy
   exact ⟨by rw [List.append_assoc]; rfl, (c0.nil c2).nil c3⟩
end Go.Vf.S
end
section
namespace Go.Vf.S
open Go Go.Vf
attribute [local irreducible] wSeq wRow wp wG
set_option linter.unusedVariables false
set_option linter.unusedSimpArgs false
set_option maxRecDepth 10000
theorem may_parts {a d : List UInt8} (h : mayF a d = true) : a ≠ [] ∧ a.length ≤ 64 ∧ a.all plainB = true ∧ domF d = 0 := of_decide_eq_true h
theorem dot_chars {a : List UInt8} (h : dotF a = true) : ∀ c ∈ a, letB c = true ∨ c = 46 := by
 intro c hc
 by_cases h46 : c = 46
 ·exact .inr h46
 ·obtain ⟨p, hp, hq⟩ := mem_part h46 hc
  unfold dotF at h
  rw [List.all_eq_true] at h
  have := h p hp
  unfold atomF at this
  rw [Bool.and_eq_true, List.all_eq_true] at this
  exact .inl (this.1 c hq)
theorem dot_no {a : List UInt8} (h : dotF a = true) {c : UInt8} (hc : letB c = false) (h46 : c ≠ 46) : c ∉ a := fun q => by
 rcases dot_chars h c q with h1 | h1
 ·rw [hc] at h1; cases h1
 ·exact h46 h1
theorem cut_at {f r : List UInt8} (h : (64 : UInt8) ∉ f) : cutF 64 (f ++ 64 :: r) = (f, r, true) := by
 unfold cutF
 rw [if_pos (by simp), while_first h, show f ++ 64 :: r = (f ++ [64]) ++ r by simp, show f.length + 1 = (f ++ [64]).length by simp, List.drop_left]
theorem parse_text {a d : List UInt8} (h : mayF a d = true) : parseF (textF a d) = (a, d, 0) := by
 obtain ⟨h1, h2, h3, h4⟩ := may_parts h
 have key : partsF (textF a d) = (a, d, true) := by
  unfold textF
  rw [if_pos h]
  unfold wordF
  by_cases hd : dotF a = true
  ·rw [if_pos hd]
   have n34 : ¬(a ++ 64 :: d).take 1 = [34] := by
    match a, h1, hd with
    | x :: a, _, hd =>
     intro q
     have : x = 34 := by simpa using q
     exact dot_no hd (c := 34) (by decide) (by decide) (by rw [this]; exact List.mem_cons_self ..)
   unfold partsF
   rw [if_neg n34, cut_at (dot_no hd (by decide) (by decide)), hd]
   rfl
  ·rw [if_neg hd]
   have eq : (quoteF a).1 = quoteL a := by unfold quoteF; rw [if_pos h3]
   rw [eq]
   have e34 : (quoteL a ++ 64 :: d).take 1 = [34] := rfl
   unfold partsF
   rw [if_pos e34, quoted_of (64 :: d) h3]
   simp only [List.drop_left]
   have : atRest (64 :: d) = d := by unfold atRest; rw [if_pos (by rfl)]; rfl
   rw [this]
   simp [h1]
 unfold parseF
 rw [key]
 simp only [Bool.true_eq_false, if_false, h4, ne_eq, not_true_eq_false]
 rw [if_neg (by omega)]
end Go.Vf.S
end
section
namespace Go.Vf.S
open Go Go.Vf
set_option linter.unusedVariables false
set_option linter.unusedSimpArgs false
set_option maxRecDepth 10000
def nmB (c : UInt8) : Bool := decide ((97 ≤ c.toNat ∧ c.toNat ≤ 122) ∨ (65 ≤ c.toNat ∧ c.toNat ≤ 90) ∨ (48 ≤ c.toNat ∧ c.toNat ≤ 57) ∨ c = 45 ∨ c = 95)
def nmF (l : List UInt8) : Bool := decide (1 ≤ l.length ∧ l.length ≤ 32) && l.all nmB
def locF (l : List UInt8) : Bool := decide (l.length ≤ 64) && dotF l
structure Tg where
 kind : Int
 a : List UInt8
 d : List UInt8
 nm : List UInt8
deriving DecidableEq
def incL : List UInt8 := [58, 105, 110, 99, 108, 117, 100, 101, 58]
def failL : List UInt8 := [58, 102, 97, 105, 108, 58]
def dropL : List UInt8 := [58, 100, 114, 111, 112, 58]
def bgF (s p : List UInt8) : Bool := decide (s.take p.length = p)
def tg0 : Tg := ⟨0, [], [], []⟩
def ptF (s : List UInt8) : Tg × Nat :=
 if bgF s [92] then (if locF (s.drop 1) then (⟨3, [], [], (s.drop 1).map lowB⟩, 0) else (tg0, 5))
 else if bgF s [47] then (if nmF (s.drop 1) then (⟨4, [], [], s.drop 1⟩, 0) else (tg0, 5))
 else if bgF s incL then (if nmF ((s.drop 9).dropWhile wh) then (⟨5, [], [], (s.drop 9).dropWhile wh⟩, 0) else (tg0, 5))
 else if bgF s failL then (if (1 ≤ (trimF (s.drop 6)).length ∧ (trimF (s.drop 6)).length ≤ 100) ∧ (trimF (s.drop 6)).all plainB = true then (⟨6, [], [], trimF (s.drop 6)⟩, 0) else (tg0, 5))
 else if s = dropL then (⟨7, [], [], []⟩, 0)
 else if bgF s dropL then (tg0, 5)
 else if 64 ∈ s then (if (parseF s).2.2 = 0 then (⟨1, (parseF s).1, (parseF s).2.1, []⟩, 0) else (tg0, (parseF s).2.2))
 else if locF s then (⟨2, [], [], s.map lowB⟩, 0) else (tg0, 5)
def rawT (t : Tg) : List UInt8 :=
 if t.kind = 1 then textF t.a t.d else if t.kind = 3 then 92 :: t.nm else if t.kind = 4 then 47 :: t.nm else if t.kind = 5 then incL ++ t.nm
 else if t.kind = 6 then failL ++ 32 :: t.nm else if t.kind = 7 then dropL ++ t.nm else t.nm
theorem all_b14 {p : UInt8 → Bool} (h : (List.range 256).all (fun n => p (UInt8.ofNat n)) = true) (c : UInt8) : p c = true := by
 have := List.all_eq_true.1 h c.toNat (List.mem_range.2 c.toNat_lt)
 rwa [show UInt8.ofNat c.toNat = c by simp] at this
theorem let_lowB (c : UInt8) : letB (lowB c) = letB c := eq_of_beq (all_b14 (p := fun c => letB (lowB c) == letB c) (by decide +kernel) c)
theorem dot_lowB (c : UInt8) : (lowB c == 46) = (c == 46) := eq_of_beq (all_b14 (p := fun c => (lowB c == 46) == (c == 46)) (by decide +kernel) c)
theorem nm_wh (c : UInt8) (h : nmB c = true) : wh c = false := by
 have := all_b14 (p := fun c => !nmB c || !wh c) (by decide +kernel) c
 rw [h] at this
 simpa using this
theorem atom_low (l : List UInt8) : atomF (l.map lowB) = atomF l := by
 unfold atomF
 rw [List.all_map]
 congr 1
 ·congr 1
  funext c
  exact let_lowB c
 ·simp
theorem sp_low : ∀ l : List UInt8, sp 46 (l.map lowB) = ((sp 46 l).1.map lowB, (sp 46 l).2.map fun x => x.map lowB)
 | [] => rfl
 | c :: l => by
  have ih := sp_low l
  have hd := dot_lowB c
  by_cases h : c = 46
  ·subst h
   have e : lowB 46 = 46 := by decide
   simp only [List.map_cons, e, sp, ih, if_pos]
   simp
  ·have h2 : lowB c ≠ 46 := fun q => h (by rw [q] at hd; simpa using hd)
   simp only [List.map_cons, sp, ih, if_neg h, if_neg h2]
theorem dotF_low (l : List UInt8) : dotF (l.map lowB) = dotF l := by
 have hs : splitF 46 (l.map lowB) = (splitF 46 l).map fun x => x.map lowB := by
  unfold splitF
  rw [sp_low, List.map_cons]
 unfold dotF
 rw [hs, List.all_map]
 congr 1
 funext x
 exact atom_low x
theorem loc_low (l : List UInt8) : locF (l.map lowB) = locF l := by
 unfold locF
 rw [dotF_low, List.length_map]
theorem bg_no {c : UInt8} {s p : List UInt8} (h : s.head? ≠ some c) : bgF s (c :: p) = false := by
 unfold bgF
 cases s with
 | nil => simp
 | cons x s =>
  have : x ≠ c := fun e => h (by rw [e]; rfl)
  simp [this]
theorem bg_yes (p s : List UInt8) : bgF (p ++ s) p = true := by
 unfold bgF
 rw [List.take_left]
 simp
theorem pt_final {x : List UInt8} (h : locF x = true) : ptF (92 :: x) = (⟨3, [], [], x.map lowB⟩, 0) := by
 unfold ptF
 rw [if_pos (show bgF (92 :: x) [92] = true from bg_yes [92] x)]
 show (if locF x then _ else _) = _
 rw [if_pos h]
 rfl
theorem pt_box {x : List UInt8} (h : nmF x = true) : ptF (47 :: x) = (⟨4, [], [], x⟩, 0) := by
 unfold ptF
 rw [if_neg (by rw [bg_no (by simp)]; simp), if_pos (show bgF (47 :: x) [47] = true from bg_yes [47] x)]
 show (if nmF x then _ else _) = _
 rw [if_pos h]
 rfl
theorem nm_head {x : List UInt8} (h : nmF x = true) : x.dropWhile wh = x := by
 cases x with
 | nil => rfl
 | cons c x =>
  unfold nmF at h
  rw [Bool.and_eq_true, List.all_cons, Bool.and_eq_true] at h
  rw [List.dropWhile_cons, if_neg (by rw [nm_wh c h.2.1]; simp)]
theorem pt_inc0 {p x : List UInt8} (hp : p.all wh = true) (h : nmF x = true) : ptF (incL ++ (p ++ x)) = (⟨5, [], [], x⟩, 0) := by
 have e : ((incL ++ (p ++ x)).drop 9).dropWhile wh = x := by
  rw [show (9 : Nat) = incL.length from rfl, List.drop_left]
  induction p with
  | nil => exact nm_head h
  | cons c p ih =>
   rw [List.all_cons, Bool.and_eq_true] at hp
   rw [List.cons_append, List.dropWhile_cons, if_pos hp.1]
   exact ih hp.2
 unfold ptF
 rw [if_neg (by rw [bg_no (by simp [incL])]; simp), if_neg (by rw [bg_no (by simp [incL])]; simp), if_pos (bg_yes incL _), e, if_pos h]
theorem pt_inc {x : List UInt8} (h : nmF x = true) : ptF (incL ++ x) = (⟨5, [], [], x⟩, 0) := pt_inc0 (p := []) rfl h
theorem loc_dot {x : List UInt8} (h : locF x = true) : dotF x = true := by
 unfold locF at h
 rw [Bool.and_eq_true] at h
 exact h.2
theorem head_no {x : List UInt8} {c : UInt8} (h : c ∉ x) : x.head? ≠ some c := fun e => h (List.mem_of_head? e)
theorem pt_local {x : List UInt8} (h : locF x = true) (h47 : x.head? ≠ some 47) : ptF x = (⟨2, [], [], x.map lowB⟩, 0) := by
 have hd := loc_dot h
 have n58 := head_no (dot_no hd (c := 58) (by decide) (by decide))
 have n92 := head_no (dot_no hd (c := 92) (by decide) (by decide))
 have n64 := dot_no hd (c := 64) (by decide) (by decide)
 have hD : x ≠ dropL := fun e => n58 (by rw [e]; rfl)
 unfold ptF
 rw [if_neg (by rw [bg_no n92]; simp), if_neg (by rw [bg_no h47]; simp), if_neg (by unfold incL; rw [bg_no n58]; simp), if_neg (by unfold failL; rw [bg_no n58]; simp), if_neg hD, if_neg (by unfold dropL; rw [bg_no n58]; simp), if_neg n64, if_pos h]
theorem pt_addr {a d : List UInt8} (h : mayF a d = true) (h47 : a.head? ≠ some 47) : ptF (textF a d) = (⟨1, a, d, []⟩, 0) := by
 have hp := parse_text h
 obtain ⟨h1, h2, h3, h4⟩ := may_parts h
 have ht : textF a d = wordF a ++ 64 :: d := by unfold textF; rw [if_pos h]
 have hh : ∀ c : UInt8, c ≠ 34 → c ≠ 46 → letB c = false ∨ a.head? ≠ some c → (textF a d).head? ≠ some c := by
  intro c c1 c2 c3 e
  rw [ht] at e
  unfold wordF at e
  by_cases hd : dotF a = true
  ·rw [if_pos hd] at e
   have e2 : a.head? = some c := by
    cases a with
    | nil => exact absurd rfl h1
    | cons x a => exact e
   rcases c3 with c3 | c3
   ·exact head_no (dot_no hd c3 c2) e2
   ·exact c3 e2
  ·rw [if_neg hd, show (quoteF a).1 = quoteL a by unfold quoteF; rw [if_pos h3]] at e
   exact c1 (Option.some.inj e).symm
 have n58 := hh 58 (by decide) (by decide) (.inl (by decide))
 have n92 := hh 92 (by decide) (by decide) (.inl (by decide))
 have n47 := hh 47 (by decide) (by decide) (.inr h47)
 have hD : textF a d ≠ dropL := fun e => n58 (by rw [e]; rfl)
 have m64 : 64 ∈ textF a d := by rw [ht]; simp
 unfold ptF
 rw [if_neg (by rw [bg_no n92]; simp), if_neg (by rw [bg_no n47]; simp), if_neg (by unfold incL; rw [bg_no n58]; simp), if_neg (by unfold failL; rw [bg_no n58]; simp), if_neg hD, if_neg (by unfold dropL; rw [bg_no n58]; simp), if_pos m64, hp, if_pos rfl]
end Go.Vf.S
end
section
namespace Go.Vf.S
open Go Go.Vf
set_option linter.unusedVariables false
set_option linter.unusedSimpArgs false
set_option maxRecDepth 10000
def wsB (c : UInt8) : Bool := c == 32 || c == 9
def trL (l : List UInt8) : List UInt8 := l.dropWhile wsB
def trR (l : List UInt8) : List UInt8 := (l.reverse.dropWhile wsB).reverse
def trB (l : List UInt8) : List UInt8 := trR (trL l)
theorem trL_ws {p l : List UInt8} (hp : p.all wsB = true) : trL (p ++ l) = trL l := by
 unfold trL
 induction p with
 | nil => rfl
 | cons c p ih =>
  rw [List.all_cons, Bool.and_eq_true] at hp
  rw [List.cons_append, List.dropWhile_cons, if_pos hp.1]
  exact ih hp.2
theorem trL_not {c : UInt8} {l : List UInt8} (h : wsB c = false) : trL (c :: l) = c :: l := by
 unfold trL
 rw [List.dropWhile_cons, if_neg (by simp [h])]
theorem trR_ws {p l : List UInt8} (hp : p.all wsB = true) : trR (l ++ p) = trR l := by
 unfold trR
 rw [List.reverse_append]
 have := trL_ws (p := p.reverse) (l := l.reverse) (by rw [List.all_reverse]; exact hp)
 unfold trL at this
 rw [this]
theorem trR_not {c : UInt8} {l : List UInt8} (h : wsB c = false) : trR (l ++ [c]) = l ++ [c] := by
 unfold trR
 rw [List.reverse_append, List.reverse_singleton, List.singleton_append, List.dropWhile_cons, if_neg (by simp [h])]
 simp
def bareB (l : List UInt8) : Prop := ∃ c d, l.head? = some c ∧ wsB c = false ∧ l.getLast? = some d ∧ wsB d = false
theorem bare_trB {l : List UInt8} (h : bareB l) : trB l = l := by
 obtain ⟨c, d, h1, h2, h3, h4⟩ := h
 have eL : trL l = l := by
  cases l with
  | nil => cases h1
  | cons x r =>
   obtain rfl : x = c := Option.some.inj h1
   exact trL_not h2
 obtain ⟨l', rfl⟩ := List.getLast?_eq_some_iff.1 h3
 unfold trB
 rw [eL]
 exact trR_not h4
theorem bare_ws {p q l : List UInt8} (hp : p.all wsB = true) (hq : q.all wsB = true) (h : bareB l) : trB (p ++ l ++ q) = l := by
 have e1 : trL (p ++ l ++ q) = l ++ q := by
  rw [List.append_assoc, trL_ws hp]
  obtain ⟨c, d, h1, h2, _, _⟩ := h
  cases l with
  | nil => cases h1
  | cons x r =>
   obtain rfl : x = c := Option.some.inj h1
   exact trL_not h2
 unfold trB
 rw [e1, trR_ws hq]
 have := bare_trB h
 unfold trB at this
 have eL : trL l = l := by
  obtain ⟨c, d, h1, h2, _, _⟩ := h
  cases l with
  | nil => cases h1
  | cons x r =>
   obtain rfl : x = c := Option.some.inj h1
   exact trL_not h2
 rw [eL] at this
 exact this
def nqB (c : UInt8) : Bool := c == 34 || c == 92
def esB (c : UInt8) : List UInt8 := if nqB c = true then [92, c] else [c]
def quG : Bool → List UInt8 → Option (List UInt8 × List UInt8)
 | _, [] => none
 | true, c :: r => (quG false r).map fun x => (c :: x.1, x.2)
 | false, c :: r => if c = 34 then some ([], r) else if c = 92 then quG true r else (quG false r).map fun x => (c :: x.1, x.2)
def quF (l : List UInt8) : Option (List UInt8 × List UInt8) := quG false l
def wdF (e : UInt8) (l : List UInt8) : Option (List UInt8 × Option (List UInt8)) :=
 match trL l with
 | 34 :: r => match quF r with
  | none => none
  | some (w, t) => match trL t with
   | [] => some (w, none)
   | c :: u => if c = e then some (w, some u) else none
 | r => if (34 : UInt8) ∈ r.takeWhile (· != e) ∨ trB (r.takeWhile (· != e)) = [] then none
  else some (trB (r.takeWhile (· != e)), if r.takeWhile (· != e) = r then none else some (r.drop ((r.takeWhile (· != e)).length + 1)))
def pnF (s : List UInt8) : Bool := decide (s ≠ [] ∧ trB s = s ∧ s.head? ≠ some 35) && s.all fun c => !(c == 58 || c == 44 || c == 34)
def qtF (s : List UInt8) : List UInt8 := if pnF s = true then s else 34 :: s.flatMap esB ++ [34]
theorem tw_app {e : UInt8} {s r : List UInt8} (h : ∀ c ∈ s, c ≠ e) : (s ++ e :: r).takeWhile (· != e) = s := by
 induction s with
 | nil => simp
 | cons c s ih => rw [List.cons_append, List.takeWhile_cons, if_pos (by simp [h c (by simp)]), ih fun x hx => h x (by simp [hx])]
theorem tw_all {e : UInt8} {s : List UInt8} (h : ∀ c ∈ s, c ≠ e) : s.takeWhile (· != e) = s := by
 induction s with
 | nil => rfl
 | cons c s ih => rw [List.takeWhile_cons, if_pos (by simp [h c (by simp)]), ih fun x hx => h x (by simp [hx])]
end Go.Vf.S
end
section
namespace Go.Vf.S
open Go Go.Vf
set_option linter.unusedVariables false
set_option linter.unusedSimpArgs false
set_option maxRecDepth 10000
def txB (c : UInt8) : Bool := c == 9 || (decide (32 ≤ c.toNat) && decide (c.toNat ≤ 126))
def vsF : Nat → List UInt8 → Option (List (List UInt8))
 | 0, _ => none
 | n + 1, l => match wdF 44 l with
  | none => none
  | some (w, none) => some [w]
  | some (w, some r) => (vsF n r).map (w :: ·)
def vluF (l : List UInt8) : List (List UInt8) × Nat :=
 if l.all txB = true then (match vsF (l.length + 1) l with
  | none => ([], 5)
  | some ws => if 16 < ws.length then ([], 7) else (ws, 0)) else ([], 5)
def jnV (p q : List UInt8) : List (List UInt8) → List UInt8
 | [] => []
 | [w] => p ++ qtF w ++ q
 | w :: r => p ++ qtF w ++ q ++ 44 :: jnV p q r
section
variable {p q : List UInt8} (hp : p.all wsB = true) (hq : q.all wsB = true)
include hp hq
end
theorem ws_tx {p : List UInt8} (h : p.all wsB = true) : p.all txB = true := by
 refine List.all_eq_true.2 fun c hc => ?_
 have := List.all_eq_true.1 h c hc
 have hc : c = 32 ∨ c = 9 := by simpa [wsB] using this
 rcases hc with rfl | rfl <;> rfl
structure Ent where
 n : Nat
 k : List UInt8
 vs : List (List UInt8)
deriving DecidableEq
structure Sai where
 n : Nat
 t : List UInt8
 al : Bool
def enF (values : Bool) (x : Sai) : Ent × Nat :=
 if x.al = true ∨ x.t.all txB = false then (⟨0, [], []⟩, 5)
 else if values = false then (if (34 : UInt8) ∈ x.t then (⟨0, [], []⟩, 5) else (⟨x.n, trB x.t, []⟩, 0))
 else match wdF 58 x.t with
  | some (k, some r) => if k = [] then (⟨0, [], []⟩, 5) else if (vluF r).2 = 0 then (⟨x.n, k, (vluF r).1⟩, 0) else (⟨0, [], []⟩, (vluF r).2)
  | _ => (⟨0, [], []⟩, 5)
def etL (k : List UInt8) (vs : List (List UInt8)) : List UInt8 := qtF k ++ 58 :: jnV [32] [] vs
def lnE (l : List UInt8) : List UInt8 := if l.getLast? = some 13 then l.dropLast else l
def flS : Option (Nat × List UInt8) → List Sai
 | none => []
 | some (n, t) => [⟨n, t, false⟩]
def ctB (l : List UInt8) : Bool := match l.head? with
 | some c => wsB c
 | none => false
def onS (cur : Option (Nat × List UInt8)) (b : List UInt8) : Option (Nat × List UInt8) := cur.map fun x => (x.1, x.2 ++ 32 :: b)
def alS (n : Nat) (cur : Option (Nat × List UInt8)) : List Sai := match cur with
 | none => [⟨n, [], true⟩]
 | some _ => []
def saG : Nat → Option (Nat × List UInt8) → List (List UInt8) → List Sai
 | _, cur, [] => flS cur
 | n, cur, l :: r =>
  if trB (lnE l) = [] ∨ (trB (lnE l)).head? = some 35 then saG (n + 1) cur r
  else if ctB (lnE l) = true then alS n cur ++ saG (n + 1) (onS cur (trB (lnE l))) r
  else flS cur ++ saG (n + 1) (some (n, lnE l)) r
def saF (text : List UInt8) : List Sai := saG 1 none (splitF 10 text)
def lwF (l : List UInt8) : List UInt8 := l.map lowB
def hasK (es : List Ent) (k : List UInt8) : Bool := es.any fun z => decide (lwF z.k = lwF k)
def tbG (values : Bool) : List Sai → List Ent → List (Nat × Nat) → List Ent × List (Nat × Nat)
 | [], es, fs => (es, fs)
 | x :: r, es, fs =>
  if (enF values x).2 ≠ 0 then tbG values r es (fs ++ [(x.n, (enF values x).2)])
  else if 64 ≤ es.length then tbG values r es (fs ++ [(x.n, 7)])
  else if hasK es (enF values x).1.k = true then tbG values r es (fs ++ [(x.n, 9)])
  else tbG values r (es ++ [(enF values x).1]) fs
def tabF (text : List UInt8) (values : Bool) : List Ent × List (Nat × Nat) := if 8192 < text.length then ([], [(0, 3)]) else tbG values (saF text) [] []
inductive Itm where
 | ent (k : List UInt8) (vs : List (List UInt8))
 | pass (l : List UInt8)
 | bad (l : List UInt8)
def Itm.l : Itm → List UInt8
 | .ent k vs => etL k vs
 | .pass l => l
 | .bad l => l
structure EntOk (k : List UInt8) (vs : List (List UInt8)) : Prop where
 ak : k.all txB = true
 k0 : k ≠ []
 av : ∀ w ∈ vs, w.all txB = true
 v0 : vs ≠ []
 v16 : vs.length ≤ 16
def Itm.ok : Itm → Prop
 | .ent k vs => EntOk k vs
 | .pass l => (10 : UInt8) ∉ l ∧ (trB (lnE l) = [] ∨ (trB (lnE l)).head? = some 35)
 | .bad l => (10 : UInt8) ∉ l ∧ lnE l = l ∧ bareB l ∧ l.head? ≠ some 35 ∧ ∀ n, (enF true ⟨n, l, false⟩).2 = 5
end Go.Vf.S
end
section
namespace Go.Vf.S
open Go Go.Vf
set_option linter.unusedVariables false
set_option linter.unusedSimpArgs false
set_option maxRecDepth 10000
structure RawW (s : List UInt8) : Prop where
 bare : bareB s
 n44 : (44 : UInt8) ∉ s
 n34 : (34 : UInt8) ∉ s
 tx : s.all txB = true
theorem wd_raw {e : UInt8} {p q s : List UInt8} (hews : wsB e = false) (he : e ∉ s) (h34s : (34 : UInt8) ∉ s) (hb : bareB s) (hp : p.all wsB = true) (hq : q.all wsB = true) (t : Option (List UInt8)) :
  wdF e (p ++ s ++ q ++ (match t with | none => [] | some u => e :: u)) = some (s, t) := by
 unfold wdF
 obtain ⟨c, d, h1, h2, h3, h4⟩ := hb
 have hne : ∀ x ∈ s ++ q, x ≠ e := by
  intro x hx q'
  subst q'
  rcases List.mem_append.1 hx with hx | hx
  ·exact he hx
  ·have := List.all_eq_true.1 hq x hx
   rw [hews] at this
   cases this
 have h34 : (34 : UInt8) ∉ s ++ q := by
  intro hx
  rcases List.mem_append.1 hx with hx | hx
  ·exact h34s hx
  ·have := List.all_eq_true.1 hq _ hx
   cases this
 have etr : trB (s ++ q) = s := by
  have := bare_ws (p := []) rfl hq ⟨c, d, h1, h2, h3, h4⟩
  simpa using this
 have hs0 : s ≠ [] := fun e => by rw [e] at h1; cases h1
 have hd34 : ∀ X : List UInt8, ∃ r, s ++ q ++ X = c :: r ∧ c ≠ 34 := by
  intro X
  cases s with
  | nil => exact absurd rfl hs0
  | cons x r =>
   obtain rfl : x = c := Option.some.inj h1
   exact ⟨r ++ q ++ X, rfl, fun q' => h34s (by rw [q']; exact List.mem_cons_self ..)⟩
 have eL : ∀ X, trL (p ++ s ++ q ++ X) = s ++ q ++ X := by
  intro X
  rw [List.append_assoc, List.append_assoc, trL_ws hp, ← List.append_assoc]
  obtain ⟨r, hr, _⟩ := hd34 X
  rw [hr]
  exact trL_not h2
 rw [eL]
 obtain ⟨r, hr, hr2⟩ := hd34 (match t with | none => [] | some u => e :: u)
 split
 ·rename_i r' hr'
  rw [hr] at hr'
  exact absurd (List.cons.inj hr').1 hr2
 ·cases t with
  | none =>
   rw [List.append_nil, tw_all hne, if_neg (fun q' => q'.elim h34 (fun q'' => hs0 (by rw [← etr, q'']))), etr, if_pos rfl]
  | some u =>
   have et : (s ++ q ++ e :: u).takeWhile (· != e) = s ++ q := tw_app hne
   show (if (34 : UInt8) ∈ (s ++ q ++ e :: u).takeWhile (· != e) ∨ trB ((s ++ q ++ e :: u).takeWhile (· != e)) = [] then none else some (trB ((s ++ q ++ e :: u).takeWhile (· != e)), if (s ++ q ++ e :: u).takeWhile (· != e) = s ++ q ++ e :: u then none else some ((s ++ q ++ e :: u).drop (((s ++ q ++ e :: u).takeWhile (· != e)).length + 1)))) = _
   rw [et, if_neg (fun q' => q'.elim h34 (fun q'' => hs0 (by rw [← etr, q'']))), etr, if_neg (fun q' => by
    have := congrArg List.length q'
    rw [List.length_append (bs := e :: u), List.length_cons] at this
    omega)]
   congr 3
   rw [show s ++ q ++ e :: u = (s ++ q ++ [e]) ++ u by simp, show (s ++ q).length + 1 = (s ++ q ++ [e]).length by simp [Nat.add_assoc], List.drop_left]
abbrev Pad := List UInt8 × List UInt8 × List UInt8
def jnT : List Pad → List UInt8
 | [] => []
 | [x] => x.1 ++ x.2.1 ++ x.2.2
 | x :: r => x.1 ++ x.2.1 ++ x.2.2 ++ 44 :: jnT r
theorem jnT_two (x y : Pad) (r : List Pad) : jnT (x :: y :: r) = x.1 ++ x.2.1 ++ x.2.2 ++ 44 :: jnT (y :: r) := rfl
structure PadOk (x : Pad) : Prop where
 p : x.1.all wsB = true
 w : RawW x.2.1
 q : x.2.2.all wsB = true
theorem RawW.ne {w : List UInt8} (h : RawW w) : w ≠ [] := fun e => by
 obtain ⟨c, d, h1, _⟩ := h.bare
 rw [e] at h1
 cases h1
theorem vs_raw : ∀ (ws : List Pad) (n : Nat), ws ≠ [] → ws.length ≤ n → (∀ w ∈ ws, PadOk w) → vsF n (jnT ws) = some (ws.map (·.2.1))
 | [], _, h, _, _ => absurd rfl h
 | [w], 0, _, h, _ => by simp at h
 | [w], n + 1, _, _, hw => by
  obtain ⟨hp, ⟨h1, h2, h3, _⟩, hq⟩ := hw w (by simp)
  have := wd_raw (e := 44) rfl h2 h3 h1 hp hq none
  rw [List.append_nil] at this
  show (match wdF 44 (w.1 ++ w.2.1 ++ w.2.2) with
   | none => none
   | some (w, none) => some [w]
   | some (w, some r) => (vsF n r).map (w :: ·)) = _
  rw [this]
  rfl
 | w :: v :: r, 0, _, h, _ => by simp at h
 | w :: v :: r, n + 1, _, h, hw => by
  obtain ⟨hp, ⟨h1, h2, h3, _⟩, hq⟩ := hw w (by simp)
  have h1 : wdF 44 (w.1 ++ w.2.1 ++ w.2.2 ++ 44 :: jnT (v :: r)) = some (w.2.1, some (jnT (v :: r))) := wd_raw (e := 44) rfl h2 h3 h1 hp hq (some (jnT (v :: r)))
  have h2 := vs_raw (v :: r) n (by simp) (by simp only [List.length_cons] at h ⊢; omega) fun x hx => hw x (by simp [List.mem_cons.1 hx])
  rw [jnT_two]
  show (match wdF 44 (w.1 ++ w.2.1 ++ w.2.2 ++ 44 :: jnT (v :: r)) with
   | none => none
   | some (w, none) => some [w]
   | some (w, some r) => (vsF n r).map (w :: ·)) = _
  rw [h1]
  show (vsF n (jnT (v :: r))).map (w.2.1 :: ·) = _
  rw [h2]
  rfl
theorem jnT_tx : ∀ ws : List Pad, (∀ w ∈ ws, PadOk w) → (jnT ws).all txB = true
 | [], _ => rfl
 | [w], h => by
  obtain ⟨hp, hw, hq⟩ := h w (by simp)
  show (w.1 ++ w.2.1 ++ w.2.2).all txB = true
  rw [List.all_append, List.all_append, ws_tx hp, ws_tx hq, hw.tx]
  rfl
 | w :: v :: r, h => by
  obtain ⟨hp, hw, hq⟩ := h w (by simp)
  rw [jnT_two, List.all_append, List.all_append, List.all_append, List.all_cons, ws_tx hp, ws_tx hq, hw.tx, jnT_tx (v :: r) fun x hx => h x (by simp [List.mem_cons.1 hx])]
  rfl
theorem jnT_len : ∀ ws : List Pad, (∀ w ∈ ws, PadOk w) → ws.length ≤ (jnT ws).length
 | [], _ => Nat.zero_le _
 | [w], h => by
  show 1 ≤ (w.1 ++ w.2.1 ++ w.2.2).length
  have := List.length_pos_iff.2 (h w (by simp)).w.ne
  rw [List.length_append, List.length_append]
  omega
 | w :: v :: r, h => by
  have ih := jnT_len (v :: r) fun x hx => h x (by simp [List.mem_cons.1 hx])
  rw [jnT_two, List.length_append, List.length_cons]
  simp only [List.length_cons] at ih ⊢
  omega
theorem vlu_raw {ws : List Pad} (h0 : ws ≠ []) (h16 : ws.length ≤ 16) (hw : ∀ w ∈ ws, PadOk w) : vluF (jnT ws) = (ws.map (·.2.1), 0) := by
 unfold vluF
 rw [if_pos (jnT_tx ws hw), vs_raw ws _ h0 (by have := jnT_len ws hw; omega) hw]
 show (if 16 < (ws.map (·.2.1)).length then _ else _) = _
 rw [List.length_map, if_neg (by omega)]
def lnT14 (k b : List UInt8) (vs : List Pad) : List UInt8 := k ++ b ++ 58 :: jnT vs
theorem rw_tx {k b : List UInt8} {vs : List Pad} (hk : RawW k) (hb : b.all wsB = true) (hv : ∀ w ∈ vs, PadOk w) : (lnT14 k b vs).all txB = true := by
 unfold lnT14
 rw [List.all_append, List.all_append, List.all_cons, hk.tx, ws_tx hb, jnT_tx vs hv]
 rfl
theorem en_raw {n : Nat} {k b : List UInt8} {vs : List Pad} (hk : RawW k) (h58 : (58 : UInt8) ∉ k) (hb : b.all wsB = true) (hv : ∀ w ∈ vs, PadOk w) (hv0 : vs ≠ []) (hv16 : vs.length ≤ 16) : enF true ⟨n, lnT14 k b vs, false⟩ = (⟨n, k, vs.map (·.2.1)⟩, 0) := by
 have ht := rw_tx hk hb hv
 have hw : wdF 58 (lnT14 k b vs) = some (k, some (jnT vs)) := by
  have := wd_raw (e := 58) rfl h58 hk.n34 hk.bare (p := []) (q := b) rfl hb (some (jnT vs))
  rw [List.nil_append] at this
  exact this
 have hvl := vlu_raw hv0 hv16 hv
 unfold enF
 rw [if_neg (by simp [ht]), if_neg (by simp), hw]
 show (if k = [] then _ else if (vluF (jnT vs)).2 = 0 then _ else _) = _
 rw [hvl, if_neg hk.ne, if_pos rfl]
theorem jnT_end : ∀ {ws : List Pad}, ws ≠ [] → (∀ w ∈ ws, PadOk w) → (∀ w ∈ ws.getLast?, w.2.2 = []) → ∃ d, (jnT ws).getLast? = some d ∧ wsB d = false
 | [], h, _, _ => absurd rfl h
 | [w], _, h, hl => by
  obtain ⟨_, d, _, _, h3, h4⟩ := (h w (by simp)).w.bare
  have hq : w.2.2 = [] := hl w (by simp)
  refine ⟨d, ?_, h4⟩
  show (w.1 ++ w.2.1 ++ w.2.2).getLast? = _
  rw [hq, List.append_nil, List.getLast?_append, h3]
  rfl
 | w :: v :: r, _, h, hl => by
  obtain ⟨d, h1, h2⟩ := jnT_end (ws := v :: r) (by simp) (fun x hx => h x (by simp [List.mem_cons.1 hx])) (fun x hx => hl x (by rw [List.getLast?_cons_cons]; exact hx))
  refine ⟨d, ?_, h2⟩
  rw [jnT_two, List.getLast?_append, List.getLast?_cons, h1]
  rfl
inductive Lin where
 | row (l k : List UInt8) (vs : List (List UInt8))
 | pass (l : List UInt8)
def Lin.l : Lin → List UInt8
 | .row l _ _ => l
 | .pass l => l
def Lin.ok : Lin → Prop
 | .row l k vs => (10 : UInt8) ∉ l ∧ lnE l = l ∧ bareB l ∧ l.head? ≠ some 35 ∧ ∀ n, enF true ⟨n, l, false⟩ = (⟨n, k, vs⟩, 0)
 | .pass l => (10 : UInt8) ∉ l ∧ (trB (lnE l) = [] ∨ (trB (lnE l)).head? = some 35)
def txJ (is : List Lin) : List UInt8 := is.flatMap fun i => i.l ++ [10]
def saJ : Nat → List Lin → List Sai
 | _, [] => []
 | n, .row l _ _ :: r => ⟨n, l, false⟩ :: saJ (n + 1) r
 | n, .pass _ :: r => saJ (n + 1) r
def enJ : Nat → List Lin → List Ent → List (Nat × Nat) → List Ent × List (Nat × Nat)
 | _, [], es, fs => (es, fs)
 | n, .pass _ :: r, es, fs => enJ (n + 1) r es fs
 | n, .row _ k vs :: r, es, fs => if hasK es k = true then enJ (n + 1) r es (fs ++ [(n, 9)]) else enJ (n + 1) r (es ++ [⟨n, k, vs⟩]) fs
theorem row_ok {k b : List UInt8} {vs : List Pad} (hk : RawW k) (h58 : (58 : UInt8) ∉ k) (h35 : k.head? ≠ some 35) (hb : b.all wsB = true) (hv : ∀ w ∈ vs, PadOk w) (hv0 : vs ≠ []) (hv16 : vs.length ≤ 16) (hl : ∀ w ∈ vs.getLast?, w.2.2 = []) : (Lin.row (lnT14 k b vs) k (vs.map (·.2.1))).ok := by
 have ht := rw_tx hk hb hv
 obtain ⟨c, _, g1, g2, _⟩ := hk.bare
 obtain ⟨d, e1, e2⟩ := jnT_end hv0 hv hl
 have hh : (lnT14 k b vs).head? = some c := by
  unfold lnT14
  cases k with
  | nil => cases g1
  | cons x k => exact g1
 refine ⟨fun hm => ?_, ?_, ⟨c, d, hh, g2, ?_, e2⟩, by rw [hh, ← g1]; exact h35, fun n => en_raw hk h58 hb hv hv0 hv16⟩
 ·have := List.all_eq_true.1 ht 10 hm
  cases this
 ·unfold lnE
  rw [if_neg]
  intro q
  have := List.all_eq_true.1 ht 13 (List.mem_of_getLast? q)
  cases this
 ·unfold lnT14
  rw [List.getLast?_append, List.getLast?_cons, e1]
  rfl
theorem lin_no10 {i : Lin} (h : i.ok) : (10 : UInt8) ∉ i.l := by
 cases i with
 | row l k vs => exact h.1
 | pass l => exact h.1
theorem sp_lins : ∀ is : List Lin, (∀ i ∈ is, i.ok) → splitF 10 (txJ is) = is.map Lin.l ++ [[]]
 | [], _ => rfl
 | i :: r, h => by
  have ih := sp_lins r fun x hx => h x (by simp [hx])
  have e : txJ (i :: r) = i.l ++ 10 :: txJ r := by unfold txJ; rw [List.flatMap_cons]; simp
  rw [e, split_first (lin_no10 (h i (by simp))), ih]
  rfl
theorem sa_lins : ∀ (is : List Lin) (n : Nat) (cur : Option (Nat × List UInt8)), (∀ i ∈ is, i.ok) → saG n cur (is.map Lin.l ++ [[]]) = flS cur ++ saJ n is
 | [], n, cur, _ => by
  show saG n cur [[]] = _
  rw [saG, if_pos (.inl rfl), saG]
  simp [saJ]
 | i :: r, n, cur, h => by
  have hi := h i (by simp)
  have ih := fun cur => sa_lins r (n + 1) cur fun x hx => h x (by simp [hx])
  cases i with
  | pass l =>
   show saG n cur (l :: (r.map Lin.l ++ [[]])) = _
   rw [saG, if_pos hi.2, ih]
   rfl
  | row l k vs =>
   obtain ⟨_, h1, h2, h3, _⟩ := hi
   have hb := bare_trB h2
   obtain ⟨c, d, g1, g2, _⟩ := h2
   show saG n cur (l :: (r.map Lin.l ++ [[]])) = _
   rw [saG, h1, hb, if_neg (fun q => q.elim (fun e => by rw [e] at g1; cases g1) h3), if_neg (by unfold ctB; rw [g1]; simp [g2]), ih]
   rfl
theorem tb_lins : ∀ (is : List Lin) (n : Nat) (es : List Ent) (fs : List (Nat × Nat)), (∀ i ∈ is, i.ok) → es.length + is.length ≤ 64 → tbG true (saJ n is) es fs = enJ n is es fs
 | [], n, es, fs, _, _ => rfl
 | .pass l :: r, n, es, fs, h, hl => tb_lins r (n + 1) es fs (fun x hx => h x (by simp [hx])) (by rw [List.length_cons] at hl; omega)
 | .row l k vs :: r, n, es, fs, h, hl => by
  rw [List.length_cons] at hl
  have hi := h (.row l k vs) (by simp)
  have hen := hi.2.2.2.2 n
  show tbG true (⟨n, l, false⟩ :: saJ (n + 1) r) es fs = _
  rw [tbG, hen, if_neg (by simp), if_neg (by omega), enJ]
  show (if hasK es k = true then _ else _) = _
  split
  ·exact tb_lins r (n + 1) es _ (fun x hx => h x (by simp [hx])) (by omega)
  ·exact tb_lins r (n + 1) _ fs (fun x hx => h x (by simp [hx])) (by rw [List.length_append, List.length_singleton]; omega)
theorem tab_lins {is : List Lin} (h : ∀ i ∈ is, i.ok) (hn : is.length ≤ 64) (hl : (txJ is).length ≤ 8192) : tabF (txJ is) true = enJ 1 is [] [] := by
 unfold tabF
 rw [if_neg (by omega)]
 unfold saF
 rw [sp_lins is h, sa_lins is 1 none h]
 exact tb_lins is 1 [] [] h (by simpa using hn)
end Go.Vf.S
end
section
namespace Go.Vf.S
open Go Go.Vf
set_option linter.unusedVariables false
set_option linter.unusedSimpArgs false
set_option maxRecDepth 10000
def wlB (c : UInt8) : Bool := decide ((97 ≤ c.toNat ∧ c.toNat ≤ 122) ∨ (48 ≤ c.toNat ∧ c.toNat ≤ 57))
def wrF (l : List UInt8) : List UInt8 := 107 :: (l.filter wlB).take 8
theorem wl_is (c : UInt8) (h : wlB c = true) : nmB c = true ∧ letB c = true ∧ lowB c = c ∧ txB c = true ∧ wsB c = false ∧ plainB c = true := by
 have := all_b14 (p := fun c => !wlB c || (nmB c && letB c && (lowB c == c) && txB c && !wsB c && plainB c)) (by decide +kernel) c
 rw [h] at this
 simp only [Bool.not_true, Bool.false_or, Bool.and_eq_true, beq_iff_eq, Bool.not_eq_true'] at this
 exact ⟨this.1.1.1.1.1, this.1.1.1.1.2, this.1.1.1.2, this.1.1.2, this.1.2, this.2⟩
theorem wr_all {l : List UInt8} : ∀ c ∈ wrF l, wlB c = true := by
 intro c hc
 rcases List.mem_cons.1 hc with rfl | hc
 ·decide
 ·exact (List.mem_filter.1 (List.mem_of_mem_take hc)).2
theorem wr_no {l : List UInt8} {c : UInt8} (h : wlB c = false) : c ∉ wrF l := fun q => by
 rw [wr_all c q] at h
 cases h
theorem wr_len (l : List UInt8) : 1 ≤ (wrF l).length ∧ (wrF l).length ≤ 9 := by
 unfold wrF
 rw [List.length_cons, List.length_take]
 omega
theorem wr_dot (l : List UInt8) : dotF (wrF l) = true := by
 have h46 : (wrF l).count 46 = 0 := List.count_eq_zero.2 (wr_no (by decide))
 unfold dotF
 rw [split_last h46, List.all_cons, List.all_nil, Bool.and_true]
 unfold atomF
 rw [Bool.and_eq_true, List.all_eq_true]
 exact ⟨fun c hc => (wl_is c (wr_all c hc)).2.1, rfl⟩
theorem wr_loc (l : List UInt8) : locF (wrF l) = true := by
 have := wr_len l
 unfold locF
 rw [Bool.and_eq_true, decide_eq_true_eq]
 exact ⟨by omega, wr_dot l⟩
def farL : List UInt8 := [102, 97, 114, 46, 110, 101, 116]
theorem far_dom : domF farL = 0 := by kernel_rfl
def golF (k : Int) (a nm : List UInt8) : Tg :=
 if k = 1 then ⟨1, wrF a, farL, []⟩ else if k = 7 then ⟨7, [], [], []⟩ else ⟨k, [], [], wrF nm⟩
end Go.Vf.S
end
section
namespace Go.Vf.S
open Go Go.Vf
set_option linter.unusedVariables false
set_option linter.unusedSimpArgs false
set_option maxRecDepth 10000
def padF (p0 p q : List UInt8) : List (List UInt8) → List Pad
 | [] => []
 | [w] => [(p0, w, [])]
 | w :: v :: r => (p0, w, q) :: padF p p q (v :: r)
theorem padF_two (p0 p q w v : List UInt8) (r : List (List UInt8)) : padF p0 p q (w :: v :: r) = (p0, w, q) :: padF p p q (v :: r) := rfl
theorem padF_ne {p0 p q : List UInt8} : ∀ {ws : List (List UInt8)}, ws ≠ [] → ∃ x r, padF p0 p q ws = x :: r
 | [], h => absurd rfl h
 | [w], _ => ⟨_, _, rfl⟩
 | w :: v :: r, _ => ⟨_, _, rfl⟩
theorem pad_vals (p q : List UInt8) : ∀ (p0 : List UInt8) (ws : List (List UInt8)), (padF p0 p q ws).map (·.2.1) = ws
 | _, [] => rfl
 | _, [w] => rfl
 | _, w :: v :: r => by rw [padF_two, List.map_cons, pad_vals p q p (v :: r)]
theorem pad_len (p0 p q : List UInt8) (ws : List (List UInt8)) : (padF p0 p q ws).length = ws.length := by
 have := congrArg List.length (pad_vals p q p0 ws)
 rwa [List.length_map] at this
theorem pad_ok {p q : List UInt8} (hp : p.all wsB = true) (hq : q.all wsB = true) : ∀ {p0 : List UInt8} {ws : List (List UInt8)}, p0.all wsB = true → (∀ w ∈ ws, RawW w) → ∀ x ∈ padF p0 p q ws, PadOk x
 | _, [], _, _, x, hx => by cases hx
 | p0, [w], h0, hw, x, hx => by
  obtain rfl := List.mem_singleton.1 hx
  exact ⟨h0, hw w (by simp), rfl⟩
 | p0, w :: v :: r, h0, hw, x, hx => by
  rw [padF_two] at hx
  rcases List.mem_cons.1 hx with rfl | hx
  ·exact ⟨h0, hw w (by simp), hq⟩
  ·exact pad_ok hp hq hp (fun y hy => hw y (by simp [List.mem_cons.1 hy])) x hx
theorem pad_last {p q : List UInt8} : ∀ {p0 : List UInt8} {ws : List (List UInt8)}, ∀ x ∈ (padF p0 p q ws).getLast?, x.2.2 = []
 | _, [], x, hx => by cases hx
 | p0, [w], x, hx => by
  obtain rfl : (p0, w, []) = x := by simpa [padF] using hx
  rfl
 | p0, w :: v :: r, x, hx => by
  obtain ⟨y, r', h⟩ := padF_ne (p0 := p) (p := p) (q := q) (ws := v :: r) (by simp)
  rw [padF_two, h, List.getLast?_cons_cons, ← h] at hx
  exact pad_last x hx
end Go.Vf.S
end
section
namespace Go.Vf.S
open Go Go.Vf
set_option linter.unusedVariables false
set_option linter.unusedSimpArgs false
set_option maxRecDepth 10000
def rowT (vs : List (List UInt8)) : Option (List Tg) :=
 if (vs ≠ [] ∧ ∀ w ∈ vs, (ptF w).2 = 0) ∧ (vs.length = 1 ∨ ∀ w ∈ vs, (ptF w).1.kind ≤ 5) then some (vs.map fun w => (ptF w).1) else none
def goodF (es : List Ent) : List (List UInt8 × List Tg) := es.filterMap fun e => if locF e.k = true then (rowT e.vs).map fun t => (lwF e.k, t) else none
theorem good_app (a b : List Ent) : goodF (a ++ b) = goodF a ++ goodF b := List.filterMap_append
structure LawL where
 key : List UInt8
 tgs : List (Int × List UInt8 × List UInt8)
 bad : Nat
def kdF (many : Bool) (z : Int) : Int := if many = true ∧ 5 < 1 + z % 18446744073709551616 % 7 then 2 else 1 + z % 18446744073709551616 % 7
theorem kd_in (many : Bool) (z : Int) : 1 ≤ kdF many z ∧ kdF many z ≤ 7 := by
 unfold kdF
 have := Int.emod_nonneg (z % 18446744073709551616) (b := 7) (by decide)
 have := Int.emod_lt_of_pos (z % 18446744073709551616) (b := 7) (by decide)
 split <;> omega
theorem kd_many (z : Int) : kdF true z ≤ 5 := by
 unfold kdF
 split
 ·decide
 ·rename_i h
  have : ¬5 < 1 + z % 18446744073709551616 % 7 := fun q => h ⟨rfl, q⟩
  omega
def badK (i : Nat) : List UInt8 := [98, 97, 100, UInt8.ofNat (97 + i)]
theorem badK_inj {i j : Nat} (hi : i < 12) (hj : j < 12) (h : badK i = badK j) : i = j := by
 have : ∀ i < 12, ∀ j < 12, badK i = badK j → i = j := by decide
 exact this i hi j hj h
def upC (c : UInt8) : UInt8 := if 97 ≤ c.toNat ∧ c.toNat ≤ 122 then c - 32 else c
def upW (l : List UInt8) : List UInt8 := (wrF l).map upC
theorem up_is (c : UInt8) (h : wlB c = true) : lowB (upC c) = c ∧ txB (upC c) = true ∧ wsB (upC c) = false ∧ upC c ≠ 44 ∧ upC c ≠ 34 ∧ upC c ≠ 58 ∧ upC c ≠ 35 ∧ letB (upC c) = true ∧ upC c ≠ 46 := by
 have := all_b14 (p := fun c => !wlB c || ((lowB (upC c) == c) && txB (upC c) && !wsB (upC c) && (upC c != 44) && (upC c != 34) && (upC c != 58) && (upC c != 35) && letB (upC c) && (upC c != 46))) (by decide +kernel) c
 rw [h] at this
 simp only [Bool.not_true, Bool.false_or, Bool.and_eq_true, beq_iff_eq, Bool.not_eq_true', bne_iff_ne, ne_eq] at this
 obtain ⟨⟨⟨⟨⟨⟨⟨⟨a1, a2⟩, a3⟩, a4⟩, a5⟩, a6⟩, a7⟩, a8⟩, a9⟩ := this
 exact ⟨a1, a2, a3, a4, a5, a6, a7, a8, a9⟩
theorem up_low (l : List UInt8) : lwF (upW l) = wrF l := by
 unfold lwF upW
 rw [List.map_map]
 conv => rhs; rw [← List.map_id (wrF l)]
 exact List.map_congr_left fun c hc => (up_is c (wr_all c hc)).1
theorem up_loc (l : List UInt8) : locF (upW l) = true := by
 have h1 : locF ((upW l).map lowB) = true := by rw [show (upW l).map lowB = wrF l from up_low l]; exact wr_loc l
 rwa [loc_low] at h1
end Go.Vf.S
end
section
namespace Go.Vf.S
open Go Go.Vf
set_option linter.unusedVariables false
set_option linter.unusedSimpArgs false
set_option maxRecDepth 10000
abbrev Wnt := List (List UInt8 × List Tg)
theorem row_made {k b p q : List UInt8} {vs : List (List UInt8)} (hk : RawW k) (h58 : (58 : UInt8) ∉ k) (h35 : k.head? ≠ some 35) (hb : b.all wsB = true) (hp : p.all wsB = true) (hq : q.all wsB = true) (hv : ∀ w ∈ vs, RawW w) (hv0 : vs ≠ []) (hv16 : vs.length ≤ 16) : (Lin.row (lnT14 k b (padF [32] p q vs)) k vs).ok := by
 have h := row_ok (vs := padF [32] p q vs) hk h58 h35 hb (pad_ok hp hq (by decide) hv) (fun e => by
  obtain ⟨x, r, h⟩ := padF_ne (p0 := [32]) (p := p) (q := q) hv0
  rw [e] at h
  cases h) (by rw [pad_len]; exact hv16) pad_last
 rw [pad_vals] at h
 exact h
structure TInv (i : Nat) (w : Wnt) (es : List Ent) : Prop where
 good : goodF es = w
 key : ∀ e ∈ es, (∃ j, j < i ∧ e.k = badK j) ∨ lwF e.k ∈ w.map (·.1)
 wrd : ∀ k ∈ w.map (·.1), k.head? = some 107
theorem badK_low {i : Nat} (h : i < 12) : lwF (badK i) = badK i := by
 have : ∀ i < 12, lwF (badK i) = badK i := by decide
 exact this i h
theorem TInv.bad {i : Nat} {w : Wnt} {es : List Ent} (h : TInv i w es) (hi : i < 12) : hasK es (badK i) = false := by
 unfold hasK
 rw [List.any_eq_false]
 intro e he
 rw [decide_eq_true_eq, badK_low hi]
 intro q
 rcases h.key e he with ⟨j, hj, e2⟩ | h2
 ·rw [e2, badK_low (by omega)] at q
  have := badK_inj (by omega) hi q
  omega
 ·have := h.wrd _ h2
  rw [q] at this
  cases this
theorem TInv.fresh {i : Nat} {w : Wnt} {es : List Ent} (h : TInv i w es) (hi : i ≤ 12) {k : List UInt8} (hk : wrF k ∉ w.map (·.1)) : hasK es (upW k) = false := by
 unfold hasK
 rw [List.any_eq_false]
 intro e he
 rw [decide_eq_true_eq, up_low]
 intro q
 rcases h.key e he with ⟨j, hj, e2⟩ | h2
 ·rw [e2, badK_low (by omega)] at q
  have := congrArg List.head? q
  cases this
 ·rw [q] at h2
  exact hk h2
theorem TInv.more {i : Nat} {w : Wnt} {es : List Ent} (h : TInv i w es) {n : Nat} {vs : List (List UInt8)} (hv : rowT vs = none) : TInv (i + 1) w (es ++ [⟨n, badK i, vs⟩]) := by
 refine ⟨?_, fun e he => ?_, h.wrd⟩
 ·rw [good_app, h.good]
  show w ++ goodF [⟨n, badK i, vs⟩] = w
  unfold goodF
  simp [hv]
 ·rcases List.mem_append.1 he with he | he
  ·rcases h.key e he with ⟨j, hj, q⟩ | q
   ·exact .inl ⟨j, by omega, q⟩
   ·exact .inr q
  ·obtain rfl := List.mem_singleton.1 he
   exact .inl ⟨i, by omega, rfl⟩
theorem TInv.held {i : Nat} {w : Wnt} {es : List Ent} (h : TInv i w es) {n : Nat} {k : List UInt8} {vs : List (List UInt8)} {own : List Tg} (hv : rowT vs = some own) : TInv (i + 1) (w ++ [(wrF k, own)]) (es ++ [⟨n, upW k, vs⟩]) := by
 have hw : ∀ x ∈ w.map (·.1), x ∈ (w ++ [(wrF k, own)]).map (·.1) := fun x hx => by rw [List.map_append]; exact List.mem_append_left _ hx
 refine ⟨?_, fun e he => ?_, fun x hx => ?_⟩
 ·rw [good_app, h.good]
  congr 1
  unfold goodF
  simp [hv, up_loc, up_low]
 ·rcases List.mem_append.1 he with he | he
  ·rcases h.key e he with ⟨j, hj, q⟩ | q
   ·exact .inl ⟨j, by omega, q⟩
   ·exact .inr (hw _ q)
  ·obtain rfl := List.mem_singleton.1 he
   refine .inr ?_
   rw [up_low, List.map_append]
   simp
 ·rw [List.map_append] at hx
  rcases List.mem_append.1 hx with hx | hx
  ·exact h.wrd x hx
  ·obtain rfl := List.mem_singleton.1 hx
   rfl
end Go.Vf.S
end
section
namespace Go.Vf.S
open Go Go.Vf
set_option linter.unusedVariables false
set_option linter.unusedSimpArgs false
set_option maxRecDepth 10000
abbrev Kv := List (List UInt8 × List Tg)
def getK (m : Kv) (k : List UInt8) : Option (List Tg) := (m.find? fun x => decide (x.1 = k)).map (·.2)
def setK (m : Kv) (k : List UInt8) (v : List Tg) : Kv := if k ∈ m.map (·.1) then m.map (fun x => if x.1 = k then (k, v) else x) else m ++ [(k, v)]
theorem getK_in {m : Kv} {k : List UInt8} {v : List Tg} (h : getK m k = some v) : (k, v) ∈ m := by
 unfold getK at h
 obtain ⟨x, h1, rfl⟩ := Option.map_eq_some_iff.1 h
 have h2 := List.find?_some h1
 rw [decide_eq_true_eq] at h2
 rw [← h2]
 exact List.mem_of_find?_eq_some h1
def tgsF (names : List (List UInt8)) (alone : Bool) : List (List UInt8) → List Tg → Nat → List Tg × Nat
 | [], all, e => (all, e)
 | w :: r, all, e =>
  if (ptF w).2 ≠ 0 ∨ ((ptF w).1.kind = 6 ∨ (ptF w).1.kind = 7) ∧ alone = false then ([], 5)
  else tgsF names alone r (all ++ [(ptF w).1]) (if (ptF w).1.kind = 5 ∧ (ptF w).1.nm ∉ names then 6 else e)
def keepA (names : List (List UInt8)) (m : Kv) (e : Ent) : Kv × Nat :=
 if locF e.k = false then (m, 5)
 else if (tgsF names (decide (e.vs.length = 1)) e.vs [] 0).2 = 0 ∨ (tgsF names (decide (e.vs.length = 1)) e.vs [] 0).2 = 6 then (setK m (lwF e.k) (tgsF names (decide (e.vs.length = 1)) e.vs [] 0).1, (tgsF names (decide (e.vs.length = 1)) e.vs [] 0).2)
 else (m, (tgsF names (decide (e.vs.length = 1)) e.vs [] 0).2)
def keepL (name : List UInt8) (m : Kv) (e : Ent) : Kv × Nat :=
 if (tgsF (m.map (·.1)) false [e.k] [] 0).2 = 0 ∨ (tgsF (m.map (·.1)) false [e.k] [] 0).2 = 6 then (setK m name ((getK m name).getD [] ++ (tgsF (m.map (·.1)) false [e.k] [] 0).1), (tgsF (m.map (·.1)) false [e.k] [] 0).2)
 else (m, (tgsF (m.map (·.1)) false [e.k] [] 0).2)
structure Flt where
 inn : List UInt8
 line : Nat
 code : Nat
deriving DecidableEq
def kpF (keep : Kv → Ent → Kv × Nat) (inn : List UInt8) : List Ent → Kv → List Flt → Kv × List Flt
 | [], m, fs => (m, fs)
 | e :: r, m, fs => kpF keep inn r (keep m e).1 (if (keep m e).2 ≠ 0 then fs ++ [⟨inn, e.n, (keep m e).2⟩] else fs)
def insR (acc : List Flt) (x : Flt) : List Flt := (acc.reverse.dropWhile fun y => decide (x.line < y.line)).reverse ++ x :: (acc.reverse.takeWhile fun y => decide (x.line < y.line)).reverse
def srtF (l : List Flt) : List Flt := l.foldl insR []
theorem insR_perm (acc : List Flt) (x : Flt) : (insR acc x).Perm (acc ++ [x]) := by
 have h : acc = (acc.reverse.dropWhile fun y => decide (x.line < y.line)).reverse ++ (acc.reverse.takeWhile fun y => decide (x.line < y.line)).reverse := by
  rw [← List.reverse_append, List.takeWhile_append_dropWhile, List.reverse_reverse]
 unfold insR
 conv => rhs; rw [h]
 rw [List.append_assoc]
 exact List.Perm.append_left _ (List.perm_append_comm (l₁ := [x]))
theorem srtF_perm (l : List Flt) : (srtF l).Perm l := by
 have key : ∀ (l acc : List Flt), (l.foldl insR acc).Perm (acc ++ l) := by
  intro l
  induction l with
  | nil => intro acc; simp
  | cons x l ih =>
   intro acc
   rw [List.foldl_cons]
   refine (ih _).trans ?_
   rw [show acc ++ x :: l = (acc ++ [x]) ++ l by simp]
   exact (insR_perm acc x).append_right l
 exact key l []
def rdF (keep : Kv → Ent → Kv × Nat) (inn text : List UInt8) (vals : Bool) (m : Kv) : Kv × List Flt :=
 ((kpF keep inn (tabF text vals).1 m ((tabF text vals).2.map fun f => ⟨inn, f.1, f.2⟩)).1, srtF (kpF keep inn (tabF text vals).1 m ((tabF text vals).2.map fun f => ⟨inn, f.1, f.2⟩)).2)
def nmsF : List (List UInt8 × List UInt8) → Kv → Kv × List Nat
 | [], m => (m, [])
 | x :: r, m =>
  if nmF x.1 = false then ((nmsF r m).1, 23 :: (nmsF r m).2)
  else ((nmsF r (setK m x.1 [])).1, (if x.1 ∈ m.map (·.1) then 9 else 0) :: (nmsF r (setK m x.1 [])).2)
def lstF : List (List UInt8 × List UInt8) → List Nat → Kv → List Flt → Kv × List Flt
 | x :: r, c :: cs, m, fs => if c ≠ 0 then lstF r cs m (fs ++ [⟨x.1, 0, c⟩]) else lstF r cs (rdF (keepL x.1) x.1 x.2 false m).1 (fs ++ (rdF (keepL x.1) x.1 x.2 false m).2)
 | _, _, m, fs => (m, fs)
def tableF (text : List UInt8) (ls : List (List UInt8 × List UInt8)) : Kv × Kv × List Flt :=
 ((rdF (keepA ((nmsF ls []).1.map (·.1))) [] text true []).1, (lstF ls (nmsF ls []).2 (nmsF ls []).1 (rdF (keepA ((nmsF ls []).1.map (·.1))) [] text true []).2))
def fndF (m : Kv) (l : List UInt8) : Option (List Tg × List UInt8) :=
 match getK m (lwF l) with
 | some t => some (t, lwF l)
 | none => (getK m (spF (lwF l)).1).map fun t => (t, (spF (lwF l)).1)
end Go.Vf.S
end

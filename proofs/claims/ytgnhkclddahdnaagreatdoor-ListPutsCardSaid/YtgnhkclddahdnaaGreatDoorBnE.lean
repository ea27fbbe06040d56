import Derived.Test.YtgnhkclddahdnaaGreatDoorBnB
section
namespace Go.Vf.S
open Go Go.Vf
attribute [local irreducible] wSeq wRow wp wG
set_option linter.unusedVariables false
set_option linter.unusedSimpArgs false
set_option maxRecDepth 10000

set_option maxHeartbeats 1000000 in
theorem rliteral_w {s : SS} {l : List UInt8} (hl : l.length ≤ 1000000) : CallW pr n_ref05_literal [str l] s fun v s' => v = .bool (litF l) ∧ Chg s s' [] := by
 refine CallW.run good ok_ref05_literal (by simp) rfl ?_
 (try refine pSeq ?_); (repeat(first|refine sb ?_|refine gOn rfl ?_|refine gOff rfl rfl ?_|refine gTup rfl ?_))
 intro n hn
 (repeat(first|refine sb ?_|refine gOn rfl ?_|refine gOff rfl rfl ?_|refine gTup rfl ?_))
 intro q hq
 by_cases h2 : l.length < 2
 ·obtain rfl : q = true := by rw [hq]; simp <;> omega
  (repeat(first|refine sb ?_|refine gOn rfl ?_|refine gOff rfl rfl ?_|refine gTup rfl ?_))
  rw [lit_short h2]
  exact ⟨rfl, .refl _ _⟩
 ·obtain rfl : q = false := by rw [hq]; simp <;> omega
  obtain ⟨c, hc⟩ : ∃ c, l[0]? = some c := ⟨_, List.getElem?_eq_getElem (by omega)⟩
  obtain ⟨d, hd⟩ : ∃ d, l[l.length - 1]? = some d := ⟨_, List.getElem?_eq_getElem (by omega)⟩
  (repeat(first|refine sb ?_|refine gOn rfl ?_|refine gOff rfl rfl ?_|refine gTup rfl ?_))
  refine ⟨by omega, ?_⟩
  intro m hm
  obtain rfl : m = 0 := by omega
  refine ⟨c, hc, ?_⟩
  (repeat(first|refine sb ?_|refine gOn rfl ?_|refine gOff rfl rfl ?_|refine gTup rfl ?_))
  intro q hq
  by_cases hc91 : c = 91
  ·obtain rfl : q = false := by rw [hq, hc91]; rfl
   (repeat(first|refine sb ?_|refine gOn rfl ?_|refine gOff rfl rfl ?_|refine gTup rfl ?_))
   intro n hn
   (repeat(first|refine sb ?_|refine gOn rfl ?_|refine gOff rfl rfl ?_|refine gTup rfl ?_))
   intro z hz
   rw [i64_id (by omega)] at hz
   (repeat(first|refine sb ?_|refine gOn rfl ?_|refine gOff rfl rfl ?_|refine gTup rfl ?_))
   refine ⟨by omega, ?_⟩
   intro m hm
   obtain rfl : m = l.length - 1 := by omega
   refine ⟨d, hd, ?_⟩
   (repeat(first|refine sb ?_|refine gOn rfl ?_|refine gOff rfl rfl ?_|refine gTup rfl ?_))
   intro q hq
   by_cases hd93 : d = 93
   ·obtain rfl : q = false := by rw [hq, hd93]; rfl
    rw [lit_is (by omega) hc hc91 hd hd93]
    (repeat(first|refine sb ?_|refine gOn rfl ?_|refine gOff rfl rfl ?_|refine gTup rfl ?_))
    intro n hn
    (repeat(first|refine sb ?_|refine gOn rfl ?_|refine gOff rfl rfl ?_|refine gTup rfl ?_))
    intro z hz
    rw [i64_id (by omega)] at hz
    (repeat(first|refine sb ?_|refine gOn rfl ?_|refine gOff rfl rfl ?_|refine gTup rfl ?_))
    refine ⟨by omega, ?_⟩
    intro m hm
    obtain rfl : m = l.length - 1 := by omega
    refine ⟨by omega, ?_⟩
    intro m2 hm2 r hr
    obtain rfl : m2 = 1 := by omega
    have er : r = inner l := by rw [hr]; unfold inner; rw [Nat.sub_sub]
    clear hr
    subst er
    have hil : (inner l).length ≤ 1000000 := by unfold inner; simp; omega
    generalize inner l = m at *
    (repeat(first|refine sb ?_|refine gOn rfl ?_|refine gOff rfl rfl ?_|refine gTup rfl ?_))
    refine (rsplit_w (c := 46) hil).mono fun v s1 q => ?_
    obtain ⟨base, cap, rfl, h1, c1, hB⟩ := q
    generalize hls : splitF 46 m = ls at *
    (repeat(first|refine sb ?_|refine gOn rfl ?_|refine gOff rfl rfl ?_|refine gTup rfl ?_))
    intro q hq
    by_cases h4 : ls.length = 4
    ·obtain rfl : q = false := by rw [hq, h4]; rfl
     rw [h4]
     obtain ⟨b, rfl, cs, t, g, r, e2, e3⟩ := h1.at
     (repeat(first|refine sb ?_|refine gOn rfl ?_|refine gOff rfl rfl ?_|refine gTup rfl ?_))
     refine pLoop (MW.head good (fun i : Nat => 4 - i) (fun i => i ≤ 4 ∧ (ls.take i).all octF = true) (fun i => [(3, .slice (some ⟨b, 0, none⟩) 4 cap), (4, .int .i64 i)]) (fun i => s1) 0 ⟨Nat.zero_le _, rfl⟩ (Wk.same ⟨rfl, rfl, trivial⟩) ?_)
     intro i ⟨hi, hall⟩
     (repeat(first|refine sb ?_|refine gOn rfl ?_|refine gOff rfl rfl ?_|refine gTup rfl ?_))
     intro q hq
     by_cases hlt : i < 4
     ·obtain rfl : q = true := by rw [hq]; simp <;> omega
      obtain ⟨x, hx⟩ : ∃ x, ls[i]? = some x := ⟨_, List.getElem?_eq_getElem (by omega)⟩
      have hxl : x.length ≤ m.length := part_len (by rw [hls]; exact List.mem_of_getElem? hx)
      have no : octF x = false → ls.all octF = false := fun h => all_no' hx h
      (repeat(first|refine sb ?_|refine gOn rfl ?_|refine gOff rfl rfl ?_|refine gTup rfl ?_))
      refine ⟨by omega, ?_⟩
      intro j hj o ho
      obtain rfl : j = i := by omega
      have hcell := e3 j x hx
      (repeat(first|refine sb ?_|refine gOn rfl ?_|refine gOff rfl rfl ?_|refine gTup rfl ?_))
      refine ldS_is rfl e2 (by rw [ho, Nat.zero_add, Nat.mul_one]; exact hcell) ?_
      (repeat(first|refine sb ?_|refine gOn rfl ?_|refine gOff rfl rfl ?_|refine gTup rfl ?_))
      refine (rnumber_w (d := 3) (by omega)).mono fun v s2 q => ?_
      obtain ⟨rfl, rfl⟩ := q
      have hne := num_ne (x := x) (d := 3)
      have oY := oct_ok (x := x)
      have oN := oct_no (x := x)
      generalize hN : numberF x 3 = N at *
      obtain ⟨a, e⟩ := N
      dsimp only [nRes] at *
      have nxt : octF x = true → (j + 1 ≤ 4 ∧ (ls.take (j + 1)).all octF = true) := fun h => ⟨hlt, by rw [take_next hx]; simp [hall, h]⟩
      (repeat(first|refine sb ?_|refine gOn rfl ?_|refine gOff rfl rfl ?_|refine gTup rfl ?_))
      intro q hq
      by_cases he : e = 0
      ·subst he
       obtain rfl : q = false := by rw [hq]; rfl
       have hne := hne rfl
       (repeat(first|refine sb ?_|refine gOn rfl ?_|refine gOff rfl rfl ?_|refine gTup rfl ?_))
       intro q hq
       by_cases ha : a ≤ 255
       ·obtain rfl : q = false := by rw [hq]; simp <;> omega
        (repeat(first|refine sb ?_|refine gOn rfl ?_|refine gOff rfl rfl ?_|refine gTup rfl ?_))
        refine ⟨by omega, ?_⟩
        intro j2 hj2 o2 ho2
        obtain rfl : j2 = j := by omega
        (repeat(first|refine sb ?_|refine gOn rfl ?_|refine gOff rfl rfl ?_|refine gTup rfl ?_))
        refine ldS_is rfl e2 (by rw [ho2, Nat.zero_add, Nat.mul_one]; exact hcell) ?_
        (repeat(first|refine sb ?_|refine gOn rfl ?_|refine gOff rfl rfl ?_|refine gTup rfl ?_))
        intro n hn
        (repeat(first|refine sb ?_|refine gOn rfl ?_|refine gOff rfl rfl ?_|refine gTup rfl ?_))
        intro q hq
        obtain ⟨f, hf⟩ : ∃ f, x[0]? = some f := ⟨_, List.getElem?_eq_getElem (by omega)⟩
        by_cases h1x : 1 < x.length
        ·obtain rfl : q = true := by rw [hq]; simp <;> omega
         (repeat(first|refine sb ?_|refine gOn rfl ?_|refine gOff rfl rfl ?_|refine gTup rfl ?_))
         refine ⟨by omega, ?_⟩
         intro j3 hj3 o3 ho3
         obtain rfl : j3 = j2 := by omega
         (repeat(first|refine sb ?_|refine gOn rfl ?_|refine gOff rfl rfl ?_|refine gTup rfl ?_))
         refine ldS_is rfl e2 (by rw [ho3, Nat.zero_add, Nat.mul_one]; exact hcell) ?_
         (repeat(first|refine sb ?_|refine gOn rfl ?_|refine gOff rfl rfl ?_|refine gTup rfl ?_))
         refine ⟨by omega, ?_⟩
         intro k hk
         obtain rfl : k = 0 := by omega
         refine ⟨f, hf, ?_⟩
         (repeat(first|refine sb ?_|refine gOn rfl ?_|refine gOff rfl rfl ?_|refine gTup rfl ?_))
         intro q hq
         by_cases hf48 : f = 48
         ·obtain rfl : q = true := by rw [hq, hf48]; rfl
          (repeat(first|refine sb ?_|refine gOn rfl ?_|refine gOff rfl rfl ?_|refine gTup rfl ?_))
          rw [no (oN ?_)]
          ·exact ⟨rfl, c1⟩
          ·rintro ⟨-, -, e | e⟩
           ·rw [e] at h1x; simp at h1x
           ·exact e (by rw [head_at hf, hf48])
         ·have := byte_ne hf48
          have f48 : f.toNat ≠ 48 := this
          obtain rfl : q = false := by rw [hq]; simp; omega
          (repeat(first|refine sb ?_|refine gOn rfl ?_|refine gOff rfl rfl ?_|refine gTup rfl ?_))
          intro z hz
          rw [i64_id (by omega)] at hz
          obtain rfl : z = ((j3 + 1 : Nat) : Int) := by omega
          (repeat(first|refine sb ?_|refine gOn rfl ?_|refine gOff rfl rfl ?_|refine gTup rfl ?_))
          exact ⟨j3 + 1, nxt (oY ⟨rfl, ha, .inr (by rw [head_at hf]; simpa using hf48)⟩), by show 4 - (j3 + 1) < 4 - j3; omega, Wk.same ⟨rfl, rfl, trivial⟩⟩
        ·obtain rfl : q = false := by rw [hq]; simp <;> omega
         (repeat(first|refine sb ?_|refine gOn rfl ?_|refine gOff rfl rfl ?_|refine gTup rfl ?_))
         intro z hz
         rw [i64_id (by omega)] at hz
         obtain rfl : z = ((j2 + 1 : Nat) : Int) := by omega
         (repeat(first|refine sb ?_|refine gOn rfl ?_|refine gOff rfl rfl ?_|refine gTup rfl ?_))
         refine ⟨j2 + 1, nxt (oY ⟨rfl, ha, ?_⟩), by show 4 - (j2 + 1) < 4 - j2; omega, Wk.same ⟨rfl, rfl, trivial⟩⟩
         have hx1 : x = [f] := by
          match x, hf, h1x with
          | [y], hf, _ => cases hf; rfl
          | y :: z :: r, _, h => exact absurd (by simp) h
         rw [hx1]
         by_cases hf48 : f = 48
         ·exact .inl (by rw [hf48])
         ·exact .inr (by simpa using hf48)
       ·obtain rfl : q = true := by rw [hq]; simp <;> omega
        (repeat(first|refine sb ?_|refine gOn rfl ?_|refine gOff rfl rfl ?_|refine gTup rfl ?_))
        rw [no (oN fun h => ha h.2.1)]
        exact ⟨rfl, c1⟩
      ·obtain rfl : q = true := by rw [hq]; simp; omega
       (repeat(first|refine sb ?_|refine gOn rfl ?_|refine gOff rfl rfl ?_|refine gTup rfl ?_))
       rw [no (oN fun h => he h.1)]
       exact ⟨rfl, c1⟩
     ·obtain rfl : q = false := by rw [hq]; simp <;> omega
      obtain rfl : i = 4 := by omega
      (repeat(first|refine sb ?_|refine gOn rfl ?_|refine gOff rfl rfl ?_|refine gTup rfl ?_))
      rw [List.take_of_length_le (by omega)] at hall
      rw [hall]
      exact ⟨rfl, c1⟩
    ·obtain rfl : q = true := by rw [hq]; simp; omega
     (repeat(first|refine sb ?_|refine gOn rfl ?_|refine gOff rfl rfl ?_|refine gTup rfl ?_))
     refine ⟨bool_eq ?_, c1⟩
     rw [show (ls.length == 4) = false by simpa using h4, Bool.and_false]
   ·have := byte_ne hd93
    have d93 : d.toNat ≠ 93 := this
    obtain rfl : q = true := by rw [hq]; simp; omega
    (repeat(first|refine sb ?_|refine gOn rfl ?_|refine gOff rfl rfl ?_|refine gTup rfl ?_))
    rw [lit_last (by omega) hd hd93]
    exact ⟨rfl, .refl _ _⟩
  ·have := byte_ne hc91
   have c91 : c.toNat ≠ 91 := this
   obtain rfl : q = true := by rw [hq]; simp; omega
   (repeat(first|refine sb ?_|refine gOn rfl ?_|refine gOff rfl rfl ?_|refine gTup rfl ?_))
   rw [lit_first hc hc91]
   exact ⟨rfl, .refl _ _⟩
end Go.Vf.S
end
section
namespace Go.Vf.S
open Go Go.Vf
attribute [local irreducible] wSeq wRow wp wG
set_option linter.unusedVariables false
set_option linter.unusedSimpArgs false
set_option maxRecDepth 10000

set_option maxHeartbeats 1000000 in
theorem rdomain_w {s : SS} {l : List UInt8} (hl : l.length ≤ 1000000) : CallW pr n_ref05_Domain [str l] s fun v s' => v = .int .i64 (domF l) ∧ Chg s s' [] := by
 refine CallW.run good ok_ref05_Domain (by simp) rfl ?_
 (try refine pSeq ?_); (repeat(first|refine sb ?_|refine gOn rfl ?_|refine gOff rfl rfl ?_|refine gTup rfl ?_))
 intro n hn
 (repeat(first|refine sb ?_|refine gOn rfl ?_|refine gOff rfl rfl ?_|refine gTup rfl ?_))
 intro q hq
 by_cases h0 : 0 < l.length
 ·obtain rfl : q = true := by rw [hq]; simp; omega
  obtain ⟨c, hc⟩ : ∃ c, l[0]? = some c := ⟨_, List.getElem?_eq_getElem h0⟩
  (repeat(first|refine sb ?_|refine gOn rfl ?_|refine gOff rfl rfl ?_|refine gTup rfl ?_))
  refine ⟨by omega, ?_⟩
  intro m hm
  obtain rfl : m = 0 := by omega
  refine ⟨c, hc, ?_⟩
  (repeat(first|refine sb ?_|refine gOn rfl ?_|refine gOff rfl rfl ?_|refine gTup rfl ?_))
  intro q hq
  by_cases hc91 : c = 91
  ·obtain rfl : q = true := by rw [hq, hc91]; rfl
   rw [dom_first hc hc91]
   (repeat(first|refine sb ?_|refine gOn rfl ?_|refine gOff rfl rfl ?_|refine gTup rfl ?_))
   refine (rliteral_w hl).mono fun v s1 q => ?_
   obtain ⟨rfl, c1⟩ := q
   cases hli : litF l with
   | true =>
    (repeat(first|refine sb ?_|refine gOn rfl ?_|refine gOff rfl rfl ?_|refine gTup rfl ?_))
    exact ⟨rfl, c1⟩
   | false =>
    (repeat(first|refine sb ?_|refine gOn rfl ?_|refine gOff rfl rfl ?_|refine gTup rfl ?_))
    exact ⟨rfl, c1⟩
  ·have c91 : c.toNat ≠ 91 := byte_ne hc91
   obtain rfl : q = false := by rw [hq]; simp; omega
   have hname : ∀ d, l[0]? = some d → d ≠ 91 := fun d hd => by rw [hc] at hd; cases hd; exact hc91
   (repeat(first|refine sb ?_|refine gOn rfl ?_|refine gOff rfl rfl ?_|refine gTup rfl ?_))
   intro n1 hn1
   (repeat(first|refine sb ?_|refine gOn rfl ?_|refine gOff rfl rfl ?_|refine gTup rfl ?_))
   intro big hbig
   have ebig : big = decide (255 < l.length) := by rw [hbig, decide_eq_decide]; omega
   (repeat(first|refine sb ?_|refine gOn rfl ?_|refine gOff rfl rfl ?_|refine gTup rfl ?_))
   rw [dom_name hname]
   refine pLoop (MW.head good (fun x : DIt => l.length + 1 - x.i) (DAt l) (fun x => [(0, str l), (3, .bool x.long), (4, .int .i64 x.f), (5, .int .i64 x.i)]) (fun x => s) ⟨0, 0, [], big⟩ ⟨.inl ⟨Nat.zero_le _, rfl, Nat.le_refl _, by simp⟩, rfl, by rw [ebig]; simp⟩ (Wk.same ⟨rfl, rfl, rfl, rfl, trivial⟩) ?_)
   intro ⟨i, f, done, long⟩ ⟨h1, h5, h6⟩
   dsimp only at h1 h5 h6 ⊢
   have cs : Chg s s [] := .refl _ _
   (repeat(first|refine sb ?_|refine gOn rfl ?_|refine gOff rfl rfl ?_|refine gTup rfl ?_))
   intro n2 hn2
   (repeat(first|refine sb ?_|refine gOn rfl ?_|refine gOff rfl rfl ?_|refine gTup rfl ?_))
   intro q hq
   by_cases hle : i ≤ l.length
   ·obtain ⟨_, h2, h3, h4⟩ : i ≤ l.length ∧ splitF 46 l = done ++ splitF 46 (l.drop f) ∧ f ≤ i ∧ ((l.drop f).take (i - f)).all labB = true := h1.elim id fun h => by omega
    have hno : (46 : UInt8) ∉ (l.drop f).take (i - f) := fun h => by
     rw [List.all_eq_true] at h4
     have := h4 46 h
     rw [lab_dot] at this
     cases this
    obtain ⟨st1, st2⟩ := sp_step h3 hle hno
    obtain rfl : q = true := by rw [hq]; simp; omega
    (repeat(first|refine sb ?_|refine gOn rfl ?_|refine gOff rfl rfl ?_|refine gTup rfl ?_))
    intro n3 hn3
    (repeat(first|refine sb ?_|refine gOn rfl ?_|refine gOff rfl rfl ?_|refine gTup rfl ?_))
    intro q hq
    by_cases hlt : i < l.length
    ·obtain rfl : q = true := by rw [hq]; simp; omega
     obtain ⟨c, hc⟩ : ∃ c, l[i]? = some c := ⟨_, List.getElem?_eq_getElem hlt⟩
     (repeat(first|refine sb ?_|refine gOn rfl ?_|refine gOff rfl rfl ?_|refine gTup rfl ?_))
     refine ⟨by omega, ?_⟩
     intro m hm
     obtain rfl : m = i := by omega
     refine ⟨c, hc, ?_⟩
     (repeat(first|refine sb ?_|refine gOn rfl ?_|refine gOff rfl rfl ?_|refine gTup rfl ?_))
     intro q hq
     by_cases h46 : c = 46
     ·obtain rfl : q = false := by rw [hq, h46]; rfl
      have e1 := st1 c hc h46
      rw [e1] at h2
      have bad : labelF ((l.drop f).take (m - f)) = false → (if (splitF 46 l).all labelF = true then (if longF l = true then 3 else 0) else 5) = 5 := fun h => by rw [h2, List.all_append, List.all_cons, h]; simp
      have nxt : (m + 1 ≤ l.length ∧ splitF 46 l = (done ++ [(l.drop f).take (m - f)]) ++ splitF 46 (l.drop (m + 1)) ∧ m + 1 ≤ m + 1 ∧ ((l.drop (m + 1)).take (m + 1 - (m + 1))).all labB = true) ∨ (m + 1 = l.length + 1 ∧ splitF 46 l = done ++ [(l.drop f).take (m - f)]) := .inl ⟨hlt, by rw [h2]; simp, Nat.le_refl _, by simp⟩
      clear hc e1 st1 st2
      generalize m = i at *
      (repeat(first|refine sb ?_|refine gOn rfl ?_|refine gOff rfl rfl ?_|refine gTup rfl ?_))
      intro q hq
      have hgl : ((l.drop f).take (i - f)).length = i - f := by rw [List.length_take, List.length_drop]; omega
      by_cases hif : i = f
      ·obtain rfl : q = true := by rw [hq]; simp; omega
       (repeat(first|refine sb ?_|refine gOn rfl ?_|refine gOff rfl rfl ?_|refine gTup rfl ?_))
       rw [bad (by rw [hif, Nat.sub_self]; rfl)]
       exact ⟨rfl, cs⟩
      ·obtain rfl : q = false := by rw [hq]; simp; omega
       obtain ⟨a, ha⟩ : ∃ a, l[f]? = some a := ⟨_, List.getElem?_eq_getElem (by omega)⟩
       obtain ⟨b, hb⟩ : ∃ b, l[i - 1]? = some b := ⟨_, List.getElem?_eq_getElem (by omega)⟩
       have ga : ((l.drop f).take (i - f))[0]? = some a := by rw [List.getElem?_take_of_lt (by omega), List.getElem?_drop]; exact ha
       have gb : ((l.drop f).take (i - f))[((l.drop f).take (i - f)).length - 1]? = some b := by rw [hgl, List.getElem?_take_of_lt (by omega), List.getElem?_drop, show f + (i - f - 1) = i - 1 by omega]; exact hb
       have hends := ends_is ga gb
       have hlab : labelF ((l.drop f).take (i - f)) = (decide (a ≠ 45) && decide (b ≠ 45)) := by unfold labelF; rw [h4, hends, Bool.true_and]
       (repeat(first|refine sb ?_|refine gOn rfl ?_|refine gOff rfl rfl ?_|refine gTup rfl ?_))
       refine ⟨by omega, ?_⟩
       intro m hm
       obtain rfl : m = f := by omega
       refine ⟨a, ha, ?_⟩
       (repeat(first|refine sb ?_|refine gOn rfl ?_|refine gOff rfl rfl ?_|refine gTup rfl ?_))
       intro q hq
       by_cases ha45 : a = 45
       ·obtain rfl : q = true := by rw [hq, ha45]; rfl
        (repeat(first|refine sb ?_|refine gOn rfl ?_|refine gOff rfl rfl ?_|refine gTup rfl ?_))
        rw [bad (by rw [hlab, ha45]; rfl)]
        exact ⟨rfl, cs⟩
       ·have a45 : a.toNat ≠ 45 := byte_ne ha45
        obtain rfl : q = false := by rw [hq]; simp; omega
        (repeat(first|refine sb ?_|refine gOn rfl ?_|refine gOff rfl rfl ?_|refine gTup rfl ?_))
        intro z hz
        rw [i64_id (by omega)] at hz
        (repeat(first|refine sb ?_|refine gOn rfl ?_|refine gOff rfl rfl ?_|refine gTup rfl ?_))
        refine ⟨by omega, ?_⟩
        intro m2 hm2
        obtain rfl : m2 = i - 1 := by omega
        refine ⟨b, hb, ?_⟩
        (repeat(first|refine sb ?_|refine gOn rfl ?_|refine gOff rfl rfl ?_|refine gTup rfl ?_))
        intro q hq
        by_cases hb45 : b = 45
        ·obtain rfl : q = true := by rw [hq, hb45]; rfl
         (repeat(first|refine sb ?_|refine gOn rfl ?_|refine gOff rfl rfl ?_|refine gTup rfl ?_))
         rw [bad (by rw [hlab, hb45]; simp)]
         exact ⟨rfl, cs⟩
        ·have b45 : b.toNat ≠ 45 := byte_ne hb45
         obtain rfl : q = false := by rw [hq]; simp; omega
         have hok : labelF ((l.drop m).take (i - m)) = true := by rw [hlab]; simp [ha45, hb45]
         (repeat(first|refine sb ?_|refine gOn rfl ?_|refine gOff rfl rfl ?_|refine gTup rfl ?_))
         intro z2 hz2
         rw [i64_id (by omega)] at hz2
         (repeat(first|refine sb ?_|refine gOn rfl ?_|refine gOff rfl rfl ?_|refine gTup rfl ?_))
         intro q hq
         by_cases h63 : 63 < i - m
         ·obtain rfl : q = true := by rw [hq]; simp; omega
          (repeat(first|refine sb ?_|refine gOn rfl ?_|refine gOff rfl rfl ?_|refine gTup rfl ?_))
          intro z3 hz3
          rw [i64_id (by omega)] at hz3
          obtain rfl : z3 = ((i + 1 : Nat) : Int) := by omega
          (repeat(first|refine sb ?_|refine gOn rfl ?_|refine gOff rfl rfl ?_|refine gTup rfl ?_))
          intro z4 hz4
          rw [i64_id (by omega)] at hz4
          obtain rfl : z4 = ((i + 1 : Nat) : Int) := by omega
          (repeat(first|refine sb ?_|refine gOn rfl ?_|refine gOff rfl rfl ?_|refine gTup rfl ?_))
          exact ⟨⟨i + 1, i + 1, done ++ [(l.drop m).take (i - m)], true⟩, ⟨nxt, by rw [List.all_append, h5, Bool.true_and, List.all_cons, hok]; rfl, by rw [List.any_append, List.any_cons, hgl, decide_eq_true h63]; simp⟩, by show l.length + 1 - (i + 1) < l.length + 1 - i; omega, Wk.same ⟨rfl, rfl, rfl, rfl, trivial⟩⟩
         ·obtain rfl : q = false := by rw [hq]; simp; omega
          (repeat(first|refine sb ?_|refine gOn rfl ?_|refine gOff rfl rfl ?_|refine gTup rfl ?_))
          intro z3 hz3
          rw [i64_id (by omega)] at hz3
          obtain rfl : z3 = ((i + 1 : Nat) : Int) := by omega
          (repeat(first|refine sb ?_|refine gOn rfl ?_|refine gOff rfl rfl ?_|refine gTup rfl ?_))
          intro z4 hz4
          rw [i64_id (by omega)] at hz4
          obtain rfl : z4 = ((i + 1 : Nat) : Int) := by omega
          (repeat(first|refine sb ?_|refine gOn rfl ?_|refine gOff rfl rfl ?_|refine gTup rfl ?_))
          exact ⟨⟨i + 1, i + 1, done ++ [(l.drop m).take (i - m)], long⟩, ⟨nxt, by rw [List.all_append, h5, Bool.true_and, List.all_cons, hok]; rfl, by rw [List.any_append, List.any_cons, hgl, decide_eq_false h63, h6]; simp⟩, by show l.length + 1 - (i + 1) < l.length + 1 - i; omega, Wk.same ⟨rfl, rfl, rfl, rfl, trivial⟩⟩
     ·have c46 : c.toNat ≠ 46 := byte_ne h46
      obtain rfl : q = true := by rw [hq]; simp; omega
      (repeat(first|refine sb ?_|refine gOn rfl ?_|refine gOff rfl rfl ?_|refine gTup rfl ?_))
      refine ⟨by omega, ?_⟩
      intro m2 hm2
      obtain rfl : m2 = m := by omega
      refine ⟨c, hc, ?_⟩
      (repeat(first|refine sb ?_|refine gOn rfl ?_|refine gOff rfl rfl ?_|refine gTup rfl ?_))
      refine rletter_w.mono fun v s2 q => ?_
      obtain ⟨rfl, rfl⟩ := q
      have goon : labB c = true → DAt l ⟨m2 + 1, f, done, long⟩ := fun hlb => ⟨.inl ⟨hlt, h2, Nat.le_succ_of_le h3, by
       show ((l.drop f).take (m2 + 1 - f)).all labB = true
       rw [show m2 + 1 - f = (m2 - f) + 1 by omega, take_next (c := c) (by rw [List.getElem?_drop, show f + (m2 - f) = m2 by omega]; exact hc), List.all_append, h4, List.all_cons, hlb]; rfl⟩, h5, h6⟩
      cases haln : alnN c.toNat with
      | true =>
       (repeat(first|refine sb ?_|refine gOn rfl ?_|refine gOff rfl rfl ?_|refine gTup rfl ?_))
       intro q hq; obtain rfl : q = false := (by rw [hq]; simp <;> omega); (repeat(first|refine sb ?_|refine gOn rfl ?_|refine gOff rfl rfl ?_|refine gTup rfl ?_))
       intro z hz
       rw [i64_id (by omega)] at hz
       obtain rfl : z = ((m2 + 1 : Nat) : Int) := by omega
       (repeat(first|refine sb ?_|refine gOn rfl ?_|refine gOff rfl rfl ?_|refine gTup rfl ?_))
       exact ⟨⟨m2 + 1, f, done, long⟩, goon (by unfold labB labN; rw [haln]; rfl), by show l.length + 1 - (m2 + 1) < l.length + 1 - m2; omega, Wk.same ⟨rfl, rfl, rfl, rfl, trivial⟩⟩
      | false =>
       (repeat(first|refine sb ?_|refine gOn rfl ?_|refine gOff rfl rfl ?_|refine gTup rfl ?_))
       intro q hq; obtain rfl : q = true := (by rw [hq]; simp <;> omega); (repeat(first|refine sb ?_|refine gOn rfl ?_|refine gOff rfl rfl ?_|refine gTup rfl ?_))
       refine ⟨by omega, ?_⟩
       intro m3 hm3
       obtain rfl : m3 = m2 := by omega
       refine ⟨c, hc, ?_⟩
       (repeat(first|refine sb ?_|refine gOn rfl ?_|refine gOff rfl rfl ?_|refine gTup rfl ?_))
       intro q hq
       by_cases h45 : c = 45
       ·obtain rfl : q = false := by rw [hq, h45]; rfl
        (repeat(first|refine sb ?_|refine gOn rfl ?_|refine gOff rfl rfl ?_|refine gTup rfl ?_))
        intro z hz
        rw [i64_id (by omega)] at hz
        obtain rfl : z = ((m3 + 1 : Nat) : Int) := by omega
        (repeat(first|refine sb ?_|refine gOn rfl ?_|refine gOff rfl rfl ?_|refine gTup rfl ?_))
        exact ⟨⟨m3 + 1, f, done, long⟩, goon (by rw [h45]; decide), by show l.length + 1 - (m3 + 1) < l.length + 1 - m3; omega, Wk.same ⟨rfl, rfl, rfl, rfl, trivial⟩⟩
       ·have c45 : c.toNat ≠ 45 := byte_ne h45
        obtain rfl : q = true := by rw [hq]; simp; omega
        (repeat(first|refine sb ?_|refine gOn rfl ?_|refine gOff rfl rfl ?_|refine gTup rfl ?_))
        rw [lab_no (List.mem_of_getElem? hc) h46 (by unfold labB labN; rw [haln]; simpa using c45)]
        exact ⟨rfl, cs⟩
    ·obtain rfl : q = false := by rw [hq]; simp; omega
     have ei : i = l.length := by omega
     have e1 := st2 ei
     have e2 : l.drop f = (l.drop f).take (i - f) := by rw [List.take_of_length_le (by rw [List.length_drop]; omega)]
     rw [e1, e2] at h2
     have bad : labelF ((l.drop f).take (i - f)) = false → (if (splitF 46 l).all labelF = true then (if longF l = true then 3 else 0) else 5) = 5 := fun h => by rw [h2, List.all_append, List.all_cons, h]; simp
     have nxt : (i + 1 ≤ l.length ∧ splitF 46 l = (done ++ [(l.drop f).take (i - f)]) ++ splitF 46 (l.drop (i + 1)) ∧ i + 1 ≤ i + 1 ∧ ((l.drop (i + 1)).take (i + 1 - (i + 1))).all labB = true) ∨ (i + 1 = l.length + 1 ∧ splitF 46 l = done ++ [(l.drop f).take (i - f)]) := .inr ⟨by omega, h2⟩
     clear st1 st2 e1 e2
     (repeat(first|refine sb ?_|refine gOn rfl ?_|refine gOff rfl rfl ?_|refine gTup rfl ?_))
     intro q hq
     have hgl : ((l.drop f).take (i - f)).length = i - f := by rw [List.length_take, List.length_drop]; omega
     by_cases hif : i = f
     ·obtain rfl : q = true := by rw [hq]; simp; omega
      (repeat(first|refine sb ?_|refine gOn rfl ?_|refine gOff rfl rfl ?_|refine gTup rfl ?_))
      rw [bad (by rw [hif, Nat.sub_self]; rfl)]
      exact ⟨rfl, cs⟩
     ·obtain rfl : q = false := by rw [hq]; simp; omega
      obtain ⟨a, ha⟩ : ∃ a, l[f]? = some a := ⟨_, List.getElem?_eq_getElem (by omega)⟩
      obtain ⟨b, hb⟩ : ∃ b, l[i - 1]? = some b := ⟨_, List.getElem?_eq_getElem (by omega)⟩
      have ga : ((l.drop f).take (i - f))[0]? = some a := by rw [List.getElem?_take_of_lt (by omega), List.getElem?_drop]; exact ha
      have gb : ((l.drop f).take (i - f))[((l.drop f).take (i - f)).length - 1]? = some b := by rw [hgl, List.getElem?_take_of_lt (by omega), List.getElem?_drop, show f + (i - f - 1) = i - 1 by omega]; exact hb
      have hends := ends_is ga gb
      have hlab : labelF ((l.drop f).take (i - f)) = (decide (a ≠ 45) && decide (b ≠ 45)) := by unfold labelF; rw [h4, hends, Bool.true_and]
      (repeat(first|refine sb ?_|refine gOn rfl ?_|refine gOff rfl rfl ?_|refine gTup rfl ?_))
      refine ⟨by omega, ?_⟩
      intro m hm
      obtain rfl : m = f := by omega
      refine ⟨a, ha, ?_⟩
      (repeat(first|refine sb ?_|refine gOn rfl ?_|refine gOff rfl rfl ?_|refine gTup rfl ?_))
      intro q hq
      by_cases ha45 : a = 45
      ·obtain rfl : q = true := by rw [hq, ha45]; rfl
       (repeat(first|refine sb ?_|refine gOn rfl ?_|refine gOff rfl rfl ?_|refine gTup rfl ?_))
       rw [bad (by rw [hlab, ha45]; rfl)]
       exact ⟨rfl, cs⟩
      ·have a45 : a.toNat ≠ 45 := byte_ne ha45
       obtain rfl : q = false := by rw [hq]; simp; omega
       (repeat(first|refine sb ?_|refine gOn rfl ?_|refine gOff rfl rfl ?_|refine gTup rfl ?_))
       intro z hz
       rw [i64_id (by omega)] at hz
       (repeat(first|refine sb ?_|refine gOn rfl ?_|refine gOff rfl rfl ?_|refine gTup rfl ?_))
       refine ⟨by omega, ?_⟩
       intro m2 hm2
       obtain rfl : m2 = i - 1 := by omega
       refine ⟨b, hb, ?_⟩
       (repeat(first|refine sb ?_|refine gOn rfl ?_|refine gOff rfl rfl ?_|refine gTup rfl ?_))
       intro q hq
       by_cases hb45 : b = 45
       ·obtain rfl : q = true := by rw [hq, hb45]; rfl
        (repeat(first|refine sb ?_|refine gOn rfl ?_|refine gOff rfl rfl ?_|refine gTup rfl ?_))
        rw [bad (by rw [hlab, hb45]; simp)]
        exact ⟨rfl, cs⟩
       ·have b45 : b.toNat ≠ 45 := byte_ne hb45
        obtain rfl : q = false := by rw [hq]; simp; omega
        have hok : labelF ((l.drop m).take (i - m)) = true := by rw [hlab]; simp [ha45, hb45]
        (repeat(first|refine sb ?_|refine gOn rfl ?_|refine gOff rfl rfl ?_|refine gTup rfl ?_))
        intro z2 hz2
        rw [i64_id (by omega)] at hz2
        (repeat(first|refine sb ?_|refine gOn rfl ?_|refine gOff rfl rfl ?_|refine gTup rfl ?_))
        intro q hq
        by_cases h63 : 63 < i - m
        ·obtain rfl : q = true := by rw [hq]; simp; omega
         (repeat(first|refine sb ?_|refine gOn rfl ?_|refine gOff rfl rfl ?_|refine gTup rfl ?_))
         intro z3 hz3
         rw [i64_id (by omega)] at hz3
         obtain rfl : z3 = ((i + 1 : Nat) : Int) := by omega
         (repeat(first|refine sb ?_|refine gOn rfl ?_|refine gOff rfl rfl ?_|refine gTup rfl ?_))
         intro z4 hz4
         rw [i64_id (by omega)] at hz4
         obtain rfl : z4 = ((i + 1 : Nat) : Int) := by omega
         (repeat(first|refine sb ?_|refine gOn rfl ?_|refine gOff rfl rfl ?_|refine gTup rfl ?_))
         exact ⟨⟨i + 1, i + 1, done ++ [(l.drop m).take (i - m)], true⟩, ⟨nxt, by rw [List.all_append, h5, Bool.true_and, List.all_cons, hok]; rfl, by rw [List.any_append, List.any_cons, hgl, decide_eq_true h63]; simp⟩, by show l.length + 1 - (i + 1) < l.length + 1 - i; omega, Wk.same ⟨rfl, rfl, rfl, rfl, trivial⟩⟩
        ·obtain rfl : q = false := by rw [hq]; simp; omega
         (repeat(first|refine sb ?_|refine gOn rfl ?_|refine gOff rfl rfl ?_|refine gTup rfl ?_))
         intro z3 hz3
         rw [i64_id (by omega)] at hz3
         obtain rfl : z3 = ((i + 1 : Nat) : Int) := by omega
         (repeat(first|refine sb ?_|refine gOn rfl ?_|refine gOff rfl rfl ?_|refine gTup rfl ?_))
         intro z4 hz4
         rw [i64_id (by omega)] at hz4
         obtain rfl : z4 = ((i + 1 : Nat) : Int) := by omega
         (repeat(first|refine sb ?_|refine gOn rfl ?_|refine gOff rfl rfl ?_|refine gTup rfl ?_))
         exact ⟨⟨i + 1, i + 1, done ++ [(l.drop m).take (i - m)], long⟩, ⟨nxt, by rw [List.all_append, h5, Bool.true_and, List.all_cons, hok]; rfl, by rw [List.any_append, List.any_cons, hgl, decide_eq_false h63, h6]; simp⟩, by show l.length + 1 - (i + 1) < l.length + 1 - i; omega, Wk.same ⟨rfl, rfl, rfl, rfl, trivial⟩⟩
   ·obtain ⟨h2, h3⟩ : i = l.length + 1 ∧ splitF 46 l = done := h1.elim (fun h => absurd h.1 hle) id
    obtain rfl : q = false := by rw [hq]; simp; omega
    have hlong : long = longF l := by rw [h6]; unfold longF; rw [h3]
    rw [h3, h5, if_pos rfl, ← hlong]
    (repeat(first|refine sb ?_|refine gOn rfl ?_|refine gOff rfl rfl ?_|refine gTup rfl ?_))
    cases long with
    | true =>
     (repeat(first|refine sb ?_|refine gOn rfl ?_|refine gOff rfl rfl ?_|refine gTup rfl ?_))
     exact ⟨rfl, cs⟩
    | false =>
     (repeat(first|refine sb ?_|refine gOn rfl ?_|refine gOff rfl rfl ?_|refine gTup rfl ?_))
     exact ⟨rfl, cs⟩
 ·obtain rfl : q = false := by rw [hq]; simp; omega
  have hname : ∀ d, l[0]? = some d → d ≠ 91 := fun d hd => absurd (lt_of_get hd) h0
  (repeat(first|refine sb ?_|refine gOn rfl ?_|refine gOff rfl rfl ?_|refine gTup rfl ?_))
  intro n1 hn1
  (repeat(first|refine sb ?_|refine gOn rfl ?_|refine gOff rfl rfl ?_|refine gTup rfl ?_))
  intro big hbig
  have ebig : big = decide (255 < l.length) := by rw [hbig, decide_eq_decide]; omega
  (repeat(first|refine sb ?_|refine gOn rfl ?_|refine gOff rfl rfl ?_|refine gTup rfl ?_))
  rw [dom_name hname]
  refine pLoop (MW.head good (fun x : DIt => l.length + 1 - x.i) (DAt l) (fun x => [(0, str l), (3, .bool x.long), (4, .int .i64 x.f), (5, .int .i64 x.i)]) (fun x => s) ⟨0, 0, [], big⟩ ⟨.inl ⟨Nat.zero_le _, rfl, Nat.le_refl _, by simp⟩, rfl, by rw [ebig]; simp⟩ (Wk.same ⟨rfl, rfl, rfl, rfl, trivial⟩) ?_)
  intro ⟨i, f, done, long⟩ ⟨h1, h5, h6⟩
  dsimp only at h1 h5 h6 ⊢
  have cs : Chg s s [] := .refl _ _
  (repeat(first|refine sb ?_|refine gOn rfl ?_|refine gOff rfl rfl ?_|refine gTup rfl ?_))
  intro n2 hn2
  (repeat(first|refine sb ?_|refine gOn rfl ?_|refine gOff rfl rfl ?_|refine gTup rfl ?_))
  intro q hq
  by_cases hle : i ≤ l.length
  ·obtain ⟨_, h2, h3, h4⟩ : i ≤ l.length ∧ splitF 46 l = done ++ splitF 46 (l.drop f) ∧ f ≤ i ∧ ((l.drop f).take (i - f)).all labB = true := h1.elim id fun h => by omega
   have hno : (46 : UInt8) ∉ (l.drop f).take (i - f) := fun h => by
    rw [List.all_eq_true] at h4
    have := h4 46 h
    rw [lab_dot] at this
    cases this
   obtain ⟨st1, st2⟩ := sp_step h3 hle hno
   obtain rfl : q = true := by rw [hq]; simp; omega
   (repeat(first|refine sb ?_|refine gOn rfl ?_|refine gOff rfl rfl ?_|refine gTup rfl ?_))
   intro n3 hn3
   (repeat(first|refine sb ?_|refine gOn rfl ?_|refine gOff rfl rfl ?_|refine gTup rfl ?_))
   intro q hq
   by_cases hlt : i < l.length
   ·obtain rfl : q = true := by rw [hq]; simp; omega
    obtain ⟨c, hc⟩ : ∃ c, l[i]? = some c := ⟨_, List.getElem?_eq_getElem hlt⟩
    (repeat(first|refine sb ?_|refine gOn rfl ?_|refine gOff rfl rfl ?_|refine gTup rfl ?_))
    refine ⟨by omega, ?_⟩
    intro m hm
    obtain rfl : m = i := by omega
    refine ⟨c, hc, ?_⟩
    (repeat(first|refine sb ?_|refine gOn rfl ?_|refine gOff rfl rfl ?_|refine gTup rfl ?_))
    intro q hq
    by_cases h46 : c = 46
    ·obtain rfl : q = false := by rw [hq, h46]; rfl
     have e1 := st1 c hc h46
     rw [e1] at h2
     have bad : labelF ((l.drop f).take (m - f)) = false → (if (splitF 46 l).all labelF = true then (if longF l = true then 3 else 0) else 5) = 5 := fun h => by rw [h2, List.all_append, List.all_cons, h]; simp
     have nxt : (m + 1 ≤ l.length ∧ splitF 46 l = (done ++ [(l.drop f).take (m - f)]) ++ splitF 46 (l.drop (m + 1)) ∧ m + 1 ≤ m + 1 ∧ ((l.drop (m + 1)).take (m + 1 - (m + 1))).all labB = true) ∨ (m + 1 = l.length + 1 ∧ splitF 46 l = done ++ [(l.drop f).take (m - f)]) := .inl ⟨hlt, by rw [h2]; simp, Nat.le_refl _, by simp⟩
     clear hc e1 st1 st2
     generalize m = i at *
     (repeat(first|refine sb ?_|refine gOn rfl ?_|refine gOff rfl rfl ?_|refine gTup rfl ?_))
     intro q hq
     have hgl : ((l.drop f).take (i - f)).length = i - f := by rw [List.length_take, List.length_drop]; omega
     by_cases hif : i = f
     ·obtain rfl : q = true := by rw [hq]; simp; omega
      (repeat(first|refine sb ?_|refine gOn rfl ?_|refine gOff rfl rfl ?_|refine gTup rfl ?_))
      rw [bad (by rw [hif, Nat.sub_self]; rfl)]
      exact ⟨rfl, cs⟩
     ·obtain rfl : q = false := by rw [hq]; simp; omega
      obtain ⟨a, ha⟩ : ∃ a, l[f]? = some a := ⟨_, List.getElem?_eq_getElem (by omega)⟩
      obtain ⟨b, hb⟩ : ∃ b, l[i - 1]? = some b := ⟨_, List.getElem?_eq_getElem (by omega)⟩
      have ga : ((l.drop f).take (i - f))[0]? = some a := by rw [List.getElem?_take_of_lt (by omega), List.getElem?_drop]; exact ha
      have gb : ((l.drop f).take (i - f))[((l.drop f).take (i - f)).length - 1]? = some b := by rw [hgl, List.getElem?_take_of_lt (by omega), List.getElem?_drop, show f + (i - f - 1) = i - 1 by omega]; exact hb
      have hends := ends_is ga gb
      have hlab : labelF ((l.drop f).take (i - f)) = (decide (a ≠ 45) && decide (b ≠ 45)) := by unfold labelF; rw [h4, hends, Bool.true_and]
      (repeat(first|refine sb ?_|refine gOn rfl ?_|refine gOff rfl rfl ?_|refine gTup rfl ?_))
      refine ⟨by omega, ?_⟩
      intro m hm
      obtain rfl : m = f := by omega
      refine ⟨a, ha, ?_⟩
      (repeat(first|refine sb ?_|refine gOn rfl ?_|refine gOff rfl rfl ?_|refine gTup rfl ?_))
      intro q hq
      by_cases ha45 : a = 45
      ·obtain rfl : q = true := by rw [hq, ha45]; rfl
       (repeat(first|refine sb ?_|refine gOn rfl ?_|refine gOff rfl rfl ?_|refine gTup rfl ?_))
       rw [bad (by rw [hlab, ha45]; rfl)]
       exact ⟨rfl, cs⟩
      ·have a45 : a.toNat ≠ 45 := byte_ne ha45
       obtain rfl : q = false := by rw [hq]; simp; omega
       (repeat(first|refine sb ?_|refine gOn rfl ?_|refine gOff rfl rfl ?_|refine gTup rfl ?_))
       intro z hz
       rw [i64_id (by omega)] at hz
       (repeat(first|refine sb ?_|refine gOn rfl ?_|refine gOff rfl rfl ?_|refine gTup rfl ?_))
       refine ⟨by omega, ?_⟩
       intro m2 hm2
       obtain rfl : m2 = i - 1 := by omega
       refine ⟨b, hb, ?_⟩
       (repeat(first|refine sb ?_|refine gOn rfl ?_|refine gOff rfl rfl ?_|refine gTup rfl ?_))
       intro q hq
       by_cases hb45 : b = 45
       ·obtain rfl : q = true := by rw [hq, hb45]; rfl
        (repeat(first|refine sb ?_|refine gOn rfl ?_|refine gOff rfl rfl ?_|refine gTup rfl ?_))
        rw [bad (by rw [hlab, hb45]; simp)]
        exact ⟨rfl, cs⟩
       ·have b45 : b.toNat ≠ 45 := byte_ne hb45
        obtain rfl : q = false := by rw [hq]; simp; omega
        have hok : labelF ((l.drop m).take (i - m)) = true := by rw [hlab]; simp [ha45, hb45]
        (repeat(first|refine sb ?_|refine gOn rfl ?_|refine gOff rfl rfl ?_|refine gTup rfl ?_))
        intro z2 hz2
        rw [i64_id (by omega)] at hz2
        (repeat(first|refine sb ?_|refine gOn rfl ?_|refine gOff rfl rfl ?_|refine gTup rfl ?_))
        intro q hq
        by_cases h63 : 63 < i - m
        ·obtain rfl : q = true := by rw [hq]; simp; omega
         (repeat(first|refine sb ?_|refine gOn rfl ?_|refine gOff rfl rfl ?_|refine gTup rfl ?_))
         intro z3 hz3
         rw [i64_id (by omega)] at hz3
         obtain rfl : z3 = ((i + 1 : Nat) : Int) := by omega
         (repeat(first|refine sb ?_|refine gOn rfl ?_|refine gOff rfl rfl ?_|refine gTup rfl ?_))
         intro z4 hz4
         rw [i64_id (by omega)] at hz4
         obtain rfl : z4 = ((i + 1 : Nat) : Int) := by omega
         (repeat(first|refine sb ?_|refine gOn rfl ?_|refine gOff rfl rfl ?_|refine gTup rfl ?_))
         exact ⟨⟨i + 1, i + 1, done ++ [(l.drop m).take (i - m)], true⟩, ⟨nxt, by rw [List.all_append, h5, Bool.true_and, List.all_cons, hok]; rfl, by rw [List.any_append, List.any_cons, hgl, decide_eq_true h63]; simp⟩, by show l.length + 1 - (i + 1) < l.length + 1 - i; omega, Wk.same ⟨rfl, rfl, rfl, rfl, trivial⟩⟩
        ·obtain rfl : q = false := by rw [hq]; simp; omega
         (repeat(first|refine sb ?_|refine gOn rfl ?_|refine gOff rfl rfl ?_|refine gTup rfl ?_))
         intro z3 hz3
         rw [i64_id (by omega)] at hz3
         obtain rfl : z3 = ((i + 1 : Nat) : Int) := by omega
         (repeat(first|refine sb ?_|refine gOn rfl ?_|refine gOff rfl rfl ?_|refine gTup rfl ?_))
         intro z4 hz4
         rw [i64_id (by omega)] at hz4
         obtain rfl : z4 = ((i + 1 : Nat) : Int) := by omega
         (repeat(first|refine sb ?_|refine gOn rfl ?_|refine gOff rfl rfl ?_|refine gTup rfl ?_))
         exact ⟨⟨i + 1, i + 1, done ++ [(l.drop m).take (i - m)], long⟩, ⟨nxt, by rw [List.all_append, h5, Bool.true_and, List.all_cons, hok]; rfl, by rw [List.any_append, List.any_cons, hgl, decide_eq_false h63, h6]; simp⟩, by show l.length + 1 - (i + 1) < l.length + 1 - i; omega, Wk.same ⟨rfl, rfl, rfl, rfl, trivial⟩⟩
    ·have c46 : c.toNat ≠ 46 := byte_ne h46
     obtain rfl : q = true := by rw [hq]; simp; omega
     (repeat(first|refine sb ?_|refine gOn rfl ?_|refine gOff rfl rfl ?_|refine gTup rfl ?_))
     refine ⟨by omega, ?_⟩
     intro m2 hm2
     obtain rfl : m2 = m := by omega
     refine ⟨c, hc, ?_⟩
     (repeat(first|refine sb ?_|refine gOn rfl ?_|refine gOff rfl rfl ?_|refine gTup rfl ?_))
     refine rletter_w.mono fun v s2 q => ?_
     obtain ⟨rfl, rfl⟩ := q
     have goon : labB c = true → DAt l ⟨m2 + 1, f, done, long⟩ := fun hlb => ⟨.inl ⟨hlt, h2, Nat.le_succ_of_le h3, by
      show ((l.drop f).take (m2 + 1 - f)).all labB = true
      rw [show m2 + 1 - f = (m2 - f) + 1 by omega, take_next (c := c) (by rw [List.getElem?_drop, show f + (m2 - f) = m2 by omega]; exact hc), List.all_append, h4, List.all_cons, hlb]; rfl⟩, h5, h6⟩
     cases haln : alnN c.toNat with
     | true =>
      (repeat(first|refine sb ?_|refine gOn rfl ?_|refine gOff rfl rfl ?_|refine gTup rfl ?_))
      intro q hq; obtain rfl : q = false := (by rw [hq]; simp <;> omega); (repeat(first|refine sb ?_|refine gOn rfl ?_|refine gOff rfl rfl ?_|refine gTup rfl ?_))
      intro z hz
      rw [i64_id (by omega)] at hz
      obtain rfl : z = ((m2 + 1 : Nat) : Int) := by omega
      (repeat(first|refine sb ?_|refine gOn rfl ?_|refine gOff rfl rfl ?_|refine gTup rfl ?_))
      exact ⟨⟨m2 + 1, f, done, long⟩, goon (by unfold labB labN; rw [haln]; rfl), by show l.length + 1 - (m2 + 1) < l.length + 1 - m2; omega, Wk.same ⟨rfl, rfl, rfl, rfl, trivial⟩⟩
     | false =>
      (repeat(first|refine sb ?_|refine gOn rfl ?_|refine gOff rfl rfl ?_|refine gTup rfl ?_))
      intro q hq; obtain rfl : q = true := (by rw [hq]; simp <;> omega); (repeat(first|refine sb ?_|refine gOn rfl ?_|refine gOff rfl rfl ?_|refine gTup rfl ?_))
      refine ⟨by omega, ?_⟩
      intro m3 hm3
      obtain rfl : m3 = m2 := by omega
      refine ⟨c, hc, ?_⟩
      (repeat(first|refine sb ?_|refine gOn rfl ?_|refine gOff rfl rfl ?_|refine gTup rfl ?_))
      intro q hq
      by_cases h45 : c = 45
      ·obtain rfl : q = false := by rw [hq, h45]; rfl
       (repeat(first|refine sb ?_|refine gOn rfl ?_|refine gOff rfl rfl ?_|refine gTup rfl ?_))
       intro z hz
       rw [i64_id (by omega)] at hz
       obtain rfl : z = ((m3 + 1 : Nat) : Int) := by omega
       (repeat(first|refine sb ?_|refine gOn rfl ?_|refine gOff rfl rfl ?_|refine gTup rfl ?_))
       exact ⟨⟨m3 + 1, f, done, long⟩, goon (by rw [h45]; decide), by show l.length + 1 - (m3 + 1) < l.length + 1 - m3; omega, Wk.same ⟨rfl, rfl, rfl, rfl, trivial⟩⟩
      ·have c45 : c.toNat ≠ 45 := byte_ne h45
       obtain rfl : q = true := by rw [hq]; simp; omega
       (repeat(first|refine sb ?_|refine gOn rfl ?_|refine gOff rfl rfl ?_|refine gTup rfl ?_))
       rw [lab_no (List.mem_of_getElem? hc) h46 (by unfold labB labN; rw [haln]; simpa using c45)]
       exact ⟨rfl, cs⟩
   ·obtain rfl : q = false := by rw [hq]; simp; omega
    have ei : i = l.length := by omega
    have e1 := st2 ei
    have e2 : l.drop f = (l.drop f).take (i - f) := by rw [List.take_of_length_le (by rw [List.length_drop]; omega)]
    rw [e1, e2] at h2
    have bad : labelF ((l.drop f).take (i - f)) = false → (if (splitF 46 l).all labelF = true then (if longF l = true then 3 else 0) else 5) = 5 := fun h => by rw [h2, List.all_append, List.all_cons, h]; simp
    have nxt : (i + 1 ≤ l.length ∧ splitF 46 l = (done ++ [(l.drop f).take (i - f)]) ++ splitF 46 (l.drop (i + 1)) ∧ i + 1 ≤ i + 1 ∧ ((l.drop (i + 1)).take (i + 1 - (i + 1))).all labB = true) ∨ (i + 1 = l.length + 1 ∧ splitF 46 l = done ++ [(l.drop f).take (i - f)]) := .inr ⟨by omega, h2⟩
    clear st1 st2 e1 e2
    (repeat(first|refine sb ?_|refine gOn rfl ?_|refine gOff rfl rfl ?_|refine gTup rfl ?_))
    intro q hq
    have hgl : ((l.drop f).take (i - f)).length = i - f := by rw [List.length_take, List.length_drop]; omega
    by_cases hif : i = f
    ·obtain rfl : q = true := by rw [hq]; simp; omega
     (repeat(first|refine sb ?_|refine gOn rfl ?_|refine gOff rfl rfl ?_|refine gTup rfl ?_))
     rw [bad (by rw [hif, Nat.sub_self]; rfl)]
     exact ⟨rfl, cs⟩
    ·obtain rfl : q = false := by rw [hq]; simp; omega
     obtain ⟨a, ha⟩ : ∃ a, l[f]? = some a := ⟨_, List.getElem?_eq_getElem (by omega)⟩
     obtain ⟨b, hb⟩ : ∃ b, l[i - 1]? = some b := ⟨_, List.getElem?_eq_getElem (by omega)⟩
     have ga : ((l.drop f).take (i - f))[0]? = some a := by rw [List.getElem?_take_of_lt (by omega), List.getElem?_drop]; exact ha
     have gb : ((l.drop f).take (i - f))[((l.drop f).take (i - f)).length - 1]? = some b := by rw [hgl, List.getElem?_take_of_lt (by omega), List.getElem?_drop, show f + (i - f - 1) = i - 1 by omega]; exact hb
     have hends := ends_is ga gb
     have hlab : labelF ((l.drop f).take (i - f)) = (decide (a ≠ 45) && decide (b ≠ 45)) := by unfold labelF; rw [h4, hends, Bool.true_and]
     (repeat(first|refine sb ?_|refine gOn rfl ?_|refine gOff rfl rfl ?_|refine gTup rfl ?_))
     refine ⟨by omega, ?_⟩
     intro m hm
     obtain rfl : m = f := by omega
     refine ⟨a, ha, ?_⟩
     (repeat(first|refine sb ?_|refine gOn rfl ?_|refine gOff rfl rfl ?_|refine gTup rfl ?_))
     intro q hq
     by_cases ha45 : a = 45
     ·obtain rfl : q = true := by rw [hq, ha45]; rfl
      (repeat(first|refine sb ?_|refine gOn rfl ?_|refine gOff rfl rfl ?_|refine gTup rfl ?_))
      rw [bad (by rw [hlab, ha45]; rfl)]
      exact ⟨rfl, cs⟩
     ·have a45 : a.toNat ≠ 45 := byte_ne ha45
      obtain rfl : q = false := by rw [hq]; simp; omega
      (repeat(first|refine sb ?_|refine gOn rfl ?_|refine gOff rfl rfl ?_|refine gTup rfl ?_))
      intro z hz
      rw [i64_id (by omega)] at hz
      (repeat(first|refine sb ?_|refine gOn rfl ?_|refine gOff rfl rfl ?_|refine gTup rfl ?_))
      refine ⟨by omega, ?_⟩
      intro m2 hm2
      obtain rfl : m2 = i - 1 := by omega
      refine ⟨b, hb, ?_⟩
      (repeat(first|refine sb ?_|refine gOn rfl ?_|refine gOff rfl rfl ?_|refine gTup rfl ?_))
      intro q hq
      by_cases hb45 : b = 45
      ·obtain rfl : q = true := by rw [hq, hb45]; rfl
       (repeat(first|refine sb ?_|refine gOn rfl ?_|refine gOff rfl rfl ?_|refine gTup rfl ?_))
       rw [bad (by rw [hlab, hb45]; simp)]
       exact ⟨rfl, cs⟩
      ·have b45 : b.toNat ≠ 45 := byte_ne hb45
       obtain rfl : q = false := by rw [hq]; simp; omega
       have hok : labelF ((l.drop m).take (i - m)) = true := by rw [hlab]; simp [ha45, hb45]
       (repeat(first|refine sb ?_|refine gOn rfl ?_|refine gOff rfl rfl ?_|refine gTup rfl ?_))
       intro z2 hz2
       rw [i64_id (by omega)] at hz2
       (repeat(first|refine sb ?_|refine gOn rfl ?_|refine gOff rfl rfl ?_|refine gTup rfl ?_))
       intro q hq
       by_cases h63 : 63 < i - m
       ·obtain rfl : q = true := by rw [hq]; simp; omega
        (repeat(first|refine sb ?_|refine gOn rfl ?_|refine gOff rfl rfl ?_|refine gTup rfl ?_))
        intro z3 hz3
        rw [i64_id (by omega)] at hz3
        obtain rfl : z3 = ((i + 1 : Nat) : Int) := by omega
        (repeat(first|refine sb ?_|refine gOn rfl ?_|refine gOff rfl rfl ?_|refine gTup rfl ?_))
        intro z4 hz4
        rw [i64_id (by omega)] at hz4
        obtain rfl : z4 = ((i + 1 : Nat) : Int) := by omega
        (repeat(first|refine sb ?_|refine gOn rfl ?_|refine gOff rfl rfl ?_|refine gTup rfl ?_))
        exact ⟨⟨i + 1, i + 1, done ++ [(l.drop m).take (i - m)], true⟩, ⟨nxt, by rw [List.all_append, h5, Bool.true_and, List.all_cons, hok]; rfl, by rw [List.any_append, List.any_cons, hgl, decide_eq_true h63]; simp⟩, by show l.length + 1 - (i + 1) < l.length + 1 - i; omega, Wk.same ⟨rfl, rfl, rfl, rfl, trivial⟩⟩
       ·obtain rfl : q = false := by rw [hq]; simp; omega
        (repeat(first|refine sb ?_|refine gOn rfl ?_|refine gOff rfl rfl ?_|refine gTup rfl ?_))
        intro z3 hz3
        rw [i64_id (by omega)] at hz3
        obtain rfl : z3 = ((i + 1 : Nat) : Int) := by omega
        (repeat(first|refine sb ?_|refine gOn rfl ?_|refine gOff rfl rfl ?_|refine gTup rfl ?_))
        intro z4 hz4
        rw [i64_id (by omega)] at hz4
        obtain rfl : z4 = ((i + 1 : Nat) : Int) := by omega
        (repeat(first|refine sb ?_|refine gOn rfl ?_|refine gOff rfl rfl ?_|refine gTup rfl ?_))
        exact ⟨⟨i + 1, i + 1, done ++ [(l.drop m).take (i - m)], long⟩, ⟨nxt, by rw [List.all_append, h5, Bool.true_and, List.all_cons, hok]; rfl, by rw [List.any_append, List.any_cons, hgl, decide_eq_false h63, h6]; simp⟩, by show l.length + 1 - (i + 1) < l.length + 1 - i; omega, Wk.same ⟨rfl, rfl, rfl, rfl, trivial⟩⟩
  ·obtain ⟨h2, h3⟩ : i = l.length + 1 ∧ splitF 46 l = done := h1.elim (fun h => absurd h.1 hle) id
   obtain rfl : q = false := by rw [hq]; simp; omega
   have hlong : long = longF l := by rw [h6]; unfold longF; rw [h3]
   rw [h3, h5, if_pos rfl, ← hlong]
   (repeat(first|refine sb ?_|refine gOn rfl ?_|refine gOff rfl rfl ?_|refine gTup rfl ?_))
   cases long with
   | true =>
    (repeat(first|refine sb ?_|refine gOn rfl ?_|refine gOff rfl rfl ?_|refine gTup rfl ?_))
    exact ⟨rfl, cs⟩
   | false =>
    (repeat(first|refine sb ?_|refine gOn rfl ?_|refine gOff rfl rfl ?_|refine gTup rfl ?_))
    exact ⟨rfl, cs⟩
end Go.Vf.S
end
section
namespace Go.Vf.S
open Go Go.Vf
attribute [local irreducible] wSeq wRow wp wG
set_option linter.unusedVariables false
set_option linter.unusedSimpArgs false
set_option maxRecDepth 10000

abbrev tRf : TypeId := 26
theorem agg_Rf : aggB pr tRf = some true := by kernel_rfl
theorem sz_Rf : sizeB pr tRf = some 2 := by kernel_rfl

set_option maxHeartbeats 1000000 in
theorem rparse_w {s : SS} {l : List UInt8} (hl : l.length ≤ 1000000) : CallW pr n_ref05_Parse [str l] s fun v s' => v = .tuple ⟨[adV (parseF l).1 (parseF l).2.1, .int .i64 (parseF l).2.2]⟩ ∧ Chg s s' [] := by
 refine CallW.run good ok_ref05_Parse (by simp) rfl ?_
 (try refine pSeq ?_); (repeat(first|refine sb ?_|refine gOn rfl ?_|refine gOff rfl rfl ?_|refine gTup rfl ?_))
 have c0 : Chg s { s with heap := (s.next, some (.cells [str [], str []] tRf false false)) :: s.heap, next := s.next + 1 } [] := .new _
 have hk : lookH ((s.next, some (.cells [str [], str []] tRf false false)) :: s.heap) s.next = some (.cells [str [], str []] tRf false false) := lkH
 have hlt0 : s.next < s.next + 1 := Nat.lt_succ_self _
 intro n hn
 (repeat(first|refine sb ?_|refine gOn rfl ?_|refine gOff rfl rfl ?_|refine gTup rfl ?_))
 intro q hq
 by_cases h0 : 0 < l.length
 ·obtain rfl : q = true := by rw [hq]; simp <;> omega
  obtain ⟨c, hc⟩ : ∃ c, l[0]? = some c := ⟨_, List.getElem?_eq_getElem h0⟩
  (repeat(first|refine sb ?_|refine gOn rfl ?_|refine gOff rfl rfl ?_|refine gTup rfl ?_))
  refine ⟨by omega, ?_⟩
  intro m hm
  obtain rfl : m = 0 := by omega
  refine ⟨c, hc, ?_⟩
  (repeat(first|refine sb ?_|refine gOn rfl ?_|refine gOff rfl rfl ?_|refine gTup rfl ?_))
  intro q hq
  by_cases h34 : c = 34
  ·obtain rfl : q = true := by rw [hq, h34]; rfl
   have eP : partsF l = ((quotedF l).1, atRest (l.drop (quotedF l).2.1), decide ((l.drop (quotedF l).2.1).take 1 = [64] ∧ (quotedF l).2.2 = 0 ∧ (quotedF l).1 ≠ [])) := by unfold partsF; rw [if_pos ((first_iff hc).2 h34)]
   have hat := quoted_len l
   have hww := quoted_short l
   (repeat(first|refine sb ?_|refine gOn rfl ?_|refine gOff rfl rfl ?_|refine gTup rfl ?_))
   refine (rquoted_w hl).mono fun v s2 q => ?_
   obtain ⟨rfl, rfl⟩ := q
   dsimp only [qRes]
   generalize (quotedF l).1 = w at *
   generalize (quotedF l).2.1 = at_ at *
   generalize (quotedF l).2.2 = e at *
   (repeat(first|refine sb ?_|refine gOn rfl ?_|refine gOff rfl rfl ?_|refine gTup rfl ?_))
   intro q hq
   by_cases he : e = 0
   ·subst he
    obtain rfl : q = false := by rw [hq]; rfl
    (repeat(first|refine sb ?_|refine gOn rfl ?_|refine gOff rfl rfl ?_|refine gTup rfl ?_))
    intro q hq
    by_cases hwe : w = []
    ·obtain rfl : q = true := by rw [hq]; simp [hwe]
     rw [parse_no (by rw [eP]; simp [hwe])]
     (repeat(first|refine sb ?_|refine gOn rfl ?_|refine gOff rfl rfl ?_|refine gTup rfl ?_))
     refine st_abs (cs' := [str [], str []]) rfl rfl hk hlt0 rfl rfl fun s2 e2 c2 n2 => ?_
     (repeat(first|refine sb ?_|refine gOn rfl ?_|refine gOff rfl rfl ?_|refine gTup rfl ?_))
     (repeat (first | with_reducible refine sqRet ?_ | with_reducible refine bkRet ?_ | with_reducible refine hdRet ?_))
     exact ret_cell agg_Rf sz_Rf rfl e2 agg2 rfl ⟨rfl, c0.fresh c2 (by simp)⟩
    ·obtain rfl : q = false := by rw [hq]; simp [hwe]
     have h6 : l[at_]? = some 64 → partsF l = (w, l.drop (at_ + 1), true) := fun hc => by
      rw [eP]
      have : (l.drop at_).take 1 = [64] := by rw [drop_next hc]; rfl
      unfold atRest
      rw [if_pos this, List.drop_drop]
      simp [this, hwe]
     have h5 : (∀ c, l[at_]? = some c → c ≠ 64) → (partsF l).2.2 = false := fun hc => by
      rw [eP]
      have : ¬(l.drop at_).take 1 = [64] := fun q => by
       cases hd : l[at_]? with
       | none =>
        rw [List.drop_of_length_le (List.getElem?_eq_none_iff.1 hd)] at q
        cases q
       | some d =>
        rw [drop_next hd] at q
        simp at q
        exact hc d hd q
      simp [this]
     (repeat(first|refine sb ?_|refine gOn rfl ?_|refine gOff rfl rfl ?_|refine gTup rfl ?_))
     (repeat(first|refine sb ?_|refine gOn rfl ?_|refine gOff rfl rfl ?_|refine gTup rfl ?_))
     intro n1 hn1
     (repeat(first|refine sb ?_|refine gOn rfl ?_|refine gOff rfl rfl ?_|refine gTup rfl ?_))
     intro q hq
     by_cases hlt : at_ < l.length
     ·obtain rfl : q = false := by rw [hq]; simp <;> omega
      obtain ⟨c, hc⟩ : ∃ c, l[at_]? = some c := ⟨_, List.getElem?_eq_getElem hlt⟩
      (repeat(first|refine sb ?_|refine gOn rfl ?_|refine gOff rfl rfl ?_|refine gTup rfl ?_))
      refine ⟨by omega, ?_⟩
      intro m hm
      obtain rfl : m = at_ := by omega
      refine ⟨c, hc, ?_⟩
      (repeat(first|refine sb ?_|refine gOn rfl ?_|refine gOff rfl rfl ?_|refine gTup rfl ?_))
      intro q hq
      by_cases h64 : c = 64
      ·obtain rfl : q = false := by rw [hq, h64]; rfl
       have hP := h6 (by rw [hc, h64])
       have eF : parseF l = if domF (l.drop (m + 1)) ≠ 0 then ([], [], domF (l.drop (m + 1))) else if 64 < w.length then ([], [], 3) else (w, l.drop (m + 1), 0) := by
        unfold parseF
        rw [hP, if_neg (by simp)]
       rw [eF]
       (repeat(first|refine sb ?_|refine gOn rfl ?_|refine gOff rfl rfl ?_|refine gTup rfl ?_))
       intro z hz
       rw [i64_id (by omega)] at hz
       (repeat(first|refine sb ?_|refine gOn rfl ?_|refine gOff rfl rfl ?_|refine gTup rfl ?_))
       refine ⟨by omega, ?_⟩
       intro m2 hm2 r hr
       obtain rfl : m2 = m + 1 := by omega
       rw [List.take_of_length_le (by simp)] at hr
       subst hr
       have hdl : (l.drop (m + 1)).length ≤ 1000000 := by rw [List.length_drop]; omega
       (repeat(first|refine sb ?_|refine gOn rfl ?_|refine gOff rfl rfl ?_|refine gTup rfl ?_))
       refine (rdomain_w hdl).mono fun v s1 q => ?_
       obtain ⟨rfl, c1⟩ := q
       have hk1 := c1.blk _ _ hlt0 (by simp) hk
       have hlt1 : s.next < s1.next := Nat.lt_of_lt_of_le hlt0 c1.next
       have cc1 : Chg s s1 [] := c0.nil c1
       have hv := dom_vals (l.drop (m + 1))
       (repeat(first|refine sb ?_|refine gOn rfl ?_|refine gOff rfl rfl ?_|refine gTup rfl ?_))
       intro q hq
       by_cases d5 : domF (l.drop (m + 1)) = 5
       ·obtain rfl : q = true := by rw [hq, d5]; rfl
        rw [if_pos (by omega), d5]
        (repeat(first|refine sb ?_|refine gOn rfl ?_|refine gOff rfl rfl ?_|refine gTup rfl ?_))
        refine st_abs (cs' := [str [], str []]) rfl rfl hk1 hlt1 rfl rfl fun s2 e2 c2 n2 => ?_
        (repeat(first|refine sb ?_|refine gOn rfl ?_|refine gOff rfl rfl ?_|refine gTup rfl ?_))
        (repeat (first | with_reducible refine sqRet ?_ | with_reducible refine bkRet ?_ | with_reducible refine hdRet ?_))
        exact ret_cell agg_Rf sz_Rf rfl e2 agg2 rfl ⟨rfl, cc1.fresh c2 (by simp)⟩
       ·obtain rfl : q = false := by rw [hq]; simp; omega
        (repeat(first|refine sb ?_|refine gOn rfl ?_|refine gOff rfl rfl ?_|refine gTup rfl ?_))
        intro q hq
        by_cases d3 : domF (l.drop (m + 1)) = 3
        ·obtain rfl : q = true := by rw [hq, d3]; rfl
         rw [if_pos (by omega), d3]
         (repeat(first|refine sb ?_|refine gOn rfl ?_|refine gOff rfl rfl ?_|refine gTup rfl ?_))
         refine st_abs (cs' := [str [], str []]) rfl rfl hk1 hlt1 rfl rfl fun s2 e2 c2 n2 => ?_
         (repeat(first|refine sb ?_|refine gOn rfl ?_|refine gOff rfl rfl ?_|refine gTup rfl ?_))
         (repeat (first | with_reducible refine sqRet ?_ | with_reducible refine bkRet ?_ | with_reducible refine hdRet ?_))
         exact ret_cell agg_Rf sz_Rf rfl e2 agg2 rfl ⟨rfl, cc1.fresh c2 (by simp)⟩
        ·obtain rfl : q = false := by rw [hq]; simp; omega
         rw [if_neg (by omega)]
         (repeat(first|refine sb ?_|refine gOn rfl ?_|refine gOff rfl rfl ?_|refine gTup rfl ?_))
         intro n2 hn2
         (repeat(first|refine sb ?_|refine gOn rfl ?_|refine gOff rfl rfl ?_|refine gTup rfl ?_))
         intro q hq
         by_cases hw : 64 < w.length
         ·obtain rfl : q = true := by rw [hq]; simp <;> omega
          rw [if_pos hw]
          (repeat(first|refine sb ?_|refine gOn rfl ?_|refine gOff rfl rfl ?_|refine gTup rfl ?_))
          refine st_abs (cs' := [str [], str []]) rfl rfl hk1 hlt1 rfl rfl fun s2 e2 c2 n2 => ?_
          (repeat(first|refine sb ?_|refine gOn rfl ?_|refine gOff rfl rfl ?_|refine gTup rfl ?_))
          (repeat (first | with_reducible refine sqRet ?_ | with_reducible refine bkRet ?_ | with_reducible refine hdRet ?_))
          exact ret_cell agg_Rf sz_Rf rfl e2 agg2 rfl ⟨rfl, cc1.fresh c2 (by simp)⟩
         ·obtain rfl : q = false := by rw [hq]; simp <;> omega
          rw [if_neg hw]
          (repeat(first|refine sb ?_|refine gOn rfl ?_|refine gOff rfl rfl ?_|refine gTup rfl ?_))
          intro z hz
          rw [i64_id (by omega)] at hz
          (repeat(first|refine sb ?_|refine gOn rfl ?_|refine gOff rfl rfl ?_|refine gTup rfl ?_))
          refine ⟨by omega, ?_⟩
          intro m2 hm2 r hr
          obtain rfl : m2 = m + 1 := by omega
          rw [List.take_of_length_le (by simp)] at hr
          subst hr
          (repeat(first|refine sb ?_|refine gOn rfl ?_|refine gOff rfl rfl ?_|refine gTup rfl ?_))
          refine st_abs (cs' := [str w, str (l.drop (m + 1))]) rfl rfl hk1 hlt1 rfl rfl fun s2 e2 c2 n2 => ?_
          (repeat(first|refine sb ?_|refine gOn rfl ?_|refine gOff rfl rfl ?_|refine gTup rfl ?_))
          (repeat (first | with_reducible refine sqRet ?_ | with_reducible refine bkRet ?_ | with_reducible refine hdRet ?_))
          exact ret_cell agg_Rf sz_Rf rfl e2 agg2 rfl ⟨rfl, cc1.fresh c2 (by simp)⟩
      ·have c64 : c.toNat ≠ 64 := byte_ne h64
       obtain rfl : q = true := by rw [hq]; simp; omega
       rw [parse_no (h5 fun d hd => by rw [hc] at hd; cases hd; exact h64)]
       (repeat(first|refine sb ?_|refine gOn rfl ?_|refine gOff rfl rfl ?_|refine gTup rfl ?_))
       refine st_abs (cs' := [str [], str []]) rfl rfl hk hlt0 rfl rfl fun s2 e2 c2 n2 => ?_
       (repeat(first|refine sb ?_|refine gOn rfl ?_|refine gOff rfl rfl ?_|refine gTup rfl ?_))
       (repeat (first | with_reducible refine sqRet ?_ | with_reducible refine bkRet ?_ | with_reducible refine hdRet ?_))
       exact ret_cell agg_Rf sz_Rf rfl e2 agg2 rfl ⟨rfl, c0.fresh c2 (by simp)⟩
     ·obtain rfl : q = true := by rw [hq]; simp <;> omega
      rw [parse_no (h5 fun d hd => absurd (lt_of_get hd) hlt)]
      (repeat(first|refine sb ?_|refine gOn rfl ?_|refine gOff rfl rfl ?_|refine gTup rfl ?_))
      refine st_abs (cs' := [str [], str []]) rfl rfl hk hlt0 rfl rfl fun s2 e2 c2 n2 => ?_
      (repeat(first|refine sb ?_|refine gOn rfl ?_|refine gOff rfl rfl ?_|refine gTup rfl ?_))
      (repeat (first | with_reducible refine sqRet ?_ | with_reducible refine bkRet ?_ | with_reducible refine hdRet ?_))
      exact ret_cell agg_Rf sz_Rf rfl e2 agg2 rfl ⟨rfl, c0.fresh c2 (by simp)⟩
   ·obtain rfl : q = true := by rw [hq]; simp; omega
    rw [parse_no (by rw [eP]; simp [he])]
    (repeat(first|refine sb ?_|refine gOn rfl ?_|refine gOff rfl rfl ?_|refine gTup rfl ?_))
    refine st_abs (cs' := [str [], str []]) rfl rfl hk hlt0 rfl rfl fun s2 e2 c2 n2 => ?_
    (repeat(first|refine sb ?_|refine gOn rfl ?_|refine gOff rfl rfl ?_|refine gTup rfl ?_))
    (repeat (first | with_reducible refine sqRet ?_ | with_reducible refine bkRet ?_ | with_reducible refine hdRet ?_))
    exact ret_cell agg_Rf sz_Rf rfl e2 agg2 rfl ⟨rfl, c0.fresh c2 (by simp)⟩
  ·have c34 : c.toNat ≠ 34 := byte_ne h34
   obtain rfl : q = false := by rw [hq]; simp; omega
   have hpf : partsF l = ((cutF 64 l).1, (cutF 64 l).2.1, (cutF 64 l).2.2 && dotF (cutF 64 l).1) := by unfold partsF; rw [if_neg fun q => h34 ((first_iff hc).1 q)]
   clear hc
   (repeat(first|refine sb ?_|refine gOn rfl ?_|refine gOff rfl rfl ?_|refine gTup rfl ?_))
   refine pLoop (MW.head good (fun i : Nat => l.length + 1 - i) (fun i => i ≤ l.length ∧ (64 : UInt8) ∉ l.take i) (fun i => [(0, str l), (2, .pointer (some ⟨s.next, 0, none⟩)), (5, .int .i64 i)]) (fun i => { s with heap := (s.next, some (.cells [str [], str []] tRf false false)) :: s.heap, next := s.next + 1 }) 0 ⟨Nat.zero_le _, by simp⟩ (Wk.same ⟨rfl, rfl, rfl, trivial⟩) ?_)
   intro i ⟨h1, h2⟩
   (repeat(first|refine sb ?_|refine gOn rfl ?_|refine gOff rfl rfl ?_|refine gTup rfl ?_))
   intro n1 hn1
   (repeat(first|refine sb ?_|refine gOn rfl ?_|refine gOff rfl rfl ?_|refine gTup rfl ?_))
   intro q hq
   by_cases hlt : i < l.length
   ·obtain rfl : q = true := by rw [hq]; simp <;> omega
    obtain ⟨c, hc⟩ : ∃ c, l[i]? = some c := ⟨_, List.getElem?_eq_getElem hlt⟩
    (repeat(first|refine sb ?_|refine gOn rfl ?_|refine gOff rfl rfl ?_|refine gTup rfl ?_))
    refine ⟨by omega, ?_⟩
    intro m hm
    obtain rfl : m = i := by omega
    refine ⟨c, hc, ?_⟩
    (repeat(first|refine sb ?_|refine gOn rfl ?_|refine gOff rfl rfl ?_|refine gTup rfl ?_))
    intro q hq
    by_cases h64 : c = 64
    ·obtain rfl : q = false := by rw [hq, h64]; rfl
     have hcut : cutF 64 l = (l.take m, l.drop (m + 1), true) := by
      have e : l = l.take m ++ 64 :: l.drop (m + 1) := by
       conv => lhs; rw [← List.take_append_drop m l, drop_next hc, h64]
      have e1 : l.takeWhile (· != 64) = l.take m := by
       conv => lhs; rw [e]
       exact while_first h2
      unfold cutF
      rw [if_pos (by rw [← h64]; exact List.mem_of_getElem? hc), e1, List.length_take, Nat.min_eq_left (by omega)]
     rw [hcut] at hpf
     have hww : (l.take m).length ≤ l.length := by rw [List.length_take]; omega
     (repeat(first|refine sb ?_|refine gOn rfl ?_|refine gOff rfl rfl ?_|refine gTup rfl ?_))
     refine ⟨by omega, ?_⟩
     intro m1 hm1 w hw0
     obtain rfl : m1 = m := by omega
     rw [List.drop_zero, Nat.sub_zero] at hw0
     rw [← hw0] at hpf hww
     clear hw0
     (repeat(first|refine sb ?_|refine gOn rfl ?_|refine gOff rfl rfl ?_|refine gTup rfl ?_))
     refine (rdotatom_w (by omega)).mono fun v s2 q => ?_
     obtain ⟨rfl, rfl⟩ := q
     cases hdot : dotF w with
     | true =>
      have hP : partsF l = (w, l.drop (m1 + 1), true) := by rw [hpf, hdot]; rfl
      (repeat(first|refine sb ?_|refine gOn rfl ?_|refine gOff rfl rfl ?_|refine gTup rfl ?_))
      intro q hq; obtain rfl : q = false := (by rw [hq]; simp <;> omega); (repeat(first|refine sb ?_|refine gOn rfl ?_|refine gOff rfl rfl ?_|refine gTup rfl ?_))
      intro n3 hn3
      (repeat(first|refine sb ?_|refine gOn rfl ?_|refine gOff rfl rfl ?_|refine gTup rfl ?_))
      intro q hq; obtain rfl : q = false := (by rw [hq]; simp <;> omega); (repeat(first|refine sb ?_|refine gOn rfl ?_|refine gOff rfl rfl ?_|refine gTup rfl ?_))
      refine ⟨by omega, ?_⟩
      intro m hm
      obtain rfl : m = m1 := by omega
      refine ⟨c, hc, ?_⟩
      (repeat(first|refine sb ?_|refine gOn rfl ?_|refine gOff rfl rfl ?_|refine gTup rfl ?_))
      intro q hq
      obtain rfl : q = false := by rw [hq, h64]; rfl
      have eF : parseF l = if domF (l.drop (m + 1)) ≠ 0 then ([], [], domF (l.drop (m + 1))) else if 64 < w.length then ([], [], 3) else (w, l.drop (m + 1), 0) := by
       unfold parseF
       rw [hP, if_neg (by simp)]
      rw [eF]
      (repeat(first|refine sb ?_|refine gOn rfl ?_|refine gOff rfl rfl ?_|refine gTup rfl ?_))
      intro z hz
      rw [i64_id (by omega)] at hz
      (repeat(first|refine sb ?_|refine gOn rfl ?_|refine gOff rfl rfl ?_|refine gTup rfl ?_))
      refine ⟨by omega, ?_⟩
      intro m2 hm2 r hr
      obtain rfl : m2 = m + 1 := by omega
      rw [List.take_of_length_le (by simp)] at hr
      subst hr
      have hdl : (l.drop (m + 1)).length ≤ 1000000 := by rw [List.length_drop]; omega
      (repeat(first|refine sb ?_|refine gOn rfl ?_|refine gOff rfl rfl ?_|refine gTup rfl ?_))
      refine (rdomain_w hdl).mono fun v s1 q => ?_
      obtain ⟨rfl, c1⟩ := q
      have hk1 := c1.blk _ _ hlt0 (by simp) hk
      have hlt1 : s.next < s1.next := Nat.lt_of_lt_of_le hlt0 c1.next
      have cc1 : Chg s s1 [] := c0.nil c1
      have hv := dom_vals (l.drop (m + 1))
      (repeat(first|refine sb ?_|refine gOn rfl ?_|refine gOff rfl rfl ?_|refine gTup rfl ?_))
      intro q hq
      by_cases d5 : domF (l.drop (m + 1)) = 5
      ·obtain rfl : q = true := by rw [hq, d5]; rfl
       rw [if_pos (by omega), d5]
       (repeat(first|refine sb ?_|refine gOn rfl ?_|refine gOff rfl rfl ?_|refine gTup rfl ?_))
       refine st_abs (cs' := [str [], str []]) rfl rfl hk1 hlt1 rfl rfl fun s2 e2 c2 n2 => ?_
       (repeat(first|refine sb ?_|refine gOn rfl ?_|refine gOff rfl rfl ?_|refine gTup rfl ?_))
       (repeat (first | with_reducible refine sqRet ?_ | with_reducible refine bkRet ?_ | with_reducible refine hdRet ?_))
       exact ret_cell agg_Rf sz_Rf rfl e2 agg2 rfl ⟨rfl, cc1.fresh c2 (by simp)⟩
      ·obtain rfl : q = false := by rw [hq]; simp; omega
       (repeat(first|refine sb ?_|refine gOn rfl ?_|refine gOff rfl rfl ?_|refine gTup rfl ?_))
       intro q hq
       by_cases d3 : domF (l.drop (m + 1)) = 3
       ·obtain rfl : q = true := by rw [hq, d3]; rfl
        rw [if_pos (by omega), d3]
        (repeat(first|refine sb ?_|refine gOn rfl ?_|refine gOff rfl rfl ?_|refine gTup rfl ?_))
        refine st_abs (cs' := [str [], str []]) rfl rfl hk1 hlt1 rfl rfl fun s2 e2 c2 n2 => ?_
        (repeat(first|refine sb ?_|refine gOn rfl ?_|refine gOff rfl rfl ?_|refine gTup rfl ?_))
        (repeat (first | with_reducible refine sqRet ?_ | with_reducible refine bkRet ?_ | with_reducible refine hdRet ?_))
        exact ret_cell agg_Rf sz_Rf rfl e2 agg2 rfl ⟨rfl, cc1.fresh c2 (by simp)⟩
       ·obtain rfl : q = false := by rw [hq]; simp; omega
        rw [if_neg (by omega)]
        (repeat(first|refine sb ?_|refine gOn rfl ?_|refine gOff rfl rfl ?_|refine gTup rfl ?_))
        intro n2 hn2
        (repeat(first|refine sb ?_|refine gOn rfl ?_|refine gOff rfl rfl ?_|refine gTup rfl ?_))
        intro q hq
        by_cases hw : 64 < w.length
        ·obtain rfl : q = true := by rw [hq]; simp <;> omega
         rw [if_pos hw]
         (repeat(first|refine sb ?_|refine gOn rfl ?_|refine gOff rfl rfl ?_|refine gTup rfl ?_))
         refine st_abs (cs' := [str [], str []]) rfl rfl hk1 hlt1 rfl rfl fun s2 e2 c2 n2 => ?_
         (repeat(first|refine sb ?_|refine gOn rfl ?_|refine gOff rfl rfl ?_|refine gTup rfl ?_))
         (repeat (first | with_reducible refine sqRet ?_ | with_reducible refine bkRet ?_ | with_reducible refine hdRet ?_))
         exact ret_cell agg_Rf sz_Rf rfl e2 agg2 rfl ⟨rfl, cc1.fresh c2 (by simp)⟩
        ·obtain rfl : q = false := by rw [hq]; simp <;> omega
         rw [if_neg hw]
         (repeat(first|refine sb ?_|refine gOn rfl ?_|refine gOff rfl rfl ?_|refine gTup rfl ?_))
         intro z hz
         rw [i64_id (by omega)] at hz
         (repeat(first|refine sb ?_|refine gOn rfl ?_|refine gOff rfl rfl ?_|refine gTup rfl ?_))
         refine ⟨by omega, ?_⟩
         intro m2 hm2 r hr
         obtain rfl : m2 = m + 1 := by omega
         rw [List.take_of_length_le (by simp)] at hr
         subst hr
         (repeat(first|refine sb ?_|refine gOn rfl ?_|refine gOff rfl rfl ?_|refine gTup rfl ?_))
         refine st_abs (cs' := [str w, str (l.drop (m + 1))]) rfl rfl hk1 hlt1 rfl rfl fun s2 e2 c2 n2 => ?_
         (repeat(first|refine sb ?_|refine gOn rfl ?_|refine gOff rfl rfl ?_|refine gTup rfl ?_))
         (repeat (first | with_reducible refine sqRet ?_ | with_reducible refine bkRet ?_ | with_reducible refine hdRet ?_))
         exact ret_cell agg_Rf sz_Rf rfl e2 agg2 rfl ⟨rfl, cc1.fresh c2 (by simp)⟩
     | false =>
      rw [parse_no (by rw [hpf, hdot]; rfl)]
      (repeat(first|refine sb ?_|refine gOn rfl ?_|refine gOff rfl rfl ?_|refine gTup rfl ?_))
      intro q hq; obtain rfl : q = true := (by rw [hq]; simp <;> omega); (repeat(first|refine sb ?_|refine gOn rfl ?_|refine gOff rfl rfl ?_|refine gTup rfl ?_))
      refine st_abs (cs' := [str [], str []]) rfl rfl hk hlt0 rfl rfl fun s2 e2 c2 n2 => ?_
      (repeat(first|refine sb ?_|refine gOn rfl ?_|refine gOff rfl rfl ?_|refine gTup rfl ?_))
      (repeat (first | with_reducible refine sqRet ?_ | with_reducible refine bkRet ?_ | with_reducible refine hdRet ?_))
      exact ret_cell agg_Rf sz_Rf rfl e2 agg2 rfl ⟨rfl, c0.fresh c2 (by simp)⟩
    ·have c64 : c.toNat ≠ 64 := byte_ne h64
     obtain rfl : q = true := by rw [hq]; simp; omega
     (repeat(first|refine sb ?_|refine gOn rfl ?_|refine gOff rfl rfl ?_|refine gTup rfl ?_))
     intro z hz
     rw [i64_id (by omega)] at hz
     obtain rfl : z = ((m + 1 : Nat) : Int) := by omega
     (repeat(first|refine sb ?_|refine gOn rfl ?_|refine gOff rfl rfl ?_|refine gTup rfl ?_))
     exact ⟨m + 1, ⟨hlt, by rw [take_next hc]; simp only [List.mem_append, List.mem_singleton, not_or]; exact ⟨h2, fun e => h64 e.symm⟩⟩, by show l.length + 1 - (m + 1) < l.length + 1 - m; omega, Wk.same ⟨rfl, rfl, rfl, trivial⟩⟩
   ·obtain rfl : q = false := by rw [hq]; simp <;> omega
    rw [List.take_of_length_le (by omega)] at h2
    have hcut : cutF 64 l = (l, [], false) := by unfold cutF; rw [if_neg h2]
    rw [parse_no (by rw [hpf, hcut]; rfl)]
    (repeat(first|refine sb ?_|refine gOn rfl ?_|refine gOff rfl rfl ?_|refine gTup rfl ?_))
    refine ⟨by omega, ?_⟩
    intro m1 hm1 w hw0
    have ew : w.length ≤ l.length := by rw [hw0]; simp; omega
    clear hw0
    (repeat(first|refine sb ?_|refine gOn rfl ?_|refine gOff rfl rfl ?_|refine gTup rfl ?_))
    refine (rdotatom_w (by omega)).mono fun v s2 q => ?_
    obtain ⟨rfl, rfl⟩ := q
    cases hdot : dotF w with
    | true =>
     (repeat(first|refine sb ?_|refine gOn rfl ?_|refine gOff rfl rfl ?_|refine gTup rfl ?_))
     intro q hq; obtain rfl : q = false := (by rw [hq]; simp <;> omega); (repeat(first|refine sb ?_|refine gOn rfl ?_|refine gOff rfl rfl ?_|refine gTup rfl ?_))
     intro n3 hn3
     (repeat(first|refine sb ?_|refine gOn rfl ?_|refine gOff rfl rfl ?_|refine gTup rfl ?_))
     intro q hq; obtain rfl : q = true := (by rw [hq]; simp <;> omega); (repeat(first|refine sb ?_|refine gOn rfl ?_|refine gOff rfl rfl ?_|refine gTup rfl ?_))
     refine st_abs (cs' := [str [], str []]) rfl rfl hk hlt0 rfl rfl fun s2 e2 c2 n2 => ?_
     (repeat(first|refine sb ?_|refine gOn rfl ?_|refine gOff rfl rfl ?_|refine gTup rfl ?_))
     (repeat (first | with_reducible refine sqRet ?_ | with_reducible refine bkRet ?_ | with_reducible refine hdRet ?_))
     exact ret_cell agg_Rf sz_Rf rfl e2 agg2 rfl ⟨rfl, c0.fresh c2 (by simp)⟩
    | false =>
     (repeat(first|refine sb ?_|refine gOn rfl ?_|refine gOff rfl rfl ?_|refine gTup rfl ?_))
     intro q hq; obtain rfl : q = true := (by rw [hq]; simp <;> omega); (repeat(first|refine sb ?_|refine gOn rfl ?_|refine gOff rfl rfl ?_|refine gTup rfl ?_))
     refine st_abs (cs' := [str [], str []]) rfl rfl hk hlt0 rfl rfl fun s2 e2 c2 n2 => ?_
     (repeat(first|refine sb ?_|refine gOn rfl ?_|refine gOff rfl rfl ?_|refine gTup rfl ?_))
     (repeat (first | with_reducible refine sqRet ?_ | with_reducible refine bkRet ?_ | with_reducible refine hdRet ?_))
     exact ret_cell agg_Rf sz_Rf rfl e2 agg2 rfl ⟨rfl, c0.fresh c2 (by simp)⟩
 ·obtain rfl : q = false := by rw [hq]; simp <;> omega
  have hnil : l = [] := List.length_eq_zero_iff.1 (by omega)
  subst hnil
  rw [parse_no (show (partsF []).2.2 = false by decide +kernel)]
  (repeat(first|refine sb ?_|refine gOn rfl ?_|refine gOff rfl rfl ?_|refine gTup rfl ?_))
  refine pLoop (MW.head good (fun i : Nat => 0) (fun i => True) (fun i => [(0, str []), (2, .pointer (some ⟨s.next, 0, none⟩)), (5, .int .i64 0)]) (fun i => { s with heap := (s.next, some (.cells [str [], str []] tRf false false)) :: s.heap, next := s.next + 1 }) 0 trivial (Wk.same ⟨rfl, rfl, rfl, trivial⟩) ?_)
  intro i h1
  (repeat(first|refine sb ?_|refine gOn rfl ?_|refine gOff rfl rfl ?_|refine gTup rfl ?_))
  intro n1 hn1
  (repeat(first|refine sb ?_|refine gOn rfl ?_|refine gOff rfl rfl ?_|refine gTup rfl ?_))
  intro q hq
  obtain rfl : q = false := by rw [hq, hn1]; rfl
  (repeat(first|refine sb ?_|refine gOn rfl ?_|refine gOff rfl rfl ?_|refine gTup rfl ?_))
  refine ⟨by simp, ?_⟩
  intro m hm t ht
  obtain rfl : t = [] := by rw [ht]; simp
  (repeat(first|refine sb ?_|refine gOn rfl ?_|refine gOff rfl rfl ?_|refine gTup rfl ?_))
  refine (rdotatom_w (by simp)).mono fun v s2 q => ?_
  obtain ⟨rfl, rfl⟩ := q
  rw [show dotF [] = false by decide +kernel]
  (repeat(first|refine sb ?_|refine gOn rfl ?_|refine gOff rfl rfl ?_|refine gTup rfl ?_))
  intro q hq; obtain rfl : q = true := (by rw [hq]; simp <;> omega); (repeat(first|refine sb ?_|refine gOn rfl ?_|refine gOff rfl rfl ?_|refine gTup rfl ?_))
  refine st_abs (cs' := [str [], str []]) rfl rfl hk hlt0 rfl rfl fun s2 e2 c2 n2 => ?_
  (repeat(first|refine sb ?_|refine gOn rfl ?_|refine gOff rfl rfl ?_|refine gTup rfl ?_))
  (repeat (first | with_reducible refine sqRet ?_ | with_reducible refine bkRet ?_ | with_reducible refine hdRet ?_))
  exact ret_cell agg_Rf sz_Rf rfl e2 agg2 rfl ⟨rfl, c0.fresh c2 (by simp)⟩
end Go.Vf.S
end

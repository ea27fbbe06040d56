import Derived.Test.YtgdkekacalmjoaaDoorBnB
/- Whether a domain is a literal: the document's. -/
namespace Go.Vf.S
open Go Go.Vf
attribute [local irreducible] wSeq wRow wp wG
set_option linter.unusedVariables false
set_option linter.unusedSimpArgs false
set_option maxRecDepth 10000

set_option maxHeartbeats 1000000 in
theorem rliteral_w {s : SS} {l : List UInt8} (hl : l.length ≤ 1000000) : CallW pr n_ref05_literal [str l] s fun v s' => v = .bool (litF l) ∧ Chg s s' [] := by
  refine CallW.run good ok_ref05_literal (by simp) rfl ?_
  (repeat(first|refine pSeq ?_|refine pReg ?_|refine sCons ?_|refine sNil ?_|refine pBlock ?_|refine pSkip ?_|refine pExit ?_|refine pRet ?_|refine pCond ?_|refine gNone ?_|refine gOn rfl ?_|refine gOff rfl rfl ?_|refine gTup rfl ?_))
  intro n hn
  (repeat(first|refine pSeq ?_|refine pReg ?_|refine sCons ?_|refine sNil ?_|refine pBlock ?_|refine pSkip ?_|refine pExit ?_|refine pRet ?_|refine pCond ?_|refine gNone ?_|refine gOn rfl ?_|refine gOff rfl rfl ?_|refine gTup rfl ?_))
  intro q hq
  by_cases h2 : l.length < 2
  · obtain rfl : q = true := by rw [hq]; simp <;> omega
    (repeat(first|refine pSeq ?_|refine pReg ?_|refine sCons ?_|refine sNil ?_|refine pBlock ?_|refine pSkip ?_|refine pExit ?_|refine pRet ?_|refine pCond ?_|refine gNone ?_|refine gOn rfl ?_|refine gOff rfl rfl ?_|refine gTup rfl ?_))
    rw [lit_short h2]
    exact ⟨rfl, .refl _ _⟩
  · obtain rfl : q = false := by rw [hq]; simp <;> omega
    obtain ⟨c, hc⟩ : ∃ c, l[0]? = some c := ⟨_, List.getElem?_eq_getElem (by omega)⟩
    obtain ⟨d, hd⟩ : ∃ d, l[l.length - 1]? = some d := ⟨_, List.getElem?_eq_getElem (by omega)⟩
    (repeat(first|refine pSeq ?_|refine pReg ?_|refine sCons ?_|refine sNil ?_|refine pBlock ?_|refine pSkip ?_|refine pExit ?_|refine pRet ?_|refine pCond ?_|refine gNone ?_|refine gOn rfl ?_|refine gOff rfl rfl ?_|refine gTup rfl ?_))
    refine ⟨by omega, ?_⟩
    intro m hm
    obtain rfl : m = 0 := by omega
    refine ⟨c, hc, ?_⟩
    (repeat(first|refine pSeq ?_|refine pReg ?_|refine sCons ?_|refine sNil ?_|refine pBlock ?_|refine pSkip ?_|refine pExit ?_|refine pRet ?_|refine pCond ?_|refine gNone ?_|refine gOn rfl ?_|refine gOff rfl rfl ?_|refine gTup rfl ?_))
    intro q hq
    by_cases hc91 : c = 91
    · obtain rfl : q = false := by rw [hq, hc91]; rfl
      (repeat(first|refine pSeq ?_|refine pReg ?_|refine sCons ?_|refine sNil ?_|refine pBlock ?_|refine pSkip ?_|refine pExit ?_|refine pRet ?_|refine pCond ?_|refine gNone ?_|refine gOn rfl ?_|refine gOff rfl rfl ?_|refine gTup rfl ?_))
      intro n hn
      (repeat(first|refine pSeq ?_|refine pReg ?_|refine sCons ?_|refine sNil ?_|refine pBlock ?_|refine pSkip ?_|refine pExit ?_|refine pRet ?_|refine pCond ?_|refine gNone ?_|refine gOn rfl ?_|refine gOff rfl rfl ?_|refine gTup rfl ?_))
      intro z hz
      rw [i64_id (by omega)] at hz
      (repeat(first|refine pSeq ?_|refine pReg ?_|refine sCons ?_|refine sNil ?_|refine pBlock ?_|refine pSkip ?_|refine pExit ?_|refine pRet ?_|refine pCond ?_|refine gNone ?_|refine gOn rfl ?_|refine gOff rfl rfl ?_|refine gTup rfl ?_))
      refine ⟨by omega, ?_⟩
      intro m hm
      obtain rfl : m = l.length - 1 := by omega
      refine ⟨d, hd, ?_⟩
      (repeat(first|refine pSeq ?_|refine pReg ?_|refine sCons ?_|refine sNil ?_|refine pBlock ?_|refine pSkip ?_|refine pExit ?_|refine pRet ?_|refine pCond ?_|refine gNone ?_|refine gOn rfl ?_|refine gOff rfl rfl ?_|refine gTup rfl ?_))
      intro q hq
      by_cases hd93 : d = 93
      · obtain rfl : q = false := by rw [hq, hd93]; rfl
        rw [lit_is (by omega) hc hc91 hd hd93]
        (repeat(first|refine pSeq ?_|refine pReg ?_|refine sCons ?_|refine sNil ?_|refine pBlock ?_|refine pSkip ?_|refine pExit ?_|refine pRet ?_|refine pCond ?_|refine gNone ?_|refine gOn rfl ?_|refine gOff rfl rfl ?_|refine gTup rfl ?_))
        intro n hn
        (repeat(first|refine pSeq ?_|refine pReg ?_|refine sCons ?_|refine sNil ?_|refine pBlock ?_|refine pSkip ?_|refine pExit ?_|refine pRet ?_|refine pCond ?_|refine gNone ?_|refine gOn rfl ?_|refine gOff rfl rfl ?_|refine gTup rfl ?_))
        intro z hz
        rw [i64_id (by omega)] at hz
        (repeat(first|refine pSeq ?_|refine pReg ?_|refine sCons ?_|refine sNil ?_|refine pBlock ?_|refine pSkip ?_|refine pExit ?_|refine pRet ?_|refine pCond ?_|refine gNone ?_|refine gOn rfl ?_|refine gOff rfl rfl ?_|refine gTup rfl ?_))
        refine ⟨by omega, ?_⟩
        intro m hm
        obtain rfl : m = l.length - 1 := by omega
        refine ⟨by omega, ?_⟩
        intro m2 hm2 r hr
        obtain rfl : m2 = 1 := by omega
        have er : r = inner l := by rw [hr]; unfold inner; rw [Nat.sub_sub]
        clear hr
        subst er
        have hil : (inner l).length ≤ 1000000 := by unfold inner; simp; omega
        generalize inner l = m at *
        (repeat(first|refine pSeq ?_|refine pReg ?_|refine sCons ?_|refine sNil ?_|refine pBlock ?_|refine pSkip ?_|refine pExit ?_|refine pRet ?_|refine pCond ?_|refine gNone ?_|refine gOn rfl ?_|refine gOff rfl rfl ?_|refine gTup rfl ?_))
        refine (rsplit_w (c := 46) hil).mono fun v s1 q => ?_
        obtain ⟨base, cap, rfl, h1, c1, hB⟩ := q
        generalize hls : splitF 46 m = ls at *
        (repeat(first|refine pSeq ?_|refine pReg ?_|refine sCons ?_|refine sNil ?_|refine pBlock ?_|refine pSkip ?_|refine pExit ?_|refine pRet ?_|refine pCond ?_|refine gNone ?_|refine gOn rfl ?_|refine gOff rfl rfl ?_|refine gTup rfl ?_))
        intro q hq
        by_cases h4 : ls.length = 4
        · obtain rfl : q = false := by rw [hq, h4]; rfl
          rw [h4]
          obtain ⟨b, rfl, cs, t, g, r, e2, e3⟩ := h1.at
          (repeat(first|refine pSeq ?_|refine pReg ?_|refine sCons ?_|refine sNil ?_|refine pBlock ?_|refine pSkip ?_|refine pExit ?_|refine pRet ?_|refine pCond ?_|refine gNone ?_|refine gOn rfl ?_|refine gOff rfl rfl ?_|refine gTup rfl ?_))
          refine pLoop (MW.head good (fun i : Nat => 4 - i) (fun i => i ≤ 4 ∧ (ls.take i).all octF = true) (fun i => [(3, .slice (some ⟨b, 0, none⟩) 4 cap), (4, .int .i64 i)]) (fun i => s1) 0 ⟨Nat.zero_le _, rfl⟩ (Wk.same ⟨rfl, rfl, trivial⟩) ?_)
          intro i ⟨hi, hall⟩
          (repeat(first|refine pSeq ?_|refine pReg ?_|refine sCons ?_|refine sNil ?_|refine pBlock ?_|refine pSkip ?_|refine pExit ?_|refine pRet ?_|refine pCond ?_|refine gNone ?_|refine gOn rfl ?_|refine gOff rfl rfl ?_|refine gTup rfl ?_))
          intro q hq
          by_cases hlt : i < 4
          · obtain rfl : q = true := by rw [hq]; simp <;> omega
            obtain ⟨x, hx⟩ : ∃ x, ls[i]? = some x := ⟨_, List.getElem?_eq_getElem (by omega)⟩
            have hxl : x.length ≤ m.length := part_len (by rw [hls]; exact List.mem_of_getElem? hx)
            have no : octF x = false → ls.all octF = false := fun h => all_no' hx h
            (repeat(first|refine pSeq ?_|refine pReg ?_|refine sCons ?_|refine sNil ?_|refine pBlock ?_|refine pSkip ?_|refine pExit ?_|refine pRet ?_|refine pCond ?_|refine gNone ?_|refine gOn rfl ?_|refine gOff rfl rfl ?_|refine gTup rfl ?_))
            refine ⟨by omega, ?_⟩
            intro j hj o ho
            obtain rfl : j = i := by omega
            have hcell := e3 j x hx
            (repeat(first|refine pSeq ?_|refine pReg ?_|refine sCons ?_|refine sNil ?_|refine pBlock ?_|refine pSkip ?_|refine pExit ?_|refine pRet ?_|refine pCond ?_|refine gNone ?_|refine gOn rfl ?_|refine gOff rfl rfl ?_|refine gTup rfl ?_))
            refine ldS_is rfl e2 (by rw [ho, Nat.zero_add, Nat.mul_one]; exact hcell) ?_
            (repeat(first|refine pSeq ?_|refine pReg ?_|refine sCons ?_|refine sNil ?_|refine pBlock ?_|refine pSkip ?_|refine pExit ?_|refine pRet ?_|refine pCond ?_|refine gNone ?_|refine gOn rfl ?_|refine gOff rfl rfl ?_|refine gTup rfl ?_))
            refine (rnumber_w (d := 3) (by omega)).mono fun v s2 q => ?_
            obtain ⟨rfl, rfl⟩ := q
            have hne := num_ne (x := x) (d := 3)
            have oY := oct_ok (x := x)
            have oN := oct_no (x := x)
            generalize hN : numberF x 3 = N at *
            obtain ⟨a, e⟩ := N
            dsimp only [nRes] at *
            have nxt : octF x = true → (j + 1 ≤ 4 ∧ (ls.take (j + 1)).all octF = true) := fun h => ⟨hlt, by rw [take_next hx]; simp [hall, h]⟩
            (repeat(first|refine pSeq ?_|refine pReg ?_|refine sCons ?_|refine sNil ?_|refine pBlock ?_|refine pSkip ?_|refine pExit ?_|refine pRet ?_|refine pCond ?_|refine gNone ?_|refine gOn rfl ?_|refine gOff rfl rfl ?_|refine gTup rfl ?_))
            intro q hq
            by_cases he : e = 0
            · subst he
              obtain rfl : q = false := by rw [hq]; rfl
              have hne := hne rfl
              (repeat(first|refine pSeq ?_|refine pReg ?_|refine sCons ?_|refine sNil ?_|refine pBlock ?_|refine pSkip ?_|refine pExit ?_|refine pRet ?_|refine pCond ?_|refine gNone ?_|refine gOn rfl ?_|refine gOff rfl rfl ?_|refine gTup rfl ?_))
              intro q hq
              by_cases ha : a ≤ 255
              · obtain rfl : q = false := by rw [hq]; simp <;> omega
                (repeat(first|refine pSeq ?_|refine pReg ?_|refine sCons ?_|refine sNil ?_|refine pBlock ?_|refine pSkip ?_|refine pExit ?_|refine pRet ?_|refine pCond ?_|refine gNone ?_|refine gOn rfl ?_|refine gOff rfl rfl ?_|refine gTup rfl ?_))
                refine ⟨by omega, ?_⟩
                intro j2 hj2 o2 ho2
                obtain rfl : j2 = j := by omega
                (repeat(first|refine pSeq ?_|refine pReg ?_|refine sCons ?_|refine sNil ?_|refine pBlock ?_|refine pSkip ?_|refine pExit ?_|refine pRet ?_|refine pCond ?_|refine gNone ?_|refine gOn rfl ?_|refine gOff rfl rfl ?_|refine gTup rfl ?_))
                refine ldS_is rfl e2 (by rw [ho2, Nat.zero_add, Nat.mul_one]; exact hcell) ?_
                (repeat(first|refine pSeq ?_|refine pReg ?_|refine sCons ?_|refine sNil ?_|refine pBlock ?_|refine pSkip ?_|refine pExit ?_|refine pRet ?_|refine pCond ?_|refine gNone ?_|refine gOn rfl ?_|refine gOff rfl rfl ?_|refine gTup rfl ?_))
                intro n hn
                (repeat(first|refine pSeq ?_|refine pReg ?_|refine sCons ?_|refine sNil ?_|refine pBlock ?_|refine pSkip ?_|refine pExit ?_|refine pRet ?_|refine pCond ?_|refine gNone ?_|refine gOn rfl ?_|refine gOff rfl rfl ?_|refine gTup rfl ?_))
                intro q hq
                obtain ⟨f, hf⟩ : ∃ f, x[0]? = some f := ⟨_, List.getElem?_eq_getElem (by omega)⟩
                by_cases h1x : 1 < x.length
                · obtain rfl : q = true := by rw [hq]; simp <;> omega
                  (repeat(first|refine pSeq ?_|refine pReg ?_|refine sCons ?_|refine sNil ?_|refine pBlock ?_|refine pSkip ?_|refine pExit ?_|refine pRet ?_|refine pCond ?_|refine gNone ?_|refine gOn rfl ?_|refine gOff rfl rfl ?_|refine gTup rfl ?_))
                  refine ⟨by omega, ?_⟩
                  intro j3 hj3 o3 ho3
                  obtain rfl : j3 = j2 := by omega
                  (repeat(first|refine pSeq ?_|refine pReg ?_|refine sCons ?_|refine sNil ?_|refine pBlock ?_|refine pSkip ?_|refine pExit ?_|refine pRet ?_|refine pCond ?_|refine gNone ?_|refine gOn rfl ?_|refine gOff rfl rfl ?_|refine gTup rfl ?_))
                  refine ldS_is rfl e2 (by rw [ho3, Nat.zero_add, Nat.mul_one]; exact hcell) ?_
                  (repeat(first|refine pSeq ?_|refine pReg ?_|refine sCons ?_|refine sNil ?_|refine pBlock ?_|refine pSkip ?_|refine pExit ?_|refine pRet ?_|refine pCond ?_|refine gNone ?_|refine gOn rfl ?_|refine gOff rfl rfl ?_|refine gTup rfl ?_))
                  refine ⟨by omega, ?_⟩
                  intro k hk
                  obtain rfl : k = 0 := by omega
                  refine ⟨f, hf, ?_⟩
                  (repeat(first|refine pSeq ?_|refine pReg ?_|refine sCons ?_|refine sNil ?_|refine pBlock ?_|refine pSkip ?_|refine pExit ?_|refine pRet ?_|refine pCond ?_|refine gNone ?_|refine gOn rfl ?_|refine gOff rfl rfl ?_|refine gTup rfl ?_))
                  intro q hq
                  by_cases hf48 : f = 48
                  · obtain rfl : q = true := by rw [hq, hf48]; rfl
                    (repeat(first|refine pSeq ?_|refine pReg ?_|refine sCons ?_|refine sNil ?_|refine pBlock ?_|refine pSkip ?_|refine pExit ?_|refine pRet ?_|refine pCond ?_|refine gNone ?_|refine gOn rfl ?_|refine gOff rfl rfl ?_|refine gTup rfl ?_))
                    rw [no (oN ?_)]
                    · exact ⟨rfl, c1⟩
                    · rintro ⟨-, -, e | e⟩
                      · rw [e] at h1x; simp at h1x
                      · exact e (by rw [head_at hf, hf48])
                  · have := byte_ne hf48
                    have f48 : f.toNat ≠ 48 := this
                    obtain rfl : q = false := by rw [hq]; simp; omega
                    (repeat(first|refine pSeq ?_|refine pReg ?_|refine sCons ?_|refine sNil ?_|refine pBlock ?_|refine pSkip ?_|refine pExit ?_|refine pRet ?_|refine pCond ?_|refine gNone ?_|refine gOn rfl ?_|refine gOff rfl rfl ?_|refine gTup rfl ?_))
                    intro z hz
                    rw [i64_id (by omega)] at hz
                    obtain rfl : z = ((j3 + 1 : Nat) : Int) := by omega
                    (repeat(first|refine pSeq ?_|refine pReg ?_|refine sCons ?_|refine sNil ?_|refine pBlock ?_|refine pSkip ?_|refine pExit ?_|refine pRet ?_|refine pCond ?_|refine gNone ?_|refine gOn rfl ?_|refine gOff rfl rfl ?_|refine gTup rfl ?_))
                    exact ⟨j3 + 1, nxt (oY ⟨rfl, ha, .inr (by rw [head_at hf]; simpa using hf48)⟩), by show 4 - (j3 + 1) < 4 - j3; omega, Wk.same ⟨rfl, rfl, trivial⟩⟩
                · obtain rfl : q = false := by rw [hq]; simp <;> omega
                  (repeat(first|refine pSeq ?_|refine pReg ?_|refine sCons ?_|refine sNil ?_|refine pBlock ?_|refine pSkip ?_|refine pExit ?_|refine pRet ?_|refine pCond ?_|refine gNone ?_|refine gOn rfl ?_|refine gOff rfl rfl ?_|refine gTup rfl ?_))
                  intro z hz
                  rw [i64_id (by omega)] at hz
                  obtain rfl : z = ((j2 + 1 : Nat) : Int) := by omega
                  (repeat(first|refine pSeq ?_|refine pReg ?_|refine sCons ?_|refine sNil ?_|refine pBlock ?_|refine pSkip ?_|refine pExit ?_|refine pRet ?_|refine pCond ?_|refine gNone ?_|refine gOn rfl ?_|refine gOff rfl rfl ?_|refine gTup rfl ?_))
                  refine ⟨j2 + 1, nxt (oY ⟨rfl, ha, ?_⟩), by show 4 - (j2 + 1) < 4 - j2; omega, Wk.same ⟨rfl, rfl, trivial⟩⟩
                  have hx1 : x = [f] := by
                    match x, hf, h1x with
                    | [y], hf, _ => cases hf; rfl
                    | y :: z :: r, _, h => exact absurd (by simp) h
                  rw [hx1]
                  by_cases hf48 : f = 48
                  · exact .inl (by rw [hf48])
                  · exact .inr (by simpa using hf48)
              · obtain rfl : q = true := by rw [hq]; simp <;> omega
                (repeat(first|refine pSeq ?_|refine pReg ?_|refine sCons ?_|refine sNil ?_|refine pBlock ?_|refine pSkip ?_|refine pExit ?_|refine pRet ?_|refine pCond ?_|refine gNone ?_|refine gOn rfl ?_|refine gOff rfl rfl ?_|refine gTup rfl ?_))
                rw [no (oN fun h => ha h.2.1)]
                exact ⟨rfl, c1⟩
            · obtain rfl : q = true := by rw [hq]; simp; omega
              (repeat(first|refine pSeq ?_|refine pReg ?_|refine sCons ?_|refine sNil ?_|refine pBlock ?_|refine pSkip ?_|refine pExit ?_|refine pRet ?_|refine pCond ?_|refine gNone ?_|refine gOn rfl ?_|refine gOff rfl rfl ?_|refine gTup rfl ?_))
              rw [no (oN fun h => he h.1)]
              exact ⟨rfl, c1⟩
          · obtain rfl : q = false := by rw [hq]; simp <;> omega
            obtain rfl : i = 4 := by omega
            (repeat(first|refine pSeq ?_|refine pReg ?_|refine sCons ?_|refine sNil ?_|refine pBlock ?_|refine pSkip ?_|refine pExit ?_|refine pRet ?_|refine pCond ?_|refine gNone ?_|refine gOn rfl ?_|refine gOff rfl rfl ?_|refine gTup rfl ?_))
            rw [List.take_of_length_le (by omega)] at hall
            rw [hall]
            exact ⟨rfl, c1⟩
        · obtain rfl : q = true := by rw [hq]; simp; omega
          (repeat(first|refine pSeq ?_|refine pReg ?_|refine sCons ?_|refine sNil ?_|refine pBlock ?_|refine pSkip ?_|refine pExit ?_|refine pRet ?_|refine pCond ?_|refine gNone ?_|refine gOn rfl ?_|refine gOff rfl rfl ?_|refine gTup rfl ?_))
          refine ⟨bool_eq ?_, c1⟩
          rw [show (ls.length == 4) = false by simpa using h4, Bool.and_false]
      · have := byte_ne hd93
        have d93 : d.toNat ≠ 93 := this
        obtain rfl : q = true := by rw [hq]; simp; omega
        (repeat(first|refine pSeq ?_|refine pReg ?_|refine sCons ?_|refine sNil ?_|refine pBlock ?_|refine pSkip ?_|refine pExit ?_|refine pRet ?_|refine pCond ?_|refine gNone ?_|refine gOn rfl ?_|refine gOff rfl rfl ?_|refine gTup rfl ?_))
        rw [lit_last (by omega) hd hd93]
        exact ⟨rfl, .refl _ _⟩
    · have := byte_ne hc91
      have c91 : c.toNat ≠ 91 := this
      obtain rfl : q = true := by rw [hq]; simp; omega
      (repeat(first|refine pSeq ?_|refine pReg ?_|refine sCons ?_|refine sNil ?_|refine pBlock ?_|refine pSkip ?_|refine pExit ?_|refine pRet ?_|refine pCond ?_|refine gNone ?_|refine gOn rfl ?_|refine gOff rfl rfl ?_|refine gTup rfl ?_))
      rw [lit_first hc hc91]
      exact ⟨rfl, .refl _ _⟩
end Go.Vf.S

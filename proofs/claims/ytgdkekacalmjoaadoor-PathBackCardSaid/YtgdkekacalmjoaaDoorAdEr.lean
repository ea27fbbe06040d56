import Derived.Test.YtgdkekacalmjoaaDoorBnB
import Derived.Test.YtgdkekacalmjoaaDoorAdDr
/- What is wrong with a domain: the document's way through it. -/
namespace Go.Vf.S
open Go Go.Vf
attribute [local irreducible] wSeq wRow wp wG
set_option linter.unusedVariables false
set_option linter.unusedSimpArgs false
set_option maxRecDepth 10000

set_option maxHeartbeats 1000000 in
theorem rdomain_w {s : SS} {l : List UInt8} (hl : l.length ≤ 1000000) : CallW pr n_ref05_Domain [str l] s fun v s' => v = .int .i64 (domF l) ∧ Chg s s' [] := by
  refine CallW.run good ok_ref05_Domain (by simp) rfl ?_
  (repeat(first|refine pSeq ?_|refine pReg ?_|refine sCons ?_|refine sNil ?_|refine pBlock ?_|refine pSkip ?_|refine pExit ?_|refine pRet ?_|refine pCond ?_|refine gNone ?_|refine gOn rfl ?_|refine gOff rfl rfl ?_|refine gTup rfl ?_))
  intro n hn
  (repeat(first|refine pSeq ?_|refine pReg ?_|refine sCons ?_|refine sNil ?_|refine pBlock ?_|refine pSkip ?_|refine pExit ?_|refine pRet ?_|refine pCond ?_|refine gNone ?_|refine gOn rfl ?_|refine gOff rfl rfl ?_|refine gTup rfl ?_))
  intro q hq
  by_cases h0 : 0 < l.length
  · obtain rfl : q = true := by rw [hq]; simp; omega
    obtain ⟨c, hc⟩ : ∃ c, l[0]? = some c := ⟨_, List.getElem?_eq_getElem h0⟩
    (repeat(first|refine pSeq ?_|refine pReg ?_|refine sCons ?_|refine sNil ?_|refine pBlock ?_|refine pSkip ?_|refine pExit ?_|refine pRet ?_|refine pCond ?_|refine gNone ?_|refine gOn rfl ?_|refine gOff rfl rfl ?_|refine gTup rfl ?_))
    refine ⟨by omega, ?_⟩
    intro m hm
    obtain rfl : m = 0 := by omega
    refine ⟨c, hc, ?_⟩
    (repeat(first|refine pSeq ?_|refine pReg ?_|refine sCons ?_|refine sNil ?_|refine pBlock ?_|refine pSkip ?_|refine pExit ?_|refine pRet ?_|refine pCond ?_|refine gNone ?_|refine gOn rfl ?_|refine gOff rfl rfl ?_|refine gTup rfl ?_))
    intro q hq
    by_cases hc91 : c = 91
    · obtain rfl : q = true := by rw [hq, hc91]; rfl
      rw [dom_first hc hc91]
      (repeat(first|refine pSeq ?_|refine pReg ?_|refine sCons ?_|refine sNil ?_|refine pBlock ?_|refine pSkip ?_|refine pExit ?_|refine pRet ?_|refine pCond ?_|refine gNone ?_|refine gOn rfl ?_|refine gOff rfl rfl ?_|refine gTup rfl ?_))
      refine (rliteral_w hl).mono fun v s1 q => ?_
      obtain ⟨rfl, c1⟩ := q
      cases hli : litF l with
      | true =>
        (repeat(first|refine pSeq ?_|refine pReg ?_|refine sCons ?_|refine sNil ?_|refine pBlock ?_|refine pSkip ?_|refine pExit ?_|refine pRet ?_|refine pCond ?_|refine gNone ?_|refine gOn rfl ?_|refine gOff rfl rfl ?_|refine gTup rfl ?_))
        exact ⟨rfl, c1⟩
      | false =>
        (repeat(first|refine pSeq ?_|refine pReg ?_|refine sCons ?_|refine sNil ?_|refine pBlock ?_|refine pSkip ?_|refine pExit ?_|refine pRet ?_|refine pCond ?_|refine gNone ?_|refine gOn rfl ?_|refine gOff rfl rfl ?_|refine gTup rfl ?_))
        exact ⟨rfl, c1⟩
    · have c91 : c.toNat ≠ 91 := byte_ne hc91
      obtain rfl : q = false := by rw [hq]; simp; omega
      have hname : ∀ d, l[0]? = some d → d ≠ 91 := fun d hd => by rw [hc] at hd; cases hd; exact hc91
      (repeat(first|refine pSeq ?_|refine pReg ?_|refine sCons ?_|refine sNil ?_|refine pBlock ?_|refine pSkip ?_|refine pExit ?_|refine pRet ?_|refine pCond ?_|refine gNone ?_|refine gOn rfl ?_|refine gOff rfl rfl ?_|refine gTup rfl ?_))
      intro n1 hn1
      (repeat(first|refine pSeq ?_|refine pReg ?_|refine sCons ?_|refine sNil ?_|refine pBlock ?_|refine pSkip ?_|refine pExit ?_|refine pRet ?_|refine pCond ?_|refine gNone ?_|refine gOn rfl ?_|refine gOff rfl rfl ?_|refine gTup rfl ?_))
      intro big hbig
      have ebig : big = decide (255 < l.length) := by rw [hbig, decide_eq_decide]; omega
      (repeat(first|refine pSeq ?_|refine pReg ?_|refine sCons ?_|refine sNil ?_|refine pBlock ?_|refine pSkip ?_|refine pExit ?_|refine pRet ?_|refine pCond ?_|refine gNone ?_|refine gOn rfl ?_|refine gOff rfl rfl ?_|refine gTup rfl ?_))
      rw [dom_name hname]
      refine pLoop (MW.head good (fun x : DIt => l.length + 1 - x.i) (DAt l) (fun x => [(0, str l), (3, .bool x.long), (4, .int .i64 x.f), (5, .int .i64 x.i)]) (fun x => s) ⟨0, 0, [], big⟩ ⟨.inl ⟨Nat.zero_le _, rfl, Nat.le_refl _, by simp⟩, rfl, by rw [ebig]; simp⟩ (Wk.same ⟨rfl, rfl, rfl, rfl, trivial⟩) ?_)
      intro ⟨i, f, done, long⟩ ⟨h1, h5, h6⟩
      dsimp only at h1 h5 h6 ⊢
      have cs : Chg s s [] := .refl _ _
      (repeat(first|refine pSeq ?_|refine pReg ?_|refine sCons ?_|refine sNil ?_|refine pBlock ?_|refine pSkip ?_|refine pExit ?_|refine pRet ?_|refine pCond ?_|refine gNone ?_|refine gOn rfl ?_|refine gOff rfl rfl ?_|refine gTup rfl ?_))
      intro n2 hn2
      (repeat(first|refine pSeq ?_|refine pReg ?_|refine sCons ?_|refine sNil ?_|refine pBlock ?_|refine pSkip ?_|refine pExit ?_|refine pRet ?_|refine pCond ?_|refine gNone ?_|refine gOn rfl ?_|refine gOff rfl rfl ?_|refine gTup rfl ?_))
      intro q hq
      by_cases hle : i ≤ l.length
      · obtain ⟨_, h2, h3, h4⟩ : i ≤ l.length ∧ splitF 46 l = done ++ splitF 46 (l.drop f) ∧ f ≤ i ∧ ((l.drop f).take (i - f)).all labB = true := h1.elim id fun h => by omega
        have hno : (46 : UInt8) ∉ (l.drop f).take (i - f) := fun h => by
          rw [List.all_eq_true] at h4
          have := h4 46 h
          rw [lab_dot] at this
          cases this
        obtain ⟨st1, st2⟩ := sp_step h3 hle hno
        obtain rfl : q = true := by rw [hq]; simp; omega
        (repeat(first|refine pSeq ?_|refine pReg ?_|refine sCons ?_|refine sNil ?_|refine pBlock ?_|refine pSkip ?_|refine pExit ?_|refine pRet ?_|refine pCond ?_|refine gNone ?_|refine gOn rfl ?_|refine gOff rfl rfl ?_|refine gTup rfl ?_))
        intro n3 hn3
        (repeat(first|refine pSeq ?_|refine pReg ?_|refine sCons ?_|refine sNil ?_|refine pBlock ?_|refine pSkip ?_|refine pExit ?_|refine pRet ?_|refine pCond ?_|refine gNone ?_|refine gOn rfl ?_|refine gOff rfl rfl ?_|refine gTup rfl ?_))
        intro q hq
        by_cases hlt : i < l.length
        · obtain rfl : q = true := by rw [hq]; simp; omega
          obtain ⟨c, hc⟩ : ∃ c, l[i]? = some c := ⟨_, List.getElem?_eq_getElem hlt⟩
          (repeat(first|refine pSeq ?_|refine pReg ?_|refine sCons ?_|refine sNil ?_|refine pBlock ?_|refine pSkip ?_|refine pExit ?_|refine pRet ?_|refine pCond ?_|refine gNone ?_|refine gOn rfl ?_|refine gOff rfl rfl ?_|refine gTup rfl ?_))
          refine ⟨by omega, ?_⟩
          intro m hm
          obtain rfl : m = i := by omega
          refine ⟨c, hc, ?_⟩
          (repeat(first|refine pSeq ?_|refine pReg ?_|refine sCons ?_|refine sNil ?_|refine pBlock ?_|refine pSkip ?_|refine pExit ?_|refine pRet ?_|refine pCond ?_|refine gNone ?_|refine gOn rfl ?_|refine gOff rfl rfl ?_|refine gTup rfl ?_))
          intro q hq
          by_cases h46 : c = 46
          · obtain rfl : q = false := by rw [hq, h46]; rfl
            have e1 := st1 c hc h46
            rw [e1] at h2
            have bad : labelF ((l.drop f).take (m - f)) = false → (if (splitF 46 l).all labelF = true then (if longF l = true then 3 else 0) else 5) = 5 := fun h => by rw [h2, List.all_append, List.all_cons, h]; simp
            have nxt : (m + 1 ≤ l.length ∧ splitF 46 l = (done ++ [(l.drop f).take (m - f)]) ++ splitF 46 (l.drop (m + 1)) ∧ m + 1 ≤ m + 1 ∧ ((l.drop (m + 1)).take (m + 1 - (m + 1))).all labB = true) ∨ (m + 1 = l.length + 1 ∧ splitF 46 l = done ++ [(l.drop f).take (m - f)]) := .inl ⟨hlt, by rw [h2]; simp, Nat.le_refl _, by simp⟩
            clear hc e1 st1 st2
            generalize m = i at *
            (repeat(first|refine pSeq ?_|refine pReg ?_|refine sCons ?_|refine sNil ?_|refine pBlock ?_|refine pSkip ?_|refine pExit ?_|refine pRet ?_|refine pCond ?_|refine gNone ?_|refine gOn rfl ?_|refine gOff rfl rfl ?_|refine gTup rfl ?_))
            intro q hq
            have hgl : ((l.drop f).take (i - f)).length = i - f := by rw [List.length_take, List.length_drop]; omega
            by_cases hif : i = f
            · obtain rfl : q = true := by rw [hq]; simp; omega
              (repeat(first|refine pSeq ?_|refine pReg ?_|refine sCons ?_|refine sNil ?_|refine pBlock ?_|refine pSkip ?_|refine pExit ?_|refine pRet ?_|refine pCond ?_|refine gNone ?_|refine gOn rfl ?_|refine gOff rfl rfl ?_|refine gTup rfl ?_))
              rw [bad (by rw [hif, Nat.sub_self]; rfl)]
              exact ⟨rfl, cs⟩
            · obtain rfl : q = false := by rw [hq]; simp; omega
              obtain ⟨a, ha⟩ : ∃ a, l[f]? = some a := ⟨_, List.getElem?_eq_getElem (by omega)⟩
              obtain ⟨b, hb⟩ : ∃ b, l[i - 1]? = some b := ⟨_, List.getElem?_eq_getElem (by omega)⟩
              have ga : ((l.drop f).take (i - f))[0]? = some a := by rw [List.getElem?_take_of_lt (by omega), List.getElem?_drop]; exact ha
              have gb : ((l.drop f).take (i - f))[((l.drop f).take (i - f)).length - 1]? = some b := by rw [hgl, List.getElem?_take_of_lt (by omega), List.getElem?_drop, show f + (i - f - 1) = i - 1 by omega]; exact hb
              have hends := ends_is ga gb
              have hlab : labelF ((l.drop f).take (i - f)) = (decide (a ≠ 45) && decide (b ≠ 45)) := by unfold labelF; rw [h4, hends, Bool.true_and]
              (repeat(first|refine pSeq ?_|refine pReg ?_|refine sCons ?_|refine sNil ?_|refine pBlock ?_|refine pSkip ?_|refine pExit ?_|refine pRet ?_|refine pCond ?_|refine gNone ?_|refine gOn rfl ?_|refine gOff rfl rfl ?_|refine gTup rfl ?_))
              refine ⟨by omega, ?_⟩
              intro m hm
              obtain rfl : m = f := by omega
              refine ⟨a, ha, ?_⟩
              (repeat(first|refine pSeq ?_|refine pReg ?_|refine sCons ?_|refine sNil ?_|refine pBlock ?_|refine pSkip ?_|refine pExit ?_|refine pRet ?_|refine pCond ?_|refine gNone ?_|refine gOn rfl ?_|refine gOff rfl rfl ?_|refine gTup rfl ?_))
              intro q hq
              by_cases ha45 : a = 45
              · obtain rfl : q = true := by rw [hq, ha45]; rfl
                (repeat(first|refine pSeq ?_|refine pReg ?_|refine sCons ?_|refine sNil ?_|refine pBlock ?_|refine pSkip ?_|refine pExit ?_|refine pRet ?_|refine pCond ?_|refine gNone ?_|refine gOn rfl ?_|refine gOff rfl rfl ?_|refine gTup rfl ?_))
                rw [bad (by rw [hlab, ha45]; rfl)]
                exact ⟨rfl, cs⟩
              · have a45 : a.toNat ≠ 45 := byte_ne ha45
                obtain rfl : q = false := by rw [hq]; simp; omega
                (repeat(first|refine pSeq ?_|refine pReg ?_|refine sCons ?_|refine sNil ?_|refine pBlock ?_|refine pSkip ?_|refine pExit ?_|refine pRet ?_|refine pCond ?_|refine gNone ?_|refine gOn rfl ?_|refine gOff rfl rfl ?_|refine gTup rfl ?_))
                intro z hz
                rw [i64_id (by omega)] at hz
                (repeat(first|refine pSeq ?_|refine pReg ?_|refine sCons ?_|refine sNil ?_|refine pBlock ?_|refine pSkip ?_|refine pExit ?_|refine pRet ?_|refine pCond ?_|refine gNone ?_|refine gOn rfl ?_|refine gOff rfl rfl ?_|refine gTup rfl ?_))
                refine ⟨by omega, ?_⟩
                intro m2 hm2
                obtain rfl : m2 = i - 1 := by omega
                refine ⟨b, hb, ?_⟩
                (repeat(first|refine pSeq ?_|refine pReg ?_|refine sCons ?_|refine sNil ?_|refine pBlock ?_|refine pSkip ?_|refine pExit ?_|refine pRet ?_|refine pCond ?_|refine gNone ?_|refine gOn rfl ?_|refine gOff rfl rfl ?_|refine gTup rfl ?_))
                intro q hq
                by_cases hb45 : b = 45
                · obtain rfl : q = true := by rw [hq, hb45]; rfl
                  (repeat(first|refine pSeq ?_|refine pReg ?_|refine sCons ?_|refine sNil ?_|refine pBlock ?_|refine pSkip ?_|refine pExit ?_|refine pRet ?_|refine pCond ?_|refine gNone ?_|refine gOn rfl ?_|refine gOff rfl rfl ?_|refine gTup rfl ?_))
                  rw [bad (by rw [hlab, hb45]; simp)]
                  exact ⟨rfl, cs⟩
                · have b45 : b.toNat ≠ 45 := byte_ne hb45
                  obtain rfl : q = false := by rw [hq]; simp; omega
                  have hok : labelF ((l.drop m).take (i - m)) = true := by rw [hlab]; simp [ha45, hb45]
                  (repeat(first|refine pSeq ?_|refine pReg ?_|refine sCons ?_|refine sNil ?_|refine pBlock ?_|refine pSkip ?_|refine pExit ?_|refine pRet ?_|refine pCond ?_|refine gNone ?_|refine gOn rfl ?_|refine gOff rfl rfl ?_|refine gTup rfl ?_))
                  intro z2 hz2
                  rw [i64_id (by omega)] at hz2
                  (repeat(first|refine pSeq ?_|refine pReg ?_|refine sCons ?_|refine sNil ?_|refine pBlock ?_|refine pSkip ?_|refine pExit ?_|refine pRet ?_|refine pCond ?_|refine gNone ?_|refine gOn rfl ?_|refine gOff rfl rfl ?_|refine gTup rfl ?_))
                  intro q hq
                  by_cases h63 : 63 < i - m
                  · obtain rfl : q = true := by rw [hq]; simp; omega
                    (repeat(first|refine pSeq ?_|refine pReg ?_|refine sCons ?_|refine sNil ?_|refine pBlock ?_|refine pSkip ?_|refine pExit ?_|refine pRet ?_|refine pCond ?_|refine gNone ?_|refine gOn rfl ?_|refine gOff rfl rfl ?_|refine gTup rfl ?_))
                    intro z3 hz3
                    rw [i64_id (by omega)] at hz3
                    obtain rfl : z3 = ((i + 1 : Nat) : Int) := by omega
                    (repeat(first|refine pSeq ?_|refine pReg ?_|refine sCons ?_|refine sNil ?_|refine pBlock ?_|refine pSkip ?_|refine pExit ?_|refine pRet ?_|refine pCond ?_|refine gNone ?_|refine gOn rfl ?_|refine gOff rfl rfl ?_|refine gTup rfl ?_))
                    intro z4 hz4
                    rw [i64_id (by omega)] at hz4
                    obtain rfl : z4 = ((i + 1 : Nat) : Int) := by omega
                    (repeat(first|refine pSeq ?_|refine pReg ?_|refine sCons ?_|refine sNil ?_|refine pBlock ?_|refine pSkip ?_|refine pExit ?_|refine pRet ?_|refine pCond ?_|refine gNone ?_|refine gOn rfl ?_|refine gOff rfl rfl ?_|refine gTup rfl ?_))
                    exact ⟨⟨i + 1, i + 1, done ++ [(l.drop m).take (i - m)], true⟩, ⟨nxt, by rw [List.all_append, h5, Bool.true_and, List.all_cons, hok]; rfl, by rw [List.any_append, List.any_cons, hgl, decide_eq_true h63]; simp⟩, by show l.length + 1 - (i + 1) < l.length + 1 - i; omega, Wk.same ⟨rfl, rfl, rfl, rfl, trivial⟩⟩
                  · obtain rfl : q = false := by rw [hq]; simp; omega
                    (repeat(first|refine pSeq ?_|refine pReg ?_|refine sCons ?_|refine sNil ?_|refine pBlock ?_|refine pSkip ?_|refine pExit ?_|refine pRet ?_|refine pCond ?_|refine gNone ?_|refine gOn rfl ?_|refine gOff rfl rfl ?_|refine gTup rfl ?_))
                    intro z3 hz3
                    rw [i64_id (by omega)] at hz3
                    obtain rfl : z3 = ((i + 1 : Nat) : Int) := by omega
                    (repeat(first|refine pSeq ?_|refine pReg ?_|refine sCons ?_|refine sNil ?_|refine pBlock ?_|refine pSkip ?_|refine pExit ?_|refine pRet ?_|refine pCond ?_|refine gNone ?_|refine gOn rfl ?_|refine gOff rfl rfl ?_|refine gTup rfl ?_))
                    intro z4 hz4
                    rw [i64_id (by omega)] at hz4
                    obtain rfl : z4 = ((i + 1 : Nat) : Int) := by omega
                    (repeat(first|refine pSeq ?_|refine pReg ?_|refine sCons ?_|refine sNil ?_|refine pBlock ?_|refine pSkip ?_|refine pExit ?_|refine pRet ?_|refine pCond ?_|refine gNone ?_|refine gOn rfl ?_|refine gOff rfl rfl ?_|refine gTup rfl ?_))
                    exact ⟨⟨i + 1, i + 1, done ++ [(l.drop m).take (i - m)], long⟩, ⟨nxt, by rw [List.all_append, h5, Bool.true_and, List.all_cons, hok]; rfl, by rw [List.any_append, List.any_cons, hgl, decide_eq_false h63, h6]; simp⟩, by show l.length + 1 - (i + 1) < l.length + 1 - i; omega, Wk.same ⟨rfl, rfl, rfl, rfl, trivial⟩⟩
          · have c46 : c.toNat ≠ 46 := byte_ne h46
            obtain rfl : q = true := by rw [hq]; simp; omega
            (repeat(first|refine pSeq ?_|refine pReg ?_|refine sCons ?_|refine sNil ?_|refine pBlock ?_|refine pSkip ?_|refine pExit ?_|refine pRet ?_|refine pCond ?_|refine gNone ?_|refine gOn rfl ?_|refine gOff rfl rfl ?_|refine gTup rfl ?_))
            refine ⟨by omega, ?_⟩
            intro m2 hm2
            obtain rfl : m2 = m := by omega
            refine ⟨c, hc, ?_⟩
            (repeat(first|refine pSeq ?_|refine pReg ?_|refine sCons ?_|refine sNil ?_|refine pBlock ?_|refine pSkip ?_|refine pExit ?_|refine pRet ?_|refine pCond ?_|refine gNone ?_|refine gOn rfl ?_|refine gOff rfl rfl ?_|refine gTup rfl ?_))
            refine rletter_w.mono fun v s2 q => ?_
            obtain ⟨rfl, rfl⟩ := q
            have goon : labB c = true → DAt l ⟨m2 + 1, f, done, long⟩ := fun hlb => ⟨.inl ⟨hlt, h2, Nat.le_succ_of_le h3, by
              show ((l.drop f).take (m2 + 1 - f)).all labB = true
              rw [show m2 + 1 - f = (m2 - f) + 1 by omega, take_next (c := c) (by rw [List.getElem?_drop, show f + (m2 - f) = m2 by omega]; exact hc), List.all_append, h4, List.all_cons, hlb]; rfl⟩, h5, h6⟩
            cases haln : alnN c.toNat with
            | true =>
              (repeat(first|refine pSeq ?_|refine pReg ?_|refine sCons ?_|refine sNil ?_|refine pBlock ?_|refine pSkip ?_|refine pExit ?_|refine pRet ?_|refine pCond ?_|refine gNone ?_|refine gOn rfl ?_|refine gOff rfl rfl ?_|refine gTup rfl ?_))
              intro q hq; obtain rfl : q = false := (by rw [hq]; simp <;> omega); (repeat(first|refine pSeq ?_|refine pReg ?_|refine sCons ?_|refine sNil ?_|refine pBlock ?_|refine pSkip ?_|refine pExit ?_|refine pRet ?_|refine pCond ?_|refine gNone ?_|refine gOn rfl ?_|refine gOff rfl rfl ?_|refine gTup rfl ?_))
              intro z hz
              rw [i64_id (by omega)] at hz
              obtain rfl : z = ((m2 + 1 : Nat) : Int) := by omega
              (repeat(first|refine pSeq ?_|refine pReg ?_|refine sCons ?_|refine sNil ?_|refine pBlock ?_|refine pSkip ?_|refine pExit ?_|refine pRet ?_|refine pCond ?_|refine gNone ?_|refine gOn rfl ?_|refine gOff rfl rfl ?_|refine gTup rfl ?_))
              exact ⟨⟨m2 + 1, f, done, long⟩, goon (by unfold labB labN; rw [haln]; rfl), by show l.length + 1 - (m2 + 1) < l.length + 1 - m2; omega, Wk.same ⟨rfl, rfl, rfl, rfl, trivial⟩⟩
            | false =>
              (repeat(first|refine pSeq ?_|refine pReg ?_|refine sCons ?_|refine sNil ?_|refine pBlock ?_|refine pSkip ?_|refine pExit ?_|refine pRet ?_|refine pCond ?_|refine gNone ?_|refine gOn rfl ?_|refine gOff rfl rfl ?_|refine gTup rfl ?_))
              intro q hq; obtain rfl : q = true := (by rw [hq]; simp <;> omega); (repeat(first|refine pSeq ?_|refine pReg ?_|refine sCons ?_|refine sNil ?_|refine pBlock ?_|refine pSkip ?_|refine pExit ?_|refine pRet ?_|refine pCond ?_|refine gNone ?_|refine gOn rfl ?_|refine gOff rfl rfl ?_|refine gTup rfl ?_))
              refine ⟨by omega, ?_⟩
              intro m3 hm3
              obtain rfl : m3 = m2 := by omega
              refine ⟨c, hc, ?_⟩
              (repeat(first|refine pSeq ?_|refine pReg ?_|refine sCons ?_|refine sNil ?_|refine pBlock ?_|refine pSkip ?_|refine pExit ?_|refine pRet ?_|refine pCond ?_|refine gNone ?_|refine gOn rfl ?_|refine gOff rfl rfl ?_|refine gTup rfl ?_))
              intro q hq
              by_cases h45 : c = 45
              · obtain rfl : q = false := by rw [hq, h45]; rfl
                (repeat(first|refine pSeq ?_|refine pReg ?_|refine sCons ?_|refine sNil ?_|refine pBlock ?_|refine pSkip ?_|refine pExit ?_|refine pRet ?_|refine pCond ?_|refine gNone ?_|refine gOn rfl ?_|refine gOff rfl rfl ?_|refine gTup rfl ?_))
                intro z hz
                rw [i64_id (by omega)] at hz
                obtain rfl : z = ((m3 + 1 : Nat) : Int) := by omega
                (repeat(first|refine pSeq ?_|refine pReg ?_|refine sCons ?_|refine sNil ?_|refine pBlock ?_|refine pSkip ?_|refine pExit ?_|refine pRet ?_|refine pCond ?_|refine gNone ?_|refine gOn rfl ?_|refine gOff rfl rfl ?_|refine gTup rfl ?_))
                exact ⟨⟨m3 + 1, f, done, long⟩, goon (by rw [h45]; decide), by show l.length + 1 - (m3 + 1) < l.length + 1 - m3; omega, Wk.same ⟨rfl, rfl, rfl, rfl, trivial⟩⟩
              · have c45 : c.toNat ≠ 45 := byte_ne h45
                obtain rfl : q = true := by rw [hq]; simp; omega
                (repeat(first|refine pSeq ?_|refine pReg ?_|refine sCons ?_|refine sNil ?_|refine pBlock ?_|refine pSkip ?_|refine pExit ?_|refine pRet ?_|refine pCond ?_|refine gNone ?_|refine gOn rfl ?_|refine gOff rfl rfl ?_|refine gTup rfl ?_))
                rw [lab_no (List.mem_of_getElem? hc) h46 (by unfold labB labN; rw [haln]; simpa using c45)]
                exact ⟨rfl, cs⟩
        · obtain rfl : q = false := by rw [hq]; simp; omega
          have ei : i = l.length := by omega
          have e1 := st2 ei
          have e2 : l.drop f = (l.drop f).take (i - f) := by rw [List.take_of_length_le (by rw [List.length_drop]; omega)]
          rw [e1, e2] at h2
          have bad : labelF ((l.drop f).take (i - f)) = false → (if (splitF 46 l).all labelF = true then (if longF l = true then 3 else 0) else 5) = 5 := fun h => by rw [h2, List.all_append, List.all_cons, h]; simp
          have nxt : (i + 1 ≤ l.length ∧ splitF 46 l = (done ++ [(l.drop f).take (i - f)]) ++ splitF 46 (l.drop (i + 1)) ∧ i + 1 ≤ i + 1 ∧ ((l.drop (i + 1)).take (i + 1 - (i + 1))).all labB = true) ∨ (i + 1 = l.length + 1 ∧ splitF 46 l = done ++ [(l.drop f).take (i - f)]) := .inr ⟨by omega, h2⟩
          clear st1 st2 e1 e2
          (repeat(first|refine pSeq ?_|refine pReg ?_|refine sCons ?_|refine sNil ?_|refine pBlock ?_|refine pSkip ?_|refine pExit ?_|refine pRet ?_|refine pCond ?_|refine gNone ?_|refine gOn rfl ?_|refine gOff rfl rfl ?_|refine gTup rfl ?_))
          intro q hq
          have hgl : ((l.drop f).take (i - f)).length = i - f := by rw [List.length_take, List.length_drop]; omega
          by_cases hif : i = f
          · obtain rfl : q = true := by rw [hq]; simp; omega
            (repeat(first|refine pSeq ?_|refine pReg ?_|refine sCons ?_|refine sNil ?_|refine pBlock ?_|refine pSkip ?_|refine pExit ?_|refine pRet ?_|refine pCond ?_|refine gNone ?_|refine gOn rfl ?_|refine gOff rfl rfl ?_|refine gTup rfl ?_))
            rw [bad (by rw [hif, Nat.sub_self]; rfl)]
            exact ⟨rfl, cs⟩
          · obtain rfl : q = false := by rw [hq]; simp; omega
            obtain ⟨a, ha⟩ : ∃ a, l[f]? = some a := ⟨_, List.getElem?_eq_getElem (by omega)⟩
            obtain ⟨b, hb⟩ : ∃ b, l[i - 1]? = some b := ⟨_, List.getElem?_eq_getElem (by omega)⟩
            have ga : ((l.drop f).take (i - f))[0]? = some a := by rw [List.getElem?_take_of_lt (by omega), List.getElem?_drop]; exact ha
            have gb : ((l.drop f).take (i - f))[((l.drop f).take (i - f)).length - 1]? = some b := by rw [hgl, List.getElem?_take_of_lt (by omega), List.getElem?_drop, show f + (i - f - 1) = i - 1 by omega]; exact hb
            have hends := ends_is ga gb
            have hlab : labelF ((l.drop f).take (i - f)) = (decide (a ≠ 45) && decide (b ≠ 45)) := by unfold labelF; rw [h4, hends, Bool.true_and]
            (repeat(first|refine pSeq ?_|refine pReg ?_|refine sCons ?_|refine sNil ?_|refine pBlock ?_|refine pSkip ?_|refine pExit ?_|refine pRet ?_|refine pCond ?_|refine gNone ?_|refine gOn rfl ?_|refine gOff rfl rfl ?_|refine gTup rfl ?_))
            refine ⟨by omega, ?_⟩
            intro m hm
            obtain rfl : m = f := by omega
            refine ⟨a, ha, ?_⟩
            (repeat(first|refine pSeq ?_|refine pReg ?_|refine sCons ?_|refine sNil ?_|refine pBlock ?_|refine pSkip ?_|refine pExit ?_|refine pRet ?_|refine pCond ?_|refine gNone ?_|refine gOn rfl ?_|refine gOff rfl rfl ?_|refine gTup rfl ?_))
            intro q hq
            by_cases ha45 : a = 45
            · obtain rfl : q = true := by rw [hq, ha45]; rfl
              (repeat(first|refine pSeq ?_|refine pReg ?_|refine sCons ?_|refine sNil ?_|refine pBlock ?_|refine pSkip ?_|refine pExit ?_|refine pRet ?_|refine pCond ?_|refine gNone ?_|refine gOn rfl ?_|refine gOff rfl rfl ?_|refine gTup rfl ?_))
              rw [bad (by rw [hlab, ha45]; rfl)]
              exact ⟨rfl, cs⟩
            · have a45 : a.toNat ≠ 45 := byte_ne ha45
              obtain rfl : q = false := by rw [hq]; simp; omega
              (repeat(first|refine pSeq ?_|refine pReg ?_|refine sCons ?_|refine sNil ?_|refine pBlock ?_|refine pSkip ?_|refine pExit ?_|refine pRet ?_|refine pCond ?_|refine gNone ?_|refine gOn rfl ?_|refine gOff rfl rfl ?_|refine gTup rfl ?_))
              intro z hz
              rw [i64_id (by omega)] at hz
              (repeat(first|refine pSeq ?_|refine pReg ?_|refine sCons ?_|refine sNil ?_|refine pBlock ?_|refine pSkip ?_|refine pExit ?_|refine pRet ?_|refine pCond ?_|refine gNone ?_|refine gOn rfl ?_|refine gOff rfl rfl ?_|refine gTup rfl ?_))
              refine ⟨by omega, ?_⟩
              intro m2 hm2
              obtain rfl : m2 = i - 1 := by omega
              refine ⟨b, hb, ?_⟩
              (repeat(first|refine pSeq ?_|refine pReg ?_|refine sCons ?_|refine sNil ?_|refine pBlock ?_|refine pSkip ?_|refine pExit ?_|refine pRet ?_|refine pCond ?_|refine gNone ?_|refine gOn rfl ?_|refine gOff rfl rfl ?_|refine gTup rfl ?_))
              intro q hq
              by_cases hb45 : b = 45
              · obtain rfl : q = true := by rw [hq, hb45]; rfl
                (repeat(first|refine pSeq ?_|refine pReg ?_|refine sCons ?_|refine sNil ?_|refine pBlock ?_|refine pSkip ?_|refine pExit ?_|refine pRet ?_|refine pCond ?_|refine gNone ?_|refine gOn rfl ?_|refine gOff rfl rfl ?_|refine gTup rfl ?_))
                rw [bad (by rw [hlab, hb45]; simp)]
                exact ⟨rfl, cs⟩
              · have b45 : b.toNat ≠ 45 := byte_ne hb45
                obtain rfl : q = false := by rw [hq]; simp; omega
                have hok : labelF ((l.drop m).take (i - m)) = true := by rw [hlab]; simp [ha45, hb45]
                (repeat(first|refine pSeq ?_|refine pReg ?_|refine sCons ?_|refine sNil ?_|refine pBlock ?_|refine pSkip ?_|refine pExit ?_|refine pRet ?_|refine pCond ?_|refine gNone ?_|refine gOn rfl ?_|refine gOff rfl rfl ?_|refine gTup rfl ?_))
                intro z2 hz2
                rw [i64_id (by omega)] at hz2
                (repeat(first|refine pSeq ?_|refine pReg ?_|refine sCons ?_|refine sNil ?_|refine pBlock ?_|refine pSkip ?_|refine pExit ?_|refine pRet ?_|refine pCond ?_|refine gNone ?_|refine gOn rfl ?_|refine gOff rfl rfl ?_|refine gTup rfl ?_))
                intro q hq
                by_cases h63 : 63 < i - m
                · obtain rfl : q = true := by rw [hq]; simp; omega
                  (repeat(first|refine pSeq ?_|refine pReg ?_|refine sCons ?_|refine sNil ?_|refine pBlock ?_|refine pSkip ?_|refine pExit ?_|refine pRet ?_|refine pCond ?_|refine gNone ?_|refine gOn rfl ?_|refine gOff rfl rfl ?_|refine gTup rfl ?_))
                  intro z3 hz3
                  rw [i64_id (by omega)] at hz3
                  obtain rfl : z3 = ((i + 1 : Nat) : Int) := by omega
                  (repeat(first|refine pSeq ?_|refine pReg ?_|refine sCons ?_|refine sNil ?_|refine pBlock ?_|refine pSkip ?_|refine pExit ?_|refine pRet ?_|refine pCond ?_|refine gNone ?_|refine gOn rfl ?_|refine gOff rfl rfl ?_|refine gTup rfl ?_))
                  intro z4 hz4
                  rw [i64_id (by omega)] at hz4
                  obtain rfl : z4 = ((i + 1 : Nat) : Int) := by omega
                  (repeat(first|refine pSeq ?_|refine pReg ?_|refine sCons ?_|refine sNil ?_|refine pBlock ?_|refine pSkip ?_|refine pExit ?_|refine pRet ?_|refine pCond ?_|refine gNone ?_|refine gOn rfl ?_|refine gOff rfl rfl ?_|refine gTup rfl ?_))
                  exact ⟨⟨i + 1, i + 1, done ++ [(l.drop m).take (i - m)], true⟩, ⟨nxt, by rw [List.all_append, h5, Bool.true_and, List.all_cons, hok]; rfl, by rw [List.any_append, List.any_cons, hgl, decide_eq_true h63]; simp⟩, by show l.length + 1 - (i + 1) < l.length + 1 - i; omega, Wk.same ⟨rfl, rfl, rfl, rfl, trivial⟩⟩
                · obtain rfl : q = false := by rw [hq]; simp; omega
                  (repeat(first|refine pSeq ?_|refine pReg ?_|refine sCons ?_|refine sNil ?_|refine pBlock ?_|refine pSkip ?_|refine pExit ?_|refine pRet ?_|refine pCond ?_|refine gNone ?_|refine gOn rfl ?_|refine gOff rfl rfl ?_|refine gTup rfl ?_))
                  intro z3 hz3
                  rw [i64_id (by omega)] at hz3
                  obtain rfl : z3 = ((i + 1 : Nat) : Int) := by omega
                  (repeat(first|refine pSeq ?_|refine pReg ?_|refine sCons ?_|refine sNil ?_|refine pBlock ?_|refine pSkip ?_|refine pExit ?_|refine pRet ?_|refine pCond ?_|refine gNone ?_|refine gOn rfl ?_|refine gOff rfl rfl ?_|refine gTup rfl ?_))
                  intro z4 hz4
                  rw [i64_id (by omega)] at hz4
                  obtain rfl : z4 = ((i + 1 : Nat) : Int) := by omega
                  (repeat(first|refine pSeq ?_|refine pReg ?_|refine sCons ?_|refine sNil ?_|refine pBlock ?_|refine pSkip ?_|refine pExit ?_|refine pRet ?_|refine pCond ?_|refine gNone ?_|refine gOn rfl ?_|refine gOff rfl rfl ?_|refine gTup rfl ?_))
                  exact ⟨⟨i + 1, i + 1, done ++ [(l.drop m).take (i - m)], long⟩, ⟨nxt, by rw [List.all_append, h5, Bool.true_and, List.all_cons, hok]; rfl, by rw [List.any_append, List.any_cons, hgl, decide_eq_false h63, h6]; simp⟩, by show l.length + 1 - (i + 1) < l.length + 1 - i; omega, Wk.same ⟨rfl, rfl, rfl, rfl, trivial⟩⟩
      · obtain ⟨h2, h3⟩ : i = l.length + 1 ∧ splitF 46 l = done := h1.elim (fun h => absurd h.1 hle) id
        obtain rfl : q = false := by rw [hq]; simp; omega
        have hlong : long = longF l := by rw [h6]; unfold longF; rw [h3]
        rw [h3, h5, if_pos rfl, ← hlong]
        (repeat(first|refine pSeq ?_|refine pReg ?_|refine sCons ?_|refine sNil ?_|refine pBlock ?_|refine pSkip ?_|refine pExit ?_|refine pRet ?_|refine pCond ?_|refine gNone ?_|refine gOn rfl ?_|refine gOff rfl rfl ?_|refine gTup rfl ?_))
        cases long with
        | true =>
          (repeat(first|refine pSeq ?_|refine pReg ?_|refine sCons ?_|refine sNil ?_|refine pBlock ?_|refine pSkip ?_|refine pExit ?_|refine pRet ?_|refine pCond ?_|refine gNone ?_|refine gOn rfl ?_|refine gOff rfl rfl ?_|refine gTup rfl ?_))
          exact ⟨rfl, cs⟩
        | false =>
          (repeat(first|refine pSeq ?_|refine pReg ?_|refine sCons ?_|refine sNil ?_|refine pBlock ?_|refine pSkip ?_|refine pExit ?_|refine pRet ?_|refine pCond ?_|refine gNone ?_|refine gOn rfl ?_|refine gOff rfl rfl ?_|refine gTup rfl ?_))
          exact ⟨rfl, cs⟩
  · obtain rfl : q = false := by rw [hq]; simp; omega
    have hname : ∀ d, l[0]? = some d → d ≠ 91 := fun d hd => absurd (lt_of_get hd) h0
    (repeat(first|refine pSeq ?_|refine pReg ?_|refine sCons ?_|refine sNil ?_|refine pBlock ?_|refine pSkip ?_|refine pExit ?_|refine pRet ?_|refine pCond ?_|refine gNone ?_|refine gOn rfl ?_|refine gOff rfl rfl ?_|refine gTup rfl ?_))
    intro n1 hn1
    (repeat(first|refine pSeq ?_|refine pReg ?_|refine sCons ?_|refine sNil ?_|refine pBlock ?_|refine pSkip ?_|refine pExit ?_|refine pRet ?_|refine pCond ?_|refine gNone ?_|refine gOn rfl ?_|refine gOff rfl rfl ?_|refine gTup rfl ?_))
    intro big hbig
    have ebig : big = decide (255 < l.length) := by rw [hbig, decide_eq_decide]; omega
    (repeat(first|refine pSeq ?_|refine pReg ?_|refine sCons ?_|refine sNil ?_|refine pBlock ?_|refine pSkip ?_|refine pExit ?_|refine pRet ?_|refine pCond ?_|refine gNone ?_|refine gOn rfl ?_|refine gOff rfl rfl ?_|refine gTup rfl ?_))
    rw [dom_name hname]
    refine pLoop (MW.head good (fun x : DIt => l.length + 1 - x.i) (DAt l) (fun x => [(0, str l), (3, .bool x.long), (4, .int .i64 x.f), (5, .int .i64 x.i)]) (fun x => s) ⟨0, 0, [], big⟩ ⟨.inl ⟨Nat.zero_le _, rfl, Nat.le_refl _, by simp⟩, rfl, by rw [ebig]; simp⟩ (Wk.same ⟨rfl, rfl, rfl, rfl, trivial⟩) ?_)
    intro ⟨i, f, done, long⟩ ⟨h1, h5, h6⟩
    dsimp only at h1 h5 h6 ⊢
    have cs : Chg s s [] := .refl _ _
    (repeat(first|refine pSeq ?_|refine pReg ?_|refine sCons ?_|refine sNil ?_|refine pBlock ?_|refine pSkip ?_|refine pExit ?_|refine pRet ?_|refine pCond ?_|refine gNone ?_|refine gOn rfl ?_|refine gOff rfl rfl ?_|refine gTup rfl ?_))
    intro n2 hn2
    (repeat(first|refine pSeq ?_|refine pReg ?_|refine sCons ?_|refine sNil ?_|refine pBlock ?_|refine pSkip ?_|refine pExit ?_|refine pRet ?_|refine pCond ?_|refine gNone ?_|refine gOn rfl ?_|refine gOff rfl rfl ?_|refine gTup rfl ?_))
    intro q hq
    by_cases hle : i ≤ l.length
    · obtain ⟨_, h2, h3, h4⟩ : i ≤ l.length ∧ splitF 46 l = done ++ splitF 46 (l.drop f) ∧ f ≤ i ∧ ((l.drop f).take (i - f)).all labB = true := h1.elim id fun h => by omega
      have hno : (46 : UInt8) ∉ (l.drop f).take (i - f) := fun h => by
        rw [List.all_eq_true] at h4
        have := h4 46 h
        rw [lab_dot] at this
        cases this
      obtain ⟨st1, st2⟩ := sp_step h3 hle hno
      obtain rfl : q = true := by rw [hq]; simp; omega
      (repeat(first|refine pSeq ?_|refine pReg ?_|refine sCons ?_|refine sNil ?_|refine pBlock ?_|refine pSkip ?_|refine pExit ?_|refine pRet ?_|refine pCond ?_|refine gNone ?_|refine gOn rfl ?_|refine gOff rfl rfl ?_|refine gTup rfl ?_))
      intro n3 hn3
      (repeat(first|refine pSeq ?_|refine pReg ?_|refine sCons ?_|refine sNil ?_|refine pBlock ?_|refine pSkip ?_|refine pExit ?_|refine pRet ?_|refine pCond ?_|refine gNone ?_|refine gOn rfl ?_|refine gOff rfl rfl ?_|refine gTup rfl ?_))
      intro q hq
      by_cases hlt : i < l.length
      · obtain rfl : q = true := by rw [hq]; simp; omega
        obtain ⟨c, hc⟩ : ∃ c, l[i]? = some c := ⟨_, List.getElem?_eq_getElem hlt⟩
        (repeat(first|refine pSeq ?_|refine pReg ?_|refine sCons ?_|refine sNil ?_|refine pBlock ?_|refine pSkip ?_|refine pExit ?_|refine pRet ?_|refine pCond ?_|refine gNone ?_|refine gOn rfl ?_|refine gOff rfl rfl ?_|refine gTup rfl ?_))
        refine ⟨by omega, ?_⟩
        intro m hm
        obtain rfl : m = i := by omega
        refine ⟨c, hc, ?_⟩
        (repeat(first|refine pSeq ?_|refine pReg ?_|refine sCons ?_|refine sNil ?_|refine pBlock ?_|refine pSkip ?_|refine pExit ?_|refine pRet ?_|refine pCond ?_|refine gNone ?_|refine gOn rfl ?_|refine gOff rfl rfl ?_|refine gTup rfl ?_))
        intro q hq
        by_cases h46 : c = 46
        · obtain rfl : q = false := by rw [hq, h46]; rfl
          have e1 := st1 c hc h46
          rw [e1] at h2
          have bad : labelF ((l.drop f).take (m - f)) = false → (if (splitF 46 l).all labelF = true then (if longF l = true then 3 else 0) else 5) = 5 := fun h => by rw [h2, List.all_append, List.all_cons, h]; simp
          have nxt : (m + 1 ≤ l.length ∧ splitF 46 l = (done ++ [(l.drop f).take (m - f)]) ++ splitF 46 (l.drop (m + 1)) ∧ m + 1 ≤ m + 1 ∧ ((l.drop (m + 1)).take (m + 1 - (m + 1))).all labB = true) ∨ (m + 1 = l.length + 1 ∧ splitF 46 l = done ++ [(l.drop f).take (m - f)]) := .inl ⟨hlt, by rw [h2]; simp, Nat.le_refl _, by simp⟩
          clear hc e1 st1 st2
          generalize m = i at *
          (repeat(first|refine pSeq ?_|refine pReg ?_|refine sCons ?_|refine sNil ?_|refine pBlock ?_|refine pSkip ?_|refine pExit ?_|refine pRet ?_|refine pCond ?_|refine gNone ?_|refine gOn rfl ?_|refine gOff rfl rfl ?_|refine gTup rfl ?_))
          intro q hq
          have hgl : ((l.drop f).take (i - f)).length = i - f := by rw [List.length_take, List.length_drop]; omega
          by_cases hif : i = f
          · obtain rfl : q = true := by rw [hq]; simp; omega
            (repeat(first|refine pSeq ?_|refine pReg ?_|refine sCons ?_|refine sNil ?_|refine pBlock ?_|refine pSkip ?_|refine pExit ?_|refine pRet ?_|refine pCond ?_|refine gNone ?_|refine gOn rfl ?_|refine gOff rfl rfl ?_|refine gTup rfl ?_))
            rw [bad (by rw [hif, Nat.sub_self]; rfl)]
            exact ⟨rfl, cs⟩
          · obtain rfl : q = false := by rw [hq]; simp; omega
            obtain ⟨a, ha⟩ : ∃ a, l[f]? = some a := ⟨_, List.getElem?_eq_getElem (by omega)⟩
            obtain ⟨b, hb⟩ : ∃ b, l[i - 1]? = some b := ⟨_, List.getElem?_eq_getElem (by omega)⟩
            have ga : ((l.drop f).take (i - f))[0]? = some a := by rw [List.getElem?_take_of_lt (by omega), List.getElem?_drop]; exact ha
            have gb : ((l.drop f).take (i - f))[((l.drop f).take (i - f)).length - 1]? = some b := by rw [hgl, List.getElem?_take_of_lt (by omega), List.getElem?_drop, show f + (i - f - 1) = i - 1 by omega]; exact hb
            have hends := ends_is ga gb
            have hlab : labelF ((l.drop f).take (i - f)) = (decide (a ≠ 45) && decide (b ≠ 45)) := by unfold labelF; rw [h4, hends, Bool.true_and]
            (repeat(first|refine pSeq ?_|refine pReg ?_|refine sCons ?_|refine sNil ?_|refine pBlock ?_|refine pSkip ?_|refine pExit ?_|refine pRet ?_|refine pCond ?_|refine gNone ?_|refine gOn rfl ?_|refine gOff rfl rfl ?_|refine gTup rfl ?_))
            refine ⟨by omega, ?_⟩
            intro m hm
            obtain rfl : m = f := by omega
            refine ⟨a, ha, ?_⟩
            (repeat(first|refine pSeq ?_|refine pReg ?_|refine sCons ?_|refine sNil ?_|refine pBlock ?_|refine pSkip ?_|refine pExit ?_|refine pRet ?_|refine pCond ?_|refine gNone ?_|refine gOn rfl ?_|refine gOff rfl rfl ?_|refine gTup rfl ?_))
            intro q hq
            by_cases ha45 : a = 45
            · obtain rfl : q = true := by rw [hq, ha45]; rfl
              (repeat(first|refine pSeq ?_|refine pReg ?_|refine sCons ?_|refine sNil ?_|refine pBlock ?_|refine pSkip ?_|refine pExit ?_|refine pRet ?_|refine pCond ?_|refine gNone ?_|refine gOn rfl ?_|refine gOff rfl rfl ?_|refine gTup rfl ?_))
              rw [bad (by rw [hlab, ha45]; rfl)]
              exact ⟨rfl, cs⟩
            · have a45 : a.toNat ≠ 45 := byte_ne ha45
              obtain rfl : q = false := by rw [hq]; simp; omega
              (repeat(first|refine pSeq ?_|refine pReg ?_|refine sCons ?_|refine sNil ?_|refine pBlock ?_|refine pSkip ?_|refine pExit ?_|refine pRet ?_|refine pCond ?_|refine gNone ?_|refine gOn rfl ?_|refine gOff rfl rfl ?_|refine gTup rfl ?_))
              intro z hz
              rw [i64_id (by omega)] at hz
              (repeat(first|refine pSeq ?_|refine pReg ?_|refine sCons ?_|refine sNil ?_|refine pBlock ?_|refine pSkip ?_|refine pExit ?_|refine pRet ?_|refine pCond ?_|refine gNone ?_|refine gOn rfl ?_|refine gOff rfl rfl ?_|refine gTup rfl ?_))
              refine ⟨by omega, ?_⟩
              intro m2 hm2
              obtain rfl : m2 = i - 1 := by omega
              refine ⟨b, hb, ?_⟩
              (repeat(first|refine pSeq ?_|refine pReg ?_|refine sCons ?_|refine sNil ?_|refine pBlock ?_|refine pSkip ?_|refine pExit ?_|refine pRet ?_|refine pCond ?_|refine gNone ?_|refine gOn rfl ?_|refine gOff rfl rfl ?_|refine gTup rfl ?_))
              intro q hq
              by_cases hb45 : b = 45
              · obtain rfl : q = true := by rw [hq, hb45]; rfl
                (repeat(first|refine pSeq ?_|refine pReg ?_|refine sCons ?_|refine sNil ?_|refine pBlock ?_|refine pSkip ?_|refine pExit ?_|refine pRet ?_|refine pCond ?_|refine gNone ?_|refine gOn rfl ?_|refine gOff rfl rfl ?_|refine gTup rfl ?_))
                rw [bad (by rw [hlab, hb45]; simp)]
                exact ⟨rfl, cs⟩
              · have b45 : b.toNat ≠ 45 := byte_ne hb45
                obtain rfl : q = false := by rw [hq]; simp; omega
                have hok : labelF ((l.drop m).take (i - m)) = true := by rw [hlab]; simp [ha45, hb45]
                (repeat(first|refine pSeq ?_|refine pReg ?_|refine sCons ?_|refine sNil ?_|refine pBlock ?_|refine pSkip ?_|refine pExit ?_|refine pRet ?_|refine pCond ?_|refine gNone ?_|refine gOn rfl ?_|refine gOff rfl rfl ?_|refine gTup rfl ?_))
                intro z2 hz2
                rw [i64_id (by omega)] at hz2
                (repeat(first|refine pSeq ?_|refine pReg ?_|refine sCons ?_|refine sNil ?_|refine pBlock ?_|refine pSkip ?_|refine pExit ?_|refine pRet ?_|refine pCond ?_|refine gNone ?_|refine gOn rfl ?_|refine gOff rfl rfl ?_|refine gTup rfl ?_))
                intro q hq
                by_cases h63 : 63 < i - m
                · obtain rfl : q = true := by rw [hq]; simp; omega
                  (repeat(first|refine pSeq ?_|refine pReg ?_|refine sCons ?_|refine sNil ?_|refine pBlock ?_|refine pSkip ?_|refine pExit ?_|refine pRet ?_|refine pCond ?_|refine gNone ?_|refine gOn rfl ?_|refine gOff rfl rfl ?_|refine gTup rfl ?_))
                  intro z3 hz3
                  rw [i64_id (by omega)] at hz3
                  obtain rfl : z3 = ((i + 1 : Nat) : Int) := by omega
                  (repeat(first|refine pSeq ?_|refine pReg ?_|refine sCons ?_|refine sNil ?_|refine pBlock ?_|refine pSkip ?_|refine pExit ?_|refine pRet ?_|refine pCond ?_|refine gNone ?_|refine gOn rfl ?_|refine gOff rfl rfl ?_|refine gTup rfl ?_))
                  intro z4 hz4
                  rw [i64_id (by omega)] at hz4
                  obtain rfl : z4 = ((i + 1 : Nat) : Int) := by omega
                  (repeat(first|refine pSeq ?_|refine pReg ?_|refine sCons ?_|refine sNil ?_|refine pBlock ?_|refine pSkip ?_|refine pExit ?_|refine pRet ?_|refine pCond ?_|refine gNone ?_|refine gOn rfl ?_|refine gOff rfl rfl ?_|refine gTup rfl ?_))
                  exact ⟨⟨i + 1, i + 1, done ++ [(l.drop m).take (i - m)], true⟩, ⟨nxt, by rw [List.all_append, h5, Bool.true_and, List.all_cons, hok]; rfl, by rw [List.any_append, List.any_cons, hgl, decide_eq_true h63]; simp⟩, by show l.length + 1 - (i + 1) < l.length + 1 - i; omega, Wk.same ⟨rfl, rfl, rfl, rfl, trivial⟩⟩
                · obtain rfl : q = false := by rw [hq]; simp; omega
                  (repeat(first|refine pSeq ?_|refine pReg ?_|refine sCons ?_|refine sNil ?_|refine pBlock ?_|refine pSkip ?_|refine pExit ?_|refine pRet ?_|refine pCond ?_|refine gNone ?_|refine gOn rfl ?_|refine gOff rfl rfl ?_|refine gTup rfl ?_))
                  intro z3 hz3
                  rw [i64_id (by omega)] at hz3
                  obtain rfl : z3 = ((i + 1 : Nat) : Int) := by omega
                  (repeat(first|refine pSeq ?_|refine pReg ?_|refine sCons ?_|refine sNil ?_|refine pBlock ?_|refine pSkip ?_|refine pExit ?_|refine pRet ?_|refine pCond ?_|refine gNone ?_|refine gOn rfl ?_|refine gOff rfl rfl ?_|refine gTup rfl ?_))
                  intro z4 hz4
                  rw [i64_id (by omega)] at hz4
                  obtain rfl : z4 = ((i + 1 : Nat) : Int) := by omega
                  (repeat(first|refine pSeq ?_|refine pReg ?_|refine sCons ?_|refine sNil ?_|refine pBlock ?_|refine pSkip ?_|refine pExit ?_|refine pRet ?_|refine pCond ?_|refine gNone ?_|refine gOn rfl ?_|refine gOff rfl rfl ?_|refine gTup rfl ?_))
                  exact ⟨⟨i + 1, i + 1, done ++ [(l.drop m).take (i - m)], long⟩, ⟨nxt, by rw [List.all_append, h5, Bool.true_and, List.all_cons, hok]; rfl, by rw [List.any_append, List.any_cons, hgl, decide_eq_false h63, h6]; simp⟩, by show l.length + 1 - (i + 1) < l.length + 1 - i; omega, Wk.same ⟨rfl, rfl, rfl, rfl, trivial⟩⟩
        · have c46 : c.toNat ≠ 46 := byte_ne h46
          obtain rfl : q = true := by rw [hq]; simp; omega
          (repeat(first|refine pSeq ?_|refine pReg ?_|refine sCons ?_|refine sNil ?_|refine pBlock ?_|refine pSkip ?_|refine pExit ?_|refine pRet ?_|refine pCond ?_|refine gNone ?_|refine gOn rfl ?_|refine gOff rfl rfl ?_|refine gTup rfl ?_))
          refine ⟨by omega, ?_⟩
          intro m2 hm2
          obtain rfl : m2 = m := by omega
          refine ⟨c, hc, ?_⟩
          (repeat(first|refine pSeq ?_|refine pReg ?_|refine sCons ?_|refine sNil ?_|refine pBlock ?_|refine pSkip ?_|refine pExit ?_|refine pRet ?_|refine pCond ?_|refine gNone ?_|refine gOn rfl ?_|refine gOff rfl rfl ?_|refine gTup rfl ?_))
          refine rletter_w.mono fun v s2 q => ?_
          obtain ⟨rfl, rfl⟩ := q
          have goon : labB c = true → DAt l ⟨m2 + 1, f, done, long⟩ := fun hlb => ⟨.inl ⟨hlt, h2, Nat.le_succ_of_le h3, by
            show ((l.drop f).take (m2 + 1 - f)).all labB = true
            rw [show m2 + 1 - f = (m2 - f) + 1 by omega, take_next (c := c) (by rw [List.getElem?_drop, show f + (m2 - f) = m2 by omega]; exact hc), List.all_append, h4, List.all_cons, hlb]; rfl⟩, h5, h6⟩
          cases haln : alnN c.toNat with
          | true =>
            (repeat(first|refine pSeq ?_|refine pReg ?_|refine sCons ?_|refine sNil ?_|refine pBlock ?_|refine pSkip ?_|refine pExit ?_|refine pRet ?_|refine pCond ?_|refine gNone ?_|refine gOn rfl ?_|refine gOff rfl rfl ?_|refine gTup rfl ?_))
            intro q hq; obtain rfl : q = false := (by rw [hq]; simp <;> omega); (repeat(first|refine pSeq ?_|refine pReg ?_|refine sCons ?_|refine sNil ?_|refine pBlock ?_|refine pSkip ?_|refine pExit ?_|refine pRet ?_|refine pCond ?_|refine gNone ?_|refine gOn rfl ?_|refine gOff rfl rfl ?_|refine gTup rfl ?_))
            intro z hz
            rw [i64_id (by omega)] at hz
            obtain rfl : z = ((m2 + 1 : Nat) : Int) := by omega
            (repeat(first|refine pSeq ?_|refine pReg ?_|refine sCons ?_|refine sNil ?_|refine pBlock ?_|refine pSkip ?_|refine pExit ?_|refine pRet ?_|refine pCond ?_|refine gNone ?_|refine gOn rfl ?_|refine gOff rfl rfl ?_|refine gTup rfl ?_))
            exact ⟨⟨m2 + 1, f, done, long⟩, goon (by unfold labB labN; rw [haln]; rfl), by show l.length + 1 - (m2 + 1) < l.length + 1 - m2; omega, Wk.same ⟨rfl, rfl, rfl, rfl, trivial⟩⟩
          | false =>
            (repeat(first|refine pSeq ?_|refine pReg ?_|refine sCons ?_|refine sNil ?_|refine pBlock ?_|refine pSkip ?_|refine pExit ?_|refine pRet ?_|refine pCond ?_|refine gNone ?_|refine gOn rfl ?_|refine gOff rfl rfl ?_|refine gTup rfl ?_))
            intro q hq; obtain rfl : q = true := (by rw [hq]; simp <;> omega); (repeat(first|refine pSeq ?_|refine pReg ?_|refine sCons ?_|refine sNil ?_|refine pBlock ?_|refine pSkip ?_|refine pExit ?_|refine pRet ?_|refine pCond ?_|refine gNone ?_|refine gOn rfl ?_|refine gOff rfl rfl ?_|refine gTup rfl ?_))
            refine ⟨by omega, ?_⟩
            intro m3 hm3
            obtain rfl : m3 = m2 := by omega
            refine ⟨c, hc, ?_⟩
            (repeat(first|refine pSeq ?_|refine pReg ?_|refine sCons ?_|refine sNil ?_|refine pBlock ?_|refine pSkip ?_|refine pExit ?_|refine pRet ?_|refine pCond ?_|refine gNone ?_|refine gOn rfl ?_|refine gOff rfl rfl ?_|refine gTup rfl ?_))
            intro q hq
            by_cases h45 : c = 45
            · obtain rfl : q = false := by rw [hq, h45]; rfl
              (repeat(first|refine pSeq ?_|refine pReg ?_|refine sCons ?_|refine sNil ?_|refine pBlock ?_|refine pSkip ?_|refine pExit ?_|refine pRet ?_|refine pCond ?_|refine gNone ?_|refine gOn rfl ?_|refine gOff rfl rfl ?_|refine gTup rfl ?_))
              intro z hz
              rw [i64_id (by omega)] at hz
              obtain rfl : z = ((m3 + 1 : Nat) : Int) := by omega
              (repeat(first|refine pSeq ?_|refine pReg ?_|refine sCons ?_|refine sNil ?_|refine pBlock ?_|refine pSkip ?_|refine pExit ?_|refine pRet ?_|refine pCond ?_|refine gNone ?_|refine gOn rfl ?_|refine gOff rfl rfl ?_|refine gTup rfl ?_))
              exact ⟨⟨m3 + 1, f, done, long⟩, goon (by rw [h45]; decide), by show l.length + 1 - (m3 + 1) < l.length + 1 - m3; omega, Wk.same ⟨rfl, rfl, rfl, rfl, trivial⟩⟩
            · have c45 : c.toNat ≠ 45 := byte_ne h45
              obtain rfl : q = true := by rw [hq]; simp; omega
              (repeat(first|refine pSeq ?_|refine pReg ?_|refine sCons ?_|refine sNil ?_|refine pBlock ?_|refine pSkip ?_|refine pExit ?_|refine pRet ?_|refine pCond ?_|refine gNone ?_|refine gOn rfl ?_|refine gOff rfl rfl ?_|refine gTup rfl ?_))
              rw [lab_no (List.mem_of_getElem? hc) h46 (by unfold labB labN; rw [haln]; simpa using c45)]
              exact ⟨rfl, cs⟩
      · obtain rfl : q = false := by rw [hq]; simp; omega
        have ei : i = l.length := by omega
        have e1 := st2 ei
        have e2 : l.drop f = (l.drop f).take (i - f) := by rw [List.take_of_length_le (by rw [List.length_drop]; omega)]
        rw [e1, e2] at h2
        have bad : labelF ((l.drop f).take (i - f)) = false → (if (splitF 46 l).all labelF = true then (if longF l = true then 3 else 0) else 5) = 5 := fun h => by rw [h2, List.all_append, List.all_cons, h]; simp
        have nxt : (i + 1 ≤ l.length ∧ splitF 46 l = (done ++ [(l.drop f).take (i - f)]) ++ splitF 46 (l.drop (i + 1)) ∧ i + 1 ≤ i + 1 ∧ ((l.drop (i + 1)).take (i + 1 - (i + 1))).all labB = true) ∨ (i + 1 = l.length + 1 ∧ splitF 46 l = done ++ [(l.drop f).take (i - f)]) := .inr ⟨by omega, h2⟩
        clear st1 st2 e1 e2
        (repeat(first|refine pSeq ?_|refine pReg ?_|refine sCons ?_|refine sNil ?_|refine pBlock ?_|refine pSkip ?_|refine pExit ?_|refine pRet ?_|refine pCond ?_|refine gNone ?_|refine gOn rfl ?_|refine gOff rfl rfl ?_|refine gTup rfl ?_))
        intro q hq
        have hgl : ((l.drop f).take (i - f)).length = i - f := by rw [List.length_take, List.length_drop]; omega
        by_cases hif : i = f
        · obtain rfl : q = true := by rw [hq]; simp; omega
          (repeat(first|refine pSeq ?_|refine pReg ?_|refine sCons ?_|refine sNil ?_|refine pBlock ?_|refine pSkip ?_|refine pExit ?_|refine pRet ?_|refine pCond ?_|refine gNone ?_|refine gOn rfl ?_|refine gOff rfl rfl ?_|refine gTup rfl ?_))
          rw [bad (by rw [hif, Nat.sub_self]; rfl)]
          exact ⟨rfl, cs⟩
        · obtain rfl : q = false := by rw [hq]; simp; omega
          obtain ⟨a, ha⟩ : ∃ a, l[f]? = some a := ⟨_, List.getElem?_eq_getElem (by omega)⟩
          obtain ⟨b, hb⟩ : ∃ b, l[i - 1]? = some b := ⟨_, List.getElem?_eq_getElem (by omega)⟩
          have ga : ((l.drop f).take (i - f))[0]? = some a := by rw [List.getElem?_take_of_lt (by omega), List.getElem?_drop]; exact ha
          have gb : ((l.drop f).take (i - f))[((l.drop f).take (i - f)).length - 1]? = some b := by rw [hgl, List.getElem?_take_of_lt (by omega), List.getElem?_drop, show f + (i - f - 1) = i - 1 by omega]; exact hb
          have hends := ends_is ga gb
          have hlab : labelF ((l.drop f).take (i - f)) = (decide (a ≠ 45) && decide (b ≠ 45)) := by unfold labelF; rw [h4, hends, Bool.true_and]
          (repeat(first|refine pSeq ?_|refine pReg ?_|refine sCons ?_|refine sNil ?_|refine pBlock ?_|refine pSkip ?_|refine pExit ?_|refine pRet ?_|refine pCond ?_|refine gNone ?_|refine gOn rfl ?_|refine gOff rfl rfl ?_|refine gTup rfl ?_))
          refine ⟨by omega, ?_⟩
          intro m hm
          obtain rfl : m = f := by omega
          refine ⟨a, ha, ?_⟩
          (repeat(first|refine pSeq ?_|refine pReg ?_|refine sCons ?_|refine sNil ?_|refine pBlock ?_|refine pSkip ?_|refine pExit ?_|refine pRet ?_|refine pCond ?_|refine gNone ?_|refine gOn rfl ?_|refine gOff rfl rfl ?_|refine gTup rfl ?_))
          intro q hq
          by_cases ha45 : a = 45
          · obtain rfl : q = true := by rw [hq, ha45]; rfl
            (repeat(first|refine pSeq ?_|refine pReg ?_|refine sCons ?_|refine sNil ?_|refine pBlock ?_|refine pSkip ?_|refine pExit ?_|refine pRet ?_|refine pCond ?_|refine gNone ?_|refine gOn rfl ?_|refine gOff rfl rfl ?_|refine gTup rfl ?_))
            rw [bad (by rw [hlab, ha45]; rfl)]
            exact ⟨rfl, cs⟩
          · have a45 : a.toNat ≠ 45 := byte_ne ha45
            obtain rfl : q = false := by rw [hq]; simp; omega
            (repeat(first|refine pSeq ?_|refine pReg ?_|refine sCons ?_|refine sNil ?_|refine pBlock ?_|refine pSkip ?_|refine pExit ?_|refine pRet ?_|refine pCond ?_|refine gNone ?_|refine gOn rfl ?_|refine gOff rfl rfl ?_|refine gTup rfl ?_))
            intro z hz
            rw [i64_id (by omega)] at hz
            (repeat(first|refine pSeq ?_|refine pReg ?_|refine sCons ?_|refine sNil ?_|refine pBlock ?_|refine pSkip ?_|refine pExit ?_|refine pRet ?_|refine pCond ?_|refine gNone ?_|refine gOn rfl ?_|refine gOff rfl rfl ?_|refine gTup rfl ?_))
            refine ⟨by omega, ?_⟩
            intro m2 hm2
            obtain rfl : m2 = i - 1 := by omega
            refine ⟨b, hb, ?_⟩
            (repeat(first|refine pSeq ?_|refine pReg ?_|refine sCons ?_|refine sNil ?_|refine pBlock ?_|refine pSkip ?_|refine pExit ?_|refine pRet ?_|refine pCond ?_|refine gNone ?_|refine gOn rfl ?_|refine gOff rfl rfl ?_|refine gTup rfl ?_))
            intro q hq
            by_cases hb45 : b = 45
            · obtain rfl : q = true := by rw [hq, hb45]; rfl
              (repeat(first|refine pSeq ?_|refine pReg ?_|refine sCons ?_|refine sNil ?_|refine pBlock ?_|refine pSkip ?_|refine pExit ?_|refine pRet ?_|refine pCond ?_|refine gNone ?_|refine gOn rfl ?_|refine gOff rfl rfl ?_|refine gTup rfl ?_))
              rw [bad (by rw [hlab, hb45]; simp)]
              exact ⟨rfl, cs⟩
            · have b45 : b.toNat ≠ 45 := byte_ne hb45
              obtain rfl : q = false := by rw [hq]; simp; omega
              have hok : labelF ((l.drop m).take (i - m)) = true := by rw [hlab]; simp [ha45, hb45]
              (repeat(first|refine pSeq ?_|refine pReg ?_|refine sCons ?_|refine sNil ?_|refine pBlock ?_|refine pSkip ?_|refine pExit ?_|refine pRet ?_|refine pCond ?_|refine gNone ?_|refine gOn rfl ?_|refine gOff rfl rfl ?_|refine gTup rfl ?_))
              intro z2 hz2
              rw [i64_id (by omega)] at hz2
              (repeat(first|refine pSeq ?_|refine pReg ?_|refine sCons ?_|refine sNil ?_|refine pBlock ?_|refine pSkip ?_|refine pExit ?_|refine pRet ?_|refine pCond ?_|refine gNone ?_|refine gOn rfl ?_|refine gOff rfl rfl ?_|refine gTup rfl ?_))
              intro q hq
              by_cases h63 : 63 < i - m
              · obtain rfl : q = true := by rw [hq]; simp; omega
                (repeat(first|refine pSeq ?_|refine pReg ?_|refine sCons ?_|refine sNil ?_|refine pBlock ?_|refine pSkip ?_|refine pExit ?_|refine pRet ?_|refine pCond ?_|refine gNone ?_|refine gOn rfl ?_|refine gOff rfl rfl ?_|refine gTup rfl ?_))
                intro z3 hz3
                rw [i64_id (by omega)] at hz3
                obtain rfl : z3 = ((i + 1 : Nat) : Int) := by omega
                (repeat(first|refine pSeq ?_|refine pReg ?_|refine sCons ?_|refine sNil ?_|refine pBlock ?_|refine pSkip ?_|refine pExit ?_|refine pRet ?_|refine pCond ?_|refine gNone ?_|refine gOn rfl ?_|refine gOff rfl rfl ?_|refine gTup rfl ?_))
                intro z4 hz4
                rw [i64_id (by omega)] at hz4
                obtain rfl : z4 = ((i + 1 : Nat) : Int) := by omega
                (repeat(first|refine pSeq ?_|refine pReg ?_|refine sCons ?_|refine sNil ?_|refine pBlock ?_|refine pSkip ?_|refine pExit ?_|refine pRet ?_|refine pCond ?_|refine gNone ?_|refine gOn rfl ?_|refine gOff rfl rfl ?_|refine gTup rfl ?_))
                exact ⟨⟨i + 1, i + 1, done ++ [(l.drop m).take (i - m)], true⟩, ⟨nxt, by rw [List.all_append, h5, Bool.true_and, List.all_cons, hok]; rfl, by rw [List.any_append, List.any_cons, hgl, decide_eq_true h63]; simp⟩, by show l.length + 1 - (i + 1) < l.length + 1 - i; omega, Wk.same ⟨rfl, rfl, rfl, rfl, trivial⟩⟩
              · obtain rfl : q = false := by rw [hq]; simp; omega
                (repeat(first|refine pSeq ?_|refine pReg ?_|refine sCons ?_|refine sNil ?_|refine pBlock ?_|refine pSkip ?_|refine pExit ?_|refine pRet ?_|refine pCond ?_|refine gNone ?_|refine gOn rfl ?_|refine gOff rfl rfl ?_|refine gTup rfl ?_))
                intro z3 hz3
                rw [i64_id (by omega)] at hz3
                obtain rfl : z3 = ((i + 1 : Nat) : Int) := by omega
                (repeat(first|refine pSeq ?_|refine pReg ?_|refine sCons ?_|refine sNil ?_|refine pBlock ?_|refine pSkip ?_|refine pExit ?_|refine pRet ?_|refine pCond ?_|refine gNone ?_|refine gOn rfl ?_|refine gOff rfl rfl ?_|refine gTup rfl ?_))
                intro z4 hz4
                rw [i64_id (by omega)] at hz4
                obtain rfl : z4 = ((i + 1 : Nat) : Int) := by omega
                (repeat(first|refine pSeq ?_|refine pReg ?_|refine sCons ?_|refine sNil ?_|refine pBlock ?_|refine pSkip ?_|refine pExit ?_|refine pRet ?_|refine pCond ?_|refine gNone ?_|refine gOn rfl ?_|refine gOff rfl rfl ?_|refine gTup rfl ?_))
                exact ⟨⟨i + 1, i + 1, done ++ [(l.drop m).take (i - m)], long⟩, ⟨nxt, by rw [List.all_append, h5, Bool.true_and, List.all_cons, hok]; rfl, by rw [List.any_append, List.any_cons, hgl, decide_eq_false h63, h6]; simp⟩, by show l.length + 1 - (i + 1) < l.length + 1 - i; omega, Wk.same ⟨rfl, rfl, rfl, rfl, trivial⟩⟩
    · obtain ⟨h2, h3⟩ : i = l.length + 1 ∧ splitF 46 l = done := h1.elim (fun h => absurd h.1 hle) id
      obtain rfl : q = false := by rw [hq]; simp; omega
      have hlong : long = longF l := by rw [h6]; unfold longF; rw [h3]
      rw [h3, h5, if_pos rfl, ← hlong]
      (repeat(first|refine pSeq ?_|refine pReg ?_|refine sCons ?_|refine sNil ?_|refine pBlock ?_|refine pSkip ?_|refine pExit ?_|refine pRet ?_|refine pCond ?_|refine gNone ?_|refine gOn rfl ?_|refine gOff rfl rfl ?_|refine gTup rfl ?_))
      cases long with
      | true =>
        (repeat(first|refine pSeq ?_|refine pReg ?_|refine sCons ?_|refine sNil ?_|refine pBlock ?_|refine pSkip ?_|refine pExit ?_|refine pRet ?_|refine pCond ?_|refine gNone ?_|refine gOn rfl ?_|refine gOff rfl rfl ?_|refine gTup rfl ?_))
        exact ⟨rfl, cs⟩
      | false =>
        (repeat(first|refine pSeq ?_|refine pReg ?_|refine sCons ?_|refine sNil ?_|refine pBlock ?_|refine pSkip ?_|refine pExit ?_|refine pRet ?_|refine pCond ?_|refine gNone ?_|refine gOn rfl ?_|refine gOff rfl rfl ?_|refine gTup rfl ?_))
        exact ⟨rfl, cs⟩
end Go.Vf.S

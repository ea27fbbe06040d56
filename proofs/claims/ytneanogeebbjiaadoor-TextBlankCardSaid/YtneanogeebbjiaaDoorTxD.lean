import Derived.Test.YtneanogeebbjiaaDoorTxA
/- A comment at the front. -/
namespace Go.Vf.S
open Go Go.Vf
attribute [local irreducible] wSeq wRow wp wG
set_option linter.unusedVariables false
set_option linter.unusedSimpArgs false
set_option maxRecDepth 10000

/-- Byte by byte: so deep, behind a backslash or not. -/
def cm : List UInt8 → Nat → Bool → Nat → Nat × Nat
  | [], _, _, _ => (0, 4)
  | c :: r, d, e, i =>
    if plainB c = false ∧ (e = true ∨ c.toNat ≠ 9) then (0, 5)
    else if e = true then cm r d false (i + 1)
    else if c.toNat = 92 then cm r d true (i + 1)
    else if c.toNat = 40 ∧ d = 8 then (0, 3)
    else if c.toNat = 40 then cm r (d + 1) false (i + 1)
    else if c.toNat = 41 ∧ d = 1 then (i + 1, 0)
    else if c.toNat = 41 then cm r (d - 1) false (i + 1)
    else cm r d false (i + 1)
def commentF (l : List UInt8) : Nat × Nat := if l.take 1 = [40] then cm l 0 false 0 else (0, 5)
abbrev cRes (q : Nat × Nat) : Value := .tuple ⟨[.int .i64 q.1, .int .i64 q.2]⟩

structure CIt where
  p : Nat
  s : SS
  d : Nat
  e : Bool

theorem comment_w {s : SS} {l : List UInt8} (hl : l.length ≤ 1000000) : CallW pr n_text_Comment [str l] s fun v s' => v = cRes (commentF l) ∧ Chg s s' [] := by
  refine CallW.run good ok_text_Comment (by simp) rfl ?_
  (repeat (first | refine pSeq ?_ | refine pReg ?_ | refine sRaw ?_ | refine sCons ?_ | refine sNil ?_ | refine rCons ?_ | refine rNil ?_ | refine kNo ?_ | refine pRow ?_ | refine pBlock ?_ | refine pSkip ?_ | refine pExit ?_ | refine pRet ?_ | refine pCond ?_ | refine gNone ?_ | refine gOn rfl ?_ | refine gOff rfl rfl ?_ | refine gTup rfl ?_))
  refine prefix_w.mono fun v s q => ?_
  obtain ⟨rfl, rfl⟩ := q
  (repeat (first | refine pSeq ?_ | refine pReg ?_ | refine sRaw ?_ | refine sCons ?_ | refine sNil ?_ | refine rCons ?_ | refine rNil ?_ | refine kNo ?_ | refine pRow ?_ | refine pBlock ?_ | refine pSkip ?_ | refine pExit ?_ | refine pRet ?_ | refine pCond ?_ | refine gNone ?_ | refine gOn rfl ?_ | refine gOff rfl rfl ?_ | refine gTup rfl ?_))
  intro q hq
  by_cases hfr : l.take 1 = [40]
  · have eF : commentF l = cm l 0 false 0 := by unfold commentF; rw [if_pos hfr]
    obtain rfl : q = false := by rw [hq]; simp [hfr]
    (repeat (first | refine pSeq ?_ | refine pReg ?_ | refine sRaw ?_ | refine sCons ?_ | refine sNil ?_ | refine rCons ?_ | refine rNil ?_ | refine kNo ?_ | refine pRow ?_ | refine pBlock ?_ | refine pSkip ?_ | refine pExit ?_ | refine pRet ?_ | refine pCond ?_ | refine gNone ?_ | refine gOn rfl ?_ | refine gOff rfl rfl ?_ | refine gTup rfl ?_))
    refine srange_W rfl un_S rfl ?_
    (repeat (first | refine pSeq ?_ | refine pReg ?_ | refine sRaw ?_ | refine sCons ?_ | refine sNil ?_ | refine rCons ?_ | refine rNil ?_ | refine kNo ?_ | refine pRow ?_ | refine pBlock ?_ | refine pSkip ?_ | refine pExit ?_ | refine pRet ?_ | refine pCond ?_ | refine gNone ?_ | refine gOn rfl ?_ | refine gOff rfl rfl ?_ | refine gTup rfl ?_))
    refine pLoop (MW.head good (fun x : CIt => l.length - x.p) (fun x => cm (l.drop x.p) x.d x.e x.p = commentF l ∧ x.p ≤ l.length ∧ (x.p = 0 ∧ x.e = false ∨ 1 ≤ x.d) ∧ x.d ≤ 8 ∧ At s s.next l ⟨x.p, x.s⟩)
      (fun x => [(4, .int .i64 x.d), (5, .bool x.e), (12, .pointer (some ⟨s.next, 0, none⟩))]) (fun x => x.s) ⟨0, _, 0, false⟩ ⟨eF.symm, Nat.zero_le _, .inl ⟨rfl, rfl⟩, by show 0 ≤ 8; omega, .start s l⟩ (Wk.same ⟨rfl, rfl, rfl, trivial⟩) ?_)
    intro ⟨p, s1, d, e⟩ ⟨h0, hp, hd, hd8, h1⟩
    dsimp only at h0 hp hd hd8 h1 ⊢
    (repeat (first | refine pSeq ?_ | refine pReg ?_ | refine sRaw ?_ | refine sCons ?_ | refine sNil ?_ | refine rCons ?_ | refine rNil ?_ | refine kNo ?_ | refine pRow ?_ | refine pBlock ?_ | refine pSkip ?_ | refine pExit ?_ | refine pRet ?_ | refine pCond ?_ | refine gNone ?_ | refine gOn rfl ?_ | refine gOff rfl rfl ?_ | refine gTup rfl ?_))
    refine snext_L rfl rfl h1.2.2.2 (fun he => ?_) (fun c hc h7 => ?_) (fun c r w hc h7 hr hr2 _ hw _ => ?_)
    · (repeat (first | refine pSeq ?_ | refine pReg ?_ | refine sRaw ?_ | refine sCons ?_ | refine sNil ?_ | refine rCons ?_ | refine rNil ?_ | refine kNo ?_ | refine pRow ?_ | refine pBlock ?_ | refine pSkip ?_ | refine pExit ?_ | refine pRet ?_ | refine pCond ?_ | refine gNone ?_ | refine gOn rfl ?_ | refine gOff rfl rfl ?_ | refine gTup rfl ?_))
      rw [← h0, List.drop_of_length_le he]
      exact ⟨rfl, h1.1⟩
    · have hlt : p < l.length := lt_of_get hc
      rw [drop_next (show l[p]? = some c from hc), cm] at h0
      (repeat (first | refine pSeq ?_ | refine pReg ?_ | refine sRaw ?_ | refine sCons ?_ | refine sNil ?_ | refine rCons ?_ | refine rNil ?_ | refine kNo ?_ | refine pRow ?_ | refine pBlock ?_ | refine pSkip ?_ | refine pExit ?_ | refine pRet ?_ | refine pCond ?_ | refine gNone ?_ | refine gOn rfl ?_ | refine gOff rfl rfl ?_ | refine gTup rfl ?_))
      refine (plain_w (by omega)).mono fun v s2 q => ?_
      obtain ⟨rfl, rfl⟩ := q
      (repeat (first | refine pSeq ?_ | refine pReg ?_ | refine sRaw ?_ | refine sCons ?_ | refine sNil ?_ | refine rCons ?_ | refine rNil ?_ | refine kNo ?_ | refine pRow ?_ | refine pBlock ?_ | refine pSkip ?_ | refine pExit ?_ | refine pRet ?_ | refine pCond ?_ | refine gNone ?_ | refine gOn rfl ?_ | refine gOff rfl rfl ?_ | refine gTup rfl ?_))
      have e0 : decide (32 ≤ c.toNat ∧ c.toNat ≤ 126) = plainB c := rfl
      rw [e0]
      intro q hq
      have first40 : p = 0 → c.toNat = 40 := fun hp0 => by
        subst hp0
        obtain ⟨c1, r1, rfl⟩ : ∃ c1 r1, l = c1 :: r1 := by cases l with
          | nil => simp at hlt
          | cons a b => exact ⟨a, b, rfl⟩
        simp at hfr hc
        rw [← hc, hfr]
        rfl
      by_cases hpl : plainB c = true
      · obtain rfl : q = false := by rw [hq, hpl]; rfl
        rw [if_neg (by rw [hpl]; simp)] at h0
        cases e with
        | true =>
          have hd1 : 1 ≤ d := by
            rcases hd with q0 | q0
            · cases q0.2
            · exact q0
          rw [if_pos rfl] at h0
          (repeat (first | refine pSeq ?_ | refine pReg ?_ | refine sRaw ?_ | refine sCons ?_ | refine sNil ?_ | refine rCons ?_ | refine rNil ?_ | refine kNo ?_ | refine pRow ?_ | refine pBlock ?_ | refine pSkip ?_ | refine pExit ?_ | refine pRet ?_ | refine pCond ?_ | refine gNone ?_ | refine gOn rfl ?_ | refine gOff rfl rfl ?_ | refine gTup rfl ?_))
          exact ⟨⟨p + 1, _, d, false⟩, ⟨h0, hlt, .inr (by first | (show 1 ≤ d + 1; omega) | (show 1 ≤ d - 1; omega) | (show 1 ≤ d; omega)), by first | (show d + 1 ≤ 8; omega) | (show d - 1 ≤ 8; omega) | (show d ≤ 8; omega), h1.go _⟩, by show l.length - (p + 1) < l.length - p; omega, Wk.same ⟨rfl, rfl, rfl, trivial⟩⟩
        | false =>
          rw [if_neg (by simp)] at h0
          (repeat (first | refine pSeq ?_ | refine pReg ?_ | refine sRaw ?_ | refine sCons ?_ | refine sNil ?_ | refine rCons ?_ | refine rNil ?_ | refine kNo ?_ | refine pRow ?_ | refine pBlock ?_ | refine pSkip ?_ | refine pExit ?_ | refine pRet ?_ | refine pCond ?_ | refine gNone ?_ | refine gOn rfl ?_ | refine gOff rfl rfl ?_ | refine gTup rfl ?_))
          intro q hq
          by_cases h92 : c.toNat = 92
          · obtain rfl : q = true := by rw [hq]; simp <;> omega
            rw [if_pos h92] at h0
            have hd1 : 1 ≤ d := hd.resolve_left fun q0 => by have := first40 q0.1; omega
            (repeat (first | refine pSeq ?_ | refine pReg ?_ | refine sRaw ?_ | refine sCons ?_ | refine sNil ?_ | refine rCons ?_ | refine rNil ?_ | refine kNo ?_ | refine pRow ?_ | refine pBlock ?_ | refine pSkip ?_ | refine pExit ?_ | refine pRet ?_ | refine pCond ?_ | refine gNone ?_ | refine gOn rfl ?_ | refine gOff rfl rfl ?_ | refine gTup rfl ?_))
            exact ⟨⟨p + 1, _, d, true⟩, ⟨h0, hlt, .inr (by first | (show 1 ≤ d + 1; omega) | (show 1 ≤ d - 1; omega) | (show 1 ≤ d; omega)), by first | (show d + 1 ≤ 8; omega) | (show d - 1 ≤ 8; omega) | (show d ≤ 8; omega), h1.go _⟩, by show l.length - (p + 1) < l.length - p; omega, Wk.same ⟨rfl, rfl, rfl, trivial⟩⟩
          · obtain rfl : q = false := by rw [hq]; simp <;> omega
            rw [if_neg h92] at h0
            (repeat (first | refine pSeq ?_ | refine pReg ?_ | refine sRaw ?_ | refine sCons ?_ | refine sNil ?_ | refine rCons ?_ | refine rNil ?_ | refine kNo ?_ | refine pRow ?_ | refine pBlock ?_ | refine pSkip ?_ | refine pExit ?_ | refine pRet ?_ | refine pCond ?_ | refine gNone ?_ | refine gOn rfl ?_ | refine gOff rfl rfl ?_ | refine gTup rfl ?_))
            intro q hq
            by_cases h40 : c.toNat = 40
            · obtain rfl : q = true := by rw [hq]; simp <;> omega
              (repeat (first | refine pSeq ?_ | refine pReg ?_ | refine sRaw ?_ | refine sCons ?_ | refine sNil ?_ | refine rCons ?_ | refine rNil ?_ | refine kNo ?_ | refine pRow ?_ | refine pBlock ?_ | refine pSkip ?_ | refine pExit ?_ | refine pRet ?_ | refine pCond ?_ | refine gNone ?_ | refine gOn rfl ?_ | refine gOff rfl rfl ?_ | refine gTup rfl ?_))
              intro q hq
              by_cases h8 : d = 8
              · obtain rfl : q = true := by rw [hq]; simp <;> omega
                rw [if_pos ⟨h40, h8⟩] at h0
                (repeat (first | refine pSeq ?_ | refine pReg ?_ | refine sRaw ?_ | refine sCons ?_ | refine sNil ?_ | refine rCons ?_ | refine rNil ?_ | refine kNo ?_ | refine pRow ?_ | refine pBlock ?_ | refine pSkip ?_ | refine pExit ?_ | refine pRet ?_ | refine pCond ?_ | refine gNone ?_ | refine gOn rfl ?_ | refine gOff rfl rfl ?_ | refine gTup rfl ?_))
                rw [← h0]
                exact ⟨rfl, (h1.go _).1⟩
              · obtain rfl : q = false := by rw [hq]; simp <;> omega
                rw [if_neg (fun q => h8 q.2), if_pos h40] at h0
                (repeat (first | refine pSeq ?_ | refine pReg ?_ | refine sRaw ?_ | refine sCons ?_ | refine sNil ?_ | refine rCons ?_ | refine rNil ?_ | refine kNo ?_ | refine pRow ?_ | refine pBlock ?_ | refine pSkip ?_ | refine pExit ?_ | refine pRet ?_ | refine pCond ?_ | refine gNone ?_ | refine gOn rfl ?_ | refine gOff rfl rfl ?_ | refine gTup rfl ?_))
                intro q hq
                obtain rfl : q = true := by rw [hq]; simp <;> omega
                (repeat (first | refine pSeq ?_ | refine pReg ?_ | refine sRaw ?_ | refine sCons ?_ | refine sNil ?_ | refine rCons ?_ | refine rNil ?_ | refine kNo ?_ | refine pRow ?_ | refine pBlock ?_ | refine pSkip ?_ | refine pExit ?_ | refine pRet ?_ | refine pCond ?_ | refine gNone ?_ | refine gOn rfl ?_ | refine gOff rfl rfl ?_ | refine gTup rfl ?_))
                intro z hz
                rw [i64_id (by omega)] at hz
                (repeat (first | refine pSeq ?_ | refine pReg ?_ | refine sRaw ?_ | refine sCons ?_ | refine sNil ?_ | refine rCons ?_ | refine rNil ?_ | refine kNo ?_ | refine pRow ?_ | refine pBlock ?_ | refine pSkip ?_ | refine pExit ?_ | refine pRet ?_ | refine pCond ?_ | refine gNone ?_ | refine gOn rfl ?_ | refine gOff rfl rfl ?_ | refine gTup rfl ?_))
                exact ⟨⟨p + 1, _, d + 1, false⟩, ⟨h0, hlt, .inr (by first | (show 1 ≤ d + 1; omega) | (show 1 ≤ d - 1; omega) | (show 1 ≤ d; omega)), by first | (show d + 1 ≤ 8; omega) | (show d - 1 ≤ 8; omega) | (show d ≤ 8; omega), h1.go _⟩, by show l.length - (p + 1) < l.length - p; omega, Wk.same ⟨by show some (Value.int .i64 z) = _; rw [hz]; rfl, rfl, rfl, trivial⟩⟩
            · obtain rfl : q = false := by rw [hq]; simp <;> omega
              rw [if_neg (fun q => h40 q.1), if_neg h40] at h0
              have hd1 : 1 ≤ d := hd.resolve_left fun q0 => by have := first40 q0.1; omega
              (repeat (first | refine pSeq ?_ | refine pReg ?_ | refine sRaw ?_ | refine sCons ?_ | refine sNil ?_ | refine rCons ?_ | refine rNil ?_ | refine kNo ?_ | refine pRow ?_ | refine pBlock ?_ | refine pSkip ?_ | refine pExit ?_ | refine pRet ?_ | refine pCond ?_ | refine gNone ?_ | refine gOn rfl ?_ | refine gOff rfl rfl ?_ | refine gTup rfl ?_))
              intro q hq
              obtain rfl : q = false := by rw [hq]; simp <;> omega
              (repeat (first | refine pSeq ?_ | refine pReg ?_ | refine sRaw ?_ | refine sCons ?_ | refine sNil ?_ | refine rCons ?_ | refine rNil ?_ | refine kNo ?_ | refine pRow ?_ | refine pBlock ?_ | refine pSkip ?_ | refine pExit ?_ | refine pRet ?_ | refine pCond ?_ | refine gNone ?_ | refine gOn rfl ?_ | refine gOff rfl rfl ?_ | refine gTup rfl ?_))
              intro q hq
              by_cases h41 : c.toNat = 41
              · obtain rfl : q = true := by rw [hq]; simp <;> omega
                (repeat (first | refine pSeq ?_ | refine pReg ?_ | refine sRaw ?_ | refine sCons ?_ | refine sNil ?_ | refine rCons ?_ | refine rNil ?_ | refine kNo ?_ | refine pRow ?_ | refine pBlock ?_ | refine pSkip ?_ | refine pExit ?_ | refine pRet ?_ | refine pCond ?_ | refine gNone ?_ | refine gOn rfl ?_ | refine gOff rfl rfl ?_ | refine gTup rfl ?_))
                intro q hq
                by_cases h1d : d = 1
                · obtain rfl : q = true := by rw [hq]; simp <;> omega
                  rw [if_pos ⟨h41, h1d⟩] at h0
                  (repeat (first | refine pSeq ?_ | refine pReg ?_ | refine sRaw ?_ | refine sCons ?_ | refine sNil ?_ | refine rCons ?_ | refine rNil ?_ | refine kNo ?_ | refine pRow ?_ | refine pBlock ?_ | refine pSkip ?_ | refine pExit ?_ | refine pRet ?_ | refine pCond ?_ | refine gNone ?_ | refine gOn rfl ?_ | refine gOff rfl rfl ?_ | refine gTup rfl ?_))
                  intro z hz
                  dsimp only at hz
                  rw [i64_id (by omega)] at hz
                  (repeat (first | refine pSeq ?_ | refine pReg ?_ | refine sRaw ?_ | refine sCons ?_ | refine sNil ?_ | refine rCons ?_ | refine rNil ?_ | refine kNo ?_ | refine pRow ?_ | refine pBlock ?_ | refine pSkip ?_ | refine pExit ?_ | refine pRet ?_ | refine pCond ?_ | refine gNone ?_ | refine gOn rfl ?_ | refine gOff rfl rfl ?_ | refine gTup rfl ?_))
                  rw [← h0, hz]
                  exact ⟨rfl, (h1.go _).1⟩
                · obtain rfl : q = false := by rw [hq]; simp <;> omega
                  rw [if_neg (fun q => h1d q.2), if_pos h41] at h0
                  (repeat (first | refine pSeq ?_ | refine pReg ?_ | refine sRaw ?_ | refine sCons ?_ | refine sNil ?_ | refine rCons ?_ | refine rNil ?_ | refine kNo ?_ | refine pRow ?_ | refine pBlock ?_ | refine pSkip ?_ | refine pExit ?_ | refine pRet ?_ | refine pCond ?_ | refine gNone ?_ | refine gOn rfl ?_ | refine gOff rfl rfl ?_ | refine gTup rfl ?_))
                  intro q hq
                  obtain rfl : q = true := by rw [hq]; simp <;> omega
                  (repeat (first | refine pSeq ?_ | refine pReg ?_ | refine sRaw ?_ | refine sCons ?_ | refine sNil ?_ | refine rCons ?_ | refine rNil ?_ | refine kNo ?_ | refine pRow ?_ | refine pBlock ?_ | refine pSkip ?_ | refine pExit ?_ | refine pRet ?_ | refine pCond ?_ | refine gNone ?_ | refine gOn rfl ?_ | refine gOff rfl rfl ?_ | refine gTup rfl ?_))
                  intro z hz
                  rw [i64_id (by omega)] at hz
                  (repeat (first | refine pSeq ?_ | refine pReg ?_ | refine sRaw ?_ | refine sCons ?_ | refine sNil ?_ | refine rCons ?_ | refine rNil ?_ | refine kNo ?_ | refine pRow ?_ | refine pBlock ?_ | refine pSkip ?_ | refine pExit ?_ | refine pRet ?_ | refine pCond ?_ | refine gNone ?_ | refine gOn rfl ?_ | refine gOff rfl rfl ?_ | refine gTup rfl ?_))
                  exact ⟨⟨p + 1, _, d - 1, false⟩, ⟨h0, hlt, .inr (by first | (show 1 ≤ d + 1; omega) | (show 1 ≤ d - 1; omega) | (show 1 ≤ d; omega)), by first | (show d + 1 ≤ 8; omega) | (show d - 1 ≤ 8; omega) | (show d ≤ 8; omega), h1.go _⟩, by show l.length - (p + 1) < l.length - p; omega, Wk.same ⟨by show some (Value.int .i64 z) = some (Value.int .i64 ((d - 1 : Nat) : Int)); rw [hz]; congr 2; omega, rfl, rfl, trivial⟩⟩
              · obtain rfl : q = false := by rw [hq]; simp <;> omega
                rw [if_neg (fun q => h41 q.1), if_neg h41] at h0
                (repeat (first | refine pSeq ?_ | refine pReg ?_ | refine sRaw ?_ | refine sCons ?_ | refine sNil ?_ | refine rCons ?_ | refine rNil ?_ | refine kNo ?_ | refine pRow ?_ | refine pBlock ?_ | refine pSkip ?_ | refine pExit ?_ | refine pRet ?_ | refine pCond ?_ | refine gNone ?_ | refine gOn rfl ?_ | refine gOff rfl rfl ?_ | refine gTup rfl ?_))
                intro q hq
                obtain rfl : q = false := by rw [hq]; simp <;> omega
                (repeat (first | refine pSeq ?_ | refine pReg ?_ | refine sRaw ?_ | refine sCons ?_ | refine sNil ?_ | refine rCons ?_ | refine rNil ?_ | refine kNo ?_ | refine pRow ?_ | refine pBlock ?_ | refine pSkip ?_ | refine pExit ?_ | refine pRet ?_ | refine pCond ?_ | refine gNone ?_ | refine gOn rfl ?_ | refine gOff rfl rfl ?_ | refine gTup rfl ?_))
                exact ⟨⟨p + 1, _, d, false⟩, ⟨h0, hlt, .inr (by first | (show 1 ≤ d + 1; omega) | (show 1 ≤ d - 1; omega) | (show 1 ≤ d; omega)), by first | (show d + 1 ≤ 8; omega) | (show d - 1 ≤ 8; omega) | (show d ≤ 8; omega), h1.go _⟩, by show l.length - (p + 1) < l.length - p; omega, Wk.same ⟨rfl, rfl, rfl, trivial⟩⟩
      · obtain rfl : q = true := by rw [hq, plain_no hpl]; rfl
        cases e with
        | true =>
          rw [if_pos ⟨plain_no hpl, .inl rfl⟩] at h0
          (repeat (first | refine pSeq ?_ | refine pReg ?_ | refine sRaw ?_ | refine sCons ?_ | refine sNil ?_ | refine rCons ?_ | refine rNil ?_ | refine kNo ?_ | refine pRow ?_ | refine pBlock ?_ | refine pSkip ?_ | refine pExit ?_ | refine pRet ?_ | refine pCond ?_ | refine gNone ?_ | refine gOn rfl ?_ | refine gOff rfl rfl ?_ | refine gTup rfl ?_))
          rw [← h0]
          exact ⟨rfl, (h1.go _).1⟩
        | false =>
          (repeat (first | refine pSeq ?_ | refine pReg ?_ | refine sRaw ?_ | refine sCons ?_ | refine sNil ?_ | refine rCons ?_ | refine rNil ?_ | refine kNo ?_ | refine pRow ?_ | refine pBlock ?_ | refine pSkip ?_ | refine pExit ?_ | refine pRet ?_ | refine pCond ?_ | refine gNone ?_ | refine gOn rfl ?_ | refine gOff rfl rfl ?_ | refine gTup rfl ?_))
          intro q hq
          by_cases h9 : c.toNat = 9
          · obtain rfl : q = false := by rw [hq]; simp <;> omega
            have hd1 : 1 ≤ d := hd.resolve_left fun q0 => by have := first40 q0.1; omega
            rw [if_neg (fun q => q.2.elim (fun x => by cases x) fun x => x h9), if_neg (by simp), if_neg (by omega), if_neg (fun q => by omega), if_neg (by omega), if_neg (fun q => by omega), if_neg (by omega)] at h0
            (repeat (first | refine pSeq ?_ | refine pReg ?_ | refine sRaw ?_ | refine sCons ?_ | refine sNil ?_ | refine rCons ?_ | refine rNil ?_ | refine kNo ?_ | refine pRow ?_ | refine pBlock ?_ | refine pSkip ?_ | refine pExit ?_ | refine pRet ?_ | refine pCond ?_ | refine gNone ?_ | refine gOn rfl ?_ | refine gOff rfl rfl ?_ | refine gTup rfl ?_))
            intro q hq
            obtain rfl : q = false := by rw [hq]; simp <;> omega
            (repeat (first | refine pSeq ?_ | refine pReg ?_ | refine sRaw ?_ | refine sCons ?_ | refine sNil ?_ | refine rCons ?_ | refine rNil ?_ | refine kNo ?_ | refine pRow ?_ | refine pBlock ?_ | refine pSkip ?_ | refine pExit ?_ | refine pRet ?_ | refine pCond ?_ | refine gNone ?_ | refine gOn rfl ?_ | refine gOff rfl rfl ?_ | refine gTup rfl ?_))
            intro q hq
            obtain rfl : q = false := by rw [hq]; simp <;> omega
            (repeat (first | refine pSeq ?_ | refine pReg ?_ | refine sRaw ?_ | refine sCons ?_ | refine sNil ?_ | refine rCons ?_ | refine rNil ?_ | refine kNo ?_ | refine pRow ?_ | refine pBlock ?_ | refine pSkip ?_ | refine pExit ?_ | refine pRet ?_ | refine pCond ?_ | refine gNone ?_ | refine gOn rfl ?_ | refine gOff rfl rfl ?_ | refine gTup rfl ?_))
            intro q hq
            obtain rfl : q = false := by rw [hq]; simp <;> omega
            (repeat (first | refine pSeq ?_ | refine pReg ?_ | refine sRaw ?_ | refine sCons ?_ | refine sNil ?_ | refine rCons ?_ | refine rNil ?_ | refine kNo ?_ | refine pRow ?_ | refine pBlock ?_ | refine pSkip ?_ | refine pExit ?_ | refine pRet ?_ | refine pCond ?_ | refine gNone ?_ | refine gOn rfl ?_ | refine gOff rfl rfl ?_ | refine gTup rfl ?_))
            intro q hq
            obtain rfl : q = false := by rw [hq]; simp <;> omega
            (repeat (first | refine pSeq ?_ | refine pReg ?_ | refine sRaw ?_ | refine sCons ?_ | refine sNil ?_ | refine rCons ?_ | refine rNil ?_ | refine kNo ?_ | refine pRow ?_ | refine pBlock ?_ | refine pSkip ?_ | refine pExit ?_ | refine pRet ?_ | refine pCond ?_ | refine gNone ?_ | refine gOn rfl ?_ | refine gOff rfl rfl ?_ | refine gTup rfl ?_))
            intro q hq
            obtain rfl : q = false := by rw [hq]; simp <;> omega
            (repeat (first | refine pSeq ?_ | refine pReg ?_ | refine sRaw ?_ | refine sCons ?_ | refine sNil ?_ | refine rCons ?_ | refine rNil ?_ | refine kNo ?_ | refine pRow ?_ | refine pBlock ?_ | refine pSkip ?_ | refine pExit ?_ | refine pRet ?_ | refine pCond ?_ | refine gNone ?_ | refine gOn rfl ?_ | refine gOff rfl rfl ?_ | refine gTup rfl ?_))
            exact ⟨⟨p + 1, _, d, false⟩, ⟨h0, hlt, .inr (by first | (show 1 ≤ d + 1; omega) | (show 1 ≤ d - 1; omega) | (show 1 ≤ d; omega)), by first | (show d + 1 ≤ 8; omega) | (show d - 1 ≤ 8; omega) | (show d ≤ 8; omega), h1.go _⟩, by show l.length - (p + 1) < l.length - p; omega, Wk.same ⟨rfl, rfl, rfl, trivial⟩⟩
          · obtain rfl : q = true := by rw [hq]; simp <;> omega
            rw [if_pos ⟨plain_no hpl, .inr h9⟩] at h0
            (repeat (first | refine pSeq ?_ | refine pReg ?_ | refine sRaw ?_ | refine sCons ?_ | refine sNil ?_ | refine rCons ?_ | refine rNil ?_ | refine kNo ?_ | refine pRow ?_ | refine pBlock ?_ | refine pSkip ?_ | refine pExit ?_ | refine pRet ?_ | refine pCond ?_ | refine gNone ?_ | refine gOn rfl ?_ | refine gOff rfl rfl ?_ | refine gTup rfl ?_))
            rw [← h0]
            exact ⟨rfl, (h1.go _).1⟩
    · rw [drop_next hc, cm] at h0
      (repeat (first | refine pSeq ?_ | refine pReg ?_ | refine sRaw ?_ | refine sCons ?_ | refine sNil ?_ | refine rCons ?_ | refine rNil ?_ | refine kNo ?_ | refine pRow ?_ | refine pBlock ?_ | refine pSkip ?_ | refine pExit ?_ | refine pRet ?_ | refine pCond ?_ | refine gNone ?_ | refine gOn rfl ?_ | refine gOff rfl rfl ?_ | refine gTup rfl ?_))
      refine (plain_w (by omega)).mono fun v s2 q => ?_
      obtain ⟨rfl, rfl⟩ := q
      (repeat (first | refine pSeq ?_ | refine pReg ?_ | refine sRaw ?_ | refine sCons ?_ | refine sNil ?_ | refine rCons ?_ | refine rNil ?_ | refine kNo ?_ | refine pRow ?_ | refine pBlock ?_ | refine pSkip ?_ | refine pExit ?_ | refine pRet ?_ | refine pCond ?_ | refine gNone ?_ | refine gOn rfl ?_ | refine gOff rfl rfl ?_ | refine gTup rfl ?_))
      intro q hq
      obtain rfl : q = true := by rw [hq]; simp <;> omega
      rw [if_pos ⟨plain_hi h7, .inr (by omega)⟩] at h0
      cases e
      · (repeat (first | refine pSeq ?_ | refine pReg ?_ | refine sRaw ?_ | refine sCons ?_ | refine sNil ?_ | refine rCons ?_ | refine rNil ?_ | refine kNo ?_ | refine pRow ?_ | refine pBlock ?_ | refine pSkip ?_ | refine pExit ?_ | refine pRet ?_ | refine pCond ?_ | refine gNone ?_ | refine gOn rfl ?_ | refine gOff rfl rfl ?_ | refine gTup rfl ?_))
        intro q hq
        obtain rfl : q = true := by rw [hq]; simp <;> omega
        (repeat (first | refine pSeq ?_ | refine pReg ?_ | refine sRaw ?_ | refine sCons ?_ | refine sNil ?_ | refine rCons ?_ | refine rNil ?_ | refine kNo ?_ | refine pRow ?_ | refine pBlock ?_ | refine pSkip ?_ | refine pExit ?_ | refine pRet ?_ | refine pCond ?_ | refine gNone ?_ | refine gOn rfl ?_ | refine gOff rfl rfl ?_ | refine gTup rfl ?_))
        rw [← h0]
        exact ⟨rfl, (h1.go _).1⟩
      · (repeat (first | refine pSeq ?_ | refine pReg ?_ | refine sRaw ?_ | refine sCons ?_ | refine sNil ?_ | refine rCons ?_ | refine rNil ?_ | refine kNo ?_ | refine pRow ?_ | refine pBlock ?_ | refine pSkip ?_ | refine pExit ?_ | refine pRet ?_ | refine pCond ?_ | refine gNone ?_ | refine gOn rfl ?_ | refine gOff rfl rfl ?_ | refine gTup rfl ?_))
        rw [← h0]
        exact ⟨rfl, (h1.go _).1⟩
  · have eF : commentF l = (0, 5) := by unfold commentF; rw [if_neg hfr]
    obtain rfl : q = true := by rw [hq]; simp [hfr]
    (repeat (first | refine pSeq ?_ | refine pReg ?_ | refine sRaw ?_ | refine sCons ?_ | refine sNil ?_ | refine rCons ?_ | refine rNil ?_ | refine kNo ?_ | refine pRow ?_ | refine pBlock ?_ | refine pSkip ?_ | refine pExit ?_ | refine pRet ?_ | refine pCond ?_ | refine gNone ?_ | refine gOn rfl ?_ | refine gOff rfl rfl ?_ | refine gTup rfl ?_))
    rw [eF]
    exact ⟨rfl, .refl _ _⟩
end Go.Vf.S

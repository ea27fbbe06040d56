import Derived.Test.YtneanogeebbjiaaDoorTxD
/- The document's comment at the front. -/
namespace Go.Vf.S
open Go Go.Vf
attribute [local irreducible] wSeq wRow wp wG
set_option linter.unusedVariables false
set_option linter.unusedSimpArgs false
set_option maxRecDepth 10000

/-- What the document's own way tells of a comment that begins at a place, so deep. -/
def CmAt (l : List UInt8) (a d n e : Nat) : Prop :=
  if d ≤ 8 then (if e = 0 then a < n ∧ n ≤ l.length ∧ cm (l.drop (a + 1)) d false (a + 1) = (if d = 1 then (n, 0) else cm (l.drop n) (d - 1) false n) else n = 0 ∧ cm (l.drop (a + 1)) d false (a + 1) = (0, e)) else n = 0 ∧ e = 3

theorem CmAt.err {l : List UInt8} {a d e : Nat} (hd : d ≤ 8) (he : e ≠ 0) (h : cm (l.drop (a + 1)) d false (a + 1) = (0, e)) : CmAt l a d 0 e := by
  unfold CmAt
  rw [if_pos hd, if_neg he]
  exact ⟨rfl, h⟩

theorem rcomment_at {l : List UInt8} (hl : l.length ≤ 1000000) : ∀ (k : Nat) (s : SS) (a d : Nat), 1 ≤ d → d + k = 9 → a < l.length →
    CallW pr n_ref04_comment [str l, .int .i64 a, .int .i64 d] s fun v s' => s' = s ∧ ∃ n e, v = cRes (n, e) ∧ CmAt l a d n e
  | 0, s, a, d, hd, hk, ha => by
    refine CallW.run good ok_ref04_comment (by simp) rfl ?_
    (repeat (first | refine pSeq ?_ | refine pReg ?_ | refine sRaw ?_ | refine sCons ?_ | refine sNil ?_ | refine rCons ?_ | refine rNil ?_ | refine kNo ?_ | refine pRow ?_ | refine pBlock ?_ | refine pSkip ?_ | refine pExit ?_ | refine pRet ?_ | refine pCond ?_ | refine gNone ?_ | refine gOn rfl ?_ | refine gOff rfl rfl ?_ | refine gTup rfl ?_))
    intro q hq
    obtain rfl : q = true := by rw [hq]; simp <;> omega
    (repeat (first | refine pSeq ?_ | refine pReg ?_ | refine sRaw ?_ | refine sCons ?_ | refine sNil ?_ | refine rCons ?_ | refine rNil ?_ | refine kNo ?_ | refine pRow ?_ | refine pBlock ?_ | refine pSkip ?_ | refine pExit ?_ | refine pRet ?_ | refine pCond ?_ | refine gNone ?_ | refine gOn rfl ?_ | refine gOff rfl rfl ?_ | refine gTup rfl ?_))
    refine ⟨rfl, 0, 3, rfl, ?_⟩
    unfold CmAt
    rw [if_neg (by omega)]
    exact ⟨rfl, rfl⟩
  | k + 1, s, a, d, hd, hk, ha => by
    refine CallW.run good ok_ref04_comment (by simp) rfl ?_
    (repeat (first | refine pSeq ?_ | refine pReg ?_ | refine sRaw ?_ | refine sCons ?_ | refine sNil ?_ | refine rCons ?_ | refine rNil ?_ | refine kNo ?_ | refine pRow ?_ | refine pBlock ?_ | refine pSkip ?_ | refine pExit ?_ | refine pRet ?_ | refine pCond ?_ | refine gNone ?_ | refine gOn rfl ?_ | refine gOff rfl rfl ?_ | refine gTup rfl ?_))
    intro q hq
    obtain rfl : q = false := by rw [hq]; simp <;> omega
    (repeat (first | refine pSeq ?_ | refine pReg ?_ | refine sRaw ?_ | refine sCons ?_ | refine sNil ?_ | refine rCons ?_ | refine rNil ?_ | refine kNo ?_ | refine pRow ?_ | refine pBlock ?_ | refine pSkip ?_ | refine pExit ?_ | refine pRet ?_ | refine pCond ?_ | refine gNone ?_ | refine gOn rfl ?_ | refine gOff rfl rfl ?_ | refine gTup rfl ?_))
    intro z hz
    rw [i64_id (by omega)] at hz
    obtain rfl : z = ((a + 1 : Nat) : Int) := by omega
    (repeat (first | refine pSeq ?_ | refine pReg ?_ | refine sRaw ?_ | refine sCons ?_ | refine sNil ?_ | refine rCons ?_ | refine rNil ?_ | refine kNo ?_ | refine pRow ?_ | refine pBlock ?_ | refine pSkip ?_ | refine pExit ?_ | refine pRet ?_ | refine pCond ?_ | refine gNone ?_ | refine gOn rfl ?_ | refine gOff rfl rfl ?_ | refine gTup rfl ?_))
    refine pLoop (MW.head good (fun x : Nat => l.length - x) (fun x => cm (l.drop x) d false x = cm (l.drop (a + 1)) d false (a + 1) ∧ x ≤ l.length ∧ a < x)
      (fun x => [(0, str l), (1, .int .i64 x), (2, .int .i64 d)]) (fun x => s) (a + 1) ⟨rfl, ha, Nat.lt_succ_self _⟩ (Wk.same ⟨rfl, rfl, rfl, trivial⟩) ?_)
    intro p ⟨h0, hp, hap⟩
    (repeat (first | refine pSeq ?_ | refine pReg ?_ | refine sRaw ?_ | refine sCons ?_ | refine sNil ?_ | refine rCons ?_ | refine rNil ?_ | refine kNo ?_ | refine pRow ?_ | refine pBlock ?_ | refine pSkip ?_ | refine pExit ?_ | refine pRet ?_ | refine pCond ?_ | refine gNone ?_ | refine gOn rfl ?_ | refine gOff rfl rfl ?_ | refine gTup rfl ?_))
    intro n hn
    (repeat (first | refine pSeq ?_ | refine pReg ?_ | refine sRaw ?_ | refine sCons ?_ | refine sNil ?_ | refine rCons ?_ | refine rNil ?_ | refine kNo ?_ | refine pRow ?_ | refine pBlock ?_ | refine pSkip ?_ | refine pExit ?_ | refine pRet ?_ | refine pCond ?_ | refine gNone ?_ | refine gOn rfl ?_ | refine gOff rfl rfl ?_ | refine gTup rfl ?_))
    intro q hq
    by_cases hlt : p < l.length
    · obtain rfl : q = true := by rw [hq]; simp <;> omega
      obtain ⟨c, hc⟩ : ∃ c, l[p]? = some c := ⟨_, List.getElem?_eq_getElem hlt⟩
      rw [drop_next hc, cm] at h0
      (repeat (first | refine pSeq ?_ | refine pReg ?_ | refine sRaw ?_ | refine sCons ?_ | refine sNil ?_ | refine rCons ?_ | refine rNil ?_ | refine kNo ?_ | refine pRow ?_ | refine pBlock ?_ | refine pSkip ?_ | refine pExit ?_ | refine pRet ?_ | refine pCond ?_ | refine gNone ?_ | refine gOn rfl ?_ | refine gOff rfl rfl ?_ | refine gTup rfl ?_))
      refine ⟨by omega, ?_⟩
      intro m hm
      obtain rfl : m = p := by omega
      refine ⟨c, hc, ?_⟩
      (repeat (first | refine pSeq ?_ | refine pReg ?_ | refine sRaw ?_ | refine sCons ?_ | refine sNil ?_ | refine rCons ?_ | refine rNil ?_ | refine kNo ?_ | refine pRow ?_ | refine pBlock ?_ | refine pSkip ?_ | refine pExit ?_ | refine pRet ?_ | refine pCond ?_ | refine gNone ?_ | refine gOn rfl ?_ | refine gOff rfl rfl ?_ | refine gTup rfl ?_))
      intro q hq
      by_cases h41 : c.toNat = 41
      · obtain rfl : q = true := by rw [hq]; simp <;> omega
        have hpl : plainB c = true := by unfold plainB; simp; omega
        (repeat (first | refine pSeq ?_ | refine pReg ?_ | refine sRaw ?_ | refine sCons ?_ | refine sNil ?_ | refine rCons ?_ | refine rNil ?_ | refine kNo ?_ | refine pRow ?_ | refine pBlock ?_ | refine pSkip ?_ | refine pExit ?_ | refine pRet ?_ | refine pCond ?_ | refine gNone ?_ | refine gOn rfl ?_ | refine gOff rfl rfl ?_ | refine gTup rfl ?_))
        intro z hz
        rw [i64_id (by omega)] at hz
        obtain rfl : z = ((m + 1 : Nat) : Int) := by omega
        (repeat (first | refine pSeq ?_ | refine pReg ?_ | refine sRaw ?_ | refine sCons ?_ | refine sNil ?_ | refine rCons ?_ | refine rNil ?_ | refine kNo ?_ | refine pRow ?_ | refine pBlock ?_ | refine pSkip ?_ | refine pExit ?_ | refine pRet ?_ | refine pCond ?_ | refine gNone ?_ | refine gOn rfl ?_ | refine gOff rfl rfl ?_ | refine gTup rfl ?_))
        refine ⟨rfl, m + 1, 0, rfl, ?_⟩
        unfold CmAt
        rw [if_pos (by omega), if_pos rfl, ← h0, if_neg (by rw [hpl]; simp), if_neg (by simp), if_neg (by omega), if_neg (fun q => by omega), if_neg (by omega)]
        refine ⟨by omega, by omega, ?_⟩
        by_cases h1d : d = 1
        · rw [if_pos ⟨h41, h1d⟩, if_pos h1d]
        · rw [if_neg (fun q => h1d q.2), if_pos h41, if_neg h1d]
      · obtain rfl : q = false := by rw [hq]; simp <;> omega
        (repeat (first | refine pSeq ?_ | refine pReg ?_ | refine sRaw ?_ | refine sCons ?_ | refine sNil ?_ | refine rCons ?_ | refine rNil ?_ | refine kNo ?_ | refine pRow ?_ | refine pBlock ?_ | refine pSkip ?_ | refine pExit ?_ | refine pRet ?_ | refine pCond ?_ | refine gNone ?_ | refine gOn rfl ?_ | refine gOff rfl rfl ?_ | refine gTup rfl ?_))
        intro q hq
        by_cases h40 : c.toNat = 40
        · obtain rfl : q = true := by rw [hq]; simp <;> omega
          have hpl : plainB c = true := by unfold plainB; simp; omega
          rw [if_neg (by rw [hpl]; simp), if_neg (by simp), if_neg (by omega)] at h0
          (repeat (first | refine pSeq ?_ | refine pReg ?_ | refine sRaw ?_ | refine sCons ?_ | refine sNil ?_ | refine rCons ?_ | refine rNil ?_ | refine kNo ?_ | refine pRow ?_ | refine pBlock ?_ | refine pSkip ?_ | refine pExit ?_ | refine pRet ?_ | refine pCond ?_ | refine gNone ?_ | refine gOn rfl ?_ | refine gOff rfl rfl ?_ | refine gTup rfl ?_))
          intro z hz
          rw [i64_id (by omega)] at hz
          obtain rfl : z = ((d + 1 : Nat) : Int) := by omega
          (repeat (first | refine pSeq ?_ | refine pReg ?_ | refine sRaw ?_ | refine sCons ?_ | refine sNil ?_ | refine rCons ?_ | refine rNil ?_ | refine kNo ?_ | refine pRow ?_ | refine pBlock ?_ | refine pSkip ?_ | refine pExit ?_ | refine pRet ?_ | refine pCond ?_ | refine gNone ?_ | refine gOn rfl ?_ | refine gOff rfl rfl ?_ | refine gTup rfl ?_))
          refine (rcomment_at hl k s m (d + 1) (by omega) (by omega) hlt).mono fun v s2 q => ?_
          obtain ⟨rfl, n, e, rfl, q⟩ := q
          unfold CmAt at q
          (repeat (first | refine pSeq ?_ | refine pReg ?_ | refine sRaw ?_ | refine sCons ?_ | refine sNil ?_ | refine rCons ?_ | refine rNil ?_ | refine kNo ?_ | refine pRow ?_ | refine pBlock ?_ | refine pSkip ?_ | refine pExit ?_ | refine pRet ?_ | refine pCond ?_ | refine gNone ?_ | refine gOn rfl ?_ | refine gOff rfl rfl ?_ | refine gTup rfl ?_))
          intro b hb
          by_cases h8 : d = 8
          · rw [if_pos ⟨h40, h8⟩] at h0
            rw [if_neg (by omega)] at q
            obtain ⟨rfl, rfl⟩ := q
            obtain rfl : b = true := by rw [hb]; rfl
            (repeat (first | refine pSeq ?_ | refine pReg ?_ | refine sRaw ?_ | refine sCons ?_ | refine sNil ?_ | refine rCons ?_ | refine rNil ?_ | refine kNo ?_ | refine pRow ?_ | refine pBlock ?_ | refine pSkip ?_ | refine pExit ?_ | refine pRet ?_ | refine pCond ?_ | refine gNone ?_ | refine gOn rfl ?_ | refine gOff rfl rfl ?_ | refine gTup rfl ?_))
            exact ⟨rfl, 0, 3, rfl, .err (by omega) (by omega) h0.symm⟩
          · rw [if_neg (fun q => h8 q.2), if_pos h40] at h0
            rw [if_pos (by omega)] at q
            by_cases he : e = 0
            · obtain rfl : b = false := by rw [hb]; simp; omega
              rw [if_pos he] at q
              obtain ⟨q1, q2, q3⟩ := q
              rw [q3, if_neg (by omega), Nat.add_sub_cancel] at h0
              (repeat (first | refine pSeq ?_ | refine pReg ?_ | refine sRaw ?_ | refine sCons ?_ | refine sNil ?_ | refine rCons ?_ | refine rNil ?_ | refine kNo ?_ | refine pRow ?_ | refine pBlock ?_ | refine pSkip ?_ | refine pExit ?_ | refine pRet ?_ | refine pCond ?_ | refine gNone ?_ | refine gOn rfl ?_ | refine gOff rfl rfl ?_ | refine gTup rfl ?_))
              exact ⟨n, ⟨h0, q2, by omega⟩, by show l.length - n < l.length - m; omega, Wk.same ⟨rfl, rfl, rfl, trivial⟩⟩
            · obtain rfl : b = true := by rw [hb]; simp; omega
              rw [if_neg he] at q
              (repeat (first | refine pSeq ?_ | refine pReg ?_ | refine sRaw ?_ | refine sCons ?_ | refine sNil ?_ | refine rCons ?_ | refine rNil ?_ | refine kNo ?_ | refine pRow ?_ | refine pBlock ?_ | refine pSkip ?_ | refine pExit ?_ | refine pRet ?_ | refine pCond ?_ | refine gNone ?_ | refine gOn rfl ?_ | refine gOff rfl rfl ?_ | refine gTup rfl ?_))
              exact ⟨rfl, 0, e, rfl, .err (by omega) he (by rw [← h0, q.2])⟩
        · obtain rfl : q = false := by rw [hq]; simp <;> omega
          (repeat (first | refine pSeq ?_ | refine pReg ?_ | refine sRaw ?_ | refine sCons ?_ | refine sNil ?_ | refine rCons ?_ | refine rNil ?_ | refine kNo ?_ | refine pRow ?_ | refine pBlock ?_ | refine pSkip ?_ | refine pExit ?_ | refine pRet ?_ | refine pCond ?_ | refine gNone ?_ | refine gOn rfl ?_ | refine gOff rfl rfl ?_ | refine gTup rfl ?_))
          intro q hq
          by_cases h92 : c.toNat = 92
          · obtain rfl : q = true := by rw [hq]; simp <;> omega
            have hpl : plainB c = true := by unfold plainB; simp; omega
            rw [if_neg (by rw [hpl]; simp), if_neg (by simp), if_pos h92] at h0
            (repeat (first | refine pSeq ?_ | refine pReg ?_ | refine sRaw ?_ | refine sCons ?_ | refine sNil ?_ | refine rCons ?_ | refine rNil ?_ | refine kNo ?_ | refine pRow ?_ | refine pBlock ?_ | refine pSkip ?_ | refine pExit ?_ | refine pRet ?_ | refine pCond ?_ | refine gNone ?_ | refine gOn rfl ?_ | refine gOff rfl rfl ?_ | refine gTup rfl ?_))
            intro z hz
            rw [i64_id (by omega)] at hz
            obtain rfl : z = ((m + 1 : Nat) : Int) := by omega
            (repeat (first | refine pSeq ?_ | refine pReg ?_ | refine sRaw ?_ | refine sCons ?_ | refine sNil ?_ | refine rCons ?_ | refine rNil ?_ | refine kNo ?_ | refine pRow ?_ | refine pBlock ?_ | refine pSkip ?_ | refine pExit ?_ | refine pRet ?_ | refine pCond ?_ | refine gNone ?_ | refine gOn rfl ?_ | refine gOff rfl rfl ?_ | refine gTup rfl ?_))
            intro n hn
            (repeat (first | refine pSeq ?_ | refine pReg ?_ | refine sRaw ?_ | refine sCons ?_ | refine sNil ?_ | refine rCons ?_ | refine rNil ?_ | refine kNo ?_ | refine pRow ?_ | refine pBlock ?_ | refine pSkip ?_ | refine pExit ?_ | refine pRet ?_ | refine pCond ?_ | refine gNone ?_ | refine gOn rfl ?_ | refine gOff rfl rfl ?_ | refine gTup rfl ?_))
            intro q hq
            by_cases hlt2 : m + 1 < l.length
            · obtain rfl : q = false := by rw [hq]; simp <;> omega
              obtain ⟨c2, hc2⟩ : ∃ c2, l[m + 1]? = some c2 := ⟨_, List.getElem?_eq_getElem hlt2⟩
              rw [drop_next hc2, cm] at h0
              (repeat (first | refine pSeq ?_ | refine pReg ?_ | refine sRaw ?_ | refine sCons ?_ | refine sNil ?_ | refine rCons ?_ | refine rNil ?_ | refine kNo ?_ | refine pRow ?_ | refine pBlock ?_ | refine pSkip ?_ | refine pExit ?_ | refine pRet ?_ | refine pCond ?_ | refine gNone ?_ | refine gOn rfl ?_ | refine gOff rfl rfl ?_ | refine gTup rfl ?_))
              refine ⟨by omega, ?_⟩
              intro m2 hm2
              obtain rfl : m2 = m + 1 := by omega
              refine ⟨c2, hc2, ?_⟩
              (repeat (first | refine pSeq ?_ | refine pReg ?_ | refine sRaw ?_ | refine sCons ?_ | refine sNil ?_ | refine rCons ?_ | refine rNil ?_ | refine kNo ?_ | refine pRow ?_ | refine pBlock ?_ | refine pSkip ?_ | refine pExit ?_ | refine pRet ?_ | refine pCond ?_ | refine gNone ?_ | refine gOn rfl ?_ | refine gOff rfl rfl ?_ | refine gTup rfl ?_))
              refine rplain_w.mono fun v s q => ?_
              obtain ⟨rfl, rfl⟩ := q
              (repeat (first | refine pSeq ?_ | refine pReg ?_ | refine sRaw ?_ | refine sCons ?_ | refine sNil ?_ | refine rCons ?_ | refine rNil ?_ | refine kNo ?_ | refine pRow ?_ | refine pBlock ?_ | refine pSkip ?_ | refine pExit ?_ | refine pRet ?_ | refine pCond ?_ | refine gNone ?_ | refine gOn rfl ?_ | refine gOff rfl rfl ?_ | refine gTup rfl ?_))
              intro q hq
              by_cases hpl2 : plainB c2 = true
              · obtain rfl : q = false := by rw [hq, hpl2]; rfl
                rw [if_neg (by rw [hpl2]; simp), if_pos rfl] at h0
                (repeat (first | refine pSeq ?_ | refine pReg ?_ | refine sRaw ?_ | refine sCons ?_ | refine sNil ?_ | refine rCons ?_ | refine rNil ?_ | refine kNo ?_ | refine pRow ?_ | refine pBlock ?_ | refine pSkip ?_ | refine pExit ?_ | refine pRet ?_ | refine pCond ?_ | refine gNone ?_ | refine gOn rfl ?_ | refine gOff rfl rfl ?_ | refine gTup rfl ?_))
                intro z hz
                rw [i64_id (by omega)] at hz
                obtain rfl : z = ((m + 2 : Nat) : Int) := by omega
                (repeat (first | refine pSeq ?_ | refine pReg ?_ | refine sRaw ?_ | refine sCons ?_ | refine sNil ?_ | refine rCons ?_ | refine rNil ?_ | refine kNo ?_ | refine pRow ?_ | refine pBlock ?_ | refine pSkip ?_ | refine pExit ?_ | refine pRet ?_ | refine pCond ?_ | refine gNone ?_ | refine gOn rfl ?_ | refine gOff rfl rfl ?_ | refine gTup rfl ?_))
                exact ⟨m + 2, ⟨h0, by omega, by omega⟩, by show l.length - (m + 2) < l.length - m; omega, Wk.same ⟨rfl, rfl, rfl, trivial⟩⟩
              · obtain rfl : q = true := by rw [hq, plain_no hpl2]; rfl
                rw [if_pos ⟨plain_no hpl2, .inl rfl⟩] at h0
                (repeat (first | refine pSeq ?_ | refine pReg ?_ | refine sRaw ?_ | refine sCons ?_ | refine sNil ?_ | refine rCons ?_ | refine rNil ?_ | refine kNo ?_ | refine pRow ?_ | refine pBlock ?_ | refine pSkip ?_ | refine pExit ?_ | refine pRet ?_ | refine pCond ?_ | refine gNone ?_ | refine gOn rfl ?_ | refine gOff rfl rfl ?_ | refine gTup rfl ?_))
                exact ⟨rfl, 0, 5, rfl, .err (by omega) (by omega) h0.symm⟩
            · obtain rfl : q = true := by rw [hq]; simp <;> omega
              rw [List.drop_of_length_le (by omega)] at h0
              (repeat (first | refine pSeq ?_ | refine pReg ?_ | refine sRaw ?_ | refine sCons ?_ | refine sNil ?_ | refine rCons ?_ | refine rNil ?_ | refine kNo ?_ | refine pRow ?_ | refine pBlock ?_ | refine pSkip ?_ | refine pExit ?_ | refine pRet ?_ | refine pCond ?_ | refine gNone ?_ | refine gOn rfl ?_ | refine gOff rfl rfl ?_ | refine gTup rfl ?_))
              exact ⟨rfl, 0, 4, rfl, .err (by omega) (by omega) h0.symm⟩
          · obtain rfl : q = false := by rw [hq]; simp <;> omega
            (repeat (first | refine pSeq ?_ | refine pReg ?_ | refine sRaw ?_ | refine sCons ?_ | refine sNil ?_ | refine rCons ?_ | refine rNil ?_ | refine kNo ?_ | refine pRow ?_ | refine pBlock ?_ | refine pSkip ?_ | refine pExit ?_ | refine pRet ?_ | refine pCond ?_ | refine gNone ?_ | refine gOn rfl ?_ | refine gOff rfl rfl ?_ | refine gTup rfl ?_))
            refine rplain_w.mono fun v s q => ?_
            obtain ⟨rfl, rfl⟩ := q
            (repeat (first | refine pSeq ?_ | refine pReg ?_ | refine sRaw ?_ | refine sCons ?_ | refine sNil ?_ | refine rCons ?_ | refine rNil ?_ | refine kNo ?_ | refine pRow ?_ | refine pBlock ?_ | refine pSkip ?_ | refine pExit ?_ | refine pRet ?_ | refine pCond ?_ | refine gNone ?_ | refine gOn rfl ?_ | refine gOff rfl rfl ?_ | refine gTup rfl ?_))
            intro q hq
            by_cases hpl : plainB c = true
            · obtain rfl : q = false := by rw [hq, hpl]; rfl
              rw [if_neg (by rw [hpl]; simp), if_neg (by simp), if_neg h92, if_neg (fun q => h40 q.1), if_neg h40, if_neg (fun q => h41 q.1), if_neg h41] at h0
              (repeat (first | refine pSeq ?_ | refine pReg ?_ | refine sRaw ?_ | refine sCons ?_ | refine sNil ?_ | refine rCons ?_ | refine rNil ?_ | refine kNo ?_ | refine pRow ?_ | refine pBlock ?_ | refine pSkip ?_ | refine pExit ?_ | refine pRet ?_ | refine pCond ?_ | refine gNone ?_ | refine gOn rfl ?_ | refine gOff rfl rfl ?_ | refine gTup rfl ?_))
              intro z hz
              rw [i64_id (by omega)] at hz
              obtain rfl : z = ((m + 1 : Nat) : Int) := by omega
              (repeat (first | refine pSeq ?_ | refine pReg ?_ | refine sRaw ?_ | refine sCons ?_ | refine sNil ?_ | refine rCons ?_ | refine rNil ?_ | refine kNo ?_ | refine pRow ?_ | refine pBlock ?_ | refine pSkip ?_ | refine pExit ?_ | refine pRet ?_ | refine pCond ?_ | refine gNone ?_ | refine gOn rfl ?_ | refine gOff rfl rfl ?_ | refine gTup rfl ?_))
              exact ⟨m + 1, ⟨h0, hlt, by omega⟩, by show l.length - (m + 1) < l.length - m; omega, Wk.same ⟨rfl, rfl, rfl, trivial⟩⟩
            · obtain rfl : q = true := by rw [hq, plain_no hpl]; rfl
              (repeat (first | refine pSeq ?_ | refine pReg ?_ | refine sRaw ?_ | refine sCons ?_ | refine sNil ?_ | refine rCons ?_ | refine rNil ?_ | refine kNo ?_ | refine pRow ?_ | refine pBlock ?_ | refine pSkip ?_ | refine pExit ?_ | refine pRet ?_ | refine pCond ?_ | refine gNone ?_ | refine gOn rfl ?_ | refine gOff rfl rfl ?_ | refine gTup rfl ?_))
              intro q hq
              by_cases h9 : c.toNat = 9
              · obtain rfl : q = false := by rw [hq]; simp <;> omega
                rw [if_neg (fun q => q.2.elim (fun x => by cases x) fun x => x h9), if_neg (by simp), if_neg h92, if_neg (fun q => h40 q.1), if_neg h40, if_neg (fun q => h41 q.1), if_neg h41] at h0
                (repeat (first | refine pSeq ?_ | refine pReg ?_ | refine sRaw ?_ | refine sCons ?_ | refine sNil ?_ | refine rCons ?_ | refine rNil ?_ | refine kNo ?_ | refine pRow ?_ | refine pBlock ?_ | refine pSkip ?_ | refine pExit ?_ | refine pRet ?_ | refine pCond ?_ | refine gNone ?_ | refine gOn rfl ?_ | refine gOff rfl rfl ?_ | refine gTup rfl ?_))
                intro z hz
                rw [i64_id (by omega)] at hz
                obtain rfl : z = ((m + 1 : Nat) : Int) := by omega
                (repeat (first | refine pSeq ?_ | refine pReg ?_ | refine sRaw ?_ | refine sCons ?_ | refine sNil ?_ | refine rCons ?_ | refine rNil ?_ | refine kNo ?_ | refine pRow ?_ | refine pBlock ?_ | refine pSkip ?_ | refine pExit ?_ | refine pRet ?_ | refine pCond ?_ | refine gNone ?_ | refine gOn rfl ?_ | refine gOff rfl rfl ?_ | refine gTup rfl ?_))
                exact ⟨m + 1, ⟨h0, hlt, by omega⟩, by show l.length - (m + 1) < l.length - m; omega, Wk.same ⟨rfl, rfl, rfl, trivial⟩⟩
              · obtain rfl : q = true := by rw [hq]; simp <;> omega
                rw [if_pos ⟨plain_no hpl, .inr h9⟩] at h0
                (repeat (first | refine pSeq ?_ | refine pReg ?_ | refine sRaw ?_ | refine sCons ?_ | refine sNil ?_ | refine rCons ?_ | refine rNil ?_ | refine kNo ?_ | refine pRow ?_ | refine pBlock ?_ | refine pSkip ?_ | refine pExit ?_ | refine pRet ?_ | refine pCond ?_ | refine gNone ?_ | refine gOn rfl ?_ | refine gOff rfl rfl ?_ | refine gTup rfl ?_))
                exact ⟨rfl, 0, 5, rfl, .err (by omega) (by omega) h0.symm⟩
    · obtain rfl : q = false := by rw [hq]; simp <;> omega
      rw [List.drop_of_length_le (by omega)] at h0
      (repeat (first | refine pSeq ?_ | refine pReg ?_ | refine sRaw ?_ | refine sCons ?_ | refine sNil ?_ | refine rCons ?_ | refine rNil ?_ | refine kNo ?_ | refine pRow ?_ | refine pBlock ?_ | refine pSkip ?_ | refine pExit ?_ | refine pRet ?_ | refine pCond ?_ | refine gNone ?_ | refine gOn rfl ?_ | refine gOff rfl rfl ?_ | refine gTup rfl ?_))
      exact ⟨rfl, 0, 4, rfl, .err (by omega) (by omega) h0.symm⟩

theorem rcomment_w {s : SS} {l : List UInt8} (hl : l.length ≤ 1000000) : CallW pr n_ref04_Comment [str l] s fun v s' => v = cRes (commentF l) ∧ s' = s := by
  refine CallW.run good ok_ref04_Comment (by simp) rfl ?_
  (repeat (first | refine pSeq ?_ | refine pReg ?_ | refine sRaw ?_ | refine sCons ?_ | refine sNil ?_ | refine rCons ?_ | refine rNil ?_ | refine kNo ?_ | refine pRow ?_ | refine pBlock ?_ | refine pSkip ?_ | refine pExit ?_ | refine pRet ?_ | refine pCond ?_ | refine gNone ?_ | refine gOn rfl ?_ | refine gOff rfl rfl ?_ | refine gTup rfl ?_))
  intro n hn
  (repeat (first | refine pSeq ?_ | refine pReg ?_ | refine sRaw ?_ | refine sCons ?_ | refine sNil ?_ | refine rCons ?_ | refine rNil ?_ | refine kNo ?_ | refine pRow ?_ | refine pBlock ?_ | refine pSkip ?_ | refine pExit ?_ | refine pRet ?_ | refine pCond ?_ | refine gNone ?_ | refine gOn rfl ?_ | refine gOff rfl rfl ?_ | refine gTup rfl ?_))
  intro q hq
  cases l with
  | nil =>
    obtain rfl : q = true := by rw [hq, hn]; rfl
    (repeat (first | refine pSeq ?_ | refine pReg ?_ | refine sRaw ?_ | refine sCons ?_ | refine sNil ?_ | refine rCons ?_ | refine rNil ?_ | refine kNo ?_ | refine pRow ?_ | refine pBlock ?_ | refine pSkip ?_ | refine pExit ?_ | refine pRet ?_ | refine pCond ?_ | refine gNone ?_ | refine gOn rfl ?_ | refine gOff rfl rfl ?_ | refine gTup rfl ?_))
    exact ⟨rfl, rfl⟩
  | cons c0 r =>
  obtain rfl : q = false := by rw [hq, hn]; simp; omega
  (repeat (first | refine pSeq ?_ | refine pReg ?_ | refine sRaw ?_ | refine sCons ?_ | refine sNil ?_ | refine rCons ?_ | refine rNil ?_ | refine kNo ?_ | refine pRow ?_ | refine pBlock ?_ | refine pSkip ?_ | refine pExit ?_ | refine pRet ?_ | refine pCond ?_ | refine gNone ?_ | refine gOn rfl ?_ | refine gOff rfl rfl ?_ | refine gTup rfl ?_))
  refine ⟨by simp, ?_⟩
  intro m hm
  obtain rfl : m = 0 := by omega
  refine ⟨c0, rfl, ?_⟩
  (repeat (first | refine pSeq ?_ | refine pReg ?_ | refine sRaw ?_ | refine sCons ?_ | refine sNil ?_ | refine rCons ?_ | refine rNil ?_ | refine kNo ?_ | refine pRow ?_ | refine pBlock ?_ | refine pSkip ?_ | refine pExit ?_ | refine pRet ?_ | refine pCond ?_ | refine gNone ?_ | refine gOn rfl ?_ | refine gOff rfl rfl ?_ | refine gTup rfl ?_))
  intro q hq
  by_cases h0 : c0.toNat = 40
  · obtain rfl : q = false := by rw [hq]; simp <;> omega
    have hpl : plainB c0 = true := by unfold plainB; simp; omega
    have eF : commentF (c0 :: r) = cm r 1 false 1 := by
      unfold commentF
      rw [if_pos (by simp; exact UInt8.toNat_inj.1 h0), cm, if_neg (by rw [hpl]; simp), if_neg (by simp), if_neg (by omega), if_neg (fun q => by omega), if_pos h0]
    (repeat (first | refine pSeq ?_ | refine pReg ?_ | refine sRaw ?_ | refine sCons ?_ | refine sNil ?_ | refine rCons ?_ | refine rNil ?_ | refine kNo ?_ | refine pRow ?_ | refine pBlock ?_ | refine pSkip ?_ | refine pExit ?_ | refine pRet ?_ | refine pCond ?_ | refine gNone ?_ | refine gOn rfl ?_ | refine gOff rfl rfl ?_ | refine gTup rfl ?_))
    refine (rcomment_at hl 8 s 0 1 (by omega) (by omega) (by simp)).mono fun v s q => ?_
    obtain ⟨rfl, n, e, rfl, q⟩ := q
    unfold CmAt at q
    rw [if_pos (by omega)] at q
    (repeat (first | refine pSeq ?_ | refine pReg ?_ | refine sRaw ?_ | refine sCons ?_ | refine sNil ?_ | refine rCons ?_ | refine rNil ?_ | refine kNo ?_ | refine pRow ?_ | refine pBlock ?_ | refine pSkip ?_ | refine pExit ?_ | refine pRet ?_ | refine pCond ?_ | refine gNone ?_ | refine gOn rfl ?_ | refine gOff rfl rfl ?_ | refine gTup rfl ?_))
    refine ⟨?_, rfl⟩
    rw [eF]
    by_cases he : e = 0
    · rw [if_pos he, if_pos rfl] at q
      have := q.2.2
      subst he
      rw [show cm r 1 false 1 = (n, 0) from this]
      rfl
    · rw [if_neg he] at q
      rw [show cm r 1 false 1 = (0, e) from q.2, q.1]
      rfl
  · obtain rfl : q = true := by rw [hq]; simp <;> omega
    have eF : commentF (c0 :: r) = (0, 5) := by
      unfold commentF
      rw [if_neg (by simp; intro q; exact h0 (by rw [q]; rfl))]
    (repeat (first | refine pSeq ?_ | refine pReg ?_ | refine sRaw ?_ | refine sCons ?_ | refine sNil ?_ | refine rCons ?_ | refine rNil ?_ | refine kNo ?_ | refine pRow ?_ | refine pBlock ?_ | refine pSkip ?_ | refine pExit ?_ | refine pRet ?_ | refine pCond ?_ | refine gNone ?_ | refine gOn rfl ?_ | refine gOff rfl rfl ?_ | refine gTup rfl ?_))
    rw [eF]
    exact ⟨rfl, rfl⟩
end Go.Vf.S

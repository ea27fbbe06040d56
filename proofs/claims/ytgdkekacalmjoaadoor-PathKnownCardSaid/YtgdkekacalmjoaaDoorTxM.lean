import Derived.Test.YtgdkekacalmjoaaDoorTxA
/- Numbers. -/
namespace Go.Vf.S
open Go Go.Vf
attribute [local irreducible] wSeq wRow wp wG
set_option linter.unusedVariables false
set_option linter.unusedSimpArgs false
set_option maxRecDepth 10000

def digB (c : UInt8) : Bool := decide (48 ≤ c.toNat ∧ c.toNat ≤ 57)
def numFrom (a : Nat) (l : List UInt8) : Nat := l.foldl (fun n c => 10 * n + (c.toNat - 48)) a
def numL (l : List UInt8) : Nat := numFrom 0 l
def clamp (d : Int) : Nat := (min (max d 1) 15).toNat
def numberF (l : List UInt8) (d : Int) : Nat × Nat := if 1 ≤ l.length ∧ l.length ≤ clamp d ∧ l.all digB = true then (numL l, 0) else (0, 5)

theorem numFrom_lt : ∀ (l : List UInt8) (a : Nat), l.all digB = true → numFrom a l < (a + 1) * 10 ^ l.length
  | [], a, _ => by simp [numFrom]
  | c :: l, a, h => by
    rw [List.all_cons, Bool.and_eq_true] at h
    have hc : 48 ≤ c.toNat ∧ c.toNat ≤ 57 := by simpa [digB] using h.1
    have := numFrom_lt l (10 * a + (c.toNat - 48)) h.2
    show numFrom (10 * a + (c.toNat - 48)) l < _
    rw [List.length_cons, Nat.pow_succ, Nat.mul_comm (10 ^ l.length) 10, ← Nat.mul_assoc]
    exact Nat.lt_of_lt_of_le this (Nat.mul_le_mul_right _ (by omega))
theorem num_lt {l : List UInt8} (h : l.all digB = true) (hl : l.length ≤ 15) : numL l < 1000000000000000 := by
  have h1 := numFrom_lt l 0 h
  have h2 : 10 ^ l.length ≤ 10 ^ 15 := Nat.pow_le_pow_right (by omega) hl
  unfold numL
  omega
theorem num_next {l : List UInt8} {p : Nat} {c : UInt8} (h : l[p]? = some c) : numL (l.take (p + 1)) = 10 * numL (l.take p) + (c.toNat - 48) := by
  rw [take_next h]
  simp [numL, numFrom]
theorem all_next {l : List UInt8} {p : Nat} {c : UInt8} {f : UInt8 → Bool} (h : l[p]? = some c) (h1 : (l.take p).all f = true) (h2 : f c = true) : (l.take (p + 1)).all f = true := by
  rw [take_next h]
  simp [h1, h2]
theorem number_no {l : List UInt8} {d : Int} (h : ¬(1 ≤ l.length ∧ l.length ≤ clamp d ∧ l.all digB = true)) : numberF l d = (0, 5) := by unfold numberF; rw [if_neg h]
theorem number_ok {l : List UInt8} {d : Int} (h1 : 1 ≤ l.length) (h2 : l.length ≤ clamp d) (h3 : l.all digB = true) : numberF l d = (numL l, 0) := by unfold numberF; rw [if_pos ⟨h1, h2, h3⟩]
abbrev nRes (q : Nat × Nat) : Value := .tuple ⟨[.int .i64 q.1, .int .i64 q.2]⟩

theorem number_w {s : SS} {l : List UInt8} {d : Int} (hl : l.length ≤ 1000000) : CallW pr n_text_Number [str l, .int .i64 d] s fun v s' => v = nRes (numberF l d) ∧ Chg s s' [] := by
  refine CallW.run good ok_text_Number (by simp) rfl ?_
  have hcl : (clamp d : Int) = min (max d 1) 15 := by unfold clamp; omega
  (repeat(first|refine pSeq ?_|refine pReg ?_|refine sRaw ?_|refine sCons ?_|refine sNil ?_|refine pBlock ?_|refine pSkip ?_|refine pExit ?_|refine pRet ?_|refine pCond ?_|refine gNone ?_|refine gOn rfl ?_|refine gOff rfl rfl ?_|refine gTup rfl ?_))
  intro q hq
  by_cases h0 : l = []
  · subst h0
    obtain rfl : q = true := by rw [hq]; rfl
    (repeat(first|refine pSeq ?_|refine pReg ?_|refine sRaw ?_|refine sCons ?_|refine sNil ?_|refine pBlock ?_|refine pSkip ?_|refine pExit ?_|refine pRet ?_|refine pCond ?_|refine gNone ?_|refine gOn rfl ?_|refine gOff rfl rfl ?_|refine gTup rfl ?_))
    rw [number_no (by simp)]
    exact ⟨rfl, .refl _ _⟩
  · obtain rfl : q = false := by rw [hq]; simp [h0]
    have h1 : 1 ≤ l.length := by cases l with
      | nil => exact absurd rfl h0
      | cons a b => simp
    (repeat(first|refine pSeq ?_|refine pReg ?_|refine sRaw ?_|refine sCons ?_|refine sNil ?_|refine pBlock ?_|refine pSkip ?_|refine pExit ?_|refine pRet ?_|refine pCond ?_|refine gNone ?_|refine gOn rfl ?_|refine gOff rfl rfl ?_|refine gTup rfl ?_))
    intro n hn
    (repeat(first|refine pSeq ?_|refine pReg ?_|refine sRaw ?_|refine sCons ?_|refine sNil ?_|refine pBlock ?_|refine pSkip ?_|refine pExit ?_|refine pRet ?_|refine pCond ?_|refine gNone ?_|refine gOn rfl ?_|refine gOff rfl rfl ?_|refine gTup rfl ?_))
    intro z1 hz1
    (repeat(first|refine pSeq ?_|refine pReg ?_|refine sRaw ?_|refine sCons ?_|refine sNil ?_|refine pBlock ?_|refine pSkip ?_|refine pExit ?_|refine pRet ?_|refine pCond ?_|refine gNone ?_|refine gOn rfl ?_|refine gOff rfl rfl ?_|refine gTup rfl ?_))
    intro z2 hz2
    (repeat(first|refine pSeq ?_|refine pReg ?_|refine sRaw ?_|refine sCons ?_|refine sNil ?_|refine pBlock ?_|refine pSkip ?_|refine pExit ?_|refine pRet ?_|refine pCond ?_|refine gNone ?_|refine gOn rfl ?_|refine gOff rfl rfl ?_|refine gTup rfl ?_))
    intro q hq
    by_cases h2 : l.length ≤ clamp d
    · obtain rfl : q = false := by rw [hq]; simp; omega
      (repeat(first|refine pSeq ?_|refine pReg ?_|refine sRaw ?_|refine sCons ?_|refine sNil ?_|refine pBlock ?_|refine pSkip ?_|refine pExit ?_|refine pRet ?_|refine pCond ?_|refine gNone ?_|refine gOn rfl ?_|refine gOff rfl rfl ?_|refine gTup rfl ?_))
      refine srange_W rfl un_S rfl ?_
      (repeat(first|refine pSeq ?_|refine pReg ?_|refine sRaw ?_|refine sCons ?_|refine sNil ?_|refine pBlock ?_|refine pSkip ?_|refine pExit ?_|refine pRet ?_|refine pCond ?_|refine gNone ?_|refine gOn rfl ?_|refine gOff rfl rfl ?_|refine gTup rfl ?_))
      refine pLoop (MW.head good (fun x : It => l.length - x.p) (fun x => At s s.next l x ∧ (l.take x.p).all digB = true) (fun x => [(6, .int .i64 (numL (l.take x.p))), (20, .pointer (some ⟨s.next, 0, none⟩))]) (fun x => x.s) ⟨0, _⟩ ⟨.start s l, rfl⟩ (Wk.same ⟨rfl, rfl, trivial⟩) ?_)
      intro ⟨p, s1⟩ ⟨h4, h5⟩
      dsimp only at h4 h5 ⊢
      have hlt2 := num_lt h5 (by simp; omega)
      (repeat(first|refine pSeq ?_|refine pReg ?_|refine sRaw ?_|refine sCons ?_|refine sNil ?_|refine pBlock ?_|refine pSkip ?_|refine pExit ?_|refine pRet ?_|refine pCond ?_|refine gNone ?_|refine gOn rfl ?_|refine gOff rfl rfl ?_|refine gTup rfl ?_))
      refine snext_L rfl rfl (show lookH s1.heap _ = some (.siter ⟨⟨l⟩⟩ p) from h4.2.2.2) (fun he => ?_) (fun c hc h7 => ?_) (fun c r w hc h7 hr hr2 _ hw _ => ?_)
      · (repeat(first|refine pSeq ?_|refine pReg ?_|refine sRaw ?_|refine sCons ?_|refine sNil ?_|refine pBlock ?_|refine pSkip ?_|refine pExit ?_|refine pRet ?_|refine pCond ?_|refine gNone ?_|refine gOn rfl ?_|refine gOff rfl rfl ?_|refine gTup rfl ?_))
        rw [List.take_of_length_le he] at h5 ⊢
        rw [number_ok h1 h2 h5]
        exact ⟨rfl, h4.1⟩
      · have hlt : p < l.length := lt_of_get hc
        (repeat(first|refine pSeq ?_|refine pReg ?_|refine sRaw ?_|refine sCons ?_|refine sNil ?_|refine pBlock ?_|refine pSkip ?_|refine pExit ?_|refine pRet ?_|refine pCond ?_|refine gNone ?_|refine gOn rfl ?_|refine gOff rfl rfl ?_|refine gTup rfl ?_))
        intro q hq
        by_cases h48 : 48 ≤ c.toNat
        · obtain rfl : q = false := by rw [hq]; simp; omega
          (repeat(first|refine pSeq ?_|refine pReg ?_|refine sRaw ?_|refine sCons ?_|refine sNil ?_|refine pBlock ?_|refine pSkip ?_|refine pExit ?_|refine pRet ?_|refine pCond ?_|refine gNone ?_|refine gOn rfl ?_|refine gOff rfl rfl ?_|refine gTup rfl ?_))
          intro q hq
          by_cases h57 : c.toNat ≤ 57
          · obtain rfl : q = false := by rw [hq]; simp; omega
            (repeat(first|refine pSeq ?_|refine pReg ?_|refine sRaw ?_|refine sCons ?_|refine sNil ?_|refine pBlock ?_|refine pSkip ?_|refine pExit ?_|refine pRet ?_|refine pCond ?_|refine gNone ?_|refine gOn rfl ?_|refine gOff rfl rfl ?_|refine gTup rfl ?_))
            intro z3 hz3
            rw [i64_id (by omega)] at hz3
            (repeat(first|refine pSeq ?_|refine pReg ?_|refine sRaw ?_|refine sCons ?_|refine sNil ?_|refine pBlock ?_|refine pSkip ?_|refine pExit ?_|refine pRet ?_|refine pCond ?_|refine gNone ?_|refine gOn rfl ?_|refine gOff rfl rfl ?_|refine gTup rfl ?_))
            intro z4 hz4
            rw [wrap_i32] at hz4
            (repeat(first|refine pSeq ?_|refine pReg ?_|refine sRaw ?_|refine sCons ?_|refine sNil ?_|refine pBlock ?_|refine pSkip ?_|refine pExit ?_|refine pRet ?_|refine pCond ?_|refine gNone ?_|refine gOn rfl ?_|refine gOff rfl rfl ?_|refine gTup rfl ?_))
            intro z5 hz5
            rw [i64_id (by omega)] at hz5
            (repeat(first|refine pSeq ?_|refine pReg ?_|refine sRaw ?_|refine sCons ?_|refine sNil ?_|refine pBlock ?_|refine pSkip ?_|refine pExit ?_|refine pRet ?_|refine pCond ?_|refine gNone ?_|refine gOn rfl ?_|refine gOff rfl rfl ?_|refine gTup rfl ?_))
            intro z6 hz6
            rw [i64_id (by omega)] at hz6
            (repeat(first|refine pSeq ?_|refine pReg ?_|refine sRaw ?_|refine sCons ?_|refine sNil ?_|refine pBlock ?_|refine pSkip ?_|refine pExit ?_|refine pRet ?_|refine pCond ?_|refine gNone ?_|refine gOn rfl ?_|refine gOff rfl rfl ?_|refine gTup rfl ?_))
            refine ⟨⟨p + 1, _⟩, ⟨h4.go _, all_next hc h5 (by simp [digB, h48, h57])⟩, by show l.length - (p + 1) < l.length - p; omega, Wk.same ⟨?_, rfl, trivial⟩⟩
            show some (Value.int .i64 z6) = some (.int .i64 (numL (l.take (p + 1))))
            rw [num_next hc]
            congr 2
            omega
          · obtain rfl : q = true := by rw [hq]; simp; omega
            (repeat(first|refine pSeq ?_|refine pReg ?_|refine sRaw ?_|refine sCons ?_|refine sNil ?_|refine pBlock ?_|refine pSkip ?_|refine pExit ?_|refine pRet ?_|refine pCond ?_|refine gNone ?_|refine gOn rfl ?_|refine gOff rfl rfl ?_|refine gTup rfl ?_))
            rw [number_no (fun q => by have := all_no (f := digB) hc (by simp [digB]; omega); rw [q.2.2] at this; cases this)]
            exact ⟨rfl, (h4.go _).1⟩
        · obtain rfl : q = true := by rw [hq]; simp; omega
          (repeat(first|refine pSeq ?_|refine pReg ?_|refine sRaw ?_|refine sCons ?_|refine sNil ?_|refine pBlock ?_|refine pSkip ?_|refine pExit ?_|refine pRet ?_|refine pCond ?_|refine gNone ?_|refine gOn rfl ?_|refine gOff rfl rfl ?_|refine gTup rfl ?_))
          rw [number_no (fun q => by have := all_no (f := digB) hc (by simp [digB]; omega); rw [q.2.2] at this; cases this)]
          exact ⟨rfl, (h4.go _).1⟩
      · (repeat(first|refine pSeq ?_|refine pReg ?_|refine sRaw ?_|refine sCons ?_|refine sNil ?_|refine pBlock ?_|refine pSkip ?_|refine pExit ?_|refine pRet ?_|refine pCond ?_|refine gNone ?_|refine gOn rfl ?_|refine gOff rfl rfl ?_|refine gTup rfl ?_))
        intro q hq
        obtain rfl : q = false := by rw [hq]; simp; omega
        (repeat(first|refine pSeq ?_|refine pReg ?_|refine sRaw ?_|refine sCons ?_|refine sNil ?_|refine pBlock ?_|refine pSkip ?_|refine pExit ?_|refine pRet ?_|refine pCond ?_|refine gNone ?_|refine gOn rfl ?_|refine gOff rfl rfl ?_|refine gTup rfl ?_))
        intro q hq
        obtain rfl : q = true := by rw [hq]; simp; omega
        (repeat(first|refine pSeq ?_|refine pReg ?_|refine sRaw ?_|refine sCons ?_|refine sNil ?_|refine pBlock ?_|refine pSkip ?_|refine pExit ?_|refine pRet ?_|refine pCond ?_|refine gNone ?_|refine gOn rfl ?_|refine gOff rfl rfl ?_|refine gTup rfl ?_))
        rw [number_no (fun q => by have := all_no (f := digB) hc (by simp [digB]; omega); rw [q.2.2] at this; cases this)]
        exact ⟨rfl, (h4.go _).1⟩
    · obtain rfl : q = true := by rw [hq]; simp; omega
      (repeat(first|refine pSeq ?_|refine pReg ?_|refine sRaw ?_|refine sCons ?_|refine sNil ?_|refine pBlock ?_|refine pSkip ?_|refine pExit ?_|refine pRet ?_|refine pCond ?_|refine gNone ?_|refine gOn rfl ?_|refine gOff rfl rfl ?_|refine gTup rfl ?_))
      rw [number_no (fun q => h2 q.2.1)]
      exact ⟨rfl, .refl _ _⟩

theorem rnumber_w {s : SS} {l : List UInt8} {d : Int} (hl : l.length ≤ 1000000) : CallW pr n_ref04_Number [str l, .int .i64 d] s fun v s' => v = nRes (numberF l d) ∧ s' = s := by
  refine CallW.run good ok_ref04_Number (by simp) rfl ?_
  have hcl : (clamp d : Int) = min (max d 1) 15 := by unfold clamp; omega
  have hc15 : clamp d ≤ 15 := by omega
  (repeat(first|refine pSeq ?_|refine pReg ?_|refine sCons ?_|refine sNil ?_|refine pBlock ?_|refine pSkip ?_|refine pExit ?_|refine pRet ?_|refine pCond ?_|refine gNone ?_|refine gOn rfl ?_|refine gOff rfl rfl ?_|refine gTup rfl ?_))
  intro q hq
  by_cases d1 : d < 1
  · obtain rfl : q = true := by rw [hq]; simp <;> omega
    (repeat(first|refine pSeq ?_|refine pReg ?_|refine sCons ?_|refine sNil ?_|refine pBlock ?_|refine pSkip ?_|refine pExit ?_|refine pRet ?_|refine pCond ?_|refine gNone ?_|refine gOn rfl ?_|refine gOff rfl rfl ?_|refine gTup rfl ?_))
    intro q hq; obtain rfl : q = false := (by rw [hq]; simp <;> omega); (repeat(first|refine pSeq ?_|refine pReg ?_|refine sCons ?_|refine sNil ?_|refine pBlock ?_|refine pSkip ?_|refine pExit ?_|refine pRet ?_|refine pCond ?_|refine gNone ?_|refine gOn rfl ?_|refine gOff rfl rfl ?_|refine gTup rfl ?_))
    intro n hn
    (repeat(first|refine pSeq ?_|refine pReg ?_|refine sCons ?_|refine sNil ?_|refine pBlock ?_|refine pSkip ?_|refine pExit ?_|refine pRet ?_|refine pCond ?_|refine gNone ?_|refine gOn rfl ?_|refine gOff rfl rfl ?_|refine gTup rfl ?_))
    intro q hq
    by_cases h1 : 1 ≤ l.length
    · obtain rfl : q = false := by rw [hq]; simp <;> omega
      (repeat(first|refine pSeq ?_|refine pReg ?_|refine sCons ?_|refine sNil ?_|refine pBlock ?_|refine pSkip ?_|refine pExit ?_|refine pRet ?_|refine pCond ?_|refine gNone ?_|refine gOn rfl ?_|refine gOff rfl rfl ?_|refine gTup rfl ?_))
      intro n2 hn2
      (repeat(first|refine pSeq ?_|refine pReg ?_|refine sCons ?_|refine sNil ?_|refine pBlock ?_|refine pSkip ?_|refine pExit ?_|refine pRet ?_|refine pCond ?_|refine gNone ?_|refine gOn rfl ?_|refine gOff rfl rfl ?_|refine gTup rfl ?_))
      intro q hq
      by_cases h2 : l.length ≤ clamp d
      · obtain rfl : q = false := by rw [hq]; simp <;> omega
        (repeat(first|refine pSeq ?_|refine pReg ?_|refine sCons ?_|refine sNil ?_|refine pBlock ?_|refine pSkip ?_|refine pExit ?_|refine pRet ?_|refine pCond ?_|refine gNone ?_|refine gOn rfl ?_|refine gOff rfl rfl ?_|refine gTup rfl ?_))
        refine pLoop (MW.head good (fun p : Nat => l.length - p) (fun p => p ≤ l.length ∧ (l.take p).all digB = true) (fun p => [(0, str l), (6, .int .i64 (numL (l.take p))), (7, .int .i64 p)]) (fun p => s) 0 ⟨Nat.zero_le _, rfl⟩ (Wk.same ⟨rfl, rfl, rfl, trivial⟩) ?_)
        intro p ⟨hp, h5⟩
        have hlt2 := num_lt h5 (by simp; omega)
        (repeat(first|refine pSeq ?_|refine pReg ?_|refine sCons ?_|refine sNil ?_|refine pBlock ?_|refine pSkip ?_|refine pExit ?_|refine pRet ?_|refine pCond ?_|refine gNone ?_|refine gOn rfl ?_|refine gOff rfl rfl ?_|refine gTup rfl ?_))
        intro n hn
        (repeat(first|refine pSeq ?_|refine pReg ?_|refine sCons ?_|refine sNil ?_|refine pBlock ?_|refine pSkip ?_|refine pExit ?_|refine pRet ?_|refine pCond ?_|refine gNone ?_|refine gOn rfl ?_|refine gOff rfl rfl ?_|refine gTup rfl ?_))
        intro q hq
        by_cases hlt : p < l.length
        · obtain rfl : q = true := by rw [hq]; simp <;> omega
          obtain ⟨c, hc⟩ : ∃ c, l[p]? = some c := ⟨_, List.getElem?_eq_getElem hlt⟩
          have bad : ¬(48 ≤ c.toNat ∧ c.toNat ≤ 57) → numberF l d = (0, 5) := fun h => number_no (fun q => by have := all_no (f := digB) hc (by simp [digB]; omega); rw [q.2.2] at this; cases this)
          (repeat(first|refine pSeq ?_|refine pReg ?_|refine sCons ?_|refine sNil ?_|refine pBlock ?_|refine pSkip ?_|refine pExit ?_|refine pRet ?_|refine pCond ?_|refine gNone ?_|refine gOn rfl ?_|refine gOff rfl rfl ?_|refine gTup rfl ?_))
          refine ⟨by omega, ?_⟩
          intro m hm
          obtain rfl : m = p := by omega
          refine ⟨c, hc, ?_⟩
          (repeat(first|refine pSeq ?_|refine pReg ?_|refine sCons ?_|refine sNil ?_|refine pBlock ?_|refine pSkip ?_|refine pExit ?_|refine pRet ?_|refine pCond ?_|refine gNone ?_|refine gOn rfl ?_|refine gOff rfl rfl ?_|refine gTup rfl ?_))
          intro q hq
          by_cases h48 : 48 ≤ c.toNat
          · obtain rfl : q = false := by rw [hq]; simp <;> omega
            (repeat(first|refine pSeq ?_|refine pReg ?_|refine sCons ?_|refine sNil ?_|refine pBlock ?_|refine pSkip ?_|refine pExit ?_|refine pRet ?_|refine pCond ?_|refine gNone ?_|refine gOn rfl ?_|refine gOff rfl rfl ?_|refine gTup rfl ?_))
            refine ⟨by omega, ?_⟩
            intro m2 hm2
            obtain rfl : m2 = m := by omega
            refine ⟨c, hc, ?_⟩
            (repeat(first|refine pSeq ?_|refine pReg ?_|refine sCons ?_|refine sNil ?_|refine pBlock ?_|refine pSkip ?_|refine pExit ?_|refine pRet ?_|refine pCond ?_|refine gNone ?_|refine gOn rfl ?_|refine gOff rfl rfl ?_|refine gTup rfl ?_))
            intro q hq
            by_cases h57 : c.toNat ≤ 57
            · obtain rfl : q = false := by rw [hq]; simp <;> omega
              (repeat(first|refine pSeq ?_|refine pReg ?_|refine sCons ?_|refine sNil ?_|refine pBlock ?_|refine pSkip ?_|refine pExit ?_|refine pRet ?_|refine pCond ?_|refine gNone ?_|refine gOn rfl ?_|refine gOff rfl rfl ?_|refine gTup rfl ?_))
              intro z3 hz3
              rw [i64_id (by omega)] at hz3
              (repeat(first|refine pSeq ?_|refine pReg ?_|refine sCons ?_|refine sNil ?_|refine pBlock ?_|refine pSkip ?_|refine pExit ?_|refine pRet ?_|refine pCond ?_|refine gNone ?_|refine gOn rfl ?_|refine gOff rfl rfl ?_|refine gTup rfl ?_))
              refine ⟨by omega, ?_⟩
              intro m3 hm3
              obtain rfl : m3 = m2 := by omega
              refine ⟨c, hc, ?_⟩
              (repeat(first|refine pSeq ?_|refine pReg ?_|refine sCons ?_|refine sNil ?_|refine pBlock ?_|refine pSkip ?_|refine pExit ?_|refine pRet ?_|refine pCond ?_|refine gNone ?_|refine gOn rfl ?_|refine gOff rfl rfl ?_|refine gTup rfl ?_))
              intro z4 hz4
              rw [u8_id (by omega)] at hz4
              (repeat(first|refine pSeq ?_|refine pReg ?_|refine sCons ?_|refine sNil ?_|refine pBlock ?_|refine pSkip ?_|refine pExit ?_|refine pRet ?_|refine pCond ?_|refine gNone ?_|refine gOn rfl ?_|refine gOff rfl rfl ?_|refine gTup rfl ?_))
              intro z5 hz5
              rw [i64_id (by omega)] at hz5
              (repeat(first|refine pSeq ?_|refine pReg ?_|refine sCons ?_|refine sNil ?_|refine pBlock ?_|refine pSkip ?_|refine pExit ?_|refine pRet ?_|refine pCond ?_|refine gNone ?_|refine gOn rfl ?_|refine gOff rfl rfl ?_|refine gTup rfl ?_))
              intro z6 hz6
              rw [i64_id (by omega)] at hz6
              (repeat(first|refine pSeq ?_|refine pReg ?_|refine sCons ?_|refine sNil ?_|refine pBlock ?_|refine pSkip ?_|refine pExit ?_|refine pRet ?_|refine pCond ?_|refine gNone ?_|refine gOn rfl ?_|refine gOff rfl rfl ?_|refine gTup rfl ?_))
              intro z7 hz7
              rw [i64_id (by omega)] at hz7
              obtain rfl : z7 = ((m3 + 1 : Nat) : Int) := by omega
              (repeat(first|refine pSeq ?_|refine pReg ?_|refine sCons ?_|refine sNil ?_|refine pBlock ?_|refine pSkip ?_|refine pExit ?_|refine pRet ?_|refine pCond ?_|refine gNone ?_|refine gOn rfl ?_|refine gOff rfl rfl ?_|refine gTup rfl ?_))
              refine ⟨m3 + 1, ⟨hlt, all_next hc h5 (by simp [digB, h48, h57])⟩, by show l.length - (m3 + 1) < l.length - m3; omega, Wk.same ⟨rfl, ?_, rfl, trivial⟩⟩
              show some (Value.int .i64 z6) = some (.int .i64 (numL (l.take (m3 + 1))))
              rw [num_next hc]
              congr 2
              omega
            · obtain rfl : q = true := by rw [hq]; simp <;> omega
              (repeat(first|refine pSeq ?_|refine pReg ?_|refine sCons ?_|refine sNil ?_|refine pBlock ?_|refine pSkip ?_|refine pExit ?_|refine pRet ?_|refine pCond ?_|refine gNone ?_|refine gOn rfl ?_|refine gOff rfl rfl ?_|refine gTup rfl ?_))
              rw [bad (by omega)]
              exact ⟨rfl, rfl⟩
          · obtain rfl : q = true := by rw [hq]; simp <;> omega
            (repeat(first|refine pSeq ?_|refine pReg ?_|refine sCons ?_|refine sNil ?_|refine pBlock ?_|refine pSkip ?_|refine pExit ?_|refine pRet ?_|refine pCond ?_|refine gNone ?_|refine gOn rfl ?_|refine gOff rfl rfl ?_|refine gTup rfl ?_))
            rw [bad (by omega)]
            exact ⟨rfl, rfl⟩
        · obtain rfl : q = false := by rw [hq]; simp <;> omega
          (repeat(first|refine pSeq ?_|refine pReg ?_|refine sCons ?_|refine sNil ?_|refine pBlock ?_|refine pSkip ?_|refine pExit ?_|refine pRet ?_|refine pCond ?_|refine gNone ?_|refine gOn rfl ?_|refine gOff rfl rfl ?_|refine gTup rfl ?_))
          rw [List.take_of_length_le (by omega)] at h5 ⊢
          rw [number_ok h1 h2 h5]
          exact ⟨rfl, rfl⟩
      · obtain rfl : q = true := by rw [hq]; simp <;> omega
        (repeat(first|refine pSeq ?_|refine pReg ?_|refine sCons ?_|refine sNil ?_|refine pBlock ?_|refine pSkip ?_|refine pExit ?_|refine pRet ?_|refine pCond ?_|refine gNone ?_|refine gOn rfl ?_|refine gOff rfl rfl ?_|refine gTup rfl ?_))
        rw [number_no (fun q => h2 q.2.1)]
        exact ⟨rfl, rfl⟩
    · obtain rfl : q = true := by rw [hq]; simp <;> omega
      (repeat(first|refine pSeq ?_|refine pReg ?_|refine sCons ?_|refine sNil ?_|refine pBlock ?_|refine pSkip ?_|refine pExit ?_|refine pRet ?_|refine pCond ?_|refine gNone ?_|refine gOn rfl ?_|refine gOff rfl rfl ?_|refine gTup rfl ?_))
      rw [number_no (fun q => h1 q.1)]
      exact ⟨rfl, rfl⟩
  · obtain rfl : q = false := by rw [hq]; simp <;> omega
    (repeat(first|refine pSeq ?_|refine pReg ?_|refine sCons ?_|refine sNil ?_|refine pBlock ?_|refine pSkip ?_|refine pExit ?_|refine pRet ?_|refine pCond ?_|refine gNone ?_|refine gOn rfl ?_|refine gOff rfl rfl ?_|refine gTup rfl ?_))
    intro q hq
    by_cases d15 : 15 < d
    · obtain rfl : q = true := by rw [hq]; simp <;> omega
      (repeat(first|refine pSeq ?_|refine pReg ?_|refine sCons ?_|refine sNil ?_|refine pBlock ?_|refine pSkip ?_|refine pExit ?_|refine pRet ?_|refine pCond ?_|refine gNone ?_|refine gOn rfl ?_|refine gOff rfl rfl ?_|refine gTup rfl ?_))
      intro n hn
      (repeat(first|refine pSeq ?_|refine pReg ?_|refine sCons ?_|refine sNil ?_|refine pBlock ?_|refine pSkip ?_|refine pExit ?_|refine pRet ?_|refine pCond ?_|refine gNone ?_|refine gOn rfl ?_|refine gOff rfl rfl ?_|refine gTup rfl ?_))
      intro q hq
      by_cases h1 : 1 ≤ l.length
      · obtain rfl : q = false := by rw [hq]; simp <;> omega
        (repeat(first|refine pSeq ?_|refine pReg ?_|refine sCons ?_|refine sNil ?_|refine pBlock ?_|refine pSkip ?_|refine pExit ?_|refine pRet ?_|refine pCond ?_|refine gNone ?_|refine gOn rfl ?_|refine gOff rfl rfl ?_|refine gTup rfl ?_))
        intro n2 hn2
        (repeat(first|refine pSeq ?_|refine pReg ?_|refine sCons ?_|refine sNil ?_|refine pBlock ?_|refine pSkip ?_|refine pExit ?_|refine pRet ?_|refine pCond ?_|refine gNone ?_|refine gOn rfl ?_|refine gOff rfl rfl ?_|refine gTup rfl ?_))
        intro q hq
        by_cases h2 : l.length ≤ clamp d
        · obtain rfl : q = false := by rw [hq]; simp <;> omega
          (repeat(first|refine pSeq ?_|refine pReg ?_|refine sCons ?_|refine sNil ?_|refine pBlock ?_|refine pSkip ?_|refine pExit ?_|refine pRet ?_|refine pCond ?_|refine gNone ?_|refine gOn rfl ?_|refine gOff rfl rfl ?_|refine gTup rfl ?_))
          refine pLoop (MW.head good (fun p : Nat => l.length - p) (fun p => p ≤ l.length ∧ (l.take p).all digB = true) (fun p => [(0, str l), (6, .int .i64 (numL (l.take p))), (7, .int .i64 p)]) (fun p => s) 0 ⟨Nat.zero_le _, rfl⟩ (Wk.same ⟨rfl, rfl, rfl, trivial⟩) ?_)
          intro p ⟨hp, h5⟩
          have hlt2 := num_lt h5 (by simp; omega)
          (repeat(first|refine pSeq ?_|refine pReg ?_|refine sCons ?_|refine sNil ?_|refine pBlock ?_|refine pSkip ?_|refine pExit ?_|refine pRet ?_|refine pCond ?_|refine gNone ?_|refine gOn rfl ?_|refine gOff rfl rfl ?_|refine gTup rfl ?_))
          intro n hn
          (repeat(first|refine pSeq ?_|refine pReg ?_|refine sCons ?_|refine sNil ?_|refine pBlock ?_|refine pSkip ?_|refine pExit ?_|refine pRet ?_|refine pCond ?_|refine gNone ?_|refine gOn rfl ?_|refine gOff rfl rfl ?_|refine gTup rfl ?_))
          intro q hq
          by_cases hlt : p < l.length
          · obtain rfl : q = true := by rw [hq]; simp <;> omega
            obtain ⟨c, hc⟩ : ∃ c, l[p]? = some c := ⟨_, List.getElem?_eq_getElem hlt⟩
            have bad : ¬(48 ≤ c.toNat ∧ c.toNat ≤ 57) → numberF l d = (0, 5) := fun h => number_no (fun q => by have := all_no (f := digB) hc (by simp [digB]; omega); rw [q.2.2] at this; cases this)
            (repeat(first|refine pSeq ?_|refine pReg ?_|refine sCons ?_|refine sNil ?_|refine pBlock ?_|refine pSkip ?_|refine pExit ?_|refine pRet ?_|refine pCond ?_|refine gNone ?_|refine gOn rfl ?_|refine gOff rfl rfl ?_|refine gTup rfl ?_))
            refine ⟨by omega, ?_⟩
            intro m hm
            obtain rfl : m = p := by omega
            refine ⟨c, hc, ?_⟩
            (repeat(first|refine pSeq ?_|refine pReg ?_|refine sCons ?_|refine sNil ?_|refine pBlock ?_|refine pSkip ?_|refine pExit ?_|refine pRet ?_|refine pCond ?_|refine gNone ?_|refine gOn rfl ?_|refine gOff rfl rfl ?_|refine gTup rfl ?_))
            intro q hq
            by_cases h48 : 48 ≤ c.toNat
            · obtain rfl : q = false := by rw [hq]; simp <;> omega
              (repeat(first|refine pSeq ?_|refine pReg ?_|refine sCons ?_|refine sNil ?_|refine pBlock ?_|refine pSkip ?_|refine pExit ?_|refine pRet ?_|refine pCond ?_|refine gNone ?_|refine gOn rfl ?_|refine gOff rfl rfl ?_|refine gTup rfl ?_))
              refine ⟨by omega, ?_⟩
              intro m2 hm2
              obtain rfl : m2 = m := by omega
              refine ⟨c, hc, ?_⟩
              (repeat(first|refine pSeq ?_|refine pReg ?_|refine sCons ?_|refine sNil ?_|refine pBlock ?_|refine pSkip ?_|refine pExit ?_|refine pRet ?_|refine pCond ?_|refine gNone ?_|refine gOn rfl ?_|refine gOff rfl rfl ?_|refine gTup rfl ?_))
              intro q hq
              by_cases h57 : c.toNat ≤ 57
              · obtain rfl : q = false := by rw [hq]; simp <;> omega
                (repeat(first|refine pSeq ?_|refine pReg ?_|refine sCons ?_|refine sNil ?_|refine pBlock ?_|refine pSkip ?_|refine pExit ?_|refine pRet ?_|refine pCond ?_|refine gNone ?_|refine gOn rfl ?_|refine gOff rfl rfl ?_|refine gTup rfl ?_))
                intro z3 hz3
                rw [i64_id (by omega)] at hz3
                (repeat(first|refine pSeq ?_|refine pReg ?_|refine sCons ?_|refine sNil ?_|refine pBlock ?_|refine pSkip ?_|refine pExit ?_|refine pRet ?_|refine pCond ?_|refine gNone ?_|refine gOn rfl ?_|refine gOff rfl rfl ?_|refine gTup rfl ?_))
                refine ⟨by omega, ?_⟩
                intro m3 hm3
                obtain rfl : m3 = m2 := by omega
                refine ⟨c, hc, ?_⟩
                (repeat(first|refine pSeq ?_|refine pReg ?_|refine sCons ?_|refine sNil ?_|refine pBlock ?_|refine pSkip ?_|refine pExit ?_|refine pRet ?_|refine pCond ?_|refine gNone ?_|refine gOn rfl ?_|refine gOff rfl rfl ?_|refine gTup rfl ?_))
                intro z4 hz4
                rw [u8_id (by omega)] at hz4
                (repeat(first|refine pSeq ?_|refine pReg ?_|refine sCons ?_|refine sNil ?_|refine pBlock ?_|refine pSkip ?_|refine pExit ?_|refine pRet ?_|refine pCond ?_|refine gNone ?_|refine gOn rfl ?_|refine gOff rfl rfl ?_|refine gTup rfl ?_))
                intro z5 hz5
                rw [i64_id (by omega)] at hz5
                (repeat(first|refine pSeq ?_|refine pReg ?_|refine sCons ?_|refine sNil ?_|refine pBlock ?_|refine pSkip ?_|refine pExit ?_|refine pRet ?_|refine pCond ?_|refine gNone ?_|refine gOn rfl ?_|refine gOff rfl rfl ?_|refine gTup rfl ?_))
                intro z6 hz6
                rw [i64_id (by omega)] at hz6
                (repeat(first|refine pSeq ?_|refine pReg ?_|refine sCons ?_|refine sNil ?_|refine pBlock ?_|refine pSkip ?_|refine pExit ?_|refine pRet ?_|refine pCond ?_|refine gNone ?_|refine gOn rfl ?_|refine gOff rfl rfl ?_|refine gTup rfl ?_))
                intro z7 hz7
                rw [i64_id (by omega)] at hz7
                obtain rfl : z7 = ((m3 + 1 : Nat) : Int) := by omega
                (repeat(first|refine pSeq ?_|refine pReg ?_|refine sCons ?_|refine sNil ?_|refine pBlock ?_|refine pSkip ?_|refine pExit ?_|refine pRet ?_|refine pCond ?_|refine gNone ?_|refine gOn rfl ?_|refine gOff rfl rfl ?_|refine gTup rfl ?_))
                refine ⟨m3 + 1, ⟨hlt, all_next hc h5 (by simp [digB, h48, h57])⟩, by show l.length - (m3 + 1) < l.length - m3; omega, Wk.same ⟨rfl, ?_, rfl, trivial⟩⟩
                show some (Value.int .i64 z6) = some (.int .i64 (numL (l.take (m3 + 1))))
                rw [num_next hc]
                congr 2
                omega
              · obtain rfl : q = true := by rw [hq]; simp <;> omega
                (repeat(first|refine pSeq ?_|refine pReg ?_|refine sCons ?_|refine sNil ?_|refine pBlock ?_|refine pSkip ?_|refine pExit ?_|refine pRet ?_|refine pCond ?_|refine gNone ?_|refine gOn rfl ?_|refine gOff rfl rfl ?_|refine gTup rfl ?_))
                rw [bad (by omega)]
                exact ⟨rfl, rfl⟩
            · obtain rfl : q = true := by rw [hq]; simp <;> omega
              (repeat(first|refine pSeq ?_|refine pReg ?_|refine sCons ?_|refine sNil ?_|refine pBlock ?_|refine pSkip ?_|refine pExit ?_|refine pRet ?_|refine pCond ?_|refine gNone ?_|refine gOn rfl ?_|refine gOff rfl rfl ?_|refine gTup rfl ?_))
              rw [bad (by omega)]
              exact ⟨rfl, rfl⟩
          · obtain rfl : q = false := by rw [hq]; simp <;> omega
            (repeat(first|refine pSeq ?_|refine pReg ?_|refine sCons ?_|refine sNil ?_|refine pBlock ?_|refine pSkip ?_|refine pExit ?_|refine pRet ?_|refine pCond ?_|refine gNone ?_|refine gOn rfl ?_|refine gOff rfl rfl ?_|refine gTup rfl ?_))
            rw [List.take_of_length_le (by omega)] at h5 ⊢
            rw [number_ok h1 h2 h5]
            exact ⟨rfl, rfl⟩
        · obtain rfl : q = true := by rw [hq]; simp <;> omega
          (repeat(first|refine pSeq ?_|refine pReg ?_|refine sCons ?_|refine sNil ?_|refine pBlock ?_|refine pSkip ?_|refine pExit ?_|refine pRet ?_|refine pCond ?_|refine gNone ?_|refine gOn rfl ?_|refine gOff rfl rfl ?_|refine gTup rfl ?_))
          rw [number_no (fun q => h2 q.2.1)]
          exact ⟨rfl, rfl⟩
      · obtain rfl : q = true := by rw [hq]; simp <;> omega
        (repeat(first|refine pSeq ?_|refine pReg ?_|refine sCons ?_|refine sNil ?_|refine pBlock ?_|refine pSkip ?_|refine pExit ?_|refine pRet ?_|refine pCond ?_|refine gNone ?_|refine gOn rfl ?_|refine gOff rfl rfl ?_|refine gTup rfl ?_))
        rw [number_no (fun q => h1 q.1)]
        exact ⟨rfl, rfl⟩
    · obtain rfl : q = false := by rw [hq]; simp <;> omega
      (repeat(first|refine pSeq ?_|refine pReg ?_|refine sCons ?_|refine sNil ?_|refine pBlock ?_|refine pSkip ?_|refine pExit ?_|refine pRet ?_|refine pCond ?_|refine gNone ?_|refine gOn rfl ?_|refine gOff rfl rfl ?_|refine gTup rfl ?_))
      intro n hn
      (repeat(first|refine pSeq ?_|refine pReg ?_|refine sCons ?_|refine sNil ?_|refine pBlock ?_|refine pSkip ?_|refine pExit ?_|refine pRet ?_|refine pCond ?_|refine gNone ?_|refine gOn rfl ?_|refine gOff rfl rfl ?_|refine gTup rfl ?_))
      intro q hq
      by_cases h1 : 1 ≤ l.length
      · obtain rfl : q = false := by rw [hq]; simp <;> omega
        (repeat(first|refine pSeq ?_|refine pReg ?_|refine sCons ?_|refine sNil ?_|refine pBlock ?_|refine pSkip ?_|refine pExit ?_|refine pRet ?_|refine pCond ?_|refine gNone ?_|refine gOn rfl ?_|refine gOff rfl rfl ?_|refine gTup rfl ?_))
        intro n2 hn2
        (repeat(first|refine pSeq ?_|refine pReg ?_|refine sCons ?_|refine sNil ?_|refine pBlock ?_|refine pSkip ?_|refine pExit ?_|refine pRet ?_|refine pCond ?_|refine gNone ?_|refine gOn rfl ?_|refine gOff rfl rfl ?_|refine gTup rfl ?_))
        intro q hq
        by_cases h2 : l.length ≤ clamp d
        · obtain rfl : q = false := by rw [hq]; simp <;> omega
          (repeat(first|refine pSeq ?_|refine pReg ?_|refine sCons ?_|refine sNil ?_|refine pBlock ?_|refine pSkip ?_|refine pExit ?_|refine pRet ?_|refine pCond ?_|refine gNone ?_|refine gOn rfl ?_|refine gOff rfl rfl ?_|refine gTup rfl ?_))
          refine pLoop (MW.head good (fun p : Nat => l.length - p) (fun p => p ≤ l.length ∧ (l.take p).all digB = true) (fun p => [(0, str l), (6, .int .i64 (numL (l.take p))), (7, .int .i64 p)]) (fun p => s) 0 ⟨Nat.zero_le _, rfl⟩ (Wk.same ⟨rfl, rfl, rfl, trivial⟩) ?_)
          intro p ⟨hp, h5⟩
          have hlt2 := num_lt h5 (by simp; omega)
          (repeat(first|refine pSeq ?_|refine pReg ?_|refine sCons ?_|refine sNil ?_|refine pBlock ?_|refine pSkip ?_|refine pExit ?_|refine pRet ?_|refine pCond ?_|refine gNone ?_|refine gOn rfl ?_|refine gOff rfl rfl ?_|refine gTup rfl ?_))
          intro n hn
          (repeat(first|refine pSeq ?_|refine pReg ?_|refine sCons ?_|refine sNil ?_|refine pBlock ?_|refine pSkip ?_|refine pExit ?_|refine pRet ?_|refine pCond ?_|refine gNone ?_|refine gOn rfl ?_|refine gOff rfl rfl ?_|refine gTup rfl ?_))
          intro q hq
          by_cases hlt : p < l.length
          · obtain rfl : q = true := by rw [hq]; simp <;> omega
            obtain ⟨c, hc⟩ : ∃ c, l[p]? = some c := ⟨_, List.getElem?_eq_getElem hlt⟩
            have bad : ¬(48 ≤ c.toNat ∧ c.toNat ≤ 57) → numberF l d = (0, 5) := fun h => number_no (fun q => by have := all_no (f := digB) hc (by simp [digB]; omega); rw [q.2.2] at this; cases this)
            (repeat(first|refine pSeq ?_|refine pReg ?_|refine sCons ?_|refine sNil ?_|refine pBlock ?_|refine pSkip ?_|refine pExit ?_|refine pRet ?_|refine pCond ?_|refine gNone ?_|refine gOn rfl ?_|refine gOff rfl rfl ?_|refine gTup rfl ?_))
            refine ⟨by omega, ?_⟩
            intro m hm
            obtain rfl : m = p := by omega
            refine ⟨c, hc, ?_⟩
            (repeat(first|refine pSeq ?_|refine pReg ?_|refine sCons ?_|refine sNil ?_|refine pBlock ?_|refine pSkip ?_|refine pExit ?_|refine pRet ?_|refine pCond ?_|refine gNone ?_|refine gOn rfl ?_|refine gOff rfl rfl ?_|refine gTup rfl ?_))
            intro q hq
            by_cases h48 : 48 ≤ c.toNat
            · obtain rfl : q = false := by rw [hq]; simp <;> omega
              (repeat(first|refine pSeq ?_|refine pReg ?_|refine sCons ?_|refine sNil ?_|refine pBlock ?_|refine pSkip ?_|refine pExit ?_|refine pRet ?_|refine pCond ?_|refine gNone ?_|refine gOn rfl ?_|refine gOff rfl rfl ?_|refine gTup rfl ?_))
              refine ⟨by omega, ?_⟩
              intro m2 hm2
              obtain rfl : m2 = m := by omega
              refine ⟨c, hc, ?_⟩
              (repeat(first|refine pSeq ?_|refine pReg ?_|refine sCons ?_|refine sNil ?_|refine pBlock ?_|refine pSkip ?_|refine pExit ?_|refine pRet ?_|refine pCond ?_|refine gNone ?_|refine gOn rfl ?_|refine gOff rfl rfl ?_|refine gTup rfl ?_))
              intro q hq
              by_cases h57 : c.toNat ≤ 57
              · obtain rfl : q = false := by rw [hq]; simp <;> omega
                (repeat(first|refine pSeq ?_|refine pReg ?_|refine sCons ?_|refine sNil ?_|refine pBlock ?_|refine pSkip ?_|refine pExit ?_|refine pRet ?_|refine pCond ?_|refine gNone ?_|refine gOn rfl ?_|refine gOff rfl rfl ?_|refine gTup rfl ?_))
                intro z3 hz3
                rw [i64_id (by omega)] at hz3
                (repeat(first|refine pSeq ?_|refine pReg ?_|refine sCons ?_|refine sNil ?_|refine pBlock ?_|refine pSkip ?_|refine pExit ?_|refine pRet ?_|refine pCond ?_|refine gNone ?_|refine gOn rfl ?_|refine gOff rfl rfl ?_|refine gTup rfl ?_))
                refine ⟨by omega, ?_⟩
                intro m3 hm3
                obtain rfl : m3 = m2 := by omega
                refine ⟨c, hc, ?_⟩
                (repeat(first|refine pSeq ?_|refine pReg ?_|refine sCons ?_|refine sNil ?_|refine pBlock ?_|refine pSkip ?_|refine pExit ?_|refine pRet ?_|refine pCond ?_|refine gNone ?_|refine gOn rfl ?_|refine gOff rfl rfl ?_|refine gTup rfl ?_))
                intro z4 hz4
                rw [u8_id (by omega)] at hz4
                (repeat(first|refine pSeq ?_|refine pReg ?_|refine sCons ?_|refine sNil ?_|refine pBlock ?_|refine pSkip ?_|refine pExit ?_|refine pRet ?_|refine pCond ?_|refine gNone ?_|refine gOn rfl ?_|refine gOff rfl rfl ?_|refine gTup rfl ?_))
                intro z5 hz5
                rw [i64_id (by omega)] at hz5
                (repeat(first|refine pSeq ?_|refine pReg ?_|refine sCons ?_|refine sNil ?_|refine pBlock ?_|refine pSkip ?_|refine pExit ?_|refine pRet ?_|refine pCond ?_|refine gNone ?_|refine gOn rfl ?_|refine gOff rfl rfl ?_|refine gTup rfl ?_))
                intro z6 hz6
                rw [i64_id (by omega)] at hz6
                (repeat(first|refine pSeq ?_|refine pReg ?_|refine sCons ?_|refine sNil ?_|refine pBlock ?_|refine pSkip ?_|refine pExit ?_|refine pRet ?_|refine pCond ?_|refine gNone ?_|refine gOn rfl ?_|refine gOff rfl rfl ?_|refine gTup rfl ?_))
                intro z7 hz7
                rw [i64_id (by omega)] at hz7
                obtain rfl : z7 = ((m3 + 1 : Nat) : Int) := by omega
                (repeat(first|refine pSeq ?_|refine pReg ?_|refine sCons ?_|refine sNil ?_|refine pBlock ?_|refine pSkip ?_|refine pExit ?_|refine pRet ?_|refine pCond ?_|refine gNone ?_|refine gOn rfl ?_|refine gOff rfl rfl ?_|refine gTup rfl ?_))
                refine ⟨m3 + 1, ⟨hlt, all_next hc h5 (by simp [digB, h48, h57])⟩, by show l.length - (m3 + 1) < l.length - m3; omega, Wk.same ⟨rfl, ?_, rfl, trivial⟩⟩
                show some (Value.int .i64 z6) = some (.int .i64 (numL (l.take (m3 + 1))))
                rw [num_next hc]
                congr 2
                omega
              · obtain rfl : q = true := by rw [hq]; simp <;> omega
                (repeat(first|refine pSeq ?_|refine pReg ?_|refine sCons ?_|refine sNil ?_|refine pBlock ?_|refine pSkip ?_|refine pExit ?_|refine pRet ?_|refine pCond ?_|refine gNone ?_|refine gOn rfl ?_|refine gOff rfl rfl ?_|refine gTup rfl ?_))
                rw [bad (by omega)]
                exact ⟨rfl, rfl⟩
            · obtain rfl : q = true := by rw [hq]; simp <;> omega
              (repeat(first|refine pSeq ?_|refine pReg ?_|refine sCons ?_|refine sNil ?_|refine pBlock ?_|refine pSkip ?_|refine pExit ?_|refine pRet ?_|refine pCond ?_|refine gNone ?_|refine gOn rfl ?_|refine gOff rfl rfl ?_|refine gTup rfl ?_))
              rw [bad (by omega)]
              exact ⟨rfl, rfl⟩
          · obtain rfl : q = false := by rw [hq]; simp <;> omega
            (repeat(first|refine pSeq ?_|refine pReg ?_|refine sCons ?_|refine sNil ?_|refine pBlock ?_|refine pSkip ?_|refine pExit ?_|refine pRet ?_|refine pCond ?_|refine gNone ?_|refine gOn rfl ?_|refine gOff rfl rfl ?_|refine gTup rfl ?_))
            rw [List.take_of_length_le (by omega)] at h5 ⊢
            rw [number_ok h1 h2 h5]
            exact ⟨rfl, rfl⟩
        · obtain rfl : q = true := by rw [hq]; simp <;> omega
          (repeat(first|refine pSeq ?_|refine pReg ?_|refine sCons ?_|refine sNil ?_|refine pBlock ?_|refine pSkip ?_|refine pExit ?_|refine pRet ?_|refine pCond ?_|refine gNone ?_|refine gOn rfl ?_|refine gOff rfl rfl ?_|refine gTup rfl ?_))
          rw [number_no (fun q => h2 q.2.1)]
          exact ⟨rfl, rfl⟩
      · obtain rfl : q = true := by rw [hq]; simp <;> omega
        (repeat(first|refine pSeq ?_|refine pReg ?_|refine sCons ?_|refine sNil ?_|refine pBlock ?_|refine pSkip ?_|refine pExit ?_|refine pRet ?_|refine pCond ?_|refine gNone ?_|refine gOn rfl ?_|refine gOff rfl rfl ?_|refine gTup rfl ?_))
        rw [number_no (fun q => h1 q.1)]
        exact ⟨rfl, rfl⟩
end Go.Vf.S

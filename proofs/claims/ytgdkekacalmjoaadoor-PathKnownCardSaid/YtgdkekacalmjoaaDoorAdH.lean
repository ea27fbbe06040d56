import Derived.Test.YtgdkekacalmjoaaDoorAdG
import Derived.Test.YtgdkekacalmjoaaDoorTxL
/- Whether an address may be; its text, its normal form; whether two are the same, which stands ahead; a domain below another one. -/
namespace Go.Vf.S
open Go Go.Vf
attribute [local irreducible] wSeq wRow wp wG
set_option linter.unusedVariables false
set_option linter.unusedSimpArgs false
set_option maxRecDepth 10000

def mayF (a d : List UInt8) : Bool := decide (a ≠ [] ∧ a.length ≤ 64 ∧ a.all plainB = true ∧ domF d = 0)
theorem may_no {a d : List UInt8} (h : ¬(a ≠ [] ∧ a.length ≤ 64 ∧ a.all plainB = true ∧ domF d = 0)) : mayF a d = false := decide_eq_false h

theorem may_w {s : SS} {a d : List UInt8} (ha : a.length ≤ 1000000) (hd : d.length ≤ 1000000) : CallW pr n_addr_May [adV a d] s fun v s' => v = .bool (mayF a d) ∧ Chg s s' [] := by
  refine CallW.run good ok_addr_May (by simp) rfl ?_
  (repeat(first|refine pSeq ?_|refine pReg ?_|refine sCons ?_|refine sNil ?_|refine pRet ?_|refine gNone ?_|refine gOn rfl ?_|refine gOff rfl rfl ?_|refine gTup rfl ?_))
  refine ldS_is rfl lkH rfl ?_
  (repeat(first|refine pSeq ?_|refine pReg ?_|refine sCons ?_|refine sNil ?_|refine pRet ?_|refine gNone ?_|refine gOn rfl ?_|refine gOff rfl rfl ?_|refine gTup rfl ?_))
  intro q hq
  by_cases h1 : a = []
  · obtain rfl : q = false := by rw [hq]; simp [h1]
    (repeat(first|refine pSeq ?_|refine pReg ?_|refine sCons ?_|refine sNil ?_|refine pRet ?_|refine gNone ?_|refine gOn rfl ?_|refine gOff rfl rfl ?_|refine gTup rfl ?_))
    exact ⟨bool_eq (may_no fun h => h.1 h1).symm, .new _⟩
  · obtain rfl : q = true := by rw [hq]; simp [h1]
    (repeat(first|refine pSeq ?_|refine pReg ?_|refine sCons ?_|refine sNil ?_|refine pRet ?_|refine gNone ?_|refine gOn rfl ?_|refine gOff rfl rfl ?_|refine gTup rfl ?_))
    refine ldS_is rfl lkH rfl ?_
    (repeat(first|refine pSeq ?_|refine pReg ?_|refine sCons ?_|refine sNil ?_|refine pRet ?_|refine gNone ?_|refine gOn rfl ?_|refine gOff rfl rfl ?_|refine gTup rfl ?_))
    intro n hn
    (repeat(first|refine pSeq ?_|refine pReg ?_|refine sCons ?_|refine sNil ?_|refine pRet ?_|refine gNone ?_|refine gOn rfl ?_|refine gOff rfl rfl ?_|refine gTup rfl ?_))
    intro q hq
    by_cases h2 : a.length ≤ 64
    · obtain rfl : q = true := by rw [hq]; simp <;> omega
      (repeat(first|refine pSeq ?_|refine pReg ?_|refine sCons ?_|refine sNil ?_|refine pRet ?_|refine gNone ?_|refine gOn rfl ?_|refine gOff rfl rfl ?_|refine gTup rfl ?_))
      refine ldS_is rfl lkH rfl ?_
      (repeat(first|refine pSeq ?_|refine pReg ?_|refine sCons ?_|refine sNil ?_|refine pRet ?_|refine gNone ?_|refine gOn rfl ?_|refine gOff rfl rfl ?_|refine gTup rfl ?_))
      refine Plain_w.mono fun v s1 q => ?_
      obtain ⟨rfl, c1⟩ := q
      have cc : Chg s s1 [] := (Chg.new []).nil c1
      cases hp : a.all plainB with
      | false =>
        (repeat(first|refine pSeq ?_|refine pReg ?_|refine sCons ?_|refine sNil ?_|refine pRet ?_|refine gNone ?_|refine gOn rfl ?_|refine gOff rfl rfl ?_|refine gTup rfl ?_))
        exact ⟨bool_eq (may_no fun h => by rw [h.2.2.1] at hp; cases hp).symm, cc⟩
      | true =>
        (repeat(first|refine pSeq ?_|refine pReg ?_|refine sCons ?_|refine sNil ?_|refine pRet ?_|refine gNone ?_|refine gOn rfl ?_|refine gOff rfl rfl ?_|refine gTup rfl ?_))
        refine ldS_is rfl (c1.blk _ _ (Nat.lt_succ_self _) (by simp) lkH) rfl ?_
        (repeat(first|refine pSeq ?_|refine pReg ?_|refine sCons ?_|refine sNil ?_|refine pRet ?_|refine gNone ?_|refine gOn rfl ?_|refine gOff rfl rfl ?_|refine gTup rfl ?_))
        refine (mayDomain_w hd).mono fun v s2 q => ?_
        obtain ⟨rfl, c2⟩ := q
        (repeat(first|refine pSeq ?_|refine pReg ?_|refine sCons ?_|refine sNil ?_|refine pRet ?_|refine gNone ?_|refine gOn rfl ?_|refine gOff rfl rfl ?_|refine gTup rfl ?_))
        refine ⟨bool_eq ?_, cc.nil c2⟩
        unfold mayF
        rw [decide_eq_decide]
        exact ⟨fun h => ⟨h1, h2, hp, h⟩, fun h => h.2.2.2⟩
    · obtain rfl : q = false := by rw [hq]; simp <;> omega
      (repeat(first|refine pSeq ?_|refine pReg ?_|refine sCons ?_|refine sNil ?_|refine pRet ?_|refine gNone ?_|refine gOn rfl ?_|refine gOff rfl rfl ?_|refine gTup rfl ?_))
      exact ⟨bool_eq (may_no fun h => h2 h.2.1).symm, .new _⟩

def wordF (a : List UInt8) : List UInt8 := if dotF a = true then a else (quoteF a).1
def textF (a d : List UInt8) : List UInt8 := if mayF a d = true then wordF a ++ 64 :: d else []

theorem quote_len (a : List UInt8) : (quoteF a).1.length ≤ 2 * a.length + 2 := by
  unfold quoteF
  split
  · show (quoteL a).length ≤ _
    unfold quoteL
    have := (esc_len a).2
    rw [List.length_append, List.length_cons, List.length_singleton]
    omega
  · simp

theorem text_w {s : SS} {a d : List UInt8} (hG : Gb s) (ha : a.length ≤ 1000000) (hd : d.length ≤ 1000000) : CallW pr n_addr_Text [adV a d] s fun v s' => v = str (textF a d) ∧ Chg s s' [] := by
  refine CallW.run good ok_addr_Text (by simp) rfl ?_
  (repeat(first|refine pSeq ?_|refine pReg ?_|refine sCons ?_|refine sNil ?_|refine pSkip ?_|refine pRet ?_|refine pCond ?_|refine gNone ?_))
  refine ldN_is rfl lkH agg2 ?_
  (repeat(first|refine pSeq ?_|refine pReg ?_|refine sCons ?_|refine sNil ?_|refine pSkip ?_|refine pRet ?_|refine pCond ?_|refine gNone ?_))
  refine (may_w ha hd).mono fun v s1 q => ?_
  obtain ⟨rfl, c1⟩ := q
  have c0 : Chg s s1 [] := (Chg.new []).nil c1
  have hk : lookH s1.heap s.next = some (.cells [str a, str d] tAd false false) := c1.blk _ _ (Nat.lt_succ_self _) (by simp) lkH
  have hlt : s.next < s1.next := Nat.lt_of_lt_of_le (Nat.lt_succ_self _) c1.next
  cases hm : mayF a d with
  | false =>
    (repeat(first|refine pSeq ?_|refine pReg ?_|refine sCons ?_|refine sNil ?_|refine pSkip ?_|refine pRet ?_|refine pCond ?_|refine gNone ?_))
    intro q hq; obtain rfl : q = true := (by rw [hq]; simp <;> omega); (repeat(first|refine pSeq ?_|refine pReg ?_|refine sCons ?_|refine sNil ?_|refine pSkip ?_|refine pRet ?_|refine pCond ?_|refine gNone ?_))
    exact ⟨by unfold textF; rw [hm]; rfl, c0⟩
  | true =>
    have eT : textF a d = wordF a ++ 64 :: d := by unfold textF; rw [if_pos hm]
    rw [eT]
    (repeat(first|refine pSeq ?_|refine pReg ?_|refine sCons ?_|refine sNil ?_|refine pSkip ?_|refine pRet ?_|refine pCond ?_|refine gNone ?_))
    intro q hq; obtain rfl : q = false := (by rw [hq]; simp <;> omega); (repeat(first|refine pSeq ?_|refine pReg ?_|refine sCons ?_|refine sNil ?_|refine pSkip ?_|refine pRet ?_|refine pCond ?_|refine gNone ?_))
    refine ldS_is rfl hk rfl ?_
    (repeat(first|refine pSeq ?_|refine pReg ?_|refine sCons ?_|refine sNil ?_|refine pSkip ?_|refine pRet ?_|refine pCond ?_|refine gNone ?_))
    refine (dotatom_w (hG.chg c0 (by simp)) ha).mono fun v s2 q => ?_
    obtain ⟨rfl, c2⟩ := q
    have hk2 := c2.blk _ _ hlt (by simp) hk
    cases hdo : dotF a with
    | true =>
      have eW : wordF a = a := by unfold wordF; rw [if_pos hdo]
      rw [eW]
      (repeat(first|refine pSeq ?_|refine pReg ?_|refine sCons ?_|refine sNil ?_|refine pSkip ?_|refine pRet ?_|refine pCond ?_|refine gNone ?_))
      intro q hq; obtain rfl : q = false := (by rw [hq]; simp <;> omega); (repeat(first|refine pSeq ?_|refine pReg ?_|refine sCons ?_|refine sNil ?_|refine pSkip ?_|refine pRet ?_|refine pCond ?_|refine gNone ?_))
      refine ⟨by simp <;> omega, ?_⟩
      intro x hx
      (repeat(first|refine pSeq ?_|refine pReg ?_|refine sCons ?_|refine sNil ?_|refine pSkip ?_|refine pRet ?_|refine pCond ?_|refine gNone ?_))
      refine ldS_is rfl hk2 rfl ?_
      (repeat(first|refine pSeq ?_|refine pReg ?_|refine sCons ?_|refine sNil ?_|refine pSkip ?_|refine pRet ?_|refine pCond ?_|refine gNone ?_))
      refine ⟨by rw [hx]; simp <;> omega, ?_⟩
      intro y hy
      (repeat(first|refine pSeq ?_|refine pReg ?_|refine sCons ?_|refine sNil ?_|refine pSkip ?_|refine pRet ?_|refine pCond ?_|refine gNone ?_))
      subst hx hy
      exact ⟨by rw [List.append_assoc]; rfl, c0.nil c2⟩
    | false =>
      have eW : wordF a = (quoteF a).1 := by unfold wordF; rw [hdo]; rfl
      rw [eW]
      have hql := quote_len a
      (repeat(first|refine pSeq ?_|refine pReg ?_|refine sCons ?_|refine sNil ?_|refine pSkip ?_|refine pRet ?_|refine pCond ?_|refine gNone ?_))
      intro q hq; obtain rfl : q = true := (by rw [hq]; simp <;> omega); (repeat(first|refine pSeq ?_|refine pReg ?_|refine sCons ?_|refine sNil ?_|refine pSkip ?_|refine pRet ?_|refine pCond ?_|refine gNone ?_))
      refine (quote_w ha).mono fun v s3 q => ?_
      obtain ⟨rfl, c3⟩ := q
      generalize (quoteF a).1 = qa at *
      have hk3 := c3.blk _ _ (Nat.lt_of_lt_of_le hlt c2.next) (by simp) hk2
      (repeat(first|refine pSeq ?_|refine pReg ?_|refine sCons ?_|refine sNil ?_|refine pSkip ?_|refine pRet ?_|refine pCond ?_|refine gNone ?_))
      refine ⟨by simp <;> omega, ?_⟩
      intro x hx
      (repeat(first|refine pSeq ?_|refine pReg ?_|refine sCons ?_|refine sNil ?_|refine pSkip ?_|refine pRet ?_|refine pCond ?_|refine gNone ?_))
      refine ldS_is rfl hk3 rfl ?_
      (repeat(first|refine pSeq ?_|refine pReg ?_|refine sCons ?_|refine sNil ?_|refine pSkip ?_|refine pRet ?_|refine pCond ?_|refine gNone ?_))
      refine ⟨by rw [hx]; simp <;> omega, ?_⟩
      intro y hy
      (repeat(first|refine pSeq ?_|refine pReg ?_|refine sCons ?_|refine sNil ?_|refine pSkip ?_|refine pRet ?_|refine pCond ?_|refine gNone ?_))
      subst hx hy
      exact ⟨by rw [List.append_assoc]; rfl, (c0.nil c2).nil c3⟩

def postL : List UInt8 := [112, 111, 115, 116, 109, 97, 115, 116, 101, 114]
def isPost (a : List UInt8) : Bool := decide (a.map lowB = postL)
def nrmL (a : List UInt8) : List UInt8 := if isPost a = true then postL else a

/-- Whether two are the same. -/
def sameF (a d b e : List UInt8) : Bool := decide (nrmL a = nrmL b) && decide (d.map lowB = e.map lowB)

end Go.Vf.S

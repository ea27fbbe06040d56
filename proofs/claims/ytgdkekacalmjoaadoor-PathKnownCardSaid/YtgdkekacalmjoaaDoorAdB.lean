import Derived.Test.YtgdkekacalmjoaaDoorAdA
/- Labels, a literal's numbers; what a domain is made of. -/
namespace Go.Vf.S
open Go Go.Vf
attribute [local irreducible] wSeq wRow wp wG
set_option linter.unusedVariables false
set_option linter.unusedSimpArgs false
set_option maxRecDepth 10000

def endsF (l : List UInt8) : Bool := !l.isEmpty && (decide (l.head? ≠ some 45) && decide (l.getLast? ≠ some 45))
/-- A label, whatever its length. -/
def labelF (l : List UInt8) : Bool := l.all labB && endsF l
/-- A literal's number. -/
def octF (l : List UInt8) : Bool := decide ((numberF l 3).2 = 0 ∧ (numberF l 3).1 ≤ 255 ∧ (l = [48] ∨ l.head? ≠ some 48))

theorem lab_hi {r : Nat} (h : 128 ≤ r) : labN r = false := by
  unfold labN alnN
  simp only [Bool.or_eq_false_iff, decide_eq_false_iff_not, beq_eq_false_iff_ne]
  omega
theorem _root_.Go.Vf.Chg.same {a b c : SS} {A : List Nat} (h : Chg a b A) (k : Chg b c A) : Chg a c A := h.trans' k (fun _ q _ => q) fun _ q _ => q
theorem byte_ne {c d : UInt8} (h : c ≠ d) : c.toNat ≠ d.toNat := fun e => h (UInt8.toNat_inj.1 e)

theorem mayLabel_w {s : SS} {l : List UInt8} (hl : l.length ≤ 1000000) : CallW pr n_addr_mayLabel [str l] s fun v s' => v = .bool (labelF l) ∧ Chg s s' [] := by
  refine CallW.run good ok_addr_mayLabel (by simp) rfl ?_
  (repeat(first|refine pSeq ?_|refine pReg ?_|refine sRaw ?_|refine sCons ?_|refine sNil ?_|refine pBlock ?_|refine pSkip ?_|refine pExit ?_|refine pRet ?_|refine pCond ?_|refine gNone ?_|refine gOn rfl ?_|refine gOff rfl rfl ?_|refine gTup rfl ?_))
  refine srange_W rfl un_S rfl ?_
  (repeat(first|refine pSeq ?_|refine pReg ?_|refine sRaw ?_|refine sCons ?_|refine sNil ?_|refine pBlock ?_|refine pSkip ?_|refine pExit ?_|refine pRet ?_|refine pCond ?_|refine gNone ?_|refine gOn rfl ?_|refine gOff rfl rfl ?_|refine gTup rfl ?_))
  refine pLoop (MW.head good (fun x : It => l.length - x.p) (fun x => At s s.next l x ∧ (l.take x.p).all labB = true) (fun x => [(0, str l), (6, .pointer (some ⟨s.next, 0, none⟩))]) (fun x => x.s) ⟨0, _⟩ ⟨.start s l, rfl⟩ (Wk.same ⟨rfl, rfl, trivial⟩) ?_)
  intro ⟨p, s1⟩ ⟨h1, h2⟩
  dsimp only at h1 h2 ⊢
  (repeat(first|refine pSeq ?_|refine pReg ?_|refine sRaw ?_|refine sCons ?_|refine sNil ?_|refine pBlock ?_|refine pSkip ?_|refine pExit ?_|refine pRet ?_|refine pCond ?_|refine gNone ?_|refine gOn rfl ?_|refine gOff rfl rfl ?_|refine gTup rfl ?_))
  refine snext_L rfl rfl h1.2.2.2 (fun he => ?_) (fun c hc h7 => ?_) (fun c r w hc h7 hr hr2 _ hw _ => ?_)
  · rw [List.take_of_length_le he] at h2
    (repeat(first|refine pSeq ?_|refine pReg ?_|refine sRaw ?_|refine sCons ?_|refine sNil ?_|refine pBlock ?_|refine pSkip ?_|refine pExit ?_|refine pRet ?_|refine pCond ?_|refine gNone ?_|refine gOn rfl ?_|refine gOff rfl rfl ?_|refine gTup rfl ?_))
    intro q hq
    have e : labelF l = endsF l := by unfold labelF; rw [h2]; rfl
    rw [e]
    rcases hcl : l with _ | ⟨c, r⟩
    · subst hcl
      obtain rfl : q = false := by rw [hq]; rfl
      (repeat(first|refine pSeq ?_|refine pReg ?_|refine sRaw ?_|refine sCons ?_|refine sNil ?_|refine pBlock ?_|refine pSkip ?_|refine pExit ?_|refine pRet ?_|refine pCond ?_|refine gNone ?_|refine gOn rfl ?_|refine gOff rfl rfl ?_|refine gTup rfl ?_))
      exact ⟨rfl, h1.1⟩
    · have hn : l.length = r.length + 1 := by rw [hcl]; rfl
      obtain rfl : q = true := by rw [hq, hcl]; simp
      (repeat(first|refine pSeq ?_|refine pReg ?_|refine sRaw ?_|refine sCons ?_|refine sNil ?_|refine pBlock ?_|refine pSkip ?_|refine pExit ?_|refine pRet ?_|refine pCond ?_|refine gNone ?_|refine gOn rfl ?_|refine gOff rfl rfl ?_|refine gTup rfl ?_))
      refine ⟨by simp, ?_⟩
      intro m hm
      obtain rfl : m = 0 := by omega
      refine ⟨c, rfl, ?_⟩
      (repeat(first|refine pSeq ?_|refine pReg ?_|refine sRaw ?_|refine sCons ?_|refine sNil ?_|refine pBlock ?_|refine pSkip ?_|refine pExit ?_|refine pRet ?_|refine pCond ?_|refine gNone ?_|refine gOn rfl ?_|refine gOff rfl rfl ?_|refine gTup rfl ?_))
      intro q hq
      by_cases h45 : c = 45
      · obtain rfl : q = false := by rw [hq, h45]; rfl
        (repeat(first|refine pSeq ?_|refine pReg ?_|refine sRaw ?_|refine sCons ?_|refine sNil ?_|refine pBlock ?_|refine pSkip ?_|refine pExit ?_|refine pRet ?_|refine pCond ?_|refine gNone ?_|refine gOn rfl ?_|refine gOff rfl rfl ?_|refine gTup rfl ?_))
        exact ⟨bool_eq (by simp [endsF, h45]), h1.1⟩
      · have : c.toNat ≠ 45 := byte_ne h45
        obtain rfl : q = true := by rw [hq]; simp; omega
        (repeat(first|refine pSeq ?_|refine pReg ?_|refine sRaw ?_|refine sCons ?_|refine sNil ?_|refine pBlock ?_|refine pSkip ?_|refine pExit ?_|refine pRet ?_|refine pCond ?_|refine gNone ?_|refine gOn rfl ?_|refine gOff rfl rfl ?_|refine gTup rfl ?_))
        intro n hn1
        (repeat(first|refine pSeq ?_|refine pReg ?_|refine sRaw ?_|refine sCons ?_|refine sNil ?_|refine pBlock ?_|refine pSkip ?_|refine pExit ?_|refine pRet ?_|refine pCond ?_|refine gNone ?_|refine gOn rfl ?_|refine gOff rfl rfl ?_|refine gTup rfl ?_))
        intro z hz
        rw [i64_id (by simp at hn1; omega)] at hz
        (repeat(first|refine pSeq ?_|refine pReg ?_|refine sRaw ?_|refine sCons ?_|refine sNil ?_|refine pBlock ?_|refine pSkip ?_|refine pExit ?_|refine pRet ?_|refine pCond ?_|refine gNone ?_|refine gOn rfl ?_|refine gOff rfl rfl ?_|refine gTup rfl ?_))
        refine ⟨by simp at hn1 ⊢; omega, ?_⟩
        intro m hm
        obtain rfl : m = r.length := by simp at hn1; omega
        obtain ⟨d, hd⟩ : ∃ d, (c :: r)[r.length]? = some d := ⟨_, List.getElem?_eq_getElem (by simp)⟩
        have hlast : (c :: r).getLast? = some d := by rw [List.getLast?_eq_getElem?, ← hd]; simp
        refine ⟨d, hd, ?_⟩
        (repeat(first|refine pSeq ?_|refine pReg ?_|refine sRaw ?_|refine sCons ?_|refine sNil ?_|refine pBlock ?_|refine pSkip ?_|refine pExit ?_|refine pRet ?_|refine pCond ?_|refine gNone ?_|refine gOn rfl ?_|refine gOff rfl rfl ?_|refine gTup rfl ?_))
        intro q hq
        (repeat(first|refine pSeq ?_|refine pReg ?_|refine sRaw ?_|refine sCons ?_|refine sNil ?_|refine pBlock ?_|refine pSkip ?_|refine pExit ?_|refine pRet ?_|refine pCond ?_|refine gNone ?_|refine gOn rfl ?_|refine gOff rfl rfl ?_|refine gTup rfl ?_))
        refine ⟨bool_eq ?_, h1.1⟩
        rw [hq]
        unfold endsF
        rw [hlast]
        by_cases hd45 : d = 45
        · simp [hd45]
        · have : d.toNat ≠ 45 := byte_ne hd45
          simp [hd45, h45]
          omega
  · (repeat(first|refine pSeq ?_|refine pReg ?_|refine sRaw ?_|refine sCons ?_|refine sNil ?_|refine pBlock ?_|refine pSkip ?_|refine pExit ?_|refine pRet ?_|refine pCond ?_|refine gNone ?_|refine gOn rfl ?_|refine gOff rfl rfl ?_|refine gTup rfl ?_))
    refine (labelLetter_w (by omega)).mono fun v s2 q => ?_
    obtain ⟨rfl, rfl⟩ := q
    (repeat(first|refine pSeq ?_|refine pReg ?_|refine sRaw ?_|refine sCons ?_|refine sNil ?_|refine pBlock ?_|refine pSkip ?_|refine pExit ?_|refine pRet ?_|refine pCond ?_|refine gNone ?_|refine gOn rfl ?_|refine gOff rfl rfl ?_|refine gTup rfl ?_))
    intro q hq
    rw [show labN c.toNat = labB c from rfl] at hq
    by_cases hp : labB c = true
    · obtain rfl : q = false := by rw [hq, hp]; rfl
      (repeat(first|refine pSeq ?_|refine pReg ?_|refine sRaw ?_|refine sCons ?_|refine sNil ?_|refine pBlock ?_|refine pSkip ?_|refine pExit ?_|refine pRet ?_|refine pCond ?_|refine gNone ?_|refine gOn rfl ?_|refine gOff rfl rfl ?_|refine gTup rfl ?_))
      exact ⟨⟨p + 1, _⟩, ⟨h1.go _, by rw [take_next hc]; simp [h2, hp]⟩, by have : p < l.length := lt_of_get hc; show l.length - (p + 1) < l.length - p; omega, Wk.same ⟨rfl, rfl, trivial⟩⟩
    · obtain rfl : q = true := by rw [hq, Bool.eq_false_iff.2 hp]; rfl
      (repeat(first|refine pSeq ?_|refine pReg ?_|refine sRaw ?_|refine sCons ?_|refine sNil ?_|refine pBlock ?_|refine pSkip ?_|refine pExit ?_|refine pRet ?_|refine pCond ?_|refine gNone ?_|refine gOn rfl ?_|refine gOff rfl rfl ?_|refine gTup rfl ?_))
      exact ⟨bool_eq (by unfold labelF; rw [all_no hc (Bool.eq_false_iff.2 hp)]; rfl), (h1.go _).1⟩
  · (repeat(first|refine pSeq ?_|refine pReg ?_|refine sRaw ?_|refine sCons ?_|refine sNil ?_|refine pBlock ?_|refine pSkip ?_|refine pExit ?_|refine pRet ?_|refine pCond ?_|refine gNone ?_|refine gOn rfl ?_|refine gOff rfl rfl ?_|refine gTup rfl ?_))
    refine (labelLetter_w (by omega)).mono fun v s2 q => ?_
    obtain ⟨rfl, rfl⟩ := q
    (repeat(first|refine pSeq ?_|refine pReg ?_|refine sRaw ?_|refine sCons ?_|refine sNil ?_|refine pBlock ?_|refine pSkip ?_|refine pExit ?_|refine pRet ?_|refine pCond ?_|refine gNone ?_|refine gOn rfl ?_|refine gOff rfl rfl ?_|refine gTup rfl ?_))
    intro q hq
    obtain rfl : q = true := by rw [hq, lab_hi hr]; rfl
    (repeat(first|refine pSeq ?_|refine pReg ?_|refine sRaw ?_|refine sCons ?_|refine sNil ?_|refine pBlock ?_|refine pSkip ?_|refine pExit ?_|refine pRet ?_|refine pCond ?_|refine gNone ?_|refine gOn rfl ?_|refine gOff rfl rfl ?_|refine gTup rfl ?_))
    exact ⟨bool_eq (by unfold labelF; rw [all_no hc (show labB c = false from lab_hi h7)]; rfl), (h1.go _).1⟩

theorem head_at {l : List UInt8} {c : UInt8} (h : l[0]? = some c) : l.head? = some c := by rw [List.head?_eq_getElem?]; exact h

theorem mayNumber_w {s : SS} {l : List UInt8} (hl : l.length ≤ 1000000) : CallW pr n_addr_mayNumber [str l] s fun v s' => v = .bool (octF l) ∧ Chg s s' [] := by
  refine CallW.run good ok_addr_mayNumber (by simp) rfl ?_
  (repeat(first|refine pSeq ?_|refine pReg ?_|refine sCons ?_|refine sNil ?_|refine pRet ?_|refine gNone ?_|refine gOn rfl ?_|refine gOff rfl rfl ?_|refine gTup rfl ?_))
  refine (number_w (d := 3) hl).mono fun v s1 q => ?_
  obtain ⟨rfl, c1⟩ := q
  have h0 : (numberF l 3).2 = 0 → l ≠ [] := fun h e => by subst e; simp [numberF] at h
  generalize hN : numberF l 3 = N at *
  obtain ⟨a, b⟩ := N
  have hF : octF l = decide (b = 0 ∧ a ≤ 255 ∧ (l = [48] ∨ l.head? ≠ some 48)) := by unfold octF; rw [hN]
  rw [hF]
  dsimp only [nRes] at *
  (repeat(first|refine pSeq ?_|refine pReg ?_|refine sCons ?_|refine sNil ?_|refine pRet ?_|refine gNone ?_|refine gOn rfl ?_|refine gOff rfl rfl ?_|refine gTup rfl ?_))
  intro q hq
  by_cases hb : b = 0
  · subst hb
    obtain rfl : q = true := by rw [hq]; rfl
    (repeat(first|refine pSeq ?_|refine pReg ?_|refine sCons ?_|refine sNil ?_|refine pRet ?_|refine gNone ?_|refine gOn rfl ?_|refine gOff rfl rfl ?_|refine gTup rfl ?_))
    intro q hq
    by_cases ha : a ≤ 255
    · obtain rfl : q = true := by rw [hq]; simp <;> omega
      (repeat(first|refine pSeq ?_|refine pReg ?_|refine sCons ?_|refine sNil ?_|refine pRet ?_|refine gNone ?_|refine gOn rfl ?_|refine gOff rfl rfl ?_|refine gTup rfl ?_))
      intro q hq
      by_cases he : l = [48]
      · obtain rfl : q = true := by rw [hq]; simp [he]
        (repeat(first|refine pSeq ?_|refine pReg ?_|refine sCons ?_|refine sNil ?_|refine pRet ?_|refine gNone ?_|refine gOn rfl ?_|refine gOff rfl rfl ?_|refine gTup rfl ?_))
        exact ⟨bool_eq (by simp [ha, he]), c1⟩
      · obtain rfl : q = false := by rw [hq]; simp [he]
        (repeat(first|refine pSeq ?_|refine pReg ?_|refine sCons ?_|refine sNil ?_|refine pRet ?_|refine gNone ?_|refine gOn rfl ?_|refine gOff rfl rfl ?_|refine gTup rfl ?_))
        have hne := h0 rfl
        have hpos : 0 < l.length := List.length_pos_iff.2 hne
        obtain ⟨c, hc⟩ : ∃ c, l[0]? = some c := ⟨_, List.getElem?_eq_getElem hpos⟩
        refine ⟨by omega, ?_⟩
        intro m hm
        obtain rfl : m = 0 := by omega
        refine ⟨c, hc, ?_⟩
        (repeat(first|refine pSeq ?_|refine pReg ?_|refine sCons ?_|refine sNil ?_|refine pRet ?_|refine gNone ?_|refine gOn rfl ?_|refine gOff rfl rfl ?_|refine gTup rfl ?_))
        intro q hq
        (repeat(first|refine pSeq ?_|refine pReg ?_|refine sCons ?_|refine sNil ?_|refine pRet ?_|refine gNone ?_|refine gOn rfl ?_|refine gOff rfl rfl ?_|refine gTup rfl ?_))
        refine ⟨bool_eq ?_, c1⟩
        rw [hq, head_at hc]
        by_cases hc48 : c = 48
        · simp [hc48, he]
        · have : c.toNat ≠ 48 := byte_ne hc48
          simp [ha, hc48]
          omega
    · obtain rfl : q = false := by rw [hq]; simp <;> omega
      (repeat(first|refine pSeq ?_|refine pReg ?_|refine sCons ?_|refine sNil ?_|refine pRet ?_|refine gNone ?_|refine gOn rfl ?_|refine gOff rfl rfl ?_|refine gTup rfl ?_))
      exact ⟨bool_eq (by simp [ha]), c1⟩
  · obtain rfl : q = false := by rw [hq]; simp; omega
    (repeat(first|refine pSeq ?_|refine pReg ?_|refine sCons ?_|refine sNil ?_|refine pRet ?_|refine gNone ?_|refine gOn rfl ?_|refine gOff rfl rfl ?_|refine gTup rfl ?_))
    exact ⟨bool_eq (by simp [hb]), c1⟩

theorem madeOf_w {s : SS} {l : List UInt8} {f : FuncId} {c : Value} {b : Nat} {g : List UInt8 → Bool} (J : Nat → SS → Prop) (hl : l.length ≤ 1000000)
    (hf : ∀ x, callV pr (.func (.func f) ⟨[]⟩ ⟨[c]⟩) [x] = some (.enter f [x, c])) (hb : b < s.next) (h0 : J 0 s) (hJ : ∀ k s1 s2, J k s1 → Chg s1 s2 [] → b < s1.next → J k s2)
    (hc : ∀ k x s1, (splitF 46 l)[k]? = some x → J k s1 → b < s1.next → CallW pr f [str x, c] s1 fun v s2 => v = .bool (g x) ∧ J (k + 1) s2 ∧ Chg s1 s2 [b]) :
    CallW pr n_addr_madeOf [str l, .func (.func f) ⟨[]⟩ ⟨[c]⟩] s fun v s' => v = .bool ((splitF 46 l).all g) ∧ Chg s s' [b] ∧ ((splitF 46 l).all g = true → J (splitF 46 l).length s') := by
  refine CallW.run good ok_addr_madeOf (by simp) rfl ?_
  (repeat(first|refine pSeq ?_|refine pReg ?_|refine sCons ?_|refine sNil ?_|refine pBlock ?_|refine pSkip ?_|refine pExit ?_|refine pRet ?_|refine pCond ?_|refine gNone ?_))
  refine (Split_w (c := 46) hl).mono fun v s1 q => ?_
  obtain ⟨base, cap, rfl, h1, c1, hB⟩ := q
  have hlen : (splitF 46 l).length ≤ 1000001 := by
    rw [split_len]
    have := List.count_le_length (a := (46 : UInt8)) (l := l)
    omega
  have hJ1 := hJ 0 _ _ h0 c1 hb
  generalize hls : splitF 46 l = ls at *
  obtain ⟨b1, rfl, cs, t, g1, r, h2, h3⟩ := h1.at
  have hb1 : s.next ≤ b1 := hB.1 b1 (by simp [blkOf])
  have hb2 : b1 < s1.next := by obtain ⟨_, _, _, _, _, e, q, _⟩ := h1; cases e; exact q
  (repeat(first|refine pSeq ?_|refine pReg ?_|refine sCons ?_|refine sNil ?_|refine pBlock ?_|refine pSkip ?_|refine pExit ?_|refine pRet ?_|refine pCond ?_|refine gNone ?_))
  refine pLoop (MW.head good (fun x : SIt => ls.length - x.i) (fun x => x.i ≤ ls.length ∧ Chg s1 x.s [b] ∧ J x.i x.s ∧ (ls.take x.i).all g = true) (fun x => [(1, .func (.func f) ⟨[]⟩ ⟨[c]⟩), (8, .slice (some ⟨b1, 0, none⟩) ls.length cap), (9, .int .i64 ls.length), (10, .int .i64 x.i)]) (fun x => x.s) ⟨0, s1⟩ ⟨Nat.zero_le _, .refl _ _, hJ1, rfl⟩ (Wk.same ⟨rfl, rfl, rfl, rfl, trivial⟩) ?_)
  intro ⟨i, s2⟩ ⟨hi, c12, h4, h5⟩
  dsimp only at hi c12 h4 h5 ⊢
  have hs2 := c12.next
  have hs1 := c1.next
  have cc : Chg s s2 [b] := c1.nil c12
  (repeat(first|refine pSeq ?_|refine pReg ?_|refine sCons ?_|refine sNil ?_|refine pBlock ?_|refine pSkip ?_|refine pExit ?_|refine pRet ?_|refine pCond ?_|refine gNone ?_))
  intro q hq
  by_cases hlt : i < ls.length
  · obtain rfl : q = true := by rw [hq]; simp <;> omega
    obtain ⟨x, hx⟩ : ∃ x, ls[i]? = some x := ⟨_, List.getElem?_eq_getElem hlt⟩
    (repeat(first|refine pSeq ?_|refine pReg ?_|refine sCons ?_|refine sNil ?_|refine pBlock ?_|refine pSkip ?_|refine pExit ?_|refine pRet ?_|refine pCond ?_|refine gNone ?_))
    refine ⟨by omega, ?_⟩
    intro m hm o ho
    obtain rfl : m = i := by omega
    (repeat(first|refine pSeq ?_|refine pReg ?_|refine sCons ?_|refine sNil ?_|refine pBlock ?_|refine pSkip ?_|refine pExit ?_|refine pRet ?_|refine pCond ?_|refine gNone ?_))
    have hk := c12.blk b1 _ hb2 (by simp; omega) h2
    refine ldS_is rfl hk (by rw [ho, Nat.zero_add, Nat.mul_one]; exact h3 m x hx) ?_
    (repeat(first|refine pSeq ?_|refine pReg ?_|refine sCons ?_|refine sNil ?_|refine pBlock ?_|refine pSkip ?_|refine pExit ?_|refine pRet ?_|refine pCond ?_|refine gNone ?_))
    refine ⟨.call f [str x, c], ?_, ?_⟩
    · exact hf (str x)
    refine (hc m x s2 hx h4 (by omega)).mono fun v s3 q => ?_
    obtain ⟨rfl, j3, c3⟩ := q
    (repeat(first|refine pSeq ?_|refine pReg ?_|refine sCons ?_|refine sNil ?_|refine pBlock ?_|refine pSkip ?_|refine pExit ?_|refine pRet ?_|refine pCond ?_|refine gNone ?_))
    intro q hq
    by_cases ha : g x = true
    · obtain rfl : q = false := by rw [hq, ha]; rfl
      (repeat(first|refine pSeq ?_|refine pReg ?_|refine sCons ?_|refine sNil ?_|refine pBlock ?_|refine pSkip ?_|refine pExit ?_|refine pRet ?_|refine pCond ?_|refine gNone ?_))
      intro z hz
      rw [i64_id (by omega)] at hz
      obtain rfl : z = ((m + 1 : Nat) : Int) := by omega
      (repeat(first|refine pSeq ?_|refine pReg ?_|refine sCons ?_|refine sNil ?_|refine pBlock ?_|refine pSkip ?_|refine pExit ?_|refine pRet ?_|refine pCond ?_|refine gNone ?_))
      exact ⟨⟨m + 1, s3⟩, ⟨hlt, c12.same c3, j3, by rw [take_next hx]; simp [h5, ha]⟩, by show ls.length - (m + 1) < ls.length - m; omega, Wk.same ⟨rfl, rfl, rfl, rfl, trivial⟩⟩
    · obtain rfl : q = true := by rw [hq]; simp [ha]
      (repeat(first|refine pSeq ?_|refine pReg ?_|refine sCons ?_|refine sNil ?_|refine pBlock ?_|refine pSkip ?_|refine pExit ?_|refine pRet ?_|refine pCond ?_|refine gNone ?_))
      have hno : ls.all g = false := by rw [List.all_eq_false]; exact ⟨x, List.mem_of_getElem? hx, by simp [ha]⟩
      rw [hno]
      exact ⟨rfl, cc.same c3, fun q => by cases q⟩
  · obtain rfl : q = false := by rw [hq]; simp <;> omega
    (repeat(first|refine pSeq ?_|refine pReg ?_|refine sCons ?_|refine sNil ?_|refine pBlock ?_|refine pSkip ?_|refine pExit ?_|refine pRet ?_|refine pCond ?_|refine gNone ?_))
    obtain rfl : i = ls.length := by omega
    rw [List.take_of_length_le (Nat.le_refl _)] at h5
    rw [h5]
    exact ⟨rfl, cc, fun _ => h4⟩
end Go.Vf.S

import Derived.Test.YtgnhkclddahdnaaGreatDoorBnA
import Derived.Test.YtgnhkclddahdnaaGreatDoorLbE
/- AdA -/
section
/- Domains: letters, labels, numbers. -/
namespace Go.Vf.S
open Go Go.Vf
attribute [local irreducible] wSeq wRow wp wG
set_option linter.unusedVariables false
set_option linter.unusedSimpArgs false
set_option maxRecDepth 10000

def alnN (n : Nat) : Bool := decide (97 ≤ n ∧ n ≤ 122 ∨ 65 ≤ n ∧ n ≤ 90 ∨ 48 ≤ n ∧ n ≤ 57)
def labN (n : Nat) : Bool := alnN n || n == 45
def labB (c : UInt8) : Bool := labN c.toNat

theorem labelLetter_w {s : SS} {r : Nat} (hr : r ≤ 1114111) : CallW pr n_addr_labelLetter [.int .i32 r] s fun v s' => v = .bool (labN r) ∧ s' = s := by
  refine CallW.run good ok_addr_labelLetter (by simp) rfl ?_
  (repeat' (first | refine pSeq ?_ | refine pReg ?_ | refine sRaw ?_ | refine sCons ?_ | refine sNil ?_ | refine rCons ?_ | refine rNil ?_ | refine kNo ?_ | refine pRow ?_ | refine pBlock ?_ | refine pSkip ?_ | refine pExit ?_ | refine pRet ?_ | refine pCond ?_ | refine gNone ?_ | refine gOn rfl ?_ | refine gOff rfl rfl ?_ | refine gTup rfl ?_ | (intro q hq; cases q <;> simp only [true_eq_decide_iff, false_eq_decide_iff, Bool.not_true, Bool.not_false, Bool.true_eq, Bool.false_eq, decide_eq_true_eq, decide_eq_false_iff_not, reduceCtorEq] at hq)))
  all_goals (refine ⟨bool_eq ?_, rfl⟩; unfold labN alnN; rw [Bool.eq_iff_iff]; simp only [Bool.or_eq_true, decide_eq_true_eq, beq_iff_eq, true_iff, false_iff, reduceCtorEq]; omega)

end Go.Vf.S
end
/- AdB -/
section
/- Labels, a literal's numbers; what a domain is made of. -/
namespace Go.Vf.S
open Go Go.Vf
attribute [local irreducible] wSeq wRow wp wG
set_option linter.unusedVariables false
set_option linter.unusedSimpArgs false
set_option maxRecDepth 10000

def endsF (l : List UInt8) : Bool := !l.isEmpty && (decide (l.head? ≠ some 45) && decide (l.getLast? ≠ some 45))
/-- A label, whatever its length. -/
def labelF (l : List UInt8) : Bool := l.all labB && endsF l
/-- A literal's number. -/
def octF (l : List UInt8) : Bool := decide ((numberF l 3).2 = 0 ∧ (numberF l 3).1 ≤ 255 ∧ (l = [48] ∨ l.head? ≠ some 48))

theorem lab_hi {r : Nat} (h : 128 ≤ r) : labN r = false := by
  unfold labN alnN
  simp only [Bool.or_eq_false_iff, decide_eq_false_iff_not, beq_eq_false_iff_ne]
  omega
theorem _root_.Go.Vf.Chg.same {a b c : SS} {A : List Nat} (h : Chg a b A) (k : Chg b c A) : Chg a c A := h.trans' k (fun _ q _ => q) fun _ q _ => q
theorem byte_ne {c d : UInt8} (h : c ≠ d) : c.toNat ≠ d.toNat := fun e => h (UInt8.toNat_inj.1 e)

theorem mayLabel_w {s : SS} {l : List UInt8} (hl : l.length ≤ 1000000) : CallW pr n_addr_mayLabel [str l] s fun v s' => v = .bool (labelF l) ∧ Chg s s' [] := by
  refine CallW.run good ok_addr_mayLabel (by simp) rfl ?_
  (try refine pSeq ?_); (repeat(first|refine sb ?_|refine gOn rfl ?_|refine gOff rfl rfl ?_|refine gTup rfl ?_))
  refine srange_W rfl un_S rfl ?_
  (repeat(first|refine sb ?_|refine gOn rfl ?_|refine gOff rfl rfl ?_|refine gTup rfl ?_))
  refine pLoop (MW.head good (fun x : It => l.length - x.p) (fun x => At s s.next l x ∧ (l.take x.p).all labB = true) (fun x => [(0, str l), (6, .pointer (some ⟨s.next, 0, none⟩))]) (fun x => x.s) ⟨0, _⟩ ⟨.start s l, rfl⟩ (Wk.same ⟨rfl, rfl, trivial⟩) ?_)
  intro ⟨p, s1⟩ ⟨h1, h2⟩
  dsimp only at h1 h2 ⊢
  (repeat(first|refine sb ?_|refine gOn rfl ?_|refine gOff rfl rfl ?_|refine gTup rfl ?_))
  refine snext_L rfl rfl h1.2.2.2 (fun he => ?_) (fun c hc h7 => ?_) (fun c r w hc h7 hr hr2 _ hw _ => ?_)
  · rw [List.take_of_length_le he] at h2
    (repeat(first|refine sb ?_|refine gOn rfl ?_|refine gOff rfl rfl ?_|refine gTup rfl ?_))
    intro q hq
    have e : labelF l = endsF l := by unfold labelF; rw [h2]; rfl
    rw [e]
    rcases hcl : l with _ | ⟨c, r⟩
    · subst hcl
      obtain rfl : q = false := by rw [hq]; rfl
      (repeat(first|refine sb ?_|refine gOn rfl ?_|refine gOff rfl rfl ?_|refine gTup rfl ?_))
      exact ⟨rfl, h1.1⟩
    · have hn : l.length = r.length + 1 := by rw [hcl]; rfl
      obtain rfl : q = true := by rw [hq, hcl]; simp
      (repeat(first|refine sb ?_|refine gOn rfl ?_|refine gOff rfl rfl ?_|refine gTup rfl ?_))
      refine ⟨by simp, ?_⟩
      intro m hm
      obtain rfl : m = 0 := by omega
      refine ⟨c, rfl, ?_⟩
      (repeat(first|refine sb ?_|refine gOn rfl ?_|refine gOff rfl rfl ?_|refine gTup rfl ?_))
      intro q hq
      by_cases h45 : c = 45
      · obtain rfl : q = false := by rw [hq, h45]; rfl
        (repeat(first|refine sb ?_|refine gOn rfl ?_|refine gOff rfl rfl ?_|refine gTup rfl ?_))
        exact ⟨bool_eq (by simp [endsF, h45]), h1.1⟩
      · have : c.toNat ≠ 45 := byte_ne h45
        obtain rfl : q = true := by rw [hq]; simp; omega
        (repeat(first|refine sb ?_|refine gOn rfl ?_|refine gOff rfl rfl ?_|refine gTup rfl ?_))
        intro n hn1
        (repeat(first|refine sb ?_|refine gOn rfl ?_|refine gOff rfl rfl ?_|refine gTup rfl ?_))
        intro z hz
        rw [i64_id (by simp at hn1; omega)] at hz
        (repeat(first|refine sb ?_|refine gOn rfl ?_|refine gOff rfl rfl ?_|refine gTup rfl ?_))
        refine ⟨by simp at hn1 ⊢; omega, ?_⟩
        intro m hm
        obtain rfl : m = r.length := by simp at hn1; omega
        obtain ⟨d, hd⟩ : ∃ d, (c :: r)[r.length]? = some d := ⟨_, List.getElem?_eq_getElem (by simp)⟩
        have hlast : (c :: r).getLast? = some d := by rw [List.getLast?_eq_getElem?, ← hd]; simp
        refine ⟨d, hd, ?_⟩
        (repeat(first|refine sb ?_|refine gOn rfl ?_|refine gOff rfl rfl ?_|refine gTup rfl ?_))
        intro q hq
        (repeat(first|refine sb ?_|refine gOn rfl ?_|refine gOff rfl rfl ?_|refine gTup rfl ?_))
        refine ⟨bool_eq ?_, h1.1⟩
        rw [hq]
        unfold endsF
        rw [hlast]
        by_cases hd45 : d = 45
        · simp [hd45]
        · have : d.toNat ≠ 45 := byte_ne hd45
          simp [hd45, h45]
          omega
  · (repeat(first|refine sb ?_|refine gOn rfl ?_|refine gOff rfl rfl ?_|refine gTup rfl ?_))
    refine (labelLetter_w (by omega)).mono fun v s2 q => ?_
    obtain ⟨rfl, rfl⟩ := q
    (repeat(first|refine sb ?_|refine gOn rfl ?_|refine gOff rfl rfl ?_|refine gTup rfl ?_))
    intro q hq
    rw [show labN c.toNat = labB c from rfl] at hq
    by_cases hp : labB c = true
    · obtain rfl : q = false := by rw [hq, hp]; rfl
      (repeat(first|refine sb ?_|refine gOn rfl ?_|refine gOff rfl rfl ?_|refine gTup rfl ?_))
      exact ⟨⟨p + 1, _⟩, ⟨h1.go _, by rw [take_next hc]; simp [h2, hp]⟩, by have : p < l.length := lt_of_get hc; show l.length - (p + 1) < l.length - p; omega, Wk.same ⟨rfl, rfl, trivial⟩⟩
    · obtain rfl : q = true := by rw [hq, Bool.eq_false_iff.2 hp]; rfl
      (repeat(first|refine sb ?_|refine gOn rfl ?_|refine gOff rfl rfl ?_|refine gTup rfl ?_))
      exact ⟨bool_eq (by unfold labelF; rw [all_no hc (Bool.eq_false_iff.2 hp)]; rfl), (h1.go _).1⟩
  · (repeat(first|refine sb ?_|refine gOn rfl ?_|refine gOff rfl rfl ?_|refine gTup rfl ?_))
    refine (labelLetter_w (by omega)).mono fun v s2 q => ?_
    obtain ⟨rfl, rfl⟩ := q
    (repeat(first|refine sb ?_|refine gOn rfl ?_|refine gOff rfl rfl ?_|refine gTup rfl ?_))
    intro q hq
    obtain rfl : q = true := by rw [hq, lab_hi hr]; rfl
    (repeat(first|refine sb ?_|refine gOn rfl ?_|refine gOff rfl rfl ?_|refine gTup rfl ?_))
    exact ⟨bool_eq (by unfold labelF; rw [all_no hc (show labB c = false from lab_hi h7)]; rfl), (h1.go _).1⟩

theorem head_at {l : List UInt8} {c : UInt8} (h : l[0]? = some c) : l.head? = some c := by rw [List.head?_eq_getElem?]; exact h

theorem mayNumber_w {s : SS} {l : List UInt8} (hl : l.length ≤ 1000000) : CallW pr n_addr_mayNumber [str l] s fun v s' => v = .bool (octF l) ∧ Chg s s' [] := by
  refine CallW.run good ok_addr_mayNumber (by simp) rfl ?_
  (try refine pSeq ?_); (repeat(first|refine sb ?_|refine gOn rfl ?_|refine gOff rfl rfl ?_|refine gTup rfl ?_))
  refine (number_w (d := 3) hl).mono fun v s1 q => ?_
  obtain ⟨rfl, c1⟩ := q
  have h0 : (numberF l 3).2 = 0 → l ≠ [] := fun h e => by subst e; simp [numberF] at h
  generalize hN : numberF l 3 = N at *
  obtain ⟨a, b⟩ := N
  have hF : octF l = decide (b = 0 ∧ a ≤ 255 ∧ (l = [48] ∨ l.head? ≠ some 48)) := by unfold octF; rw [hN]
  rw [hF]
  dsimp only [nRes] at *
  (repeat(first|refine sb ?_|refine gOn rfl ?_|refine gOff rfl rfl ?_|refine gTup rfl ?_))
  intro q hq
  by_cases hb : b = 0
  · subst hb
    obtain rfl : q = true := by rw [hq]; rfl
    (repeat(first|refine sb ?_|refine gOn rfl ?_|refine gOff rfl rfl ?_|refine gTup rfl ?_))
    intro q hq
    by_cases ha : a ≤ 255
    · obtain rfl : q = true := by rw [hq]; simp <;> omega
      (repeat(first|refine sb ?_|refine gOn rfl ?_|refine gOff rfl rfl ?_|refine gTup rfl ?_))
      intro q hq
      by_cases he : l = [48]
      · obtain rfl : q = true := by rw [hq]; simp [he]
        (repeat(first|refine sb ?_|refine gOn rfl ?_|refine gOff rfl rfl ?_|refine gTup rfl ?_))
        exact ⟨bool_eq (by simp [ha, he]), c1⟩
      · obtain rfl : q = false := by rw [hq]; simp [he]
        (repeat(first|refine sb ?_|refine gOn rfl ?_|refine gOff rfl rfl ?_|refine gTup rfl ?_))
        have hne := h0 rfl
        have hpos : 0 < l.length := List.length_pos_iff.2 hne
        obtain ⟨c, hc⟩ : ∃ c, l[0]? = some c := ⟨_, List.getElem?_eq_getElem hpos⟩
        refine ⟨by omega, ?_⟩
        intro m hm
        obtain rfl : m = 0 := by omega
        refine ⟨c, hc, ?_⟩
        (repeat(first|refine sb ?_|refine gOn rfl ?_|refine gOff rfl rfl ?_|refine gTup rfl ?_))
        intro q hq
        (repeat(first|refine sb ?_|refine gOn rfl ?_|refine gOff rfl rfl ?_|refine gTup rfl ?_))
        refine ⟨bool_eq ?_, c1⟩
        rw [hq, head_at hc]
        by_cases hc48 : c = 48
        · simp [hc48, he]
        · have : c.toNat ≠ 48 := byte_ne hc48
          simp [ha, hc48]
          omega
    · obtain rfl : q = false := by rw [hq]; simp <;> omega
      (repeat(first|refine sb ?_|refine gOn rfl ?_|refine gOff rfl rfl ?_|refine gTup rfl ?_))
      exact ⟨bool_eq (by simp [ha]), c1⟩
  · obtain rfl : q = false := by rw [hq]; simp; omega
    (repeat(first|refine sb ?_|refine gOn rfl ?_|refine gOff rfl rfl ?_|refine gTup rfl ?_))
    exact ⟨bool_eq (by simp [hb]), c1⟩

theorem madeOf_w {s : SS} {l : List UInt8} {f : FuncId} {c : Value} {b : Nat} {g : List UInt8 → Bool} (J : Nat → SS → Prop) (hl : l.length ≤ 1000000)
    (hf : ∀ x, callV pr (.func (.func f) ⟨[]⟩ ⟨[c]⟩) [x] = some (.enter f [x, c])) (hb : b < s.next) (h0 : J 0 s) (hJ : ∀ k s1 s2, J k s1 → Chg s1 s2 [] → b < s1.next → J k s2)
    (hc : ∀ k x s1, (splitF 46 l)[k]? = some x → J k s1 → b < s1.next → CallW pr f [str x, c] s1 fun v s2 => v = .bool (g x) ∧ J (k + 1) s2 ∧ Chg s1 s2 [b]) :
    CallW pr n_addr_madeOf [str l, .func (.func f) ⟨[]⟩ ⟨[c]⟩] s fun v s' => v = .bool ((splitF 46 l).all g) ∧ Chg s s' [b] ∧ ((splitF 46 l).all g = true → J (splitF 46 l).length s') := by
  refine CallW.run good ok_addr_madeOf (by simp) rfl ?_
  (try refine pSeq ?_); (repeat refine sb ?_)
  refine (Split_w (c := 46) hl).mono fun v s1 q => ?_
  obtain ⟨base, cap, rfl, h1, c1, hB⟩ := q
  have hlen : (splitF 46 l).length ≤ 1000001 := by
    rw [split_len]
    have := List.count_le_length (a := (46 : UInt8)) (l := l)
    omega
  have hJ1 := hJ 0 _ _ h0 c1 hb
  generalize hls : splitF 46 l = ls at *
  obtain ⟨b1, rfl, cs, t, g1, r, h2, h3⟩ := h1.at
  have hb1 : s.next ≤ b1 := hB.1 b1 (by simp [blkOf])
  have hb2 : b1 < s1.next := by obtain ⟨_, _, _, _, _, e, q, _⟩ := h1; cases e; exact q
  (repeat refine sb ?_)
  refine pLoop (MW.head good (fun x : SIt => ls.length - x.i) (fun x => x.i ≤ ls.length ∧ Chg s1 x.s [b] ∧ J x.i x.s ∧ (ls.take x.i).all g = true) (fun x => [(1, .func (.func f) ⟨[]⟩ ⟨[c]⟩), (8, .slice (some ⟨b1, 0, none⟩) ls.length cap), (9, .int .i64 ls.length), (10, .int .i64 x.i)]) (fun x => x.s) ⟨0, s1⟩ ⟨Nat.zero_le _, .refl _ _, hJ1, rfl⟩ (Wk.same ⟨rfl, rfl, rfl, rfl, trivial⟩) ?_)
  intro ⟨i, s2⟩ ⟨hi, c12, h4, h5⟩
  dsimp only at hi c12 h4 h5 ⊢
  have hs2 := c12.next
  have hs1 := c1.next
  have cc : Chg s s2 [b] := c1.nil c12
  (repeat refine sb ?_)
  intro q hq
  by_cases hlt : i < ls.length
  · obtain rfl : q = true := by rw [hq]; simp <;> omega
    obtain ⟨x, hx⟩ : ∃ x, ls[i]? = some x := ⟨_, List.getElem?_eq_getElem hlt⟩
    (repeat refine sb ?_)
    refine ⟨by omega, ?_⟩
    intro m hm o ho
    obtain rfl : m = i := by omega
    (repeat refine sb ?_)
    have hk := c12.blk b1 _ hb2 (by simp; omega) h2
    refine ldS_is rfl hk (by rw [ho, Nat.zero_add, Nat.mul_one]; exact h3 m x hx) ?_
    (repeat refine sb ?_)
    refine ⟨.call f [str x, c], ?_, ?_⟩
    · exact hf (str x)
    refine (hc m x s2 hx h4 (by omega)).mono fun v s3 q => ?_
    obtain ⟨rfl, j3, c3⟩ := q
    (repeat refine sb ?_)
    intro q hq
    by_cases ha : g x = true
    · obtain rfl : q = false := by rw [hq, ha]; rfl
      (repeat refine sb ?_)
      intro z hz
      rw [i64_id (by omega)] at hz
      obtain rfl : z = ((m + 1 : Nat) : Int) := by omega
      (repeat refine sb ?_)
      exact ⟨⟨m + 1, s3⟩, ⟨hlt, c12.same c3, j3, by rw [take_next hx]; simp [h5, ha]⟩, by show ls.length - (m + 1) < ls.length - m; omega, Wk.same ⟨rfl, rfl, rfl, rfl, trivial⟩⟩
    · obtain rfl : q = true := by rw [hq]; simp [ha]
      (repeat refine sb ?_)
      have hno : ls.all g = false := by rw [List.all_eq_false]; exact ⟨x, List.mem_of_getElem? hx, by simp [ha]⟩
      rw [hno]
      exact ⟨rfl, cc.same c3, fun q => by cases q⟩
  · obtain rfl : q = false := by rw [hq]; simp <;> omega
    (repeat refine sb ?_)
    obtain rfl : i = ls.length := by omega
    rw [List.take_of_length_le (Nat.le_refl _)] at h5
    rw [h5]
    exact ⟨rfl, cc, fun _ => h4⟩
end Go.Vf.S
end
/- AdC -/
section
/- Texts cut at their ends; what is wrong with a domain. -/
namespace Go.Vf.S
open Go Go.Vf
attribute [local irreducible] wSeq wRow wp wG
set_option linter.unusedVariables false
set_option linter.unusedSimpArgs false
set_option maxRecDepth 10000

theorem callV_of {f : FuncId} {m : MF} (h : compF pr f = some m) (c x : Value) : callV pr (.func (.func f) ⟨[]⟩ ⟨[c]⟩) [x] = some (.enter f [x, c]) := by
  unfold compF at h
  split at h
  · cases h
  · rename_i fn hfn
    split at h
    · cases h
    · rename_i b hb
      have e : pr.funcs[f]? = some fn := hfn
      simp only [callV, e, hb, Option.isSome_some, cond_true]
      rfl

/-- What stands within a literal's signs. -/
def inner (l : List UInt8) : List UInt8 := (l.drop 1).take (l.length - 2)
def litF (l : List UInt8) : Bool := decide (l.take 1 = [91] ∧ [93] <:+ l.drop 1) && ((splitF 46 (inner l)).all octF && (splitF 46 (inner l)).length == 4)
def longF (l : List UInt8) : Bool := decide (255 < l.length) || (splitF 46 l).any fun p => decide (63 < p.length)
/-- What is wrong with a domain. -/
def domF (l : List UInt8) : Nat := if litF l = true then 0 else if (splitF 46 l).all labelF = true then (if longF l = true then 3 else 0) else 5

theorem part_len {l p : List UInt8} (h : p ∈ splitF 46 l) : p.length ≤ l.length := by
  have key : ∀ l : List UInt8, (sp 46 l).1.length ≤ l.length ∧ ∀ p ∈ (sp 46 l).2, p.length ≤ l.length := by
    intro l
    induction l with
    | nil => simp [sp]
    | cons x l ih =>
      rw [sp]
      split
      · refine ⟨by simp, fun p hp => ?_⟩
        rcases List.mem_cons.1 hp with rfl | hp
        · have := ih.1; simp; omega
        · have := ih.2 p hp; simp; omega
      · refine ⟨by have := ih.1; simp; omega, fun p hp => ?_⟩
        have := ih.2 p hp; simp; omega
  rcases List.mem_cons.1 h with rfl | h
  · exact (key l).1
  · exact (key l).2 p h

theorem literal_w {s : SS} {l : List UInt8} (hl : l.length ≤ 1000000) : CallW pr n_addr_literal [str l] s fun v s' => v = .bool (litF l) ∧ Chg s s' [] := by
  refine CallW.run good ok_addr_literal (by simp) rfl ?_
  (try refine pSeq ?_); (repeat(first|refine sb ?_|refine gOn rfl ?_|refine gOff rfl rfl ?_|refine gTup rfl ?_))
  refine cutP_w.mono fun v s q => ?_
  obtain ⟨rfl, rfl⟩ := q
  (repeat(first|refine sb ?_|refine gOn rfl ?_|refine gOff rfl rfl ?_|refine gTup rfl ?_))
  refine (cutS_w (by split <;> (try rw [List.length_drop]) <;> omega)).mono fun v s q => ?_
  obtain ⟨rfl, rfl⟩ := q
  by_cases h1 : l.take 1 = [91]
  · have e1 : l.take [(91 : UInt8)].length = [91] := h1
    rw [if_pos e1, decide_eq_true e1]
    by_cases h2 : [93] <:+ l.drop 1
    · have e2 : [(93 : UInt8)] <:+ l.drop [(91 : UInt8)].length := h2
      rw [if_pos e2, decide_eq_true e2]
      have e3 : ((l.drop [(91 : UInt8)].length).take ((l.drop [(91 : UInt8)].length).length - [(93 : UInt8)].length)) = inner l := by
        unfold inner
        simp
        congr 1
        omega
      rw [e3]
      have hil : (inner l).length ≤ 1000000 := by unfold inner; simp; omega
      have eL : litF l = ((splitF 46 (inner l)).all octF && (splitF 46 (inner l)).length == 4) := by
        unfold litF
        rw [decide_eq_true ⟨h1, h2⟩, Bool.true_and]
      rw [eL]
      generalize inner l = m at *
      (repeat(first|refine sb ?_|refine gOn rfl ?_|refine gOff rfl rfl ?_|refine gTup rfl ?_))
      intro q hq; obtain rfl : q = false := (by rw [hq]; simp <;> omega); (repeat(first|refine sb ?_|refine gOn rfl ?_|refine gOff rfl rfl ?_|refine gTup rfl ?_))
      intro q hq; obtain rfl : q = false := (by rw [hq]; simp <;> omega); (repeat(first|refine sb ?_|refine gOn rfl ?_|refine gOff rfl rfl ?_|refine gTup rfl ?_))
      refine st_abs (cs' := [.int .i64 0]) rfl rfl lkH (Nat.lt_succ_self _) rfl rfl fun s2 e2 c2 n2 => ?_
      (repeat(first|refine sb ?_|refine gOn rfl ?_|refine gOff rfl rfl ?_|refine gTup rfl ?_))
      refine ⟨.val (.func (.func n_addr_literal_1) ⟨[]⟩ ⟨[.pointer (some ⟨s.next, 0, none⟩)]⟩), rfl, ?_⟩
      (repeat(first|refine sb ?_|refine gOn rfl ?_|refine gOff rfl rfl ?_|refine gTup rfl ?_))
      have hb : s.next < s2.next := by rw [n2]; exact Nat.lt_succ_self _
      refine (madeOf_w (b := s.next) (g := octF) (fun k x => lookH x.heap s.next = some (.cells [.int .i64 k] 3 false false)) hil (callV_of ok_addr_literal_1 _) hb e2 (fun k s3 s4 h c hb => c.blk _ _ hb (by simp) h) (fun k x s3 hx hJ hb3 => ?_)).mono fun v s3 q => ?_
      · have hk : k ≤ 1000001 := by
          have := lt_of_get hx
          rw [split_len] at this
          have := List.count_le_length (a := (46 : UInt8)) (l := m)
          omega
        have hxl := part_len (List.mem_of_getElem? hx)
        refine CallW.run good ok_addr_literal_1 (by simp) rfl ?_
        (try refine pSeq ?_); (repeat(first|refine sb ?_|refine gOn rfl ?_|refine gOff rfl rfl ?_|refine gTup rfl ?_))
        refine ldI_is rfl hJ rfl ?_
        (repeat(first|refine sb ?_|refine gOn rfl ?_|refine gOff rfl rfl ?_|refine gTup rfl ?_))
        intro z hz
        rw [i64_id (by omega)] at hz
        obtain rfl : z = ((k + 1 : Nat) : Int) := by omega
        (repeat(first|refine sb ?_|refine gOn rfl ?_|refine gOff rfl rfl ?_|refine gTup rfl ?_))
        refine st_abs (cs' := [.int .i64 (k + 1 : Nat)]) rfl rfl hJ hb3 rfl rfl fun s4 e4 c4 n4 => ?_
        (repeat(first|refine sb ?_|refine gOn rfl ?_|refine gOff rfl rfl ?_|refine gTup rfl ?_))
        refine (mayNumber_w (by omega)).mono fun v s5 q => ?_
        obtain ⟨rfl, c5⟩ := q
        (repeat(first|refine sb ?_|refine gOn rfl ?_|refine gOff rfl rfl ?_|refine gTup rfl ?_))
        exact ⟨rfl, c5.blk _ _ (by rw [n4]; exact hb3) (by simp) e4, c4.trans' c5 (fun _ q _ => q) (by simp)⟩
      · obtain ⟨rfl, c3, hJ⟩ := q
        have cc : Chg s s3 [] := ((Chg.new []).fresh c2 (by simp)).fresh c3 (by simp)
        (repeat(first|refine sb ?_|refine gOn rfl ?_|refine gOff rfl rfl ?_|refine gTup rfl ?_))
        cases ha : (splitF 46 m).all octF with
        | false =>
          (repeat(first|refine sb ?_|refine gOn rfl ?_|refine gOff rfl rfl ?_|refine gTup rfl ?_))
          exact ⟨rfl, cc⟩
        | true =>
          (repeat(first|refine sb ?_|refine gOn rfl ?_|refine gOff rfl rfl ?_|refine gTup rfl ?_))
          refine ldI_is rfl (hJ ha) rfl ?_
          (repeat(first|refine sb ?_|refine gOn rfl ?_|refine gOff rfl rfl ?_|refine gTup rfl ?_))
          intro q hq
          (repeat(first|refine sb ?_|refine gOn rfl ?_|refine gOff rfl rfl ?_|refine gTup rfl ?_))
          refine ⟨bool_eq ?_, cc⟩
          rw [hq, Bool.true_and, Bool.eq_iff_iff]
          simp
          omega
    · have e2 : ¬[(93 : UInt8)] <:+ l.drop [(91 : UInt8)].length := h2
      rw [if_neg e2, decide_eq_false e2]
      (repeat(first|refine sb ?_|refine gOn rfl ?_|refine gOff rfl rfl ?_|refine gTup rfl ?_))
      intro q hq; obtain rfl : q = false := (by rw [hq]; simp <;> omega); (repeat(first|refine sb ?_|refine gOn rfl ?_|refine gOff rfl rfl ?_|refine gTup rfl ?_))
      intro q hq; obtain rfl : q = true := (by rw [hq]; simp <;> omega); (repeat(first|refine sb ?_|refine gOn rfl ?_|refine gOff rfl rfl ?_|refine gTup rfl ?_))
      exact ⟨bool_eq (by unfold litF; rw [decide_eq_false (fun q => h2 q.2)]; rfl), .refl _ _⟩
  · have e1 : ¬l.take [(91 : UInt8)].length = [91] := h1
    rw [if_neg e1, decide_eq_false e1]
    (repeat(first|refine sb ?_|refine gOn rfl ?_|refine gOff rfl rfl ?_|refine gTup rfl ?_))
    intro q hq; obtain rfl : q = true := (by rw [hq]; simp <;> omega); (repeat(first|refine sb ?_|refine gOn rfl ?_|refine gOff rfl rfl ?_|refine gTup rfl ?_))
    exact ⟨bool_eq (by unfold litF; rw [decide_eq_false (fun q => h1 q.1)]; rfl), .refl _ _⟩

theorem domErr_w {s : SS} {l : List UInt8} (hl : l.length ≤ 1000000) : CallW pr n_addr_domainError [str l] s fun v s' => v = .int .i64 (domF l) ∧ Chg s s' [] := by
  refine CallW.run good ok_addr_domainError (by simp) rfl ?_
  (try refine pSeq ?_); (repeat(first|refine sb ?_|refine gOn rfl ?_|refine gOff rfl rfl ?_|refine gTup rfl ?_))
  refine (literal_w hl).mono fun v s1 q => ?_
  obtain ⟨rfl, c1⟩ := q
  cases hli : litF l with
  | true =>
    (repeat(first|refine sb ?_|refine gOn rfl ?_|refine gOff rfl rfl ?_|refine gTup rfl ?_))
    refine ⟨?_, c1⟩
    unfold domF
    rw [if_pos hli]
    rfl
  | false =>
    have eD : domF l = if (splitF 46 l).all labelF = true then (if longF l = true then 3 else 0) else 5 := by unfold domF; rw [if_neg (by simp [hli])]
    rw [eD]
    (repeat(first|refine sb ?_|refine gOn rfl ?_|refine gOff rfl rfl ?_|refine gTup rfl ?_))
    intro n hn
    (repeat(first|refine sb ?_|refine gOn rfl ?_|refine gOff rfl rfl ?_|refine gTup rfl ?_))
    intro q hq
    have eq : q = decide (255 < l.length) := by rw [hq, decide_eq_decide]; omega
    (repeat(first|refine sb ?_|refine gOn rfl ?_|refine gOff rfl rfl ?_|refine gTup rfl ?_))
    refine st_abs (cs' := [.bool q]) rfl rfl lkH (Nat.lt_succ_self _) rfl rfl fun s2 e2 c2 n2 => ?_
    (repeat(first|refine sb ?_|refine gOn rfl ?_|refine gOff rfl rfl ?_|refine gTup rfl ?_))
    refine ⟨.val (.func (.func n_addr_domainError_1) ⟨[]⟩ ⟨[.pointer (some ⟨s1.next, 0, none⟩)]⟩), rfl, ?_⟩
    (repeat(first|refine sb ?_|refine gOn rfl ?_|refine gOff rfl rfl ?_|refine gTup rfl ?_))
    have hb : s1.next < s2.next := by rw [n2]; exact Nat.lt_succ_self _
    refine (madeOf_w (b := s1.next) (g := labelF) (fun k x => lookH x.heap s1.next = some (.cells [.bool (decide (255 < l.length) || ((splitF 46 l).take k).any fun p => decide (63 < p.length))] 4 false false)) hl (callV_of ok_addr_domainError_1 _) hb (by rw [e2, eq]; simp) (fun k s3 s4 h c hb => c.blk _ _ hb (by simp) h) (fun k x s3 hx hJ hb3 => ?_)).mono fun v s3 q => ?_
    · have hxl := part_len (List.mem_of_getElem? hx)
      refine CallW.run good ok_addr_domainError_1 (by simp) rfl ?_
      (try refine pSeq ?_); (repeat(first|refine sb ?_|refine gOn rfl ?_|refine gOff rfl rfl ?_|refine gTup rfl ?_))
      refine ldB_is rfl hJ rfl ?_
      have fin : ∀ (r : Bool), r = ((decide (255 < l.length) || ((splitF 46 l).take k).any fun p => decide (63 < p.length)) || decide (63 < x.length)) → r = (decide (255 < l.length) || ((splitF 46 l).take (k + 1)).any fun p => decide (63 < p.length)) := fun r hr => by
        rw [hr, take_next hx, List.any_append, Bool.or_assoc]
        simp
      cases hcur : (decide (255 < l.length) || ((splitF 46 l).take k).any fun p => decide (63 < p.length)) with
      | true =>
        rw [hcur] at hJ fin
        (repeat(first|refine sb ?_|refine gOn rfl ?_|refine gOff rfl rfl ?_|refine gTup rfl ?_))
        refine st_abs (cs' := [.bool true]) rfl rfl hJ hb3 rfl rfl fun s4 e4 c4 n4 => ?_
        (repeat(first|refine sb ?_|refine gOn rfl ?_|refine gOff rfl rfl ?_|refine gTup rfl ?_))
        refine (mayLabel_w (by omega)).mono fun v s5 q => ?_
        obtain ⟨rfl, c5⟩ := q
        (repeat(first|refine sb ?_|refine gOn rfl ?_|refine gOff rfl rfl ?_|refine gTup rfl ?_))
        exact ⟨rfl, by rw [← fin true rfl]; exact c5.blk _ _ (by rw [n4]; exact hb3) (by simp) e4, c4.trans' c5 (fun _ q _ => q) (by simp)⟩
      | false =>
        rw [hcur] at hJ fin
        (repeat(first|refine sb ?_|refine gOn rfl ?_|refine gOff rfl rfl ?_|refine gTup rfl ?_))
        intro n hn
        (repeat(first|refine sb ?_|refine gOn rfl ?_|refine gOff rfl rfl ?_|refine gTup rfl ?_))
        intro q hq
        have hq' : q = decide (63 < x.length) := by rw [hq, decide_eq_decide]; omega
        (repeat(first|refine sb ?_|refine gOn rfl ?_|refine gOff rfl rfl ?_|refine gTup rfl ?_))
        refine st_abs (cs' := [.bool q]) rfl rfl hJ hb3 rfl rfl fun s4 e4 c4 n4 => ?_
        (repeat(first|refine sb ?_|refine gOn rfl ?_|refine gOff rfl rfl ?_|refine gTup rfl ?_))
        refine (mayLabel_w (by omega)).mono fun v s5 q => ?_
        obtain ⟨rfl, c5⟩ := q
        (repeat(first|refine sb ?_|refine gOn rfl ?_|refine gOff rfl rfl ?_|refine gTup rfl ?_))
        exact ⟨rfl, by rw [← fin q (by rw [hq', Bool.false_or])]; exact c5.blk _ _ (by rw [n4]; exact hb3) (by simp) e4, c4.trans' c5 (fun _ q _ => q) (by simp)⟩
    · obtain ⟨rfl, c3, hJ⟩ := q
      have cc : Chg s s3 [] := c1.nil (((Chg.new []).fresh c2 (by simp)).fresh c3 (by simp))
      cases ha : (splitF 46 l).all labelF with
      | false =>
        (repeat(first|refine sb ?_|refine gOn rfl ?_|refine gOff rfl rfl ?_|refine gTup rfl ?_))
        intro q hq; obtain rfl : q = true := (by rw [hq]; simp <;> omega); (repeat(first|refine sb ?_|refine gOn rfl ?_|refine gOff rfl rfl ?_|refine gTup rfl ?_))
        exact ⟨rfl, cc⟩
      | true =>
        (repeat(first|refine sb ?_|refine gOn rfl ?_|refine gOff rfl rfl ?_|refine gTup rfl ?_))
        intro q hq; obtain rfl : q = false := (by rw [hq]; simp <;> omega); (repeat(first|refine sb ?_|refine gOn rfl ?_|refine gOff rfl rfl ?_|refine gTup rfl ?_))
        have hJ1 := hJ ha
        rw [List.take_of_length_le (Nat.le_refl _)] at hJ1
        refine ldB_is rfl hJ1 rfl ?_
        rw [if_pos rfl]
        cases hlo : longF l with
        | true =>
          have e : (decide (255 < l.length) || (splitF 46 l).any fun p => decide (63 < p.length)) = true := hlo
          rw [e]
          (repeat(first|refine sb ?_|refine gOn rfl ?_|refine gOff rfl rfl ?_|refine gTup rfl ?_))
          exact ⟨rfl, cc⟩
        | false =>
          have e : (decide (255 < l.length) || (splitF 46 l).any fun p => decide (63 < p.length)) = false := hlo
          rw [e]
          (repeat(first|refine sb ?_|refine gOn rfl ?_|refine gOff rfl rfl ?_|refine gTup rfl ?_))
          exact ⟨rfl, cc⟩

theorem mayDomain_w {s : SS} {l : List UInt8} (hl : l.length ≤ 1000000) : CallW pr n_addr_MayDomain [str l] s fun v s' => v = .bool (decide (domF l = 0)) ∧ Chg s s' [] := by
  refine CallW.run good ok_addr_MayDomain (by simp) rfl ?_
  (try refine pSeq ?_); (repeat refine sb ?_)
  refine (domErr_w hl).mono fun v s1 q => ?_
  obtain ⟨rfl, c1⟩ := q
  (repeat refine sb ?_)
  intro q hq
  (repeat refine sb ?_)
  refine ⟨bool_eq ?_, c1⟩
  rw [hq, decide_eq_decide]
  omega
end Go.Vf.S
end
/- AdD -/
section
/- What is wrong with a domain: the document's. -/
namespace Go.Vf.S
open Go Go.Vf
attribute [local irreducible] wSeq wRow wp wG
set_option linter.unusedVariables false
set_option linter.unusedSimpArgs false
set_option maxRecDepth 10000

end Go.Vf.S
end
/- AdE -/
section
/- What is wrong with a domain: the document's way through it. -/
namespace Go.Vf.S
open Go Go.Vf
attribute [local irreducible] wSeq wRow wp wG
set_option linter.unusedVariables false
set_option linter.unusedSimpArgs false
set_option maxRecDepth 10000

theorem mem_part {c : UInt8} (hc : c ≠ 46) : ∀ {l : List UInt8}, c ∈ l → ∃ p ∈ splitF 46 l, c ∈ p
  | x :: l, h => by
    unfold splitF
    rw [sp]
    by_cases hx : x = 46
    · rw [if_pos hx]
      have h1 : c ∈ l := by
        rcases List.mem_cons.1 h with rfl | h
        · exact absurd hx hc
        · exact h
      obtain ⟨p, hp, hq⟩ := mem_part hc h1
      exact ⟨p, List.mem_cons_of_mem _ hp, hq⟩
    · rw [if_neg hx]
      rcases List.mem_cons.1 h with rfl | h
      · exact ⟨_, List.mem_cons_self .., List.mem_cons_self ..⟩
      · obtain ⟨p, hp, hq⟩ := mem_part hc h
        rcases List.mem_cons.1 hp with rfl | hp
        · exact ⟨_, List.mem_cons_self .., List.mem_cons_of_mem _ hq⟩
        · exact ⟨p, List.mem_cons_of_mem _ hp, hq⟩
structure DIt where
  i : Nat
  f : Nat
  done : List (List UInt8)
  long : Bool

end Go.Vf.S
end
/- AdF -/
section
/- An address that is read: the code's. -/
namespace Go.Vf.S
open Go Go.Vf
attribute [local irreducible] wSeq wRow wp wG
set_option linter.unusedVariables false
set_option linter.unusedSimpArgs false
set_option maxRecDepth 10000

abbrev tAd : TypeId := 27
/-- An address. -/
abbrev adV (a d : List UInt8) : Value := .agg ⟨[str a, str d]⟩
theorem agg_Ad : aggB pr tAd = some true := by kernel_rfl
theorem sz_Ad : sizeB pr tAd = some 2 := by kernel_rfl

def atRest (r : List UInt8) : List UInt8 := if r.take 1 = [64] then r.drop 1 else r
/-- What stands ahead of the @, what behind it, and whether there are both. -/
def partsF (l : List UInt8) : List UInt8 × List UInt8 × Bool :=
  if l.take 1 = [34] then ((quotedF l).1, atRest (l.drop (quotedF l).2.1), decide ((l.drop (quotedF l).2.1).take 1 = [64] ∧ (quotedF l).2.2 = 0 ∧ (quotedF l).1 ≠ []))
  else ((cutF 64 l).1, (cutF 64 l).2.1, (cutF 64 l).2.2 && dotF (cutF 64 l).1)
def parseF (l : List UInt8) : List UInt8 × List UInt8 × Nat :=
  if (partsF l).2.2 = false then ([], [], 5) else if domF (partsF l).2.1 ≠ 0 then ([], [], domF (partsF l).2.1) else if 64 < (partsF l).1.length then ([], [], 3) else ((partsF l).1, (partsF l).2.1, 0)

theorem quoted_len (l : List UInt8) : (quotedF l).2.1 ≤ l.length := by
  by_cases h : (quotedF l).2.2 = 0
  · exact (quoted_is (l := l) (t := (quotedF l).1) (n := (quotedF l).2.1) (by rw [← h])).2.2.1
  · rw [(quoted_err (l := l) (t := (quotedF l).1) (n := (quotedF l).2.1) (e := (quotedF l).2.2) rfl h).2]
    exact Nat.zero_le _
theorem quote_long (l : List UInt8) : l.length + 2 ≤ (quoteL l).length := by
  unfold quoteL
  have := (esc_len l).1
  rw [List.length_append, List.length_cons, List.length_singleton]
  omega
theorem quoted_short (l : List UInt8) : (quotedF l).1.length ≤ l.length := by
  by_cases h : (quotedF l).2.2 = 0
  · have q := quoted_is (l := l) (t := (quotedF l).1) (n := (quotedF l).2.1) (by rw [← h])
    have := quote_long (quotedF l).1
    omega
  · rw [(quoted_err (l := l) (t := (quotedF l).1) (n := (quotedF l).2.1) (e := (quotedF l).2.2) rfl h).1]
    exact Nat.zero_le _
theorem parts_len (l : List UInt8) : (partsF l).1.length ≤ l.length ∧ (partsF l).2.1.length ≤ l.length := by
  unfold partsF
  split
  · refine ⟨quoted_short l, ?_⟩
    show (atRest _).length ≤ _
    unfold atRest
    split <;> simp <;> omega
  · exact cut_len 64 l

theorem aparts_w {s : SS} {l : List UInt8} (hG : Gb s) (hl : l.length ≤ 1000000) : CallW pr n_addr_parts [str l] s fun v s' => v = .tuple ⟨[str (partsF l).1, str (partsF l).2.1, .bool (partsF l).2.2]⟩ ∧ Chg s s' [] := by
  refine CallW.run good ok_addr_parts (by simp) rfl ?_
  (try refine pSeq ?_); (repeat(first|refine sb ?_|refine gOn rfl ?_|refine gOff rfl rfl ?_|refine gTup rfl ?_))
  refine prefix_w.mono fun v s q => ?_
  obtain ⟨rfl, rfl⟩ := q
  by_cases h34 : l.take 1 = [34]
  · have e34 : l.take [(34 : UInt8)].length = [34] := h34
    have eP : partsF l = ((quotedF l).1, atRest (l.drop (quotedF l).2.1), decide ((l.drop (quotedF l).2.1).take 1 = [64] ∧ (quotedF l).2.2 = 0 ∧ (quotedF l).1 ≠ [])) := by unfold partsF; rw [if_pos h34]
    rw [decide_eq_true e34, eP]
    have hq := quoted_len l
    (repeat(first|refine sb ?_|refine gOn rfl ?_|refine gOff rfl rfl ?_|refine gTup rfl ?_))
    intro q hq; obtain rfl : q = false := (by rw [hq]; simp <;> omega); (repeat(first|refine sb ?_|refine gOn rfl ?_|refine gOff rfl rfl ?_|refine gTup rfl ?_))
    refine (quoted_w hl).mono fun v s1 q => ?_
    obtain ⟨rfl, c1⟩ := q
    generalize quotedF l = Q at *
    obtain ⟨w, many, e⟩ := Q
    have hq : many ≤ l.length := hq
    dsimp only
    (repeat(first|refine sb ?_|refine gOn rfl ?_|refine gOff rfl rfl ?_|refine gTup rfl ?_))
    refine ⟨by omega, ?_⟩
    intro m hm r hr
    have hm : (m : Int) = (many : Int) := hm
    obtain rfl : m = many := by omega
    rw [List.take_of_length_le (by simp)] at hr
    subst hr
    (repeat(first|refine sb ?_|refine gOn rfl ?_|refine gOff rfl rfl ?_|refine gTup rfl ?_))
    refine cutP_w.mono fun v s q => ?_
    obtain ⟨rfl, rfl⟩ := q
    have e1 : (l.drop m).take [(64 : UInt8)].length = (l.drop m).take 1 := rfl
    have e2 : (if (l.drop m).take [(64 : UInt8)].length = [64] then (l.drop m).drop [(64 : UInt8)].length else l.drop m) = atRest (l.drop m) := rfl
    rw [e2, e1]
    by_cases h64 : (l.drop m).take 1 = [64]
    · rw [decide_eq_true h64]
      (repeat(first|refine sb ?_|refine gOn rfl ?_|refine gOff rfl rfl ?_|refine gTup rfl ?_))
      intro q hq
      by_cases he : e = 0
      · subst he
        obtain rfl : q = true := by rw [hq]; rfl
        (repeat(first|refine sb ?_|refine gOn rfl ?_|refine gOff rfl rfl ?_|refine gTup rfl ?_))
        intro q hq
        (repeat(first|refine sb ?_|refine gOn rfl ?_|refine gOff rfl rfl ?_|refine gTup rfl ?_))
        refine ⟨?_, c1⟩
        have : decide ((l.drop m).take 1 = [64] ∧ (0 : Nat) = 0 ∧ w ≠ []) = q := by rw [hq]; simp [h64]
        rw [this]
        rfl
      · obtain rfl : q = false := by rw [hq]; simp; omega
        (repeat(first|refine sb ?_|refine gOn rfl ?_|refine gOff rfl rfl ?_|refine gTup rfl ?_))
        refine ⟨?_, c1⟩
        have : decide ((l.drop m).take 1 = [64] ∧ e = 0 ∧ w ≠ []) = false := by simp [he]
        rw [this]
        rfl
    · rw [decide_eq_false h64]
      (repeat(first|refine sb ?_|refine gOn rfl ?_|refine gOff rfl rfl ?_|refine gTup rfl ?_))
      refine ⟨?_, c1⟩
      have : decide ((l.drop m).take 1 = [64] ∧ e = 0 ∧ w ≠ []) = false := by simp [h64]
      rw [this]
      rfl
  · have e34 : ¬l.take [(34 : UInt8)].length = [34] := h34
    have eP : partsF l = ((cutF 64 l).1, (cutF 64 l).2.1, (cutF 64 l).2.2 && dotF (cutF 64 l).1) := by unfold partsF; rw [if_neg h34]
    rw [decide_eq_false e34, eP]
    have hcl := (cut_len 64 l).1
    (repeat(first|refine sb ?_|refine gOn rfl ?_|refine gOff rfl rfl ?_|refine gTup rfl ?_))
    intro q hq; obtain rfl : q = true := (by rw [hq]; simp <;> omega); (repeat(first|refine sb ?_|refine gOn rfl ?_|refine gOff rfl rfl ?_|refine gTup rfl ?_))
    refine (cut1_w hl).mono fun v s q => ?_
    obtain ⟨rfl, rfl⟩ := q
    generalize cutF 64 l = C at *
    obtain ⟨w, r, f⟩ := C
    dsimp only at hcl ⊢
    cases f with
    | true =>
      (repeat(first|refine sb ?_|refine gOn rfl ?_|refine gOff rfl rfl ?_|refine gTup rfl ?_))
      refine (dotatom_w hG (by omega)).mono fun v s1 q => ?_
      obtain ⟨rfl, c1⟩ := q
      (repeat(first|refine sb ?_|refine gOn rfl ?_|refine gOff rfl rfl ?_|refine gTup rfl ?_))
      exact ⟨rfl, c1⟩
    | false =>
      (repeat(first|refine sb ?_|refine gOn rfl ?_|refine gOff rfl rfl ?_|refine gTup rfl ?_))
      exact ⟨rfl, .refl _ _⟩

theorem agg2 {a b : Value} : takeN 2 (([a, b] : List Value).drop 0) = some [a, b] := rfl

theorem parse_w {s : SS} {l : List UInt8} (hG : Gb s) (hl : l.length ≤ 1000000) : CallW pr n_addr_Parse [str l] s fun v s' => v = .tuple ⟨[adV (parseF l).1 (parseF l).2.1, .int .i64 (parseF l).2.2]⟩ ∧ Chg s s' [] := by
  refine CallW.run good ok_addr_Parse (by simp) rfl ?_
  (try refine pSeq ?_); (repeat(first|refine sb ?_|refine gOn rfl ?_|refine gOff rfl rfl ?_|refine gTup rfl ?_))
  have c0 : Chg s { s with heap := (s.next, some (.cells [str [], str []] tAd false false)) :: s.heap, next := s.next + 1 } [] := .new _
  refine (aparts_w (hG.chg c0 (by simp)) hl).mono fun v s1 q => ?_
  obtain ⟨rfl, c1⟩ := q
  have hp := parts_len l
  have eF : parseF l = if (partsF l).2.2 = false then ([], [], 5) else if domF (partsF l).2.1 ≠ 0 then ([], [], domF (partsF l).2.1) else if 64 < (partsF l).1.length then ([], [], 3) else ((partsF l).1, (partsF l).2.1, 0) := rfl
  rw [eF]
  generalize partsF l = Q at *
  obtain ⟨w, r, f⟩ := Q
  dsimp only at hp ⊢
  have hk : lookH s1.heap s.next = some (.cells [str [], str []] tAd false false) := c1.blk _ _ (Nat.lt_succ_self _) (by simp) lkH
  have hlt : s.next < s1.next := Nat.lt_of_lt_of_le (Nat.lt_succ_self _) c1.next
  have cc : Chg s s1 [] := c0.nil c1
  cases f with
  | false =>
    (repeat(first|refine sb ?_|refine gOn rfl ?_|refine gOff rfl rfl ?_|refine gTup rfl ?_))
    intro q hq; obtain rfl : q = true := (by rw [hq]; simp <;> omega); (repeat(first|refine sb ?_|refine gOn rfl ?_|refine gOff rfl rfl ?_|refine gTup rfl ?_))
    refine st_abs (cs' := [str [], str []]) rfl rfl hk hlt rfl rfl fun s2 e2 c2 n2 => ?_
    (repeat(first|refine sb ?_|refine gOn rfl ?_|refine gOff rfl rfl ?_|refine gTup rfl ?_))
    (repeat (first | with_reducible refine sqRet ?_ | with_reducible refine bkRet ?_ | with_reducible refine hdRet ?_))
    exact ret_cell agg_Ad sz_Ad rfl e2 agg2 rfl ⟨rfl, cc.fresh c2 (by simp)⟩
  | true =>
    (repeat(first|refine sb ?_|refine gOn rfl ?_|refine gOff rfl rfl ?_|refine gTup rfl ?_))
    intro q hq; obtain rfl : q = false := (by rw [hq]; simp <;> omega); (repeat(first|refine sb ?_|refine gOn rfl ?_|refine gOff rfl rfl ?_|refine gTup rfl ?_))
    refine (domErr_w (by omega)).mono fun v s2 q => ?_
    obtain ⟨rfl, c2⟩ := q
    have hk2 := c2.blk _ _ hlt (by simp) hk
    have hlt2 : s.next < s2.next := Nat.lt_of_lt_of_le hlt c2.next
    have cc2 : Chg s s2 [] := cc.nil c2
    rw [if_neg (by simp)]
    (repeat(first|refine sb ?_|refine gOn rfl ?_|refine gOff rfl rfl ?_|refine gTup rfl ?_))
    intro q hq
    by_cases hd : domF r = 0
    · obtain rfl : q = true := by rw [hq, hd]; rfl
      rw [if_neg (by simp [hd])]
      (repeat(first|refine sb ?_|refine gOn rfl ?_|refine gOff rfl rfl ?_|refine gTup rfl ?_))
      intro n hn
      (repeat(first|refine sb ?_|refine gOn rfl ?_|refine gOff rfl rfl ?_|refine gTup rfl ?_))
      intro q hq
      by_cases hw : 64 < w.length
      · obtain rfl : q = true := by rw [hq]; simp <;> omega
        rw [if_pos hw]
        (repeat(first|refine sb ?_|refine gOn rfl ?_|refine gOff rfl rfl ?_|refine gTup rfl ?_))
        intro q hq; obtain rfl : q = true := (by rw [hq]; simp <;> omega); (repeat(first|refine sb ?_|refine gOn rfl ?_|refine gOff rfl rfl ?_|refine gTup rfl ?_))
        refine st_abs (cs' := [str [], str []]) rfl rfl hk2 hlt2 rfl rfl fun s3 e3 c3 n3 => ?_
        (repeat(first|refine sb ?_|refine gOn rfl ?_|refine gOff rfl rfl ?_|refine gTup rfl ?_))
        (repeat (first | with_reducible refine sqRet ?_ | with_reducible refine bkRet ?_ | with_reducible refine hdRet ?_))
        exact ret_cell agg_Ad sz_Ad rfl e3 agg2 rfl ⟨rfl, cc2.fresh c3 (by simp)⟩
      · obtain rfl : q = false := by rw [hq]; simp <;> omega
        rw [if_neg hw, hd]
        (repeat(first|refine sb ?_|refine gOn rfl ?_|refine gOff rfl rfl ?_|refine gTup rfl ?_))
        intro q hq
        obtain rfl : q = false := by rw [hq]; rfl
        (repeat(first|refine sb ?_|refine gOn rfl ?_|refine gOff rfl rfl ?_|refine gTup rfl ?_))
        refine st_abs (cs' := [str w, str r]) rfl rfl hk2 hlt2 rfl rfl fun s3 e3 c3 n3 => ?_
        (repeat(first|refine sb ?_|refine gOn rfl ?_|refine gOff rfl rfl ?_|refine gTup rfl ?_))
        (repeat (first | with_reducible refine sqRet ?_ | with_reducible refine bkRet ?_ | with_reducible refine hdRet ?_))
        exact ret_cell agg_Ad sz_Ad rfl e3 agg2 rfl ⟨rfl, cc2.fresh c3 (by simp)⟩
    · obtain rfl : q = false := by rw [hq]; simp; omega
      rw [if_pos hd]
      (repeat(first|refine sb ?_|refine gOn rfl ?_|refine gOff rfl rfl ?_|refine gTup rfl ?_))
      intro q hq
      obtain rfl : q = true := by rw [hq]; simp; omega
      (repeat(first|refine sb ?_|refine gOn rfl ?_|refine gOff rfl rfl ?_|refine gTup rfl ?_))
      refine st_abs (cs' := [str [], str []]) rfl rfl hk2 hlt2 rfl rfl fun s3 e3 c3 n3 => ?_
      (repeat(first|refine sb ?_|refine gOn rfl ?_|refine gOff rfl rfl ?_|refine gTup rfl ?_))
      (repeat (first | with_reducible refine sqRet ?_ | with_reducible refine bkRet ?_ | with_reducible refine hdRet ?_))
      exact ret_cell agg_Ad sz_Ad rfl e3 agg2 rfl ⟨rfl, cc2.fresh c3 (by simp)⟩
end Go.Vf.S
end
/- AdG -/
section
/- An address that is read: the document's; subaddresses. -/
namespace Go.Vf.S
open Go Go.Vf
attribute [local irreducible] wSeq wRow wp wG
set_option linter.unusedVariables false
set_option linter.unusedSimpArgs false
set_option maxRecDepth 10000

theorem dom_vals (l : List UInt8) : domF l = 0 ∨ domF l = 3 ∨ domF l = 5 := by
  unfold domF
  repeat' split
  all_goals simp
end Go.Vf.S
end
/- AdH -/
section
/- Whether an address may be; its text, its normal form; whether two are the same, which stands ahead; a domain below another one. -/
namespace Go.Vf.S
open Go Go.Vf
attribute [local irreducible] wSeq wRow wp wG
set_option linter.unusedVariables false
set_option linter.unusedSimpArgs false
set_option maxRecDepth 10000

def mayF (a d : List UInt8) : Bool := decide (a ≠ [] ∧ a.length ≤ 64 ∧ a.all plainB = true ∧ domF d = 0)
theorem may_no {a d : List UInt8} (h : ¬(a ≠ [] ∧ a.length ≤ 64 ∧ a.all plainB = true ∧ domF d = 0)) : mayF a d = false := decide_eq_false h

theorem may_w {s : SS} {a d : List UInt8} (ha : a.length ≤ 1000000) (hd : d.length ≤ 1000000) : CallW pr n_addr_May [adV a d] s fun v s' => v = .bool (mayF a d) ∧ Chg s s' [] := by
  refine CallW.run good ok_addr_May (by simp) rfl ?_
  (try refine pSeq ?_); (repeat(first|refine sb ?_|refine gOn rfl ?_|refine gOff rfl rfl ?_|refine gTup rfl ?_))
  refine ldS_is rfl lkH rfl ?_
  (repeat(first|refine sb ?_|refine gOn rfl ?_|refine gOff rfl rfl ?_|refine gTup rfl ?_))
  intro q hq
  by_cases h1 : a = []
  · obtain rfl : q = false := by rw [hq]; simp [h1]
    (repeat(first|refine sb ?_|refine gOn rfl ?_|refine gOff rfl rfl ?_|refine gTup rfl ?_))
    exact ⟨bool_eq (may_no fun h => h.1 h1).symm, .new _⟩
  · obtain rfl : q = true := by rw [hq]; simp [h1]
    (repeat(first|refine sb ?_|refine gOn rfl ?_|refine gOff rfl rfl ?_|refine gTup rfl ?_))
    refine ldS_is rfl lkH rfl ?_
    (repeat(first|refine sb ?_|refine gOn rfl ?_|refine gOff rfl rfl ?_|refine gTup rfl ?_))
    intro n hn
    (repeat(first|refine sb ?_|refine gOn rfl ?_|refine gOff rfl rfl ?_|refine gTup rfl ?_))
    intro q hq
    by_cases h2 : a.length ≤ 64
    · obtain rfl : q = true := by rw [hq]; simp <;> omega
      (repeat(first|refine sb ?_|refine gOn rfl ?_|refine gOff rfl rfl ?_|refine gTup rfl ?_))
      refine ldS_is rfl lkH rfl ?_
      (repeat(first|refine sb ?_|refine gOn rfl ?_|refine gOff rfl rfl ?_|refine gTup rfl ?_))
      refine Plain_w.mono fun v s1 q => ?_
      obtain ⟨rfl, c1⟩ := q
      have cc : Chg s s1 [] := (Chg.new []).nil c1
      cases hp : a.all plainB with
      | false =>
        (repeat(first|refine sb ?_|refine gOn rfl ?_|refine gOff rfl rfl ?_|refine gTup rfl ?_))
        exact ⟨bool_eq (may_no fun h => by rw [h.2.2.1] at hp; cases hp).symm, cc⟩
      | true =>
        (repeat(first|refine sb ?_|refine gOn rfl ?_|refine gOff rfl rfl ?_|refine gTup rfl ?_))
        refine ldS_is rfl (c1.blk _ _ (Nat.lt_succ_self _) (by simp) lkH) rfl ?_
        (repeat(first|refine sb ?_|refine gOn rfl ?_|refine gOff rfl rfl ?_|refine gTup rfl ?_))
        refine (mayDomain_w hd).mono fun v s2 q => ?_
        obtain ⟨rfl, c2⟩ := q
        (repeat(first|refine sb ?_|refine gOn rfl ?_|refine gOff rfl rfl ?_|refine gTup rfl ?_))
        refine ⟨bool_eq ?_, cc.nil c2⟩
        unfold mayF
        rw [decide_eq_decide]
        exact ⟨fun h => ⟨h1, h2, hp, h⟩, fun h => h.2.2.2⟩
    · obtain rfl : q = false := by rw [hq]; simp <;> omega
      (repeat(first|refine sb ?_|refine gOn rfl ?_|refine gOff rfl rfl ?_|refine gTup rfl ?_))
      exact ⟨bool_eq (may_no fun h => h2 h.2.1).symm, .new _⟩

def wordF (a : List UInt8) : List UInt8 := if dotF a = true then a else (quoteF a).1
def textF (a d : List UInt8) : List UInt8 := if mayF a d = true then wordF a ++ 64 :: d else []

theorem quote_len (a : List UInt8) : (quoteF a).1.length ≤ 2 * a.length + 2 := by
  unfold quoteF
  split
  · show (quoteL a).length ≤ _
    unfold quoteL
    have := (esc_len a).2
    rw [List.length_append, List.length_cons, List.length_singleton]
    omega
  · simp

theorem text_w {s : SS} {a d : List UInt8} (hG : Gb s) (ha : a.length ≤ 1000000) (hd : d.length ≤ 1000000) : CallW pr n_addr_Text [adV a d] s fun v s' => v = str (textF a d) ∧ Chg s s' [] := by
  refine CallW.run good ok_addr_Text (by simp) rfl ?_
  (try refine pSeq ?_); (repeat refine sb ?_)
  refine ldN_is rfl lkH agg2 ?_
  (repeat refine sb ?_)
  refine (may_w ha hd).mono fun v s1 q => ?_
  obtain ⟨rfl, c1⟩ := q
  have c0 : Chg s s1 [] := (Chg.new []).nil c1
  have hk : lookH s1.heap s.next = some (.cells [str a, str d] tAd false false) := c1.blk _ _ (Nat.lt_succ_self _) (by simp) lkH
  have hlt : s.next < s1.next := Nat.lt_of_lt_of_le (Nat.lt_succ_self _) c1.next
  cases hm : mayF a d with
  | false =>
    (repeat refine sb ?_)
    intro q hq; obtain rfl : q = true := (by rw [hq]; simp <;> omega); (repeat refine sb ?_)
    exact ⟨by unfold textF; rw [hm]; rfl, c0⟩
  | true =>
    have eT : textF a d = wordF a ++ 64 :: d := by unfold textF; rw [if_pos hm]
    rw [eT]
    (repeat refine sb ?_)
    intro q hq; obtain rfl : q = false := (by rw [hq]; simp <;> omega); (repeat refine sb ?_)
    refine ldS_is rfl hk rfl ?_
    (repeat refine sb ?_)
    refine (dotatom_w (hG.chg c0 (by simp)) ha).mono fun v s2 q => ?_
    obtain ⟨rfl, c2⟩ := q
    have hk2 := c2.blk _ _ hlt (by simp) hk
    cases hdo : dotF a with
    | true =>
      have eW : wordF a = a := by unfold wordF; rw [if_pos hdo]
      rw [eW]
      (repeat refine sb ?_)
      intro q hq; obtain rfl : q = false := (by rw [hq]; simp <;> omega); (repeat refine sb ?_)
      refine ⟨by simp <;> omega, ?_⟩
      intro x hx
      (repeat refine sb ?_)
      refine ldS_is rfl hk2 rfl ?_
      (repeat refine sb ?_)
      refine ⟨by rw [hx]; simp <;> omega, ?_⟩
      intro y hy
      (repeat refine sb ?_)
      subst hx hy
      exact ⟨by rw [List.append_assoc]; rfl, c0.nil c2⟩
    | false =>
      have eW : wordF a = (quoteF a).1 := by unfold wordF; rw [hdo]; rfl
      rw [eW]
      have hql := quote_len a
      (repeat refine sb ?_)
      intro q hq; obtain rfl : q = true := (by rw [hq]; simp <;> omega); (repeat refine sb ?_)
      refine (quote_w ha).mono fun v s3 q => ?_
      obtain ⟨rfl, c3⟩ := q
      generalize (quoteF a).1 = qa at *
      have hk3 := c3.blk _ _ (Nat.lt_of_lt_of_le hlt c2.next) (by simp) hk2
      (repeat refine sb ?_)
      refine ⟨by simp <;> omega, ?_⟩
      intro x hx
      (repeat refine sb ?_)
      refine ldS_is rfl hk3 rfl ?_
      (repeat refine sb ?_)
      refine ⟨by rw [hx]; simp <;> omega, ?_⟩
      intro y hy
      (repeat refine sb ?_)
      subst hx hy
      exact ⟨by rw [List.append_assoc]; rfl, (c0.nil c2).nil c3⟩

def postL : List UInt8 := [112, 111, 115, 116, 109, 97, 115, 116, 101, 114]
def isPost (a : List UInt8) : Bool := decide (a.map lowB = postL)
def nrmL (a : List UInt8) : List UInt8 := if isPost a = true then postL else a

theorem normal_w {s : SS} {a d : List UInt8} (ha : a.length ≤ 1000000) (hd : d.length ≤ 1000000) : CallW pr n_addr_Normal [adV a d] s fun v s' => v = adV (nrmL a) (d.map lowB) ∧ Chg s s' [] := by
  refine CallW.run good ok_addr_Normal (by simp) rfl ?_
  (try refine pSeq ?_); (repeat refine sb ?_)
  refine ldS_is rfl (lkT (show s.next + 1 ≠ s.next by omega) lkH) rfl ?_
  (repeat refine sb ?_)
  refine (same_w (t := postL) ha (by decide)).mono fun v s1 q => ?_
  obtain ⟨rfl, c1⟩ := q
  have c0 : Chg s s1 [] := ((Chg.new []).nil (.new _)).nil c1
  have hk : lookH s1.heap s.next = some (.cells [str a, str d] tAd false false) := c1.blk _ _ (show s.next < s.next + 1 + 1 by omega) (by simp) (lkT (show s.next + 1 ≠ s.next by omega) lkH)
  have hr : lookH s1.heap (s.next + 1) = some (.cells [str [], str []] tAd false false) := c1.blk _ _ (show s.next + 1 < s.next + 1 + 1 by omega) (by simp) lkH
  have hlt : s.next + 1 < s1.next := Nat.lt_of_lt_of_le (show s.next + 1 < s.next + 1 + 1 by omega) c1.next
  have ep : decide (a.map lowB = postL.map lowB) = isPost a := by
    unfold isPost
    rw [show postL.map lowB = postL by decide]
  rw [ep]
  cases hi : isPost a with
  | true =>
    have en : nrmL a = postL := by unfold nrmL; rw [if_pos hi]
    rw [en]
    (repeat refine sb ?_)
    refine st_abs (cs' := [str postL, str d]) rfl rfl hk (by omega) rfl rfl fun s2 e2 c2 n2 => ?_
    (repeat refine sb ?_)
    refine ldS_is rfl e2 rfl ?_
    (repeat refine sb ?_)
    refine (lower_w hd).mono fun v s3 q => ?_
    obtain ⟨rfl, c3⟩ := q
    have n3 := c3.next
    have e3 := c3.blk _ _ (by omega) (by simp) e2
    have hr3 := c3.blk _ _ (by omega) (by simp) (c2.blk _ _ hlt (by simp) hr)
    (repeat refine sb ?_)
    refine st_abs (cs' := [str postL, str (d.map lowB)]) rfl rfl e3 (by omega) rfl rfl fun s4 e4 c4 n4 => ?_
    (repeat refine sb ?_)
    refine ldN_is rfl e4 agg2 ?_
    (repeat refine sb ?_)
    have hlt4 : s.next + 1 < s4.next := by omega
    refine st_abs (cs' := [str postL, str (d.map lowB)]) rfl rfl (c4.blk (s.next + 1) _ (show s.next + 1 < s3.next by omega) (by simp) hr3) hlt4 rfl rfl fun s5 e5 c5 n5 => ?_
    (repeat refine sb ?_)
    (repeat (first | with_reducible refine sqRet ?_ | with_reducible refine bkRet ?_ | with_reducible refine hdRet ?_))
    exact ret_cell1 agg_Ad sz_Ad rfl e5 agg2 ⟨rfl, (((c0.fresh c2 (by simp)).nil c3).fresh c4 (by simp)).fresh c5 (by simp)⟩
  | false =>
    have en : nrmL a = a := by unfold nrmL; rw [hi]; rfl
    rw [en]
    (repeat refine sb ?_)
    refine ldS_is rfl hk rfl ?_
    (repeat refine sb ?_)
    refine (lower_w hd).mono fun v s3 q => ?_
    obtain ⟨rfl, c3⟩ := q
    have n3 := c3.next
    have e3 := c3.blk _ _ (by omega) (by simp) hk
    have hr3 := c3.blk _ _ (by omega) (by simp) hr
    (repeat refine sb ?_)
    refine st_abs (cs' := [str a, str (d.map lowB)]) rfl rfl e3 (by omega) rfl rfl fun s4 e4 c4 n4 => ?_
    (repeat refine sb ?_)
    refine ldN_is rfl e4 agg2 ?_
    (repeat refine sb ?_)
    have hlt4 : s.next + 1 < s4.next := by omega
    refine st_abs (cs' := [str a, str (d.map lowB)]) rfl rfl (c4.blk (s.next + 1) _ (show s.next + 1 < s3.next by omega) (by simp) hr3) hlt4 rfl rfl fun s5 e5 c5 n5 => ?_
    (repeat refine sb ?_)
    (repeat (first | with_reducible refine sqRet ?_ | with_reducible refine bkRet ?_ | with_reducible refine hdRet ?_))
    exact ret_cell1 agg_Ad sz_Ad rfl e5 agg2 ⟨rfl, ((c0.nil c3).fresh c4 (by simp)).fresh c5 (by simp)⟩

/-- Whether two are the same. -/
def sameF (a d b e : List UInt8) : Bool := decide (nrmL a = nrmL b) && decide (d.map lowB = e.map lowB)

theorem asame_w {s : SS} {a d b e : List UInt8} (ha : a.length ≤ 1000000) (hd : d.length ≤ 1000000) (hb : b.length ≤ 1000000) (he : e.length ≤ 1000000) : CallW pr n_addr_Same [adV a d, adV b e] s fun v s' => v = .bool (sameF a d b e) ∧ Chg s s' [] := by
  refine CallW.run good ok_addr_Same (by simp) rfl ?_
  (try refine pSeq ?_); (repeat(first|refine sb ?_|refine kNo ?_))
  refine ldN_is rfl (lkT (show s.next + 1 ≠ s.next by omega) lkH) agg2 ?_
  (repeat(first|refine sb ?_|refine kNo ?_))
  refine ldN_is rfl lkH agg2 ?_
  (repeat(first|refine sb ?_|refine kNo ?_))
  refine (normal_w ha hd).mono fun v s1 q => ?_
  obtain ⟨rfl, c1⟩ := q
  have hk : lookH s1.heap (s.next + 1) = some (.cells [str b, str e] tAd false false) := c1.blk _ _ (show s.next + 1 < s.next + 1 + 1 by omega) (by simp) lkH
  refine kEach ⟨fun _ => ldN_is rfl hk agg2 rfl, trivial⟩ ?_
  (repeat(first|refine sb ?_|refine kNo ?_))
  refine (normal_w hb he).mono fun v s2 q => ?_
  obtain ⟨rfl, c2⟩ := q
  (repeat(first|refine sb ?_|refine kNo ?_))
  intro q hq
  (repeat(first|refine sb ?_|refine kNo ?_))
  subst hq
  exact ⟨bool_eq (by simp [sameF]), (((Chg.new []).nil (.new _)).nil c1).nil c2⟩
end Go.Vf.S
end
/- AdI -/
section
/- What wakes the laws; addresses of texts: the law. -/
namespace Go.Vf.S
open Go Go.Vf
attribute [local irreducible] wSeq wRow wp wG
set_option linter.unusedVariables false
set_option linter.unusedSimpArgs false
set_option maxRecDepth 10000

theorem few_str {l0 l : List UInt8} {n k : Nat} (h : l = (l0.drop 0).take (n - 0)) (hn : n ≤ k) : l.length ≤ k := by
  rw [h, List.length_take]
  omega

end Go.Vf.S
end
/- AdPa -/
section
/- Addresses: there and back; bytes one by one. -/
namespace Go.Vf.S
open Go Go.Vf
attribute [local irreducible] wSeq wRow wp wG
set_option linter.unusedVariables false
set_option linter.unusedSimpArgs false
set_option maxRecDepth 10000

theorem may_parts {a d : List UInt8} (h : mayF a d = true) : a ≠ [] ∧ a.length ≤ 64 ∧ a.all plainB = true ∧ domF d = 0 := of_decide_eq_true h
theorem dot_chars {a : List UInt8} (h : dotF a = true) : ∀ c ∈ a, letB c = true ∨ c = 46 := by
  intro c hc
  by_cases h46 : c = 46
  · exact .inr h46
  · obtain ⟨p, hp, hq⟩ := mem_part h46 hc
    unfold dotF at h
    rw [List.all_eq_true] at h
    have := h p hp
    unfold atomF at this
    rw [Bool.and_eq_true, List.all_eq_true] at this
    exact .inl (this.1 c hq)
theorem dot_no {a : List UInt8} (h : dotF a = true) {c : UInt8} (hc : letB c = false) (h46 : c ≠ 46) : c ∉ a := fun q => by
  rcases dot_chars h c q with h1 | h1
  · rw [hc] at h1; cases h1
  · exact h46 h1
theorem let_plain (c : UInt8) : letB c = true → plainB c = true := fun h => by
  have := all_bytes (p := fun c => !letB c || plainB c) (by decide +kernel) c
  rw [h] at this
  simpa using this
theorem dot_plain {a : List UInt8} (h : dotF a = true) : a.all plainB = true := by
  rw [List.all_eq_true]
  intro c hc
  rcases dot_chars h c hc with h1 | h1
  · exact let_plain c h1
  · rw [h1]; decide
theorem cut_at {f r : List UInt8} (h : (64 : UInt8) ∉ f) : cutF 64 (f ++ 64 :: r) = (f, r, true) := by
  unfold cutF
  rw [if_pos (by simp), while_first h, show f ++ 64 :: r = (f ++ [64]) ++ r by simp, show f.length + 1 = (f ++ [64]).length by simp, List.drop_left]

theorem parse_text {a d : List UInt8} (h : mayF a d = true) : parseF (textF a d) = (a, d, 0) := by
  obtain ⟨h1, h2, h3, h4⟩ := may_parts h
  have key : partsF (textF a d) = (a, d, true) := by
    unfold textF
    rw [if_pos h]
    unfold wordF
    by_cases hd : dotF a = true
    · rw [if_pos hd]
      have n34 : ¬(a ++ 64 :: d).take 1 = [34] := by
        match a, h1, hd with
        | x :: a, _, hd =>
          intro q
          have : x = 34 := by simpa using q
          exact dot_no hd (c := 34) (by decide) (by decide) (by rw [this]; exact List.mem_cons_self ..)
      unfold partsF
      rw [if_neg n34, cut_at (dot_no hd (by decide) (by decide)), hd]
      rfl
    · rw [if_neg hd]
      have eq : (quoteF a).1 = quoteL a := by unfold quoteF; rw [if_pos h3]
      rw [eq]
      have e34 : (quoteL a ++ 64 :: d).take 1 = [34] := rfl
      unfold partsF
      rw [if_pos e34, quoted_of (64 :: d) h3]
      simp only [List.drop_left]
      have : atRest (64 :: d) = d := by unfold atRest; rw [if_pos (by rfl)]; rfl
      rw [this]
      simp [h1]
  unfold parseF
  rw [key]
  simp only [Bool.true_eq_false, if_false, h4, ne_eq, not_true_eq_false]
  rw [if_neg (by omega)]

theorem parse_err {s : List UInt8} (h : (parseF s).2.2 ≠ 0) : parseF s = ([], [], 3) ∨ parseF s = ([], [], 5) := by
  unfold parseF at h ⊢
  by_cases h1 : (partsF s).2.2 = false
  · rw [if_pos h1]; exact .inr rfl
  · rw [if_neg h1] at h ⊢
    by_cases h2 : domF (partsF s).2.1 ≠ 0
    · rw [if_pos h2] at h ⊢
      rcases dom_vals (partsF s).2.1 with q | q | q
      · exact absurd q h2
      · rw [q]; exact .inl rfl
      · rw [q]; exact .inr rfl
    · rw [if_neg h2] at h ⊢
      by_cases h3 : 64 < (partsF s).1.length
      · rw [if_pos h3]; exact .inl rfl
      · rw [if_neg h3] at h; exact absurd rfl h
theorem dot_nil : dotF [] = false := by decide +kernel
theorem parse_may {s : List UInt8} (h : (parseF s).2.2 = 0) : mayF (parseF s).1 (parseF s).2.1 = true := by
  unfold parseF at h ⊢
  by_cases h1 : (partsF s).2.2 = false
  · rw [if_pos h1] at h; cases h
  · rw [if_neg h1] at h ⊢
    by_cases h2 : domF (partsF s).2.1 ≠ 0
    · rw [if_pos h2] at h; exact absurd h h2
    · rw [if_neg h2] at h ⊢
      by_cases h3 : 64 < (partsF s).1.length
      · rw [if_pos h3] at h; cases h
      · rw [if_neg h3]
        have hp : (partsF s).1 ≠ [] ∧ (partsF s).1.all plainB = true := by
          have h1 : (partsF s).2.2 = true := by simpa using h1
          clear h2 h3 h
          unfold partsF at h1 ⊢
          split at h1
          · rename_i h34
            rw [if_pos h34]
            have := of_decide_eq_true h1
            exact ⟨this.2.2, (quoted_is (l := s) (t := (quotedF s).1) (n := (quotedF s).2.1) (by rw [← this.2.1])).1⟩
          · rename_i h34
            rw [if_neg h34]
            have h1 : ((cutF 64 s).2.2 && dotF (cutF 64 s).1) = true := h1
            rw [Bool.and_eq_true] at h1
            refine ⟨fun e => ?_, dot_plain h1.2⟩
            have e : (cutF 64 s).1 = [] := e
            rw [e, dot_nil] at h1
            cases h1.2
        exact decide_eq_true ⟨hp.1, (by show (partsF s).1.length ≤ 64; omega), hp.2, by simpa using h2⟩
end Go.Vf.S
end

import Derived.Test.YtgdkekacalmjoaaDoorFn
import Derived.Test.YtgdkekacalmjoaaDoorEngBe
/- Plain bytes; what a text begins with. -/
namespace Go.Vf.S
open Go Go.Vf
attribute [local irreducible] wSeq wRow wp wG
set_option linter.unusedVariables false
set_option linter.unusedSimpArgs false
set_option maxRecDepth 10000

abbrev tS : TypeId := 9
abbrev tB : TypeId := 5
theorem sz_B : sizeB pr tB = some 1 := by kernel_rfl
theorem un_S : pr.underlying tS = some .string := by kernel_rfl

/-- A text. -/
abbrev str (l : List UInt8) : Value := .string ⟨⟨l⟩⟩
def plainB (c : UInt8) : Bool := decide (32 ≤ c.toNat ∧ c.toNat ≤ 126)
theorem bool_eq {a b : Bool} (h : a = b) : one [Value.bool a] = Value.bool b := by subst h; rfl

theorem plain_w {s : SS} {r : Nat} (hr : r ≤ 1114111) : CallW pr n_text_plain [.int .i32 r] s fun v s' => v = .bool (decide (32 ≤ r ∧ r ≤ 126)) ∧ s' = s := by
  refine CallW.run good ok_text_plain (by simp) rfl ?_
  (repeat(first|refine pSeq ?_|refine pReg ?_|refine sCons ?_|refine sNil ?_|refine pRet ?_|refine gNone ?_|refine gOn rfl ?_|refine gOff rfl rfl ?_|refine gTup rfl ?_))
  intro q hq
  by_cases h : 32 ≤ r
  · obtain rfl : q = true := by rw [hq]; simp; omega
    (repeat(first|refine pSeq ?_|refine pReg ?_|refine sCons ?_|refine sNil ?_|refine pRet ?_|refine gNone ?_|refine gOn rfl ?_|refine gOff rfl rfl ?_|refine gTup rfl ?_))
    intro q hq
    (repeat(first|refine pSeq ?_|refine pReg ?_|refine sCons ?_|refine sNil ?_|refine pRet ?_|refine gNone ?_|refine gOn rfl ?_|refine gOff rfl rfl ?_|refine gTup rfl ?_))
    subst hq
    refine ⟨bool_eq ?_, rfl⟩
    rw [decide_eq_decide]
    omega
  · obtain rfl : q = false := by rw [hq]; simp; omega
    (repeat(first|refine pSeq ?_|refine pReg ?_|refine sCons ?_|refine sNil ?_|refine pRet ?_|refine gNone ?_|refine gOn rfl ?_|refine gOff rfl rfl ?_|refine gTup rfl ?_))
    exact ⟨bool_eq (by simp [h]), rfl⟩

theorem rplain_w {s : SS} {c : UInt8} : CallW pr n_ref04_plain [.int .u8 c.toNat] s fun v s' => v = .bool (plainB c) ∧ s' = s := by
  refine CallW.run good ok_ref04_plain (by simp) rfl ?_
  (repeat(first|refine pSeq ?_|refine pReg ?_|refine sCons ?_|refine sNil ?_|refine pRet ?_|refine gNone ?_|refine gOn rfl ?_|refine gOff rfl rfl ?_|refine gTup rfl ?_))
  intro q hq
  by_cases h : 32 ≤ c.toNat
  · obtain rfl : q = true := by rw [hq]; simp; omega
    (repeat(first|refine pSeq ?_|refine pReg ?_|refine sCons ?_|refine sNil ?_|refine pRet ?_|refine gNone ?_|refine gOn rfl ?_|refine gOff rfl rfl ?_|refine gTup rfl ?_))
    intro q hq
    (repeat(first|refine pSeq ?_|refine pReg ?_|refine sCons ?_|refine sNil ?_|refine pRet ?_|refine gNone ?_|refine gOn rfl ?_|refine gOff rfl rfl ?_|refine gTup rfl ?_))
    subst hq
    refine ⟨bool_eq ?_, rfl⟩
    unfold plainB
    rw [decide_eq_decide]
    omega
  · obtain rfl : q = false := by rw [hq]; simp; omega
    (repeat(first|refine pSeq ?_|refine pReg ?_|refine sCons ?_|refine sNil ?_|refine pRet ?_|refine gNone ?_|refine gOn rfl ?_|refine gOff rfl rfl ?_|refine gTup rfl ?_))
    exact ⟨bool_eq (by simp [plainB, h]), rfl⟩

theorem sprefix_w {s : SS} {a b : List UInt8} : CallW pr n_internal_stringslite_HasPrefix [str a, str b] s fun v s' => v = .bool (decide (a.take b.length = b)) ∧ s' = s := by
  refine CallW.run good ok_internal_stringslite_HasPrefix (by simp) rfl ?_
  (repeat(first|refine pSeq ?_|refine pReg ?_|refine sCons ?_|refine sNil ?_|refine pRet ?_|refine gNone ?_|refine gOn rfl ?_|refine gOff rfl rfl ?_|refine gTup rfl ?_))
  intro n hn
  (repeat(first|refine pSeq ?_|refine pReg ?_|refine sCons ?_|refine sNil ?_|refine pRet ?_|refine gNone ?_|refine gOn rfl ?_|refine gOff rfl rfl ?_|refine gTup rfl ?_))
  intro m hm
  (repeat(first|refine pSeq ?_|refine pReg ?_|refine sCons ?_|refine sNil ?_|refine pRet ?_|refine gNone ?_|refine gOn rfl ?_|refine gOff rfl rfl ?_|refine gTup rfl ?_))
  intro q hq
  by_cases h : b.length ≤ a.length
  · obtain rfl : q = true := by rw [hq]; simp; omega
    (repeat(first|refine pSeq ?_|refine pReg ?_|refine sCons ?_|refine sNil ?_|refine pRet ?_|refine gNone ?_|refine gOn rfl ?_|refine gOff rfl rfl ?_|refine gTup rfl ?_))
    intro m hm
    (repeat(first|refine pSeq ?_|refine pReg ?_|refine sCons ?_|refine sNil ?_|refine pRet ?_|refine gNone ?_|refine gOn rfl ?_|refine gOff rfl rfl ?_|refine gTup rfl ?_))
    refine ⟨by omega, ?_⟩
    intro m2 hm2 z hz
    obtain rfl : m2 = b.length := by omega
    (repeat(first|refine pSeq ?_|refine pReg ?_|refine sCons ?_|refine sNil ?_|refine pRet ?_|refine gNone ?_|refine gOn rfl ?_|refine gOff rfl rfl ?_|refine gTup rfl ?_))
    intro q hq
    (repeat(first|refine pSeq ?_|refine pReg ?_|refine sCons ?_|refine sNil ?_|refine pRet ?_|refine gNone ?_|refine gOn rfl ?_|refine gOff rfl rfl ?_|refine gTup rfl ?_))
    subst hq hz
    exact ⟨bool_eq (by simp), rfl⟩
  · obtain rfl : q = false := by rw [hq]; simp; omega
    (repeat(first|refine pSeq ?_|refine pReg ?_|refine sCons ?_|refine sNil ?_|refine pRet ?_|refine gNone ?_|refine gOn rfl ?_|refine gOff rfl rfl ?_|refine gTup rfl ?_))
    have : a.take b.length ≠ b := fun e => by have := congrArg List.length e; rw [List.length_take] at this; omega
    exact ⟨bool_eq (by simp [this]), rfl⟩

theorem prefix_w {s : SS} {a b : List UInt8} : CallW pr n_strings_HasPrefix [str a, str b] s fun v s' => v = .bool (decide (a.take b.length = b)) ∧ s' = s := by
  refine CallW.run good ok_strings_HasPrefix (by simp) rfl ?_
  (repeat(first|refine pSeq ?_|refine pReg ?_|refine sCons ?_|refine sNil ?_|refine pRet ?_|refine gNone ?_))
  refine sprefix_w.mono fun v s q => ?_
  obtain ⟨rfl, rfl⟩ := q
  (repeat(first|refine pSeq ?_|refine pReg ?_|refine sCons ?_|refine sNil ?_|refine pRet ?_|refine gNone ?_))
  exact ⟨rfl, rfl⟩

theorem all_no {l : List UInt8} {p : Nat} {c : UInt8} {f : UInt8 → Bool} (h : l[p]? = some c) (hf : f c = false) : l.all f = false := by
  rw [List.all_eq_false]
  exact ⟨c, List.mem_of_getElem? h, by simp [hf]⟩
theorem plain_no {c : UInt8} (h : ¬ plainB c = true) : plainB c = false := by simpa using h
theorem plain_hi {c : UInt8} (h : 128 ≤ c.toNat) : plainB c = false := by unfold plainB; simp; omega

theorem Plain_w {s : SS} {l : List UInt8} : CallW pr n_text_Plain [str l] s fun v s' => v = .bool (l.all plainB) ∧ Chg s s' [] := by
  refine CallW.run good ok_text_Plain (by simp) rfl ?_
  (repeat(first|refine pSeq ?_|refine pReg ?_|refine sRaw ?_|refine sCons ?_|refine sNil ?_|refine pBlock ?_|refine pSkip ?_|refine pExit ?_|refine pRet ?_|refine pCond ?_|refine gNone ?_))
  refine srange_W rfl un_S rfl ?_
  (repeat(first|refine pSeq ?_|refine pReg ?_|refine sRaw ?_|refine sCons ?_|refine sNil ?_|refine pBlock ?_|refine pSkip ?_|refine pExit ?_|refine pRet ?_|refine pCond ?_|refine gNone ?_))
  refine pLoop (MW.head good (fun x : It => l.length - x.p) (fun x => At s s.next l x ∧ (l.take x.p).all plainB = true) (fun x => [(6, .pointer (some ⟨s.next, 0, none⟩))]) (fun x => x.s) ⟨0, _⟩ ⟨.start s l, rfl⟩ (Wk.same ⟨rfl, trivial⟩) ?_)
  intro ⟨p, s1⟩ ⟨h1, h2⟩
  dsimp only at h1 h2 ⊢
  (repeat(first|refine pSeq ?_|refine pReg ?_|refine sRaw ?_|refine sCons ?_|refine sNil ?_|refine pBlock ?_|refine pSkip ?_|refine pExit ?_|refine pRet ?_|refine pCond ?_|refine gNone ?_))
  refine snext_L rfl rfl h1.2.2.2 (fun he => ?_) (fun c hc h7 => ?_) (fun c r w hc h7 hr hr2 _ hw _ => ?_)
  · (repeat(first|refine pSeq ?_|refine pReg ?_|refine sRaw ?_|refine sCons ?_|refine sNil ?_|refine pBlock ?_|refine pSkip ?_|refine pExit ?_|refine pRet ?_|refine pCond ?_|refine gNone ?_))
    refine ⟨bool_eq ?_, h1.1⟩
    rw [← h2, List.take_of_length_le he]
  · (repeat(first|refine pSeq ?_|refine pReg ?_|refine sRaw ?_|refine sCons ?_|refine sNil ?_|refine pBlock ?_|refine pSkip ?_|refine pExit ?_|refine pRet ?_|refine pCond ?_|refine gNone ?_))
    refine (plain_w (by omega)).mono fun v s2 q => ?_
    obtain ⟨rfl, rfl⟩ := q
    (repeat(first|refine pSeq ?_|refine pReg ?_|refine sRaw ?_|refine sCons ?_|refine sNil ?_|refine pBlock ?_|refine pSkip ?_|refine pExit ?_|refine pRet ?_|refine pCond ?_|refine gNone ?_))
    intro q hq
    have e : decide (32 ≤ c.toNat ∧ c.toNat ≤ 126) = plainB c := rfl
    rw [e] at hq
    by_cases hp : plainB c = true
    · obtain rfl : q = false := by rw [hq, hp]; rfl
      (repeat(first|refine pSeq ?_|refine pReg ?_|refine sRaw ?_|refine sCons ?_|refine sNil ?_|refine pBlock ?_|refine pSkip ?_|refine pExit ?_|refine pRet ?_|refine pCond ?_|refine gNone ?_))
      exact ⟨⟨p + 1, _⟩, ⟨h1.go _, by rw [take_next hc]; simp [h2, hp]⟩, by have : p < l.length := lt_of_get hc; show l.length - (p + 1) < l.length - p; omega, Wk.same ⟨rfl, trivial⟩⟩
    · obtain rfl : q = true := by rw [hq, plain_no hp]; rfl
      (repeat(first|refine pSeq ?_|refine pReg ?_|refine sRaw ?_|refine sCons ?_|refine sNil ?_|refine pBlock ?_|refine pSkip ?_|refine pExit ?_|refine pRet ?_|refine pCond ?_|refine gNone ?_))
      exact ⟨bool_eq (all_no hc (plain_no hp)).symm, (h1.go _).1⟩
  · (repeat(first|refine pSeq ?_|refine pReg ?_|refine sRaw ?_|refine sCons ?_|refine sNil ?_|refine pBlock ?_|refine pSkip ?_|refine pExit ?_|refine pRet ?_|refine pCond ?_|refine gNone ?_))
    refine (plain_w (by omega)).mono fun v s2 q => ?_
    obtain ⟨rfl, rfl⟩ := q
    (repeat(first|refine pSeq ?_|refine pReg ?_|refine sRaw ?_|refine sCons ?_|refine sNil ?_|refine pBlock ?_|refine pSkip ?_|refine pExit ?_|refine pRet ?_|refine pCond ?_|refine gNone ?_))
    intro q hq
    obtain rfl : q = true := by rw [hq]; simp; omega
    (repeat(first|refine pSeq ?_|refine pReg ?_|refine sRaw ?_|refine sCons ?_|refine sNil ?_|refine pBlock ?_|refine pSkip ?_|refine pExit ?_|refine pRet ?_|refine pCond ?_|refine gNone ?_))
    exact ⟨bool_eq (all_no hc (plain_hi h7)).symm, (h1.go _).1⟩

theorem rPlain_w {s : SS} {l : List UInt8} (hl : l.length ≤ 1000000) : CallW pr n_ref04_Plain [str l] s fun v s' => v = .bool (l.all plainB) ∧ s' = s := by
  refine CallW.run good ok_ref04_Plain (by simp) rfl ?_
  (repeat(first|refine pSeq ?_|refine pReg ?_|refine sCons ?_|refine sNil ?_|refine pBlock ?_|refine pSkip ?_|refine pExit ?_|refine pRet ?_|refine pCond ?_|refine gNone ?_))
  refine pLoop (MW.head good (fun i : Nat => l.length - i) (fun i => i ≤ l.length ∧ (l.take i).all plainB = true) (fun i => [(0, str l), (3, .int .i64 i)]) (fun i => s) 0 ⟨Nat.zero_le _, rfl⟩ (Wk.same ⟨rfl, rfl, trivial⟩) ?_)
  intro i ⟨h1, h2⟩
  (repeat(first|refine pSeq ?_|refine pReg ?_|refine sCons ?_|refine sNil ?_|refine pBlock ?_|refine pSkip ?_|refine pExit ?_|refine pRet ?_|refine pCond ?_|refine gNone ?_))
  intro n hn
  (repeat(first|refine pSeq ?_|refine pReg ?_|refine sCons ?_|refine sNil ?_|refine pBlock ?_|refine pSkip ?_|refine pExit ?_|refine pRet ?_|refine pCond ?_|refine gNone ?_))
  intro q hq
  by_cases hlt : i < l.length
  · obtain rfl : q = true := by rw [hq]; simp; omega
    (repeat(first|refine pSeq ?_|refine pReg ?_|refine sCons ?_|refine sNil ?_|refine pBlock ?_|refine pSkip ?_|refine pExit ?_|refine pRet ?_|refine pCond ?_|refine gNone ?_))
    refine ⟨by omega, ?_⟩
    intro m hm
    obtain rfl : m = i := by omega
    obtain ⟨c, hc⟩ : ∃ c, l[m]? = some c := ⟨_, List.getElem?_eq_getElem hlt⟩
    refine ⟨c, hc, ?_⟩
    (repeat(first|refine pSeq ?_|refine pReg ?_|refine sCons ?_|refine sNil ?_|refine pBlock ?_|refine pSkip ?_|refine pExit ?_|refine pRet ?_|refine pCond ?_|refine gNone ?_))
    refine rplain_w.mono fun v s q => ?_
    obtain ⟨rfl, rfl⟩ := q
    (repeat(first|refine pSeq ?_|refine pReg ?_|refine sCons ?_|refine sNil ?_|refine pBlock ?_|refine pSkip ?_|refine pExit ?_|refine pRet ?_|refine pCond ?_|refine gNone ?_))
    intro q hq
    by_cases hp : plainB c = true
    · obtain rfl : q = false := by rw [hq, hp]; rfl
      (repeat(first|refine pSeq ?_|refine pReg ?_|refine sCons ?_|refine sNil ?_|refine pBlock ?_|refine pSkip ?_|refine pExit ?_|refine pRet ?_|refine pCond ?_|refine gNone ?_))
      intro z hz
      rw [i64_id (by omega)] at hz
      obtain rfl : z = ((m + 1 : Nat) : Int) := by omega
      (repeat(first|refine pSeq ?_|refine pReg ?_|refine sCons ?_|refine sNil ?_|refine pBlock ?_|refine pSkip ?_|refine pExit ?_|refine pRet ?_|refine pCond ?_|refine gNone ?_))
      exact ⟨m + 1, ⟨hlt, by rw [take_next hc]; simp [h2, hp]⟩, by show l.length - (m + 1) < l.length - m; omega, Wk.same ⟨rfl, rfl, trivial⟩⟩
    · obtain rfl : q = true := by rw [hq, plain_no hp]; rfl
      (repeat(first|refine pSeq ?_|refine pReg ?_|refine sCons ?_|refine sNil ?_|refine pBlock ?_|refine pSkip ?_|refine pExit ?_|refine pRet ?_|refine pCond ?_|refine gNone ?_))
      exact ⟨bool_eq (all_no hc (plain_no hp)).symm, rfl⟩
  · obtain rfl : q = false := by rw [hq]; simp; omega
    (repeat(first|refine pSeq ?_|refine pReg ?_|refine sCons ?_|refine sNil ?_|refine pBlock ?_|refine pSkip ?_|refine pExit ?_|refine pRet ?_|refine pCond ?_|refine gNone ?_))
    exact ⟨bool_eq (by rw [← h2, List.take_of_length_le (by omega)]), rfl⟩
end Go.Vf.S

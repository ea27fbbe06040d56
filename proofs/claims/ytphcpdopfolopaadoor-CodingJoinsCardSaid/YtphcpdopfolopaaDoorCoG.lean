import Derived.Test.YtphcpdopfolopaaDoorCoF
/- Signs = cut off. -/
namespace Go.Vf.S
open Go Go.Vf Go.Proofs Go.RowKit
attribute [local irreducible] wSeq wRow wp wG
set_option linter.unusedVariables false
set_option linter.unusedSimpArgs false
set_option maxRecDepth 10000

theorem byte_ne11 {c d : UInt8} (h : c ≠ d) : c.toNat ≠ d.toNat := fun e => h (UInt8.toNat_inj.1 e)
/-! ### Signs = cut off -/
theorem trimByte_w {s : SS} {l : List UInt8} {c : UInt8} (hl : l.length ≤ 1000000) : CallW pr n_strings_trimRightByte [str l, .int .u8 c.toNat] s fun v s' => ∃ t j, l = t ++ List.replicate j c ∧ t.getLast? ≠ some c ∧ v = str t ∧ s' = s := by
  refine CallW.run good ok_strings_trimRightByte (by simp) rfl ?_
  (repeat(first|refine pSeq ?_|refine pReg ?_|refine sCons ?_|refine sNil ?_|refine pBlock ?_|refine pSkip ?_|refine pExit ?_|refine pRet ?_|refine pCond ?_|refine gNone ?_|refine gOn rfl ?_|refine gOff rfl rfl ?_|refine gTup rfl ?_))
  refine pLoop (MW.head good (fun p : Nat => p) (fun p => p ≤ l.length ∧ l = l.take p ++ List.replicate (l.length - p) c) (fun p => [(0, str (l.take p)), (1, .int .u8 c.toNat)]) (fun _ => s) l.length ⟨Nat.le_refl _, by simp⟩ (Wk.same ⟨by show _ = some (str (l.take l.length)); rw [List.take_length]; rfl, rfl, trivial⟩) ?_)
  intro p ⟨hp, he⟩
  have hpl : (l.take p).length = p := by rw [List.length_take]; omega
  (repeat(first|refine pSeq ?_|refine pReg ?_|refine sCons ?_|refine sNil ?_|refine pBlock ?_|refine pSkip ?_|refine pExit ?_|refine pRet ?_|refine pCond ?_|refine gNone ?_|refine gOn rfl ?_|refine gOff rfl rfl ?_|refine gTup rfl ?_))
  intro n hn
  rw [hpl] at hn
  subst hn
  (repeat(first|refine pSeq ?_|refine pReg ?_|refine sCons ?_|refine sNil ?_|refine pBlock ?_|refine pSkip ?_|refine pExit ?_|refine pRet ?_|refine pCond ?_|refine gNone ?_|refine gOn rfl ?_|refine gOff rfl rfl ?_|refine gTup rfl ?_))
  intro q hq
  by_cases h0 : p = 0
  · subst h0
    obtain rfl : q = false := by rw [hq]; simp
    (repeat(first|refine pSeq ?_|refine pReg ?_|refine sCons ?_|refine sNil ?_|refine pBlock ?_|refine pSkip ?_|refine pExit ?_|refine pRet ?_|refine pCond ?_|refine gNone ?_|refine gOn rfl ?_|refine gOff rfl rfl ?_|refine gTup rfl ?_))
    exact ⟨[], l.length, by simpa using he, by simp, rfl, rfl⟩
  obtain rfl : q = true := by rw [hq]; simp; omega
  (repeat(first|refine pSeq ?_|refine pReg ?_|refine sCons ?_|refine sNil ?_|refine pBlock ?_|refine pSkip ?_|refine pExit ?_|refine pRet ?_|refine pCond ?_|refine gNone ?_|refine gOn rfl ?_|refine gOff rfl rfl ?_|refine gTup rfl ?_))
  intro n hn
  rw [hpl] at hn
  subst hn
  (repeat(first|refine pSeq ?_|refine pReg ?_|refine sCons ?_|refine sNil ?_|refine pBlock ?_|refine pSkip ?_|refine pExit ?_|refine pRet ?_|refine pCond ?_|refine gNone ?_|refine gOn rfl ?_|refine gOff rfl rfl ?_|refine gTup rfl ?_))
  intro z hz
  rw [i64_id (by omega)] at hz
  obtain rfl : z = ((p - 1 : Nat) : Int) := by omega
  (repeat(first|refine pSeq ?_|refine pReg ?_|refine sCons ?_|refine sNil ?_|refine pBlock ?_|refine pSkip ?_|refine pExit ?_|refine pRet ?_|refine pCond ?_|refine gNone ?_|refine gOn rfl ?_|refine gOff rfl rfl ?_|refine gTup rfl ?_))
  obtain ⟨d, hd⟩ : ∃ d, l[p - 1]? = some d := ⟨_, List.getElem?_eq_getElem (show p - 1 < l.length by omega)⟩
  refine ⟨by rw [hpl]; omega, ?_⟩
  intro m hm
  obtain rfl : m = p - 1 := by omega
  refine ⟨d, by rw [List.getElem?_take, if_pos (by omega)]; exact hd, ?_⟩
  (repeat(first|refine pSeq ?_|refine pReg ?_|refine sCons ?_|refine sNil ?_|refine pBlock ?_|refine pSkip ?_|refine pExit ?_|refine pRet ?_|refine pCond ?_|refine gNone ?_|refine gOn rfl ?_|refine gOff rfl rfl ?_|refine gTup rfl ?_))
  intro q hq
  have hlast : (l.take p).getLast? = some d := by
    rw [List.getLast?_eq_getElem?, hpl, List.getElem?_take, if_pos (by omega)]; exact hd
  by_cases hc : d = c
  · obtain rfl : q = true := by rw [hq]; simp [hc]
    (repeat(first|refine pSeq ?_|refine pReg ?_|refine sCons ?_|refine sNil ?_|refine pBlock ?_|refine pSkip ?_|refine pExit ?_|refine pRet ?_|refine pCond ?_|refine gNone ?_|refine gOn rfl ?_|refine gOff rfl rfl ?_|refine gTup rfl ?_))
    intro n hn
    rw [hpl] at hn
    subst hn
    (repeat(first|refine pSeq ?_|refine pReg ?_|refine sCons ?_|refine sNil ?_|refine pBlock ?_|refine pSkip ?_|refine pExit ?_|refine pRet ?_|refine pCond ?_|refine gNone ?_|refine gOn rfl ?_|refine gOff rfl rfl ?_|refine gTup rfl ?_))
    intro z hz
    rw [i64_id (by omega)] at hz
    obtain rfl : z = ((p - 1 : Nat) : Int) := by omega
    (repeat(first|refine pSeq ?_|refine pReg ?_|refine sCons ?_|refine sNil ?_|refine pBlock ?_|refine pSkip ?_|refine pExit ?_|refine pRet ?_|refine pCond ?_|refine gNone ?_|refine gOn rfl ?_|refine gOff rfl rfl ?_|refine gTup rfl ?_))
    refine ⟨by rw [hpl]; omega, ?_⟩
    intro m hm r hr
    obtain rfl : m = p - 1 := by omega
    rw [List.drop_zero, Nat.sub_zero, List.take_take, Nat.min_eq_left (by omega)] at hr
    subst hr
    (repeat(first|refine pSeq ?_|refine pReg ?_|refine sCons ?_|refine sNil ?_|refine pBlock ?_|refine pSkip ?_|refine pExit ?_|refine pRet ?_|refine pCond ?_|refine gNone ?_|refine gOn rfl ?_|refine gOff rfl rfl ?_|refine gTup rfl ?_))
    have he2 : l = l.take (p - 1) ++ List.replicate (l.length - (p - 1)) c := by
      have e1 : l.take p = l.take (p - 1) ++ [c] := by
        have := List.take_add_one (l := l) (i := p - 1)
        rw [show p - 1 + 1 = p by omega, hd, hc] at this
        exact this
      rw [e1, List.append_assoc] at he
      rw [show l.length - (p - 1) = 1 + (l.length - p) by omega, ← List.replicate_append_replicate]
      exact he
    exact ⟨p - 1, ⟨by omega, he2⟩, by show p - 1 < p; omega, Wk.same ⟨rfl, rfl, trivial⟩⟩
  · obtain rfl : q = false := by rw [hq]; have := byte_ne11 hc; simp; omega
    (repeat(first|refine pSeq ?_|refine pReg ?_|refine sCons ?_|refine sNil ?_|refine pBlock ?_|refine pSkip ?_|refine pExit ?_|refine pRet ?_|refine pCond ?_|refine gNone ?_|refine gOn rfl ?_|refine gOff rfl rfl ?_|refine gTup rfl ?_))
    exact ⟨l.take p, l.length - p, he, by rw [hlast]; exact fun e => hc (Option.some.inj e), rfl, rfl⟩
theorem trimRight_w {s : SS} {l : List UInt8} (hl : l.length ≤ 1000000) : CallW pr n_strings_TrimRight [str l, str [61]] s fun v s' => ∃ t j, l = t ++ List.replicate j 61 ∧ t.getLast? ≠ some 61 ∧ v = str t ∧ s' = s := by
  refine CallW.run good ok_strings_TrimRight (by simp) rfl ?_
  (repeat(first|refine pSeq ?_|refine pReg ?_|refine sCons ?_|refine sNil ?_|refine pSkip ?_|refine pRet ?_|refine pCond ?_|refine gNone ?_|refine gOn rfl ?_|refine gOff rfl rfl ?_|refine gTup rfl ?_))
  intro q hq
  by_cases h0 : l = []
  · subst h0
    obtain rfl : q = true := by rw [hq]; simp
    (repeat(first|refine pSeq ?_|refine pReg ?_|refine sCons ?_|refine sNil ?_|refine pSkip ?_|refine pRet ?_|refine pCond ?_|refine gNone ?_|refine gOn rfl ?_|refine gOff rfl rfl ?_|refine gTup rfl ?_))
    exact ⟨[], 0, by simp, by simp, rfl, rfl⟩
  obtain rfl : q = false := by rw [hq]; simp [h0]
  (repeat(first|refine pSeq ?_|refine pReg ?_|refine sCons ?_|refine sNil ?_|refine pSkip ?_|refine pRet ?_|refine pCond ?_|refine gNone ?_|refine gOn rfl ?_|refine gOff rfl rfl ?_|refine gTup rfl ?_))
  intro q hq
  obtain rfl : q = false := by rw [hq]; rfl
  (repeat(first|refine pSeq ?_|refine pReg ?_|refine sCons ?_|refine sNil ?_|refine pSkip ?_|refine pRet ?_|refine pCond ?_|refine gNone ?_|refine gOn rfl ?_|refine gOff rfl rfl ?_|refine gTup rfl ?_))
  intro n hn
  (repeat(first|refine pSeq ?_|refine pReg ?_|refine sCons ?_|refine sNil ?_|refine pSkip ?_|refine pRet ?_|refine pCond ?_|refine gNone ?_|refine gOn rfl ?_|refine gOff rfl rfl ?_|refine gTup rfl ?_))
  intro q hq
  obtain rfl : q = true := by rw [hq, hn]; rfl
  (repeat(first|refine pSeq ?_|refine pReg ?_|refine sCons ?_|refine sNil ?_|refine pSkip ?_|refine pRet ?_|refine pCond ?_|refine gNone ?_|refine gOn rfl ?_|refine gOff rfl rfl ?_|refine gTup rfl ?_))
  refine ⟨by simp, ?_⟩
  intro m hm
  obtain rfl : m = 0 := by omega
  refine ⟨61, rfl, ?_⟩
  (repeat(first|refine pSeq ?_|refine pReg ?_|refine sCons ?_|refine sNil ?_|refine pSkip ?_|refine pRet ?_|refine pCond ?_|refine gNone ?_|refine gOn rfl ?_|refine gOff rfl rfl ?_|refine gTup rfl ?_))
  intro q hq
  obtain rfl : q = true := by rw [hq]; rfl
  (repeat(first|refine pSeq ?_|refine pReg ?_|refine sCons ?_|refine sNil ?_|refine pSkip ?_|refine pRet ?_|refine pCond ?_|refine gNone ?_|refine gOn rfl ?_|refine gOff rfl rfl ?_|refine gTup rfl ?_))
  refine ⟨by simp, ?_⟩
  intro m hm
  obtain rfl : m = 0 := by omega
  refine ⟨61, rfl, ?_⟩
  (repeat(first|refine pSeq ?_|refine pReg ?_|refine sCons ?_|refine sNil ?_|refine pSkip ?_|refine pRet ?_|refine pCond ?_|refine gNone ?_|refine gOn rfl ?_|refine gOff rfl rfl ?_|refine gTup rfl ?_))
  refine (trimByte_w (c := 61) hl).mono fun v s1 q => ?_
  obtain ⟨t, j, e1, e2, rfl, rfl⟩ := q
  (repeat(first|refine pSeq ?_|refine pReg ?_|refine sCons ?_|refine sNil ?_|refine pSkip ?_|refine pRet ?_|refine pCond ?_|refine gNone ?_|refine gOn rfl ?_|refine gOff rfl rfl ?_|refine gTup rfl ?_))
  exact ⟨t, j, e1, e2, rfl, rfl⟩
end Go.Vf.S

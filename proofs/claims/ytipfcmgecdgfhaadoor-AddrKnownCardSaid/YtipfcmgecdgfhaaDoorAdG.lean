import Derived.Test.YtipfcmgecdgfhaaDoorAdF
/- An address that is read: the document's; subaddresses. -/
namespace Go.Vf.S
open Go Go.Vf
attribute [local irreducible] wSeq wRow wp wG
set_option linter.unusedVariables false
set_option linter.unusedSimpArgs false
set_option maxRecDepth 10000

theorem dom_vals (l : List UInt8) : domF l = 0 ∨ domF l = 3 ∨ domF l = 5 := by
  unfold domF
  repeat' split
  all_goals simp
theorem parse_no {l : List UInt8} (h : (partsF l).2.2 = false) : parseF l = ([], [], 5) := by unfold parseF; rw [if_pos h]
theorem while_all {c : UInt8} : ∀ {l : List UInt8}, c ∉ l → l.takeWhile (· != c) = l
  | [], _ => rfl
  | x :: l, h => by
    have : x ≠ c := fun e => h (by simp [e])
    rw [List.takeWhile_cons, if_pos (by simpa using this), while_all fun q => h (List.mem_cons_of_mem _ q)]

/-- The first + that is not the first byte. -/
def spF (l : List UInt8) : List UInt8 × List UInt8 × Bool :=
  if 43 ∈ l.drop 1 then (l.take (((l.drop 1).takeWhile (· != 43)).length + 1), l.drop (((l.drop 1).takeWhile (· != 43)).length + 2), true) else (l, [], false)
theorem sp_at {l : List UInt8} {p : Nat} (hp : 0 < p) (hc : l[p]? = some 43) (hno : (43 : UInt8) ∉ (l.take p).drop 1) : spF l = (l.take p, l.drop (p + 1), true) := by
  have hlt := lt_of_get hc
  have e : l.drop 1 = (l.take p).drop 1 ++ 43 :: l.drop (p + 1) := by
    rw [List.drop_take, ← drop_next hc]
    conv => lhs; rw [← List.take_append_drop (p - 1) (l.drop 1)]
    rw [List.drop_drop, show 1 + (p - 1) = p by omega]
  have e2 : ((l.take p).drop 1).length + 1 = p := by rw [List.length_drop, List.length_take]; omega
  unfold spF
  rw [e, if_pos (by simp), while_first hno, e2, show ((l.take p).drop 1).length + 2 = p + 1 by omega]
theorem sp_end {l : List UInt8} (hno : (43 : UInt8) ∉ l.drop 1) : spF l = (l, [], false) := by unfold spF; rw [if_neg hno]
theorem plus_next {l : List UInt8} {p : Nat} {c : UInt8} (hc : l[p]? = some c) (h : (43 : UInt8) ∉ (l.take p).drop 1) (hn : c ≠ 43 ∨ p = 0) : (43 : UInt8) ∉ (l.take (p + 1)).drop 1 := by
  rcases Nat.eq_zero_or_pos p with h0 | h0
  · subst h0
    rw [take_next hc]
    simp
  · have hlt := lt_of_get hc
    rw [take_next hc, List.drop_append_of_le_length (by rw [List.length_take]; omega), List.mem_append, List.mem_singleton]
    rintro (q | q)
    · exact h q
    · rcases hn with hn | hn
      · exact hn q.symm
      · omega
theorem plus_more {l : List UInt8} {p : Nat} : ∀ {w : Nat}, (∀ j, j < w → ∃ d, l[p + j]? = some d ∧ 128 ≤ d.toNat) → (43 : UInt8) ∉ (l.take p).drop 1 → (43 : UInt8) ∉ (l.take (p + w)).drop 1
  | 0, _, h => h
  | w + 1, hd, h => by
    obtain ⟨d, h1, h2⟩ := hd w (Nat.lt_succ_self _)
    rw [← Nat.add_assoc]
    exact plus_next h1 (plus_more (fun j hj => hd j (Nat.lt_succ_of_lt hj)) h) (.inl fun e => by rw [e] at h2; simp at h2)

abbrev spV (q : List UInt8 × List UInt8 × Bool) : Value := .tuple ⟨[str q.1, str q.2.1, .bool q.2.2]⟩

theorem asplit_w {s : SS} {l : List UInt8} (hl : l.length ≤ 1000000) : CallW pr n_addr_Split [str l] s fun v s' => v = spV (spF l) ∧ Chg s s' [] := by
  refine CallW.run good ok_addr_Split (by simp) rfl ?_
  (repeat(first|refine pSeq ?_|refine pReg ?_|refine sRaw ?_|refine sCons ?_|refine sNil ?_|refine rCons ?_|refine rNil ?_|refine kNo ?_|refine pRow ?_|refine pBlock ?_|refine pSkip ?_|refine pExit ?_|refine pRet ?_|refine pCond ?_|refine gNone ?_|refine gOn rfl ?_|refine gOff rfl rfl ?_|refine gTup rfl ?_))
  refine srange_W rfl un_S rfl ?_
  (repeat(first|refine pSeq ?_|refine pReg ?_|refine sRaw ?_|refine sCons ?_|refine sNil ?_|refine rCons ?_|refine rNil ?_|refine kNo ?_|refine pRow ?_|refine pBlock ?_|refine pSkip ?_|refine pExit ?_|refine pRet ?_|refine pCond ?_|refine gNone ?_|refine gOn rfl ?_|refine gOff rfl rfl ?_|refine gTup rfl ?_))
  refine pLoop (MW.head good (fun x : It => l.length - x.p) (fun x => At s s.next l x ∧ (43 : UInt8) ∉ (l.take x.p).drop 1) (fun x => [(0, str l), (8, .pointer (some ⟨s.next, 0, none⟩))]) (fun x => x.s) ⟨0, _⟩ ⟨.start s l, by simp⟩ (Wk.same ⟨rfl, rfl, trivial⟩) ?_)
  intro ⟨p, s1⟩ ⟨h1, h2⟩
  dsimp only at h1 h2 ⊢
  (repeat(first|refine pSeq ?_|refine pReg ?_|refine sRaw ?_|refine sCons ?_|refine sNil ?_|refine rCons ?_|refine rNil ?_|refine kNo ?_|refine pRow ?_|refine pBlock ?_|refine pSkip ?_|refine pExit ?_|refine pRet ?_|refine pCond ?_|refine gNone ?_|refine gOn rfl ?_|refine gOff rfl rfl ?_|refine gTup rfl ?_))
  refine snext_L rfl rfl (show lookH s1.heap _ = some (.siter ⟨⟨l⟩⟩ p) from h1.2.2.2) (fun he => ?_) (fun c hc h7 => ?_) (fun c r w hc h7 hr hr2 hdec hw _ => ?_)
  · rw [List.take_of_length_le he] at h2
    rw [sp_end h2]
    (repeat(first|refine pSeq ?_|refine pReg ?_|refine sRaw ?_|refine sCons ?_|refine sNil ?_|refine rCons ?_|refine rNil ?_|refine kNo ?_|refine pRow ?_|refine pBlock ?_|refine pSkip ?_|refine pExit ?_|refine pRet ?_|refine pCond ?_|refine gNone ?_|refine gOn rfl ?_|refine gOff rfl rfl ?_|refine gTup rfl ?_))
    exact ⟨rfl, h1.1⟩
  · have hlt : p < l.length := lt_of_get hc
    (repeat(first|refine pSeq ?_|refine pReg ?_|refine sRaw ?_|refine sCons ?_|refine sNil ?_|refine rCons ?_|refine rNil ?_|refine kNo ?_|refine pRow ?_|refine pBlock ?_|refine pSkip ?_|refine pExit ?_|refine pRet ?_|refine pCond ?_|refine gNone ?_|refine gOn rfl ?_|refine gOff rfl rfl ?_|refine gTup rfl ?_))
    intro q hq
    by_cases h43 : c = 43
    · obtain rfl : q = true := by rw [hq, h43]; rfl
      (repeat(first|refine pSeq ?_|refine pReg ?_|refine sRaw ?_|refine sCons ?_|refine sNil ?_|refine rCons ?_|refine rNil ?_|refine kNo ?_|refine pRow ?_|refine pBlock ?_|refine pSkip ?_|refine pExit ?_|refine pRet ?_|refine pCond ?_|refine gNone ?_|refine gOn rfl ?_|refine gOff rfl rfl ?_|refine gTup rfl ?_))
      intro q hq
      by_cases h0 : 0 < p
      · obtain rfl : q = true := by rw [hq]; simp <;> omega
        rw [sp_at h0 (by rw [hc, h43]) h2]
        (repeat(first|refine pSeq ?_|refine pReg ?_|refine sRaw ?_|refine sCons ?_|refine sNil ?_|refine rCons ?_|refine rNil ?_|refine kNo ?_|refine pRow ?_|refine pBlock ?_|refine pSkip ?_|refine pExit ?_|refine pRet ?_|refine pCond ?_|refine gNone ?_|refine gOn rfl ?_|refine gOff rfl rfl ?_|refine gTup rfl ?_))
        refine ⟨by omega, ?_⟩
        intro m hm a ha
        obtain rfl : m = p := by omega
        rw [List.drop_zero, Nat.sub_zero] at ha
        subst ha
        (repeat(first|refine pSeq ?_|refine pReg ?_|refine sRaw ?_|refine sCons ?_|refine sNil ?_|refine rCons ?_|refine rNil ?_|refine kNo ?_|refine pRow ?_|refine pBlock ?_|refine pSkip ?_|refine pExit ?_|refine pRet ?_|refine pCond ?_|refine gNone ?_|refine gOn rfl ?_|refine gOff rfl rfl ?_|refine gTup rfl ?_))
        intro z hz
        rw [i64_id (by omega)] at hz
        (repeat(first|refine pSeq ?_|refine pReg ?_|refine sRaw ?_|refine sCons ?_|refine sNil ?_|refine rCons ?_|refine rNil ?_|refine kNo ?_|refine pRow ?_|refine pBlock ?_|refine pSkip ?_|refine pExit ?_|refine pRet ?_|refine pCond ?_|refine gNone ?_|refine gOn rfl ?_|refine gOff rfl rfl ?_|refine gTup rfl ?_))
        refine ⟨by omega, ?_⟩
        intro m2 hm2 b hb
        obtain rfl : m2 = m + 1 := by omega
        rw [List.take_of_length_le (by simp)] at hb
        subst hb
        (repeat(first|refine pSeq ?_|refine pReg ?_|refine sRaw ?_|refine sCons ?_|refine sNil ?_|refine rCons ?_|refine rNil ?_|refine kNo ?_|refine pRow ?_|refine pBlock ?_|refine pSkip ?_|refine pExit ?_|refine pRet ?_|refine pCond ?_|refine gNone ?_|refine gOn rfl ?_|refine gOff rfl rfl ?_|refine gTup rfl ?_))
        exact ⟨rfl, (h1.go (m + 1)).1⟩
      · obtain rfl : q = false := by rw [hq]; simp <;> omega
        (repeat(first|refine pSeq ?_|refine pReg ?_|refine sRaw ?_|refine sCons ?_|refine sNil ?_|refine rCons ?_|refine rNil ?_|refine kNo ?_|refine pRow ?_|refine pBlock ?_|refine pSkip ?_|refine pExit ?_|refine pRet ?_|refine pCond ?_|refine gNone ?_|refine gOn rfl ?_|refine gOff rfl rfl ?_|refine gTup rfl ?_))
        exact ⟨⟨p + 1, _⟩, ⟨h1.go _, plus_next hc h2 (.inr (by omega))⟩, by show l.length - (p + 1) < l.length - p; omega, Wk.same ⟨rfl, rfl, trivial⟩⟩
    · have c43 : c.toNat ≠ 43 := byte_ne h43
      obtain rfl : q = false := by rw [hq]; simp; omega
      (repeat(first|refine pSeq ?_|refine pReg ?_|refine sRaw ?_|refine sCons ?_|refine sNil ?_|refine rCons ?_|refine rNil ?_|refine kNo ?_|refine pRow ?_|refine pBlock ?_|refine pSkip ?_|refine pExit ?_|refine pRet ?_|refine pCond ?_|refine gNone ?_|refine gOn rfl ?_|refine gOff rfl rfl ?_|refine gTup rfl ?_))
      exact ⟨⟨p + 1, _⟩, ⟨h1.go _, plus_next hc h2 (.inl h43)⟩, by show l.length - (p + 1) < l.length - p; omega, Wk.same ⟨rfl, rfl, trivial⟩⟩
  · have hlt : p < l.length := lt_of_get hc
    (repeat(first|refine pSeq ?_|refine pReg ?_|refine sRaw ?_|refine sCons ?_|refine sNil ?_|refine rCons ?_|refine rNil ?_|refine kNo ?_|refine pRow ?_|refine pBlock ?_|refine pSkip ?_|refine pExit ?_|refine pRet ?_|refine pCond ?_|refine gNone ?_|refine gOn rfl ?_|refine gOff rfl rfl ?_|refine gTup rfl ?_))
    intro q hq
    obtain rfl : q = false := by rw [hq]; simp; omega
    (repeat(first|refine pSeq ?_|refine pReg ?_|refine sRaw ?_|refine sCons ?_|refine sNil ?_|refine rCons ?_|refine rNil ?_|refine kNo ?_|refine pRow ?_|refine pBlock ?_|refine pSkip ?_|refine pExit ?_|refine pRet ?_|refine pCond ?_|refine gNone ?_|refine gOn rfl ?_|refine gOff rfl rfl ?_|refine gTup rfl ?_))
    exact ⟨⟨p + w, _⟩, ⟨h1.go _, plus_more (dec_more hdec hc h7) h2⟩, by show l.length - (p + w) < l.length - p; omega, Wk.same ⟨rfl, rfl, trivial⟩⟩
end Go.Vf.S

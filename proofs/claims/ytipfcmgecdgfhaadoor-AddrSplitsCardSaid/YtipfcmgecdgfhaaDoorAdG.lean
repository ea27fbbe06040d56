import Derived.Test.YtipfcmgecdgfhaaDoorAdF
/- An address that is read: the document's; subaddresses. -/
namespace Go.Vf.S
open Go Go.Vf
attribute [local irreducible] wSeq wRow wp wG
set_option linter.unusedVariables false
set_option linter.unusedSimpArgs false
set_option maxRecDepth 10000

abbrev tRf : TypeId := 27
theorem agg_Rf : aggB pr tRf = some true := by kernel_rfl
theorem sz_Rf : sizeB pr tRf = some 2 := by kernel_rfl

theorem dom_vals (l : List UInt8) : domF l = 0 ∨ domF l = 3 ∨ domF l = 5 := by
  unfold domF
  repeat' split
  all_goals simp
theorem parse_no {l : List UInt8} (h : (partsF l).2.2 = false) : parseF l = ([], [], 5) := by unfold parseF; rw [if_pos h]
theorem while_all {c : UInt8} : ∀ {l : List UInt8}, c ∉ l → l.takeWhile (· != c) = l
  | [], _ => rfl
  | x :: l, h => by
    have : x ≠ c := fun e => h (by simp [e])
    rw [List.takeWhile_cons, if_pos (by simpa using this), while_all fun q => h (List.mem_cons_of_mem _ q)]

/-- The first + that is not the first byte. -/
def spF (l : List UInt8) : List UInt8 × List UInt8 × Bool :=
  if 43 ∈ l.drop 1 then (l.take (((l.drop 1).takeWhile (· != 43)).length + 1), l.drop (((l.drop 1).takeWhile (· != 43)).length + 2), true) else (l, [], false)
theorem sp_at {l : List UInt8} {p : Nat} (hp : 0 < p) (hc : l[p]? = some 43) (hno : (43 : UInt8) ∉ (l.take p).drop 1) : spF l = (l.take p, l.drop (p + 1), true) := by
  have hlt := lt_of_get hc
  have e : l.drop 1 = (l.take p).drop 1 ++ 43 :: l.drop (p + 1) := by
    rw [List.drop_take, ← drop_next hc]
    conv => lhs; rw [← List.take_append_drop (p - 1) (l.drop 1)]
    rw [List.drop_drop, show 1 + (p - 1) = p by omega]
  have e2 : ((l.take p).drop 1).length + 1 = p := by rw [List.length_drop, List.length_take]; omega
  unfold spF
  rw [e, if_pos (by simp), while_first hno, e2, show ((l.take p).drop 1).length + 2 = p + 1 by omega]
theorem sp_end {l : List UInt8} (hno : (43 : UInt8) ∉ l.drop 1) : spF l = (l, [], false) := by unfold spF; rw [if_neg hno]
theorem plus_next {l : List UInt8} {p : Nat} {c : UInt8} (hc : l[p]? = some c) (h : (43 : UInt8) ∉ (l.take p).drop 1) (hn : c ≠ 43 ∨ p = 0) : (43 : UInt8) ∉ (l.take (p + 1)).drop 1 := by
  rcases Nat.eq_zero_or_pos p with h0 | h0
  · subst h0
    rw [take_next hc]
    simp
  · have hlt := lt_of_get hc
    rw [take_next hc, List.drop_append_of_le_length (by rw [List.length_take]; omega), List.mem_append, List.mem_singleton]
    rintro (q | q)
    · exact h q
    · rcases hn with hn | hn
      · exact hn q.symm
      · omega
theorem plus_more {l : List UInt8} {p : Nat} : ∀ {w : Nat}, (∀ j, j < w → ∃ d, l[p + j]? = some d ∧ 128 ≤ d.toNat) → (43 : UInt8) ∉ (l.take p).drop 1 → (43 : UInt8) ∉ (l.take (p + w)).drop 1
  | 0, _, h => h
  | w + 1, hd, h => by
    obtain ⟨d, h1, h2⟩ := hd w (Nat.lt_succ_self _)
    rw [← Nat.add_assoc]
    exact plus_next h1 (plus_more (fun j hj => hd j (Nat.lt_succ_of_lt hj)) h) (.inl fun e => by rw [e] at h2; simp at h2)

abbrev spV (q : List UInt8 × List UInt8 × Bool) : Value := .tuple ⟨[str q.1, str q.2.1, .bool q.2.2]⟩

theorem asplit_w {s : SS} {l : List UInt8} (hl : l.length ≤ 1000000) : CallW pr n_addr_Split [str l] s fun v s' => v = spV (spF l) ∧ Chg s s' [] := by
  refine CallW.run good ok_addr_Split (by simp) rfl ?_
  (repeat(first|refine pSeq ?_|refine pReg ?_|refine sRaw ?_|refine sCons ?_|refine sNil ?_|refine rCons ?_|refine rNil ?_|refine kNo ?_|refine pRow ?_|refine pBlock ?_|refine pSkip ?_|refine pExit ?_|refine pRet ?_|refine pCond ?_|refine gNone ?_|refine gOn rfl ?_|refine gOff rfl rfl ?_|refine gTup rfl ?_))
  refine srange_W rfl un_S rfl ?_
  (repeat(first|refine pSeq ?_|refine pReg ?_|refine sRaw ?_|refine sCons ?_|refine sNil ?_|refine rCons ?_|refine rNil ?_|refine kNo ?_|refine pRow ?_|refine pBlock ?_|refine pSkip ?_|refine pExit ?_|refine pRet ?_|refine pCond ?_|refine gNone ?_|refine gOn rfl ?_|refine gOff rfl rfl ?_|refine gTup rfl ?_))
  refine pLoop (MW.head good (fun x : It => l.length - x.p) (fun x => At s s.next l x ∧ (43 : UInt8) ∉ (l.take x.p).drop 1) (fun x => [(0, str l), (8, .pointer (some ⟨s.next, 0, none⟩))]) (fun x => x.s) ⟨0, _⟩ ⟨.start s l, by simp⟩ (Wk.same ⟨rfl, rfl, trivial⟩) ?_)
  intro ⟨p, s1⟩ ⟨h1, h2⟩
  dsimp only at h1 h2 ⊢
  (repeat(first|refine pSeq ?_|refine pReg ?_|refine sRaw ?_|refine sCons ?_|refine sNil ?_|refine rCons ?_|refine rNil ?_|refine kNo ?_|refine pRow ?_|refine pBlock ?_|refine pSkip ?_|refine pExit ?_|refine pRet ?_|refine pCond ?_|refine gNone ?_|refine gOn rfl ?_|refine gOff rfl rfl ?_|refine gTup rfl ?_))
  refine snext_L rfl rfl (show lookH s1.heap _ = some (.siter ⟨⟨l⟩⟩ p) from h1.2.2.2) (fun he => ?_) (fun c hc h7 => ?_) (fun c r w hc h7 hr hr2 hdec hw _ => ?_)
  · rw [List.take_of_length_le he] at h2
    rw [sp_end h2]
    (repeat(first|refine pSeq ?_|refine pReg ?_|refine sRaw ?_|refine sCons ?_|refine sNil ?_|refine rCons ?_|refine rNil ?_|refine kNo ?_|refine pRow ?_|refine pBlock ?_|refine pSkip ?_|refine pExit ?_|refine pRet ?_|refine pCond ?_|refine gNone ?_|refine gOn rfl ?_|refine gOff rfl rfl ?_|refine gTup rfl ?_))
    exact ⟨rfl, h1.1⟩
  · have hlt : p < l.length := lt_of_get hc
    (repeat(first|refine pSeq ?_|refine pReg ?_|refine sRaw ?_|refine sCons ?_|refine sNil ?_|refine rCons ?_|refine rNil ?_|refine kNo ?_|refine pRow ?_|refine pBlock ?_|refine pSkip ?_|refine pExit ?_|refine pRet ?_|refine pCond ?_|refine gNone ?_|refine gOn rfl ?_|refine gOff rfl rfl ?_|refine gTup rfl ?_))
    intro q hq
    by_cases h43 : c = 43
    · obtain rfl : q = true := by rw [hq, h43]; rfl
      (repeat(first|refine pSeq ?_|refine pReg ?_|refine sRaw ?_|refine sCons ?_|refine sNil ?_|refine rCons ?_|refine rNil ?_|refine kNo ?_|refine pRow ?_|refine pBlock ?_|refine pSkip ?_|refine pExit ?_|refine pRet ?_|refine pCond ?_|refine gNone ?_|refine gOn rfl ?_|refine gOff rfl rfl ?_|refine gTup rfl ?_))
      intro q hq
      by_cases h0 : 0 < p
      · obtain rfl : q = true := by rw [hq]; simp <;> omega
        rw [sp_at h0 (by rw [hc, h43]) h2]
        (repeat(first|refine pSeq ?_|refine pReg ?_|refine sRaw ?_|refine sCons ?_|refine sNil ?_|refine rCons ?_|refine rNil ?_|refine kNo ?_|refine pRow ?_|refine pBlock ?_|refine pSkip ?_|refine pExit ?_|refine pRet ?_|refine pCond ?_|refine gNone ?_|refine gOn rfl ?_|refine gOff rfl rfl ?_|refine gTup rfl ?_))
        refine ⟨by omega, ?_⟩
        intro m hm a ha
        obtain rfl : m = p := by omega
        rw [List.drop_zero, Nat.sub_zero] at ha
        subst ha
        (repeat(first|refine pSeq ?_|refine pReg ?_|refine sRaw ?_|refine sCons ?_|refine sNil ?_|refine rCons ?_|refine rNil ?_|refine kNo ?_|refine pRow ?_|refine pBlock ?_|refine pSkip ?_|refine pExit ?_|refine pRet ?_|refine pCond ?_|refine gNone ?_|refine gOn rfl ?_|refine gOff rfl rfl ?_|refine gTup rfl ?_))
        intro z hz
        rw [i64_id (by omega)] at hz
        (repeat(first|refine pSeq ?_|refine pReg ?_|refine sRaw ?_|refine sCons ?_|refine sNil ?_|refine rCons ?_|refine rNil ?_|refine kNo ?_|refine pRow ?_|refine pBlock ?_|refine pSkip ?_|refine pExit ?_|refine pRet ?_|refine pCond ?_|refine gNone ?_|refine gOn rfl ?_|refine gOff rfl rfl ?_|refine gTup rfl ?_))
        refine ⟨by omega, ?_⟩
        intro m2 hm2 b hb
        obtain rfl : m2 = m + 1 := by omega
        rw [List.take_of_length_le (by simp)] at hb
        subst hb
        (repeat(first|refine pSeq ?_|refine pReg ?_|refine sRaw ?_|refine sCons ?_|refine sNil ?_|refine rCons ?_|refine rNil ?_|refine kNo ?_|refine pRow ?_|refine pBlock ?_|refine pSkip ?_|refine pExit ?_|refine pRet ?_|refine pCond ?_|refine gNone ?_|refine gOn rfl ?_|refine gOff rfl rfl ?_|refine gTup rfl ?_))
        exact ⟨rfl, (h1.go (m + 1)).1⟩
      · obtain rfl : q = false := by rw [hq]; simp <;> omega
        (repeat(first|refine pSeq ?_|refine pReg ?_|refine sRaw ?_|refine sCons ?_|refine sNil ?_|refine rCons ?_|refine rNil ?_|refine kNo ?_|refine pRow ?_|refine pBlock ?_|refine pSkip ?_|refine pExit ?_|refine pRet ?_|refine pCond ?_|refine gNone ?_|refine gOn rfl ?_|refine gOff rfl rfl ?_|refine gTup rfl ?_))
        exact ⟨⟨p + 1, _⟩, ⟨h1.go _, plus_next hc h2 (.inr (by omega))⟩, by show l.length - (p + 1) < l.length - p; omega, Wk.same ⟨rfl, rfl, trivial⟩⟩
    · have c43 : c.toNat ≠ 43 := byte_ne h43
      obtain rfl : q = false := by rw [hq]; simp; omega
      (repeat(first|refine pSeq ?_|refine pReg ?_|refine sRaw ?_|refine sCons ?_|refine sNil ?_|refine rCons ?_|refine rNil ?_|refine kNo ?_|refine pRow ?_|refine pBlock ?_|refine pSkip ?_|refine pExit ?_|refine pRet ?_|refine pCond ?_|refine gNone ?_|refine gOn rfl ?_|refine gOff rfl rfl ?_|refine gTup rfl ?_))
      exact ⟨⟨p + 1, _⟩, ⟨h1.go _, plus_next hc h2 (.inl h43)⟩, by show l.length - (p + 1) < l.length - p; omega, Wk.same ⟨rfl, rfl, trivial⟩⟩
  · have hlt : p < l.length := lt_of_get hc
    (repeat(first|refine pSeq ?_|refine pReg ?_|refine sRaw ?_|refine sCons ?_|refine sNil ?_|refine rCons ?_|refine rNil ?_|refine kNo ?_|refine pRow ?_|refine pBlock ?_|refine pSkip ?_|refine pExit ?_|refine pRet ?_|refine pCond ?_|refine gNone ?_|refine gOn rfl ?_|refine gOff rfl rfl ?_|refine gTup rfl ?_))
    intro q hq
    obtain rfl : q = false := by rw [hq]; simp; omega
    (repeat(first|refine pSeq ?_|refine pReg ?_|refine sRaw ?_|refine sCons ?_|refine sNil ?_|refine rCons ?_|refine rNil ?_|refine kNo ?_|refine pRow ?_|refine pBlock ?_|refine pSkip ?_|refine pExit ?_|refine pRet ?_|refine pCond ?_|refine gNone ?_|refine gOn rfl ?_|refine gOff rfl rfl ?_|refine gTup rfl ?_))
    exact ⟨⟨p + w, _⟩, ⟨h1.go _, plus_more (dec_more hdec hc h7) h2⟩, by show l.length - (p + w) < l.length - p; omega, Wk.same ⟨rfl, rfl, trivial⟩⟩

theorem rasplit_w {s : SS} {l : List UInt8} (hl : l.length ≤ 1000000) : CallW pr n_ref05_Split [str l] s fun v s' => v = spV (spF l) ∧ s' = s := by
  refine CallW.run good ok_ref05_Split (by simp) rfl ?_
  (repeat(first|refine pSeq ?_|refine pReg ?_|refine sCons ?_|refine sNil ?_|refine rCons ?_|refine rNil ?_|refine kNo ?_|refine pRow ?_|refine pBlock ?_|refine pSkip ?_|refine pExit ?_|refine pRet ?_|refine pCond ?_|refine gNone ?_))
  refine pLoop (MW.head good (fun i : Nat => l.length + 1 - i) (fun i => 1 ≤ i ∧ i ≤ l.length + 1 ∧ (43 : UInt8) ∉ (l.take i).drop 1) (fun i => [(0, str l), (5, .int .i64 i)]) (fun i => s) 1 ⟨Nat.le_refl _, Nat.succ_le_succ (Nat.zero_le _), by cases l <;> simp⟩ (Wk.same ⟨rfl, rfl, trivial⟩) ?_)
  intro i ⟨h0, h1, h2⟩
  (repeat(first|refine pSeq ?_|refine pReg ?_|refine sCons ?_|refine sNil ?_|refine rCons ?_|refine rNil ?_|refine kNo ?_|refine pRow ?_|refine pBlock ?_|refine pSkip ?_|refine pExit ?_|refine pRet ?_|refine pCond ?_|refine gNone ?_))
  intro n hn
  (repeat(first|refine pSeq ?_|refine pReg ?_|refine sCons ?_|refine sNil ?_|refine rCons ?_|refine rNil ?_|refine kNo ?_|refine pRow ?_|refine pBlock ?_|refine pSkip ?_|refine pExit ?_|refine pRet ?_|refine pCond ?_|refine gNone ?_))
  intro q hq
  by_cases hlt : i < l.length
  · obtain rfl : q = true := by rw [hq]; simp <;> omega
    obtain ⟨c, hc⟩ : ∃ c, l[i]? = some c := ⟨_, List.getElem?_eq_getElem hlt⟩
    (repeat(first|refine pSeq ?_|refine pReg ?_|refine sCons ?_|refine sNil ?_|refine rCons ?_|refine rNil ?_|refine kNo ?_|refine pRow ?_|refine pBlock ?_|refine pSkip ?_|refine pExit ?_|refine pRet ?_|refine pCond ?_|refine gNone ?_))
    refine ⟨by omega, ?_⟩
    intro m hm
    obtain rfl : m = i := by omega
    refine ⟨c, hc, ?_⟩
    (repeat(first|refine pSeq ?_|refine pReg ?_|refine sCons ?_|refine sNil ?_|refine rCons ?_|refine rNil ?_|refine kNo ?_|refine pRow ?_|refine pBlock ?_|refine pSkip ?_|refine pExit ?_|refine pRet ?_|refine pCond ?_|refine gNone ?_))
    intro q hq
    by_cases h43 : c = 43
    · obtain rfl : q = true := by rw [hq, h43]; rfl
      rw [sp_at h0 (by rw [hc, h43]) h2]
      (repeat(first|refine pSeq ?_|refine pReg ?_|refine sCons ?_|refine sNil ?_|refine rCons ?_|refine rNil ?_|refine kNo ?_|refine pRow ?_|refine pBlock ?_|refine pSkip ?_|refine pExit ?_|refine pRet ?_|refine pCond ?_|refine gNone ?_))
      refine ⟨by omega, ?_⟩
      intro m2 hm2 a ha
      obtain rfl : m2 = m := by omega
      rw [List.drop_zero, Nat.sub_zero] at ha
      subst ha
      (repeat(first|refine pSeq ?_|refine pReg ?_|refine sCons ?_|refine sNil ?_|refine rCons ?_|refine rNil ?_|refine kNo ?_|refine pRow ?_|refine pBlock ?_|refine pSkip ?_|refine pExit ?_|refine pRet ?_|refine pCond ?_|refine gNone ?_))
      intro z hz
      rw [i64_id (by omega)] at hz
      (repeat(first|refine pSeq ?_|refine pReg ?_|refine sCons ?_|refine sNil ?_|refine rCons ?_|refine rNil ?_|refine kNo ?_|refine pRow ?_|refine pBlock ?_|refine pSkip ?_|refine pExit ?_|refine pRet ?_|refine pCond ?_|refine gNone ?_))
      refine ⟨by omega, ?_⟩
      intro m3 hm3 b hb
      obtain rfl : m3 = m2 + 1 := by omega
      rw [List.take_of_length_le (by simp)] at hb
      subst hb
      (repeat(first|refine pSeq ?_|refine pReg ?_|refine sCons ?_|refine sNil ?_|refine rCons ?_|refine rNil ?_|refine kNo ?_|refine pRow ?_|refine pBlock ?_|refine pSkip ?_|refine pExit ?_|refine pRet ?_|refine pCond ?_|refine gNone ?_))
      exact ⟨rfl, rfl⟩
    · have c43 : c.toNat ≠ 43 := byte_ne h43
      obtain rfl : q = false := by rw [hq]; simp; omega
      (repeat(first|refine pSeq ?_|refine pReg ?_|refine sCons ?_|refine sNil ?_|refine rCons ?_|refine rNil ?_|refine kNo ?_|refine pRow ?_|refine pBlock ?_|refine pSkip ?_|refine pExit ?_|refine pRet ?_|refine pCond ?_|refine gNone ?_))
      intro z hz
      rw [i64_id (by omega)] at hz
      obtain rfl : z = ((m + 1 : Nat) : Int) := by omega
      (repeat(first|refine pSeq ?_|refine pReg ?_|refine sCons ?_|refine sNil ?_|refine rCons ?_|refine rNil ?_|refine kNo ?_|refine pRow ?_|refine pBlock ?_|refine pSkip ?_|refine pExit ?_|refine pRet ?_|refine pCond ?_|refine gNone ?_))
      exact ⟨m + 1, ⟨by omega, by omega, plus_next hc h2 (.inl h43)⟩, by show l.length + 1 - (m + 1) < l.length + 1 - m; omega, Wk.same ⟨rfl, rfl, trivial⟩⟩
  · obtain rfl : q = false := by rw [hq]; simp <;> omega
    rw [List.take_of_length_le (by omega)] at h2
    rw [sp_end h2]
    (repeat(first|refine pSeq ?_|refine pReg ?_|refine sCons ?_|refine sNil ?_|refine rCons ?_|refine rNil ?_|refine kNo ?_|refine pRow ?_|refine pBlock ?_|refine pSkip ?_|refine pExit ?_|refine pRet ?_|refine pCond ?_|refine gNone ?_))
    exact ⟨rfl, rfl⟩

set_option maxHeartbeats 1000000 in
theorem rparse_w {s : SS} {l : List UInt8} (hl : l.length ≤ 1000000) : CallW pr n_ref05_Parse [str l] s fun v s' => v = .tuple ⟨[adV (parseF l).1 (parseF l).2.1, .int .i64 (parseF l).2.2]⟩ ∧ Chg s s' [] := by
  refine CallW.run good ok_ref05_Parse (by simp) rfl ?_
  (repeat(first|refine pSeq ?_|refine pReg ?_|refine sCons ?_|refine sNil ?_|refine pBlock ?_|refine pSkip ?_|refine pExit ?_|refine pRet ?_|refine pCond ?_|refine gNone ?_|refine gOn rfl ?_|refine gOff rfl rfl ?_|refine gTup rfl ?_))
  have c0 : Chg s { s with heap := (s.next, some (.cells [str [], str []] tRf false false)) :: s.heap, next := s.next + 1 } [] := .new _
  have hk : lookH ((s.next, some (.cells [str [], str []] tRf false false)) :: s.heap) s.next = some (.cells [str [], str []] tRf false false) := lkH
  have hlt0 : s.next < s.next + 1 := Nat.lt_succ_self _
  intro n hn
  (repeat(first|refine pSeq ?_|refine pReg ?_|refine sCons ?_|refine sNil ?_|refine pBlock ?_|refine pSkip ?_|refine pExit ?_|refine pRet ?_|refine pCond ?_|refine gNone ?_|refine gOn rfl ?_|refine gOff rfl rfl ?_|refine gTup rfl ?_))
  intro q hq
  by_cases h0 : 0 < l.length
  · obtain rfl : q = true := by rw [hq]; simp <;> omega
    obtain ⟨c, hc⟩ : ∃ c, l[0]? = some c := ⟨_, List.getElem?_eq_getElem h0⟩
    (repeat(first|refine pSeq ?_|refine pReg ?_|refine sCons ?_|refine sNil ?_|refine pBlock ?_|refine pSkip ?_|refine pExit ?_|refine pRet ?_|refine pCond ?_|refine gNone ?_|refine gOn rfl ?_|refine gOff rfl rfl ?_|refine gTup rfl ?_))
    refine ⟨by omega, ?_⟩
    intro m hm
    obtain rfl : m = 0 := by omega
    refine ⟨c, hc, ?_⟩
    (repeat(first|refine pSeq ?_|refine pReg ?_|refine sCons ?_|refine sNil ?_|refine pBlock ?_|refine pSkip ?_|refine pExit ?_|refine pRet ?_|refine pCond ?_|refine gNone ?_|refine gOn rfl ?_|refine gOff rfl rfl ?_|refine gTup rfl ?_))
    intro q hq
    by_cases h34 : c = 34
    · obtain rfl : q = true := by rw [hq, h34]; rfl
      have eP : partsF l = ((quotedF l).1, atRest (l.drop (quotedF l).2.1), decide ((l.drop (quotedF l).2.1).take 1 = [64] ∧ (quotedF l).2.2 = 0 ∧ (quotedF l).1 ≠ [])) := by unfold partsF; rw [if_pos ((first_iff hc).2 h34)]
      have hat := quoted_len l
      have hww := quoted_short l
      (repeat(first|refine pSeq ?_|refine pReg ?_|refine sCons ?_|refine sNil ?_|refine pBlock ?_|refine pSkip ?_|refine pExit ?_|refine pRet ?_|refine pCond ?_|refine gNone ?_|refine gOn rfl ?_|refine gOff rfl rfl ?_|refine gTup rfl ?_))
      refine (rquoted_w hl).mono fun v s2 q => ?_
      obtain ⟨rfl, rfl⟩ := q
      dsimp only [qRes]
      generalize (quotedF l).1 = w at *
      generalize (quotedF l).2.1 = at_ at *
      generalize (quotedF l).2.2 = e at *
      (repeat(first|refine pSeq ?_|refine pReg ?_|refine sCons ?_|refine sNil ?_|refine pBlock ?_|refine pSkip ?_|refine pExit ?_|refine pRet ?_|refine pCond ?_|refine gNone ?_|refine gOn rfl ?_|refine gOff rfl rfl ?_|refine gTup rfl ?_))
      intro q hq
      by_cases he : e = 0
      · subst he
        obtain rfl : q = false := by rw [hq]; rfl
        (repeat(first|refine pSeq ?_|refine pReg ?_|refine sCons ?_|refine sNil ?_|refine pBlock ?_|refine pSkip ?_|refine pExit ?_|refine pRet ?_|refine pCond ?_|refine gNone ?_|refine gOn rfl ?_|refine gOff rfl rfl ?_|refine gTup rfl ?_))
        intro q hq
        by_cases hwe : w = []
        · obtain rfl : q = true := by rw [hq]; simp [hwe]
          rw [parse_no (by rw [eP]; simp [hwe])]
          (repeat(first|refine pSeq ?_|refine pReg ?_|refine sCons ?_|refine sNil ?_|refine pBlock ?_|refine pSkip ?_|refine pExit ?_|refine pRet ?_|refine pCond ?_|refine gNone ?_|refine gOn rfl ?_|refine gOff rfl rfl ?_|refine gTup rfl ?_))
          refine st_abs (cs' := [str [], str []]) rfl rfl hk hlt0 rfl rfl fun s2 e2 c2 n2 => ?_
          (repeat(first|refine pSeq ?_|refine pReg ?_|refine sCons ?_|refine sNil ?_|refine pBlock ?_|refine pSkip ?_|refine pExit ?_|refine pRet ?_|refine pCond ?_|refine gNone ?_|refine gOn rfl ?_|refine gOff rfl rfl ?_|refine gTup rfl ?_))
          (repeat (first | with_reducible refine sqRet ?_ | with_reducible refine bkRet ?_ | with_reducible refine hdRet ?_))
          exact ret_cell agg_Rf sz_Rf rfl e2 agg2 rfl ⟨rfl, c0.fresh c2 (by simp)⟩
        · obtain rfl : q = false := by rw [hq]; simp [hwe]
          have h6 : l[at_]? = some 64 → partsF l = (w, l.drop (at_ + 1), true) := fun hc => by
            rw [eP]
            have : (l.drop at_).take 1 = [64] := by rw [drop_next hc]; rfl
            unfold atRest
            rw [if_pos this, List.drop_drop]
            simp [this, hwe]
          have h5 : (∀ c, l[at_]? = some c → c ≠ 64) → (partsF l).2.2 = false := fun hc => by
            rw [eP]
            have : ¬(l.drop at_).take 1 = [64] := fun q => by
              cases hd : l[at_]? with
              | none =>
                rw [List.drop_of_length_le (List.getElem?_eq_none_iff.1 hd)] at q
                cases q
              | some d =>
                rw [drop_next hd] at q
                simp at q
                exact hc d hd q
            simp [this]
          (repeat(first|refine pSeq ?_|refine pReg ?_|refine sCons ?_|refine sNil ?_|refine pBlock ?_|refine pSkip ?_|refine pExit ?_|refine pRet ?_|refine pCond ?_|refine gNone ?_|refine gOn rfl ?_|refine gOff rfl rfl ?_|refine gTup rfl ?_))
          (repeat(first|refine pSeq ?_|refine pReg ?_|refine sCons ?_|refine sNil ?_|refine pBlock ?_|refine pSkip ?_|refine pExit ?_|refine pRet ?_|refine pCond ?_|refine gNone ?_|refine gOn rfl ?_|refine gOff rfl rfl ?_|refine gTup rfl ?_))
          intro n1 hn1
          (repeat(first|refine pSeq ?_|refine pReg ?_|refine sCons ?_|refine sNil ?_|refine pBlock ?_|refine pSkip ?_|refine pExit ?_|refine pRet ?_|refine pCond ?_|refine gNone ?_|refine gOn rfl ?_|refine gOff rfl rfl ?_|refine gTup rfl ?_))
          intro q hq
          by_cases hlt : at_ < l.length
          · obtain rfl : q = false := by rw [hq]; simp <;> omega
            obtain ⟨c, hc⟩ : ∃ c, l[at_]? = some c := ⟨_, List.getElem?_eq_getElem hlt⟩
            (repeat(first|refine pSeq ?_|refine pReg ?_|refine sCons ?_|refine sNil ?_|refine pBlock ?_|refine pSkip ?_|refine pExit ?_|refine pRet ?_|refine pCond ?_|refine gNone ?_|refine gOn rfl ?_|refine gOff rfl rfl ?_|refine gTup rfl ?_))
            refine ⟨by omega, ?_⟩
            intro m hm
            obtain rfl : m = at_ := by omega
            refine ⟨c, hc, ?_⟩
            (repeat(first|refine pSeq ?_|refine pReg ?_|refine sCons ?_|refine sNil ?_|refine pBlock ?_|refine pSkip ?_|refine pExit ?_|refine pRet ?_|refine pCond ?_|refine gNone ?_|refine gOn rfl ?_|refine gOff rfl rfl ?_|refine gTup rfl ?_))
            intro q hq
            by_cases h64 : c = 64
            · obtain rfl : q = false := by rw [hq, h64]; rfl
              have hP := h6 (by rw [hc, h64])
              have eF : parseF l = if domF (l.drop (m + 1)) ≠ 0 then ([], [], domF (l.drop (m + 1))) else if 64 < w.length then ([], [], 3) else (w, l.drop (m + 1), 0) := by
                unfold parseF
                rw [hP, if_neg (by simp)]
              rw [eF]
              (repeat(first|refine pSeq ?_|refine pReg ?_|refine sCons ?_|refine sNil ?_|refine pBlock ?_|refine pSkip ?_|refine pExit ?_|refine pRet ?_|refine pCond ?_|refine gNone ?_|refine gOn rfl ?_|refine gOff rfl rfl ?_|refine gTup rfl ?_))
              intro z hz
              rw [i64_id (by omega)] at hz
              (repeat(first|refine pSeq ?_|refine pReg ?_|refine sCons ?_|refine sNil ?_|refine pBlock ?_|refine pSkip ?_|refine pExit ?_|refine pRet ?_|refine pCond ?_|refine gNone ?_|refine gOn rfl ?_|refine gOff rfl rfl ?_|refine gTup rfl ?_))
              refine ⟨by omega, ?_⟩
              intro m2 hm2 r hr
              obtain rfl : m2 = m + 1 := by omega
              rw [List.take_of_length_le (by simp)] at hr
              subst hr
              have hdl : (l.drop (m + 1)).length ≤ 1000000 := by rw [List.length_drop]; omega
              (repeat(first|refine pSeq ?_|refine pReg ?_|refine sCons ?_|refine sNil ?_|refine pBlock ?_|refine pSkip ?_|refine pExit ?_|refine pRet ?_|refine pCond ?_|refine gNone ?_|refine gOn rfl ?_|refine gOff rfl rfl ?_|refine gTup rfl ?_))
              refine (rdomain_w hdl).mono fun v s1 q => ?_
              obtain ⟨rfl, c1⟩ := q
              have hk1 := c1.blk _ _ hlt0 (by simp) hk
              have hlt1 : s.next < s1.next := Nat.lt_of_lt_of_le hlt0 c1.next
              have cc1 : Chg s s1 [] := c0.nil c1
              have hv := dom_vals (l.drop (m + 1))
              (repeat(first|refine pSeq ?_|refine pReg ?_|refine sCons ?_|refine sNil ?_|refine pBlock ?_|refine pSkip ?_|refine pExit ?_|refine pRet ?_|refine pCond ?_|refine gNone ?_|refine gOn rfl ?_|refine gOff rfl rfl ?_|refine gTup rfl ?_))
              intro q hq
              by_cases d5 : domF (l.drop (m + 1)) = 5
              · obtain rfl : q = true := by rw [hq, d5]; rfl
                rw [if_pos (by omega), d5]
                (repeat(first|refine pSeq ?_|refine pReg ?_|refine sCons ?_|refine sNil ?_|refine pBlock ?_|refine pSkip ?_|refine pExit ?_|refine pRet ?_|refine pCond ?_|refine gNone ?_|refine gOn rfl ?_|refine gOff rfl rfl ?_|refine gTup rfl ?_))
                refine st_abs (cs' := [str [], str []]) rfl rfl hk1 hlt1 rfl rfl fun s2 e2 c2 n2 => ?_
                (repeat(first|refine pSeq ?_|refine pReg ?_|refine sCons ?_|refine sNil ?_|refine pBlock ?_|refine pSkip ?_|refine pExit ?_|refine pRet ?_|refine pCond ?_|refine gNone ?_|refine gOn rfl ?_|refine gOff rfl rfl ?_|refine gTup rfl ?_))
                (repeat (first | with_reducible refine sqRet ?_ | with_reducible refine bkRet ?_ | with_reducible refine hdRet ?_))
                exact ret_cell agg_Rf sz_Rf rfl e2 agg2 rfl ⟨rfl, cc1.fresh c2 (by simp)⟩
              · obtain rfl : q = false := by rw [hq]; simp; omega
                (repeat(first|refine pSeq ?_|refine pReg ?_|refine sCons ?_|refine sNil ?_|refine pBlock ?_|refine pSkip ?_|refine pExit ?_|refine pRet ?_|refine pCond ?_|refine gNone ?_|refine gOn rfl ?_|refine gOff rfl rfl ?_|refine gTup rfl ?_))
                intro q hq
                by_cases d3 : domF (l.drop (m + 1)) = 3
                · obtain rfl : q = true := by rw [hq, d3]; rfl
                  rw [if_pos (by omega), d3]
                  (repeat(first|refine pSeq ?_|refine pReg ?_|refine sCons ?_|refine sNil ?_|refine pBlock ?_|refine pSkip ?_|refine pExit ?_|refine pRet ?_|refine pCond ?_|refine gNone ?_|refine gOn rfl ?_|refine gOff rfl rfl ?_|refine gTup rfl ?_))
                  refine st_abs (cs' := [str [], str []]) rfl rfl hk1 hlt1 rfl rfl fun s2 e2 c2 n2 => ?_
                  (repeat(first|refine pSeq ?_|refine pReg ?_|refine sCons ?_|refine sNil ?_|refine pBlock ?_|refine pSkip ?_|refine pExit ?_|refine pRet ?_|refine pCond ?_|refine gNone ?_|refine gOn rfl ?_|refine gOff rfl rfl ?_|refine gTup rfl ?_))
                  (repeat (first | with_reducible refine sqRet ?_ | with_reducible refine bkRet ?_ | with_reducible refine hdRet ?_))
                  exact ret_cell agg_Rf sz_Rf rfl e2 agg2 rfl ⟨rfl, cc1.fresh c2 (by simp)⟩
                · obtain rfl : q = false := by rw [hq]; simp; omega
                  rw [if_neg (by omega)]
                  (repeat(first|refine pSeq ?_|refine pReg ?_|refine sCons ?_|refine sNil ?_|refine pBlock ?_|refine pSkip ?_|refine pExit ?_|refine pRet ?_|refine pCond ?_|refine gNone ?_|refine gOn rfl ?_|refine gOff rfl rfl ?_|refine gTup rfl ?_))
                  intro n2 hn2
                  (repeat(first|refine pSeq ?_|refine pReg ?_|refine sCons ?_|refine sNil ?_|refine pBlock ?_|refine pSkip ?_|refine pExit ?_|refine pRet ?_|refine pCond ?_|refine gNone ?_|refine gOn rfl ?_|refine gOff rfl rfl ?_|refine gTup rfl ?_))
                  intro q hq
                  by_cases hw : 64 < w.length
                  · obtain rfl : q = true := by rw [hq]; simp <;> omega
                    rw [if_pos hw]
                    (repeat(first|refine pSeq ?_|refine pReg ?_|refine sCons ?_|refine sNil ?_|refine pBlock ?_|refine pSkip ?_|refine pExit ?_|refine pRet ?_|refine pCond ?_|refine gNone ?_|refine gOn rfl ?_|refine gOff rfl rfl ?_|refine gTup rfl ?_))
                    refine st_abs (cs' := [str [], str []]) rfl rfl hk1 hlt1 rfl rfl fun s2 e2 c2 n2 => ?_
                    (repeat(first|refine pSeq ?_|refine pReg ?_|refine sCons ?_|refine sNil ?_|refine pBlock ?_|refine pSkip ?_|refine pExit ?_|refine pRet ?_|refine pCond ?_|refine gNone ?_|refine gOn rfl ?_|refine gOff rfl rfl ?_|refine gTup rfl ?_))
                    (repeat (first | with_reducible refine sqRet ?_ | with_reducible refine bkRet ?_ | with_reducible refine hdRet ?_))
                    exact ret_cell agg_Rf sz_Rf rfl e2 agg2 rfl ⟨rfl, cc1.fresh c2 (by simp)⟩
                  · obtain rfl : q = false := by rw [hq]; simp <;> omega
                    rw [if_neg hw]
                    (repeat(first|refine pSeq ?_|refine pReg ?_|refine sCons ?_|refine sNil ?_|refine pBlock ?_|refine pSkip ?_|refine pExit ?_|refine pRet ?_|refine pCond ?_|refine gNone ?_|refine gOn rfl ?_|refine gOff rfl rfl ?_|refine gTup rfl ?_))
                    intro z hz
                    rw [i64_id (by omega)] at hz
                    (repeat(first|refine pSeq ?_|refine pReg ?_|refine sCons ?_|refine sNil ?_|refine pBlock ?_|refine pSkip ?_|refine pExit ?_|refine pRet ?_|refine pCond ?_|refine gNone ?_|refine gOn rfl ?_|refine gOff rfl rfl ?_|refine gTup rfl ?_))
                    refine ⟨by omega, ?_⟩
                    intro m2 hm2 r hr
                    obtain rfl : m2 = m + 1 := by omega
                    rw [List.take_of_length_le (by simp)] at hr
                    subst hr
                    (repeat(first|refine pSeq ?_|refine pReg ?_|refine sCons ?_|refine sNil ?_|refine pBlock ?_|refine pSkip ?_|refine pExit ?_|refine pRet ?_|refine pCond ?_|refine gNone ?_|refine gOn rfl ?_|refine gOff rfl rfl ?_|refine gTup rfl ?_))
                    refine st_abs (cs' := [str w, str (l.drop (m + 1))]) rfl rfl hk1 hlt1 rfl rfl fun s2 e2 c2 n2 => ?_
                    (repeat(first|refine pSeq ?_|refine pReg ?_|refine sCons ?_|refine sNil ?_|refine pBlock ?_|refine pSkip ?_|refine pExit ?_|refine pRet ?_|refine pCond ?_|refine gNone ?_|refine gOn rfl ?_|refine gOff rfl rfl ?_|refine gTup rfl ?_))
                    (repeat (first | with_reducible refine sqRet ?_ | with_reducible refine bkRet ?_ | with_reducible refine hdRet ?_))
                    exact ret_cell agg_Rf sz_Rf rfl e2 agg2 rfl ⟨rfl, cc1.fresh c2 (by simp)⟩
            · have c64 : c.toNat ≠ 64 := byte_ne h64
              obtain rfl : q = true := by rw [hq]; simp; omega
              rw [parse_no (h5 fun d hd => by rw [hc] at hd; cases hd; exact h64)]
              (repeat(first|refine pSeq ?_|refine pReg ?_|refine sCons ?_|refine sNil ?_|refine pBlock ?_|refine pSkip ?_|refine pExit ?_|refine pRet ?_|refine pCond ?_|refine gNone ?_|refine gOn rfl ?_|refine gOff rfl rfl ?_|refine gTup rfl ?_))
              refine st_abs (cs' := [str [], str []]) rfl rfl hk hlt0 rfl rfl fun s2 e2 c2 n2 => ?_
              (repeat(first|refine pSeq ?_|refine pReg ?_|refine sCons ?_|refine sNil ?_|refine pBlock ?_|refine pSkip ?_|refine pExit ?_|refine pRet ?_|refine pCond ?_|refine gNone ?_|refine gOn rfl ?_|refine gOff rfl rfl ?_|refine gTup rfl ?_))
              (repeat (first | with_reducible refine sqRet ?_ | with_reducible refine bkRet ?_ | with_reducible refine hdRet ?_))
              exact ret_cell agg_Rf sz_Rf rfl e2 agg2 rfl ⟨rfl, c0.fresh c2 (by simp)⟩
          · obtain rfl : q = true := by rw [hq]; simp <;> omega
            rw [parse_no (h5 fun d hd => absurd (lt_of_get hd) hlt)]
            (repeat(first|refine pSeq ?_|refine pReg ?_|refine sCons ?_|refine sNil ?_|refine pBlock ?_|refine pSkip ?_|refine pExit ?_|refine pRet ?_|refine pCond ?_|refine gNone ?_|refine gOn rfl ?_|refine gOff rfl rfl ?_|refine gTup rfl ?_))
            refine st_abs (cs' := [str [], str []]) rfl rfl hk hlt0 rfl rfl fun s2 e2 c2 n2 => ?_
            (repeat(first|refine pSeq ?_|refine pReg ?_|refine sCons ?_|refine sNil ?_|refine pBlock ?_|refine pSkip ?_|refine pExit ?_|refine pRet ?_|refine pCond ?_|refine gNone ?_|refine gOn rfl ?_|refine gOff rfl rfl ?_|refine gTup rfl ?_))
            (repeat (first | with_reducible refine sqRet ?_ | with_reducible refine bkRet ?_ | with_reducible refine hdRet ?_))
            exact ret_cell agg_Rf sz_Rf rfl e2 agg2 rfl ⟨rfl, c0.fresh c2 (by simp)⟩
      · obtain rfl : q = true := by rw [hq]; simp; omega
        rw [parse_no (by rw [eP]; simp [he])]
        (repeat(first|refine pSeq ?_|refine pReg ?_|refine sCons ?_|refine sNil ?_|refine pBlock ?_|refine pSkip ?_|refine pExit ?_|refine pRet ?_|refine pCond ?_|refine gNone ?_|refine gOn rfl ?_|refine gOff rfl rfl ?_|refine gTup rfl ?_))
        refine st_abs (cs' := [str [], str []]) rfl rfl hk hlt0 rfl rfl fun s2 e2 c2 n2 => ?_
        (repeat(first|refine pSeq ?_|refine pReg ?_|refine sCons ?_|refine sNil ?_|refine pBlock ?_|refine pSkip ?_|refine pExit ?_|refine pRet ?_|refine pCond ?_|refine gNone ?_|refine gOn rfl ?_|refine gOff rfl rfl ?_|refine gTup rfl ?_))
        (repeat (first | with_reducible refine sqRet ?_ | with_reducible refine bkRet ?_ | with_reducible refine hdRet ?_))
        exact ret_cell agg_Rf sz_Rf rfl e2 agg2 rfl ⟨rfl, c0.fresh c2 (by simp)⟩
    · have c34 : c.toNat ≠ 34 := byte_ne h34
      obtain rfl : q = false := by rw [hq]; simp; omega
      have hpf : partsF l = ((cutF 64 l).1, (cutF 64 l).2.1, (cutF 64 l).2.2 && dotF (cutF 64 l).1) := by unfold partsF; rw [if_neg fun q => h34 ((first_iff hc).1 q)]
      clear hc
      (repeat(first|refine pSeq ?_|refine pReg ?_|refine sCons ?_|refine sNil ?_|refine pBlock ?_|refine pSkip ?_|refine pExit ?_|refine pRet ?_|refine pCond ?_|refine gNone ?_|refine gOn rfl ?_|refine gOff rfl rfl ?_|refine gTup rfl ?_))
      refine pLoop (MW.head good (fun i : Nat => l.length + 1 - i) (fun i => i ≤ l.length ∧ (64 : UInt8) ∉ l.take i) (fun i => [(0, str l), (2, .pointer (some ⟨s.next, 0, none⟩)), (5, .int .i64 i)]) (fun i => { s with heap := (s.next, some (.cells [str [], str []] tRf false false)) :: s.heap, next := s.next + 1 }) 0 ⟨Nat.zero_le _, by simp⟩ (Wk.same ⟨rfl, rfl, rfl, trivial⟩) ?_)
      intro i ⟨h1, h2⟩
      (repeat(first|refine pSeq ?_|refine pReg ?_|refine sCons ?_|refine sNil ?_|refine pBlock ?_|refine pSkip ?_|refine pExit ?_|refine pRet ?_|refine pCond ?_|refine gNone ?_|refine gOn rfl ?_|refine gOff rfl rfl ?_|refine gTup rfl ?_))
      intro n1 hn1
      (repeat(first|refine pSeq ?_|refine pReg ?_|refine sCons ?_|refine sNil ?_|refine pBlock ?_|refine pSkip ?_|refine pExit ?_|refine pRet ?_|refine pCond ?_|refine gNone ?_|refine gOn rfl ?_|refine gOff rfl rfl ?_|refine gTup rfl ?_))
      intro q hq
      by_cases hlt : i < l.length
      · obtain rfl : q = true := by rw [hq]; simp <;> omega
        obtain ⟨c, hc⟩ : ∃ c, l[i]? = some c := ⟨_, List.getElem?_eq_getElem hlt⟩
        (repeat(first|refine pSeq ?_|refine pReg ?_|refine sCons ?_|refine sNil ?_|refine pBlock ?_|refine pSkip ?_|refine pExit ?_|refine pRet ?_|refine pCond ?_|refine gNone ?_|refine gOn rfl ?_|refine gOff rfl rfl ?_|refine gTup rfl ?_))
        refine ⟨by omega, ?_⟩
        intro m hm
        obtain rfl : m = i := by omega
        refine ⟨c, hc, ?_⟩
        (repeat(first|refine pSeq ?_|refine pReg ?_|refine sCons ?_|refine sNil ?_|refine pBlock ?_|refine pSkip ?_|refine pExit ?_|refine pRet ?_|refine pCond ?_|refine gNone ?_|refine gOn rfl ?_|refine gOff rfl rfl ?_|refine gTup rfl ?_))
        intro q hq
        by_cases h64 : c = 64
        · obtain rfl : q = false := by rw [hq, h64]; rfl
          have hcut : cutF 64 l = (l.take m, l.drop (m + 1), true) := by
            have e : l = l.take m ++ 64 :: l.drop (m + 1) := by
              conv => lhs; rw [← List.take_append_drop m l, drop_next hc, h64]
            have e1 : l.takeWhile (· != 64) = l.take m := by
              conv => lhs; rw [e]
              exact while_first h2
            unfold cutF
            rw [if_pos (by rw [← h64]; exact List.mem_of_getElem? hc), e1, List.length_take, Nat.min_eq_left (by omega)]
          rw [hcut] at hpf
          have hww : (l.take m).length ≤ l.length := by rw [List.length_take]; omega
          (repeat(first|refine pSeq ?_|refine pReg ?_|refine sCons ?_|refine sNil ?_|refine pBlock ?_|refine pSkip ?_|refine pExit ?_|refine pRet ?_|refine pCond ?_|refine gNone ?_|refine gOn rfl ?_|refine gOff rfl rfl ?_|refine gTup rfl ?_))
          refine ⟨by omega, ?_⟩
          intro m1 hm1 w hw0
          obtain rfl : m1 = m := by omega
          rw [List.drop_zero, Nat.sub_zero] at hw0
          rw [← hw0] at hpf hww
          clear hw0
          (repeat(first|refine pSeq ?_|refine pReg ?_|refine sCons ?_|refine sNil ?_|refine pBlock ?_|refine pSkip ?_|refine pExit ?_|refine pRet ?_|refine pCond ?_|refine gNone ?_|refine gOn rfl ?_|refine gOff rfl rfl ?_|refine gTup rfl ?_))
          refine (rdotatom_w (by omega)).mono fun v s2 q => ?_
          obtain ⟨rfl, rfl⟩ := q
          cases hdot : dotF w with
          | true =>
            have hP : partsF l = (w, l.drop (m1 + 1), true) := by rw [hpf, hdot]; rfl
            (repeat(first|refine pSeq ?_|refine pReg ?_|refine sCons ?_|refine sNil ?_|refine pBlock ?_|refine pSkip ?_|refine pExit ?_|refine pRet ?_|refine pCond ?_|refine gNone ?_|refine gOn rfl ?_|refine gOff rfl rfl ?_|refine gTup rfl ?_))
            intro q hq; obtain rfl : q = false := (by rw [hq]; simp <;> omega); (repeat(first|refine pSeq ?_|refine pReg ?_|refine sCons ?_|refine sNil ?_|refine pBlock ?_|refine pSkip ?_|refine pExit ?_|refine pRet ?_|refine pCond ?_|refine gNone ?_|refine gOn rfl ?_|refine gOff rfl rfl ?_|refine gTup rfl ?_))
            intro n3 hn3
            (repeat(first|refine pSeq ?_|refine pReg ?_|refine sCons ?_|refine sNil ?_|refine pBlock ?_|refine pSkip ?_|refine pExit ?_|refine pRet ?_|refine pCond ?_|refine gNone ?_|refine gOn rfl ?_|refine gOff rfl rfl ?_|refine gTup rfl ?_))
            intro q hq; obtain rfl : q = false := (by rw [hq]; simp <;> omega); (repeat(first|refine pSeq ?_|refine pReg ?_|refine sCons ?_|refine sNil ?_|refine pBlock ?_|refine pSkip ?_|refine pExit ?_|refine pRet ?_|refine pCond ?_|refine gNone ?_|refine gOn rfl ?_|refine gOff rfl rfl ?_|refine gTup rfl ?_))
            refine ⟨by omega, ?_⟩
            intro m hm
            obtain rfl : m = m1 := by omega
            refine ⟨c, hc, ?_⟩
            (repeat(first|refine pSeq ?_|refine pReg ?_|refine sCons ?_|refine sNil ?_|refine pBlock ?_|refine pSkip ?_|refine pExit ?_|refine pRet ?_|refine pCond ?_|refine gNone ?_|refine gOn rfl ?_|refine gOff rfl rfl ?_|refine gTup rfl ?_))
            intro q hq
            obtain rfl : q = false := by rw [hq, h64]; rfl
            have eF : parseF l = if domF (l.drop (m + 1)) ≠ 0 then ([], [], domF (l.drop (m + 1))) else if 64 < w.length then ([], [], 3) else (w, l.drop (m + 1), 0) := by
              unfold parseF
              rw [hP, if_neg (by simp)]
            rw [eF]
            (repeat(first|refine pSeq ?_|refine pReg ?_|refine sCons ?_|refine sNil ?_|refine pBlock ?_|refine pSkip ?_|refine pExit ?_|refine pRet ?_|refine pCond ?_|refine gNone ?_|refine gOn rfl ?_|refine gOff rfl rfl ?_|refine gTup rfl ?_))
            intro z hz
            rw [i64_id (by omega)] at hz
            (repeat(first|refine pSeq ?_|refine pReg ?_|refine sCons ?_|refine sNil ?_|refine pBlock ?_|refine pSkip ?_|refine pExit ?_|refine pRet ?_|refine pCond ?_|refine gNone ?_|refine gOn rfl ?_|refine gOff rfl rfl ?_|refine gTup rfl ?_))
            refine ⟨by omega, ?_⟩
            intro m2 hm2 r hr
            obtain rfl : m2 = m + 1 := by omega
            rw [List.take_of_length_le (by simp)] at hr
            subst hr
            have hdl : (l.drop (m + 1)).length ≤ 1000000 := by rw [List.length_drop]; omega
            (repeat(first|refine pSeq ?_|refine pReg ?_|refine sCons ?_|refine sNil ?_|refine pBlock ?_|refine pSkip ?_|refine pExit ?_|refine pRet ?_|refine pCond ?_|refine gNone ?_|refine gOn rfl ?_|refine gOff rfl rfl ?_|refine gTup rfl ?_))
            refine (rdomain_w hdl).mono fun v s1 q => ?_
            obtain ⟨rfl, c1⟩ := q
            have hk1 := c1.blk _ _ hlt0 (by simp) hk
            have hlt1 : s.next < s1.next := Nat.lt_of_lt_of_le hlt0 c1.next
            have cc1 : Chg s s1 [] := c0.nil c1
            have hv := dom_vals (l.drop (m + 1))
            (repeat(first|refine pSeq ?_|refine pReg ?_|refine sCons ?_|refine sNil ?_|refine pBlock ?_|refine pSkip ?_|refine pExit ?_|refine pRet ?_|refine pCond ?_|refine gNone ?_|refine gOn rfl ?_|refine gOff rfl rfl ?_|refine gTup rfl ?_))
            intro q hq
            by_cases d5 : domF (l.drop (m + 1)) = 5
            · obtain rfl : q = true := by rw [hq, d5]; rfl
              rw [if_pos (by omega), d5]
              (repeat(first|refine pSeq ?_|refine pReg ?_|refine sCons ?_|refine sNil ?_|refine pBlock ?_|refine pSkip ?_|refine pExit ?_|refine pRet ?_|refine pCond ?_|refine gNone ?_|refine gOn rfl ?_|refine gOff rfl rfl ?_|refine gTup rfl ?_))
              refine st_abs (cs' := [str [], str []]) rfl rfl hk1 hlt1 rfl rfl fun s2 e2 c2 n2 => ?_
              (repeat(first|refine pSeq ?_|refine pReg ?_|refine sCons ?_|refine sNil ?_|refine pBlock ?_|refine pSkip ?_|refine pExit ?_|refine pRet ?_|refine pCond ?_|refine gNone ?_|refine gOn rfl ?_|refine gOff rfl rfl ?_|refine gTup rfl ?_))
              (repeat (first | with_reducible refine sqRet ?_ | with_reducible refine bkRet ?_ | with_reducible refine hdRet ?_))
              exact ret_cell agg_Rf sz_Rf rfl e2 agg2 rfl ⟨rfl, cc1.fresh c2 (by simp)⟩
            · obtain rfl : q = false := by rw [hq]; simp; omega
              (repeat(first|refine pSeq ?_|refine pReg ?_|refine sCons ?_|refine sNil ?_|refine pBlock ?_|refine pSkip ?_|refine pExit ?_|refine pRet ?_|refine pCond ?_|refine gNone ?_|refine gOn rfl ?_|refine gOff rfl rfl ?_|refine gTup rfl ?_))
              intro q hq
              by_cases d3 : domF (l.drop (m + 1)) = 3
              · obtain rfl : q = true := by rw [hq, d3]; rfl
                rw [if_pos (by omega), d3]
                (repeat(first|refine pSeq ?_|refine pReg ?_|refine sCons ?_|refine sNil ?_|refine pBlock ?_|refine pSkip ?_|refine pExit ?_|refine pRet ?_|refine pCond ?_|refine gNone ?_|refine gOn rfl ?_|refine gOff rfl rfl ?_|refine gTup rfl ?_))
                refine st_abs (cs' := [str [], str []]) rfl rfl hk1 hlt1 rfl rfl fun s2 e2 c2 n2 => ?_
                (repeat(first|refine pSeq ?_|refine pReg ?_|refine sCons ?_|refine sNil ?_|refine pBlock ?_|refine pSkip ?_|refine pExit ?_|refine pRet ?_|refine pCond ?_|refine gNone ?_|refine gOn rfl ?_|refine gOff rfl rfl ?_|refine gTup rfl ?_))
                (repeat (first | with_reducible refine sqRet ?_ | with_reducible refine bkRet ?_ | with_reducible refine hdRet ?_))
                exact ret_cell agg_Rf sz_Rf rfl e2 agg2 rfl ⟨rfl, cc1.fresh c2 (by simp)⟩
              · obtain rfl : q = false := by rw [hq]; simp; omega
                rw [if_neg (by omega)]
                (repeat(first|refine pSeq ?_|refine pReg ?_|refine sCons ?_|refine sNil ?_|refine pBlock ?_|refine pSkip ?_|refine pExit ?_|refine pRet ?_|refine pCond ?_|refine gNone ?_|refine gOn rfl ?_|refine gOff rfl rfl ?_|refine gTup rfl ?_))
                intro n2 hn2
                (repeat(first|refine pSeq ?_|refine pReg ?_|refine sCons ?_|refine sNil ?_|refine pBlock ?_|refine pSkip ?_|refine pExit ?_|refine pRet ?_|refine pCond ?_|refine gNone ?_|refine gOn rfl ?_|refine gOff rfl rfl ?_|refine gTup rfl ?_))
                intro q hq
                by_cases hw : 64 < w.length
                · obtain rfl : q = true := by rw [hq]; simp <;> omega
                  rw [if_pos hw]
                  (repeat(first|refine pSeq ?_|refine pReg ?_|refine sCons ?_|refine sNil ?_|refine pBlock ?_|refine pSkip ?_|refine pExit ?_|refine pRet ?_|refine pCond ?_|refine gNone ?_|refine gOn rfl ?_|refine gOff rfl rfl ?_|refine gTup rfl ?_))
                  refine st_abs (cs' := [str [], str []]) rfl rfl hk1 hlt1 rfl rfl fun s2 e2 c2 n2 => ?_
                  (repeat(first|refine pSeq ?_|refine pReg ?_|refine sCons ?_|refine sNil ?_|refine pBlock ?_|refine pSkip ?_|refine pExit ?_|refine pRet ?_|refine pCond ?_|refine gNone ?_|refine gOn rfl ?_|refine gOff rfl rfl ?_|refine gTup rfl ?_))
                  (repeat (first | with_reducible refine sqRet ?_ | with_reducible refine bkRet ?_ | with_reducible refine hdRet ?_))
                  exact ret_cell agg_Rf sz_Rf rfl e2 agg2 rfl ⟨rfl, cc1.fresh c2 (by simp)⟩
                · obtain rfl : q = false := by rw [hq]; simp <;> omega
                  rw [if_neg hw]
                  (repeat(first|refine pSeq ?_|refine pReg ?_|refine sCons ?_|refine sNil ?_|refine pBlock ?_|refine pSkip ?_|refine pExit ?_|refine pRet ?_|refine pCond ?_|refine gNone ?_|refine gOn rfl ?_|refine gOff rfl rfl ?_|refine gTup rfl ?_))
                  intro z hz
                  rw [i64_id (by omega)] at hz
                  (repeat(first|refine pSeq ?_|refine pReg ?_|refine sCons ?_|refine sNil ?_|refine pBlock ?_|refine pSkip ?_|refine pExit ?_|refine pRet ?_|refine pCond ?_|refine gNone ?_|refine gOn rfl ?_|refine gOff rfl rfl ?_|refine gTup rfl ?_))
                  refine ⟨by omega, ?_⟩
                  intro m2 hm2 r hr
                  obtain rfl : m2 = m + 1 := by omega
                  rw [List.take_of_length_le (by simp)] at hr
                  subst hr
                  (repeat(first|refine pSeq ?_|refine pReg ?_|refine sCons ?_|refine sNil ?_|refine pBlock ?_|refine pSkip ?_|refine pExit ?_|refine pRet ?_|refine pCond ?_|refine gNone ?_|refine gOn rfl ?_|refine gOff rfl rfl ?_|refine gTup rfl ?_))
                  refine st_abs (cs' := [str w, str (l.drop (m + 1))]) rfl rfl hk1 hlt1 rfl rfl fun s2 e2 c2 n2 => ?_
                  (repeat(first|refine pSeq ?_|refine pReg ?_|refine sCons ?_|refine sNil ?_|refine pBlock ?_|refine pSkip ?_|refine pExit ?_|refine pRet ?_|refine pCond ?_|refine gNone ?_|refine gOn rfl ?_|refine gOff rfl rfl ?_|refine gTup rfl ?_))
                  (repeat (first | with_reducible refine sqRet ?_ | with_reducible refine bkRet ?_ | with_reducible refine hdRet ?_))
                  exact ret_cell agg_Rf sz_Rf rfl e2 agg2 rfl ⟨rfl, cc1.fresh c2 (by simp)⟩
          | false =>
            rw [parse_no (by rw [hpf, hdot]; rfl)]
            (repeat(first|refine pSeq ?_|refine pReg ?_|refine sCons ?_|refine sNil ?_|refine pBlock ?_|refine pSkip ?_|refine pExit ?_|refine pRet ?_|refine pCond ?_|refine gNone ?_|refine gOn rfl ?_|refine gOff rfl rfl ?_|refine gTup rfl ?_))
            intro q hq; obtain rfl : q = true := (by rw [hq]; simp <;> omega); (repeat(first|refine pSeq ?_|refine pReg ?_|refine sCons ?_|refine sNil ?_|refine pBlock ?_|refine pSkip ?_|refine pExit ?_|refine pRet ?_|refine pCond ?_|refine gNone ?_|refine gOn rfl ?_|refine gOff rfl rfl ?_|refine gTup rfl ?_))
            refine st_abs (cs' := [str [], str []]) rfl rfl hk hlt0 rfl rfl fun s2 e2 c2 n2 => ?_
            (repeat(first|refine pSeq ?_|refine pReg ?_|refine sCons ?_|refine sNil ?_|refine pBlock ?_|refine pSkip ?_|refine pExit ?_|refine pRet ?_|refine pCond ?_|refine gNone ?_|refine gOn rfl ?_|refine gOff rfl rfl ?_|refine gTup rfl ?_))
            (repeat (first | with_reducible refine sqRet ?_ | with_reducible refine bkRet ?_ | with_reducible refine hdRet ?_))
            exact ret_cell agg_Rf sz_Rf rfl e2 agg2 rfl ⟨rfl, c0.fresh c2 (by simp)⟩
        · have c64 : c.toNat ≠ 64 := byte_ne h64
          obtain rfl : q = true := by rw [hq]; simp; omega
          (repeat(first|refine pSeq ?_|refine pReg ?_|refine sCons ?_|refine sNil ?_|refine pBlock ?_|refine pSkip ?_|refine pExit ?_|refine pRet ?_|refine pCond ?_|refine gNone ?_|refine gOn rfl ?_|refine gOff rfl rfl ?_|refine gTup rfl ?_))
          intro z hz
          rw [i64_id (by omega)] at hz
          obtain rfl : z = ((m + 1 : Nat) : Int) := by omega
          (repeat(first|refine pSeq ?_|refine pReg ?_|refine sCons ?_|refine sNil ?_|refine pBlock ?_|refine pSkip ?_|refine pExit ?_|refine pRet ?_|refine pCond ?_|refine gNone ?_|refine gOn rfl ?_|refine gOff rfl rfl ?_|refine gTup rfl ?_))
          exact ⟨m + 1, ⟨hlt, by rw [take_next hc]; simp only [List.mem_append, List.mem_singleton, not_or]; exact ⟨h2, fun e => h64 e.symm⟩⟩, by show l.length + 1 - (m + 1) < l.length + 1 - m; omega, Wk.same ⟨rfl, rfl, rfl, trivial⟩⟩
      · obtain rfl : q = false := by rw [hq]; simp <;> omega
        rw [List.take_of_length_le (by omega)] at h2
        have hcut : cutF 64 l = (l, [], false) := by unfold cutF; rw [if_neg h2]
        rw [parse_no (by rw [hpf, hcut]; rfl)]
        (repeat(first|refine pSeq ?_|refine pReg ?_|refine sCons ?_|refine sNil ?_|refine pBlock ?_|refine pSkip ?_|refine pExit ?_|refine pRet ?_|refine pCond ?_|refine gNone ?_|refine gOn rfl ?_|refine gOff rfl rfl ?_|refine gTup rfl ?_))
        refine ⟨by omega, ?_⟩
        intro m1 hm1 w hw0
        have ew : w.length ≤ l.length := by rw [hw0]; simp; omega
        clear hw0
        (repeat(first|refine pSeq ?_|refine pReg ?_|refine sCons ?_|refine sNil ?_|refine pBlock ?_|refine pSkip ?_|refine pExit ?_|refine pRet ?_|refine pCond ?_|refine gNone ?_|refine gOn rfl ?_|refine gOff rfl rfl ?_|refine gTup rfl ?_))
        refine (rdotatom_w (by omega)).mono fun v s2 q => ?_
        obtain ⟨rfl, rfl⟩ := q
        cases hdot : dotF w with
        | true =>
          (repeat(first|refine pSeq ?_|refine pReg ?_|refine sCons ?_|refine sNil ?_|refine pBlock ?_|refine pSkip ?_|refine pExit ?_|refine pRet ?_|refine pCond ?_|refine gNone ?_|refine gOn rfl ?_|refine gOff rfl rfl ?_|refine gTup rfl ?_))
          intro q hq; obtain rfl : q = false := (by rw [hq]; simp <;> omega); (repeat(first|refine pSeq ?_|refine pReg ?_|refine sCons ?_|refine sNil ?_|refine pBlock ?_|refine pSkip ?_|refine pExit ?_|refine pRet ?_|refine pCond ?_|refine gNone ?_|refine gOn rfl ?_|refine gOff rfl rfl ?_|refine gTup rfl ?_))
          intro n3 hn3
          (repeat(first|refine pSeq ?_|refine pReg ?_|refine sCons ?_|refine sNil ?_|refine pBlock ?_|refine pSkip ?_|refine pExit ?_|refine pRet ?_|refine pCond ?_|refine gNone ?_|refine gOn rfl ?_|refine gOff rfl rfl ?_|refine gTup rfl ?_))
          intro q hq; obtain rfl : q = true := (by rw [hq]; simp <;> omega); (repeat(first|refine pSeq ?_|refine pReg ?_|refine sCons ?_|refine sNil ?_|refine pBlock ?_|refine pSkip ?_|refine pExit ?_|refine pRet ?_|refine pCond ?_|refine gNone ?_|refine gOn rfl ?_|refine gOff rfl rfl ?_|refine gTup rfl ?_))
          refine st_abs (cs' := [str [], str []]) rfl rfl hk hlt0 rfl rfl fun s2 e2 c2 n2 => ?_
          (repeat(first|refine pSeq ?_|refine pReg ?_|refine sCons ?_|refine sNil ?_|refine pBlock ?_|refine pSkip ?_|refine pExit ?_|refine pRet ?_|refine pCond ?_|refine gNone ?_|refine gOn rfl ?_|refine gOff rfl rfl ?_|refine gTup rfl ?_))
          (repeat (first | with_reducible refine sqRet ?_ | with_reducible refine bkRet ?_ | with_reducible refine hdRet ?_))
          exact ret_cell agg_Rf sz_Rf rfl e2 agg2 rfl ⟨rfl, c0.fresh c2 (by simp)⟩
        | false =>
          (repeat(first|refine pSeq ?_|refine pReg ?_|refine sCons ?_|refine sNil ?_|refine pBlock ?_|refine pSkip ?_|refine pExit ?_|refine pRet ?_|refine pCond ?_|refine gNone ?_|refine gOn rfl ?_|refine gOff rfl rfl ?_|refine gTup rfl ?_))
          intro q hq; obtain rfl : q = true := (by rw [hq]; simp <;> omega); (repeat(first|refine pSeq ?_|refine pReg ?_|refine sCons ?_|refine sNil ?_|refine pBlock ?_|refine pSkip ?_|refine pExit ?_|refine pRet ?_|refine pCond ?_|refine gNone ?_|refine gOn rfl ?_|refine gOff rfl rfl ?_|refine gTup rfl ?_))
          refine st_abs (cs' := [str [], str []]) rfl rfl hk hlt0 rfl rfl fun s2 e2 c2 n2 => ?_
          (repeat(first|refine pSeq ?_|refine pReg ?_|refine sCons ?_|refine sNil ?_|refine pBlock ?_|refine pSkip ?_|refine pExit ?_|refine pRet ?_|refine pCond ?_|refine gNone ?_|refine gOn rfl ?_|refine gOff rfl rfl ?_|refine gTup rfl ?_))
          (repeat (first | with_reducible refine sqRet ?_ | with_reducible refine bkRet ?_ | with_reducible refine hdRet ?_))
          exact ret_cell agg_Rf sz_Rf rfl e2 agg2 rfl ⟨rfl, c0.fresh c2 (by simp)⟩
  · obtain rfl : q = false := by rw [hq]; simp <;> omega
    have hnil : l = [] := List.length_eq_zero_iff.1 (by omega)
    subst hnil
    rw [parse_no (show (partsF []).2.2 = false by decide +kernel)]
    (repeat(first|refine pSeq ?_|refine pReg ?_|refine sCons ?_|refine sNil ?_|refine pBlock ?_|refine pSkip ?_|refine pExit ?_|refine pRet ?_|refine pCond ?_|refine gNone ?_|refine gOn rfl ?_|refine gOff rfl rfl ?_|refine gTup rfl ?_))
    refine pLoop (MW.head good (fun i : Nat => 0) (fun i => True) (fun i => [(0, str []), (2, .pointer (some ⟨s.next, 0, none⟩)), (5, .int .i64 0)]) (fun i => { s with heap := (s.next, some (.cells [str [], str []] tRf false false)) :: s.heap, next := s.next + 1 }) 0 trivial (Wk.same ⟨rfl, rfl, rfl, trivial⟩) ?_)
    intro i h1
    (repeat(first|refine pSeq ?_|refine pReg ?_|refine sCons ?_|refine sNil ?_|refine pBlock ?_|refine pSkip ?_|refine pExit ?_|refine pRet ?_|refine pCond ?_|refine gNone ?_|refine gOn rfl ?_|refine gOff rfl rfl ?_|refine gTup rfl ?_))
    intro n1 hn1
    (repeat(first|refine pSeq ?_|refine pReg ?_|refine sCons ?_|refine sNil ?_|refine pBlock ?_|refine pSkip ?_|refine pExit ?_|refine pRet ?_|refine pCond ?_|refine gNone ?_|refine gOn rfl ?_|refine gOff rfl rfl ?_|refine gTup rfl ?_))
    intro q hq
    obtain rfl : q = false := by rw [hq, hn1]; rfl
    (repeat(first|refine pSeq ?_|refine pReg ?_|refine sCons ?_|refine sNil ?_|refine pBlock ?_|refine pSkip ?_|refine pExit ?_|refine pRet ?_|refine pCond ?_|refine gNone ?_|refine gOn rfl ?_|refine gOff rfl rfl ?_|refine gTup rfl ?_))
    refine ⟨by simp, ?_⟩
    intro m hm t ht
    obtain rfl : t = [] := by rw [ht]; simp
    (repeat(first|refine pSeq ?_|refine pReg ?_|refine sCons ?_|refine sNil ?_|refine pBlock ?_|refine pSkip ?_|refine pExit ?_|refine pRet ?_|refine pCond ?_|refine gNone ?_|refine gOn rfl ?_|refine gOff rfl rfl ?_|refine gTup rfl ?_))
    refine (rdotatom_w (by simp)).mono fun v s2 q => ?_
    obtain ⟨rfl, rfl⟩ := q
    rw [show dotF [] = false by decide +kernel]
    (repeat(first|refine pSeq ?_|refine pReg ?_|refine sCons ?_|refine sNil ?_|refine pBlock ?_|refine pSkip ?_|refine pExit ?_|refine pRet ?_|refine pCond ?_|refine gNone ?_|refine gOn rfl ?_|refine gOff rfl rfl ?_|refine gTup rfl ?_))
    intro q hq; obtain rfl : q = true := (by rw [hq]; simp <;> omega); (repeat(first|refine pSeq ?_|refine pReg ?_|refine sCons ?_|refine sNil ?_|refine pBlock ?_|refine pSkip ?_|refine pExit ?_|refine pRet ?_|refine pCond ?_|refine gNone ?_|refine gOn rfl ?_|refine gOff rfl rfl ?_|refine gTup rfl ?_))
    refine st_abs (cs' := [str [], str []]) rfl rfl hk hlt0 rfl rfl fun s2 e2 c2 n2 => ?_
    (repeat(first|refine pSeq ?_|refine pReg ?_|refine sCons ?_|refine sNil ?_|refine pBlock ?_|refine pSkip ?_|refine pExit ?_|refine pRet ?_|refine pCond ?_|refine gNone ?_|refine gOn rfl ?_|refine gOff rfl rfl ?_|refine gTup rfl ?_))
    (repeat (first | with_reducible refine sqRet ?_ | with_reducible refine bkRet ?_ | with_reducible refine hdRet ?_))
    exact ret_cell agg_Rf sz_Rf rfl e2 agg2 rfl ⟨rfl, c0.fresh c2 (by simp)⟩
end Go.Vf.S

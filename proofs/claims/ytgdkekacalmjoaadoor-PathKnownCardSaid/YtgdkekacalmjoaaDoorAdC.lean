import Derived.Test.YtgdkekacalmjoaaDoorAdB
/- Texts cut at their ends; what is wrong with a domain. -/
namespace Go.Vf.S
open Go Go.Vf
attribute [local irreducible] wSeq wRow wp wG
set_option linter.unusedVariables false
set_option linter.unusedSimpArgs false
set_option maxRecDepth 10000

theorem ssuffix_w {s : SS} {a b : List UInt8} (ha : a.length ≤ 1000000) : CallW pr n_internal_stringslite_HasSuffix [str a, str b] s fun v s' => v = .bool (decide (b <:+ a)) ∧ s' = s := by
  refine CallW.run good ok_internal_stringslite_HasSuffix (by simp) rfl ?_
  (repeat(first|refine pSeq ?_|refine pReg ?_|refine sCons ?_|refine sNil ?_|refine pRet ?_|refine gNone ?_|refine gOn rfl ?_|refine gOff rfl rfl ?_|refine gTup rfl ?_))
  intro n hn
  (repeat(first|refine pSeq ?_|refine pReg ?_|refine sCons ?_|refine sNil ?_|refine pRet ?_|refine gNone ?_|refine gOn rfl ?_|refine gOff rfl rfl ?_|refine gTup rfl ?_))
  intro m hm
  (repeat(first|refine pSeq ?_|refine pReg ?_|refine sCons ?_|refine sNil ?_|refine pRet ?_|refine gNone ?_|refine gOn rfl ?_|refine gOff rfl rfl ?_|refine gTup rfl ?_))
  intro q hq
  by_cases h : b.length ≤ a.length
  · obtain rfl : q = true := by rw [hq]; simp <;> omega
    (repeat(first|refine pSeq ?_|refine pReg ?_|refine sCons ?_|refine sNil ?_|refine pRet ?_|refine gNone ?_|refine gOn rfl ?_|refine gOff rfl rfl ?_|refine gTup rfl ?_))
    intro n1 hn1
    (repeat(first|refine pSeq ?_|refine pReg ?_|refine sCons ?_|refine sNil ?_|refine pRet ?_|refine gNone ?_|refine gOn rfl ?_|refine gOff rfl rfl ?_|refine gTup rfl ?_))
    intro m1 hm1
    (repeat(first|refine pSeq ?_|refine pReg ?_|refine sCons ?_|refine sNil ?_|refine pRet ?_|refine gNone ?_|refine gOn rfl ?_|refine gOff rfl rfl ?_|refine gTup rfl ?_))
    intro z hz
    rw [i64_id (by omega)] at hz
    (repeat(first|refine pSeq ?_|refine pReg ?_|refine sCons ?_|refine sNil ?_|refine pRet ?_|refine gNone ?_|refine gOn rfl ?_|refine gOff rfl rfl ?_|refine gTup rfl ?_))
    refine ⟨by omega, ?_⟩
    intro k hk r hr
    obtain rfl : k = a.length - b.length := by omega
    (repeat(first|refine pSeq ?_|refine pReg ?_|refine sCons ?_|refine sNil ?_|refine pRet ?_|refine gNone ?_|refine gOn rfl ?_|refine gOff rfl rfl ?_|refine gTup rfl ?_))
    intro q hq
    (repeat(first|refine pSeq ?_|refine pReg ?_|refine sCons ?_|refine sNil ?_|refine pRet ?_|refine gNone ?_|refine gOn rfl ?_|refine gOff rfl rfl ?_|refine gTup rfl ?_))
    refine ⟨bool_eq ?_, rfl⟩
    rw [hq, hr, List.take_of_length_le (by simp), decide_eq_decide, List.suffix_iff_eq_drop]
    exact ⟨fun e => e.symm, fun e => e.symm⟩
  · obtain rfl : q = false := by rw [hq]; simp <;> omega
    (repeat(first|refine pSeq ?_|refine pReg ?_|refine sCons ?_|refine sNil ?_|refine pRet ?_|refine gNone ?_|refine gOn rfl ?_|refine gOff rfl rfl ?_|refine gTup rfl ?_))
    refine ⟨bool_eq ?_, rfl⟩
    symm
    rw [decide_eq_false_iff_not]
    exact fun q => h q.length_le

theorem cutP_w {s : SS} {a b : List UInt8} : CallW pr n_strings_CutPrefix [str a, str b] s fun v s' => v = .tuple ⟨[str (if a.take b.length = b then a.drop b.length else a), .bool (decide (a.take b.length = b))]⟩ ∧ s' = s := by
  refine CallW.run good ok_strings_CutPrefix (by simp) rfl ?_
  (repeat(first|refine pSeq ?_|refine pReg ?_|refine sCons ?_|refine sNil ?_|refine pSkip ?_|refine pRet ?_|refine pCond ?_|refine gNone ?_))
  refine (show CallW pr n_internal_stringslite_CutPrefix [str a, str b] s fun v s' => v = .tuple ⟨[str (if a.take b.length = b then a.drop b.length else a), .bool (decide (a.take b.length = b))]⟩ ∧ s' = s from ?_).mono fun v s q => ?_
  · refine CallW.run good ok_internal_stringslite_CutPrefix (by simp) rfl ?_
    (repeat(first|refine pSeq ?_|refine pReg ?_|refine sCons ?_|refine sNil ?_|refine pSkip ?_|refine pRet ?_|refine pCond ?_|refine gNone ?_))
    refine sprefix_w.mono fun v s q => ?_
    obtain ⟨rfl, rfl⟩ := q
    (repeat(first|refine pSeq ?_|refine pReg ?_|refine sCons ?_|refine sNil ?_|refine pSkip ?_|refine pRet ?_|refine pCond ?_|refine gNone ?_))
    intro q hq
    by_cases h : a.take b.length = b
    · obtain rfl : q = false := by rw [hq]; simp [h]
      have hle : b.length ≤ a.length := by
        have := congrArg List.length h
        rw [List.length_take] at this
        omega
      rw [if_pos h, decide_eq_true h]
      (repeat(first|refine pSeq ?_|refine pReg ?_|refine sCons ?_|refine sNil ?_|refine pSkip ?_|refine pRet ?_|refine pCond ?_|refine gNone ?_))
      intro n hn
      (repeat(first|refine pSeq ?_|refine pReg ?_|refine sCons ?_|refine sNil ?_|refine pSkip ?_|refine pRet ?_|refine pCond ?_|refine gNone ?_))
      refine ⟨by omega, ?_⟩
      intro m hm r hr
      obtain rfl : m = b.length := by omega
      rw [List.take_of_length_le (by simp)] at hr
      subst hr
      (repeat(first|refine pSeq ?_|refine pReg ?_|refine sCons ?_|refine sNil ?_|refine pSkip ?_|refine pRet ?_|refine pCond ?_|refine gNone ?_))
      exact ⟨rfl, rfl⟩
    · obtain rfl : q = true := by rw [hq]; simp [h]
      rw [if_neg h, decide_eq_false h]
      (repeat(first|refine pSeq ?_|refine pReg ?_|refine sCons ?_|refine sNil ?_|refine pSkip ?_|refine pRet ?_|refine pCond ?_|refine gNone ?_))
      exact ⟨rfl, rfl⟩
  obtain ⟨rfl, rfl⟩ := q
  (repeat(first|refine pSeq ?_|refine pReg ?_|refine sCons ?_|refine sNil ?_|refine pSkip ?_|refine pRet ?_|refine pCond ?_|refine gNone ?_))
  exact ⟨rfl, rfl⟩

theorem cutS_w {s : SS} {a b : List UInt8} (ha : a.length ≤ 1000000) : CallW pr n_strings_CutSuffix [str a, str b] s fun v s' => v = .tuple ⟨[str (if b <:+ a then a.take (a.length - b.length) else a), .bool (decide (b <:+ a))]⟩ ∧ s' = s := by
  refine CallW.run good ok_strings_CutSuffix (by simp) rfl ?_
  (repeat(first|refine pSeq ?_|refine pReg ?_|refine sCons ?_|refine sNil ?_|refine pSkip ?_|refine pRet ?_|refine pCond ?_|refine gNone ?_))
  refine (show CallW pr n_internal_stringslite_CutSuffix [str a, str b] s fun v s' => v = .tuple ⟨[str (if b <:+ a then a.take (a.length - b.length) else a), .bool (decide (b <:+ a))]⟩ ∧ s' = s from ?_).mono fun v s q => ?_
  · refine CallW.run good ok_internal_stringslite_CutSuffix (by simp) rfl ?_
    (repeat(first|refine pSeq ?_|refine pReg ?_|refine sCons ?_|refine sNil ?_|refine pSkip ?_|refine pRet ?_|refine pCond ?_|refine gNone ?_))
    refine (ssuffix_w ha).mono fun v s q => ?_
    obtain ⟨rfl, rfl⟩ := q
    (repeat(first|refine pSeq ?_|refine pReg ?_|refine sCons ?_|refine sNil ?_|refine pSkip ?_|refine pRet ?_|refine pCond ?_|refine gNone ?_))
    intro q hq
    by_cases h : b <:+ a
    · obtain rfl : q = false := by rw [hq]; simp [h]
      have hle := h.length_le
      rw [if_pos h, decide_eq_true h]
      (repeat(first|refine pSeq ?_|refine pReg ?_|refine sCons ?_|refine sNil ?_|refine pSkip ?_|refine pRet ?_|refine pCond ?_|refine gNone ?_))
      intro n hn
      (repeat(first|refine pSeq ?_|refine pReg ?_|refine sCons ?_|refine sNil ?_|refine pSkip ?_|refine pRet ?_|refine pCond ?_|refine gNone ?_))
      intro m hm
      (repeat(first|refine pSeq ?_|refine pReg ?_|refine sCons ?_|refine sNil ?_|refine pSkip ?_|refine pRet ?_|refine pCond ?_|refine gNone ?_))
      intro z hz
      rw [i64_id (by omega)] at hz
      (repeat(first|refine pSeq ?_|refine pReg ?_|refine sCons ?_|refine sNil ?_|refine pSkip ?_|refine pRet ?_|refine pCond ?_|refine gNone ?_))
      refine ⟨by omega, ?_⟩
      intro k hk r hr
      obtain rfl : k = a.length - b.length := by omega
      rw [List.drop_zero, Nat.sub_zero] at hr
      subst hr
      (repeat(first|refine pSeq ?_|refine pReg ?_|refine sCons ?_|refine sNil ?_|refine pSkip ?_|refine pRet ?_|refine pCond ?_|refine gNone ?_))
      exact ⟨rfl, rfl⟩
    · obtain rfl : q = true := by rw [hq]; simp [h]
      rw [if_neg h, decide_eq_false h]
      (repeat(first|refine pSeq ?_|refine pReg ?_|refine sCons ?_|refine sNil ?_|refine pSkip ?_|refine pRet ?_|refine pCond ?_|refine gNone ?_))
      exact ⟨rfl, rfl⟩
  obtain ⟨rfl, rfl⟩ := q
  (repeat(first|refine pSeq ?_|refine pReg ?_|refine sCons ?_|refine sNil ?_|refine pSkip ?_|refine pRet ?_|refine pCond ?_|refine gNone ?_))
  exact ⟨rfl, rfl⟩

theorem callV_of {f : FuncId} {m : MF} (h : compF pr f = some m) (c x : Value) : callV pr (.func (.func f) ⟨[]⟩ ⟨[c]⟩) [x] = some (.enter f [x, c]) := by
  unfold compF at h
  split at h
  · cases h
  · rename_i fn hfn
    split at h
    · cases h
    · rename_i b hb
      have e : pr.funcs[f]? = some fn := hfn
      simp only [callV, e, hb, Option.isSome_some, cond_true]
      rfl

/-- What stands within a literal's signs. -/
def inner (l : List UInt8) : List UInt8 := (l.drop 1).take (l.length - 2)
def litF (l : List UInt8) : Bool := decide (l.take 1 = [91] ∧ [93] <:+ l.drop 1) && ((splitF 46 (inner l)).all octF && (splitF 46 (inner l)).length == 4)
def longF (l : List UInt8) : Bool := decide (255 < l.length) || (splitF 46 l).any fun p => decide (63 < p.length)
/-- What is wrong with a domain. -/
def domF (l : List UInt8) : Nat := if litF l = true then 0 else if (splitF 46 l).all labelF = true then (if longF l = true then 3 else 0) else 5

theorem part_len {l p : List UInt8} (h : p ∈ splitF 46 l) : p.length ≤ l.length := by
  have key : ∀ l : List UInt8, (sp 46 l).1.length ≤ l.length ∧ ∀ p ∈ (sp 46 l).2, p.length ≤ l.length := by
    intro l
    induction l with
    | nil => simp [sp]
    | cons x l ih =>
      rw [sp]
      split
      · refine ⟨by simp, fun p hp => ?_⟩
        rcases List.mem_cons.1 hp with rfl | hp
        · have := ih.1; simp; omega
        · have := ih.2 p hp; simp; omega
      · refine ⟨by have := ih.1; simp; omega, fun p hp => ?_⟩
        have := ih.2 p hp; simp; omega
  rcases List.mem_cons.1 h with rfl | h
  · exact (key l).1
  · exact (key l).2 p h

theorem literal_w {s : SS} {l : List UInt8} (hl : l.length ≤ 1000000) : CallW pr n_addr_literal [str l] s fun v s' => v = .bool (litF l) ∧ Chg s s' [] := by
  refine CallW.run good ok_addr_literal (by simp) rfl ?_
  (repeat(first|refine pSeq ?_|refine pReg ?_|refine sCons ?_|refine sNil ?_|refine pSkip ?_|refine pRet ?_|refine pCond ?_|refine gNone ?_|refine gOn rfl ?_|refine gOff rfl rfl ?_|refine gTup rfl ?_))
  refine cutP_w.mono fun v s q => ?_
  obtain ⟨rfl, rfl⟩ := q
  (repeat(first|refine pSeq ?_|refine pReg ?_|refine sCons ?_|refine sNil ?_|refine pSkip ?_|refine pRet ?_|refine pCond ?_|refine gNone ?_|refine gOn rfl ?_|refine gOff rfl rfl ?_|refine gTup rfl ?_))
  refine (cutS_w (by split <;> (try rw [List.length_drop]) <;> omega)).mono fun v s q => ?_
  obtain ⟨rfl, rfl⟩ := q
  by_cases h1 : l.take 1 = [91]
  · have e1 : l.take [(91 : UInt8)].length = [91] := h1
    rw [if_pos e1, decide_eq_true e1]
    by_cases h2 : [93] <:+ l.drop 1
    · have e2 : [(93 : UInt8)] <:+ l.drop [(91 : UInt8)].length := h2
      rw [if_pos e2, decide_eq_true e2]
      have e3 : ((l.drop [(91 : UInt8)].length).take ((l.drop [(91 : UInt8)].length).length - [(93 : UInt8)].length)) = inner l := by
        unfold inner
        simp
        congr 1
        omega
      rw [e3]
      have hil : (inner l).length ≤ 1000000 := by unfold inner; simp; omega
      have eL : litF l = ((splitF 46 (inner l)).all octF && (splitF 46 (inner l)).length == 4) := by
        unfold litF
        rw [decide_eq_true ⟨h1, h2⟩, Bool.true_and]
      rw [eL]
      generalize inner l = m at *
      (repeat(first|refine pSeq ?_|refine pReg ?_|refine sCons ?_|refine sNil ?_|refine pSkip ?_|refine pRet ?_|refine pCond ?_|refine gNone ?_|refine gOn rfl ?_|refine gOff rfl rfl ?_|refine gTup rfl ?_))
      intro q hq; obtain rfl : q = false := (by rw [hq]; simp <;> omega); (repeat(first|refine pSeq ?_|refine pReg ?_|refine sCons ?_|refine sNil ?_|refine pSkip ?_|refine pRet ?_|refine pCond ?_|refine gNone ?_|refine gOn rfl ?_|refine gOff rfl rfl ?_|refine gTup rfl ?_))
      intro q hq; obtain rfl : q = false := (by rw [hq]; simp <;> omega); (repeat(first|refine pSeq ?_|refine pReg ?_|refine sCons ?_|refine sNil ?_|refine pSkip ?_|refine pRet ?_|refine pCond ?_|refine gNone ?_|refine gOn rfl ?_|refine gOff rfl rfl ?_|refine gTup rfl ?_))
      refine st_abs (cs' := [.int .i64 0]) rfl rfl lkH (Nat.lt_succ_self _) rfl rfl fun s2 e2 c2 n2 => ?_
      (repeat(first|refine pSeq ?_|refine pReg ?_|refine sCons ?_|refine sNil ?_|refine pSkip ?_|refine pRet ?_|refine pCond ?_|refine gNone ?_|refine gOn rfl ?_|refine gOff rfl rfl ?_|refine gTup rfl ?_))
      refine ⟨.val (.func (.func n_addr_literal_1) ⟨[]⟩ ⟨[.pointer (some ⟨s.next, 0, none⟩)]⟩), rfl, ?_⟩
      (repeat(first|refine pSeq ?_|refine pReg ?_|refine sCons ?_|refine sNil ?_|refine pSkip ?_|refine pRet ?_|refine pCond ?_|refine gNone ?_|refine gOn rfl ?_|refine gOff rfl rfl ?_|refine gTup rfl ?_))
      have hb : s.next < s2.next := by rw [n2]; exact Nat.lt_succ_self _
      refine (madeOf_w (b := s.next) (g := octF) (fun k x => lookH x.heap s.next = some (.cells [.int .i64 k] 3 false false)) hil (callV_of ok_addr_literal_1 _) hb e2 (fun k s3 s4 h c hb => c.blk _ _ hb (by simp) h) (fun k x s3 hx hJ hb3 => ?_)).mono fun v s3 q => ?_
      · have hk : k ≤ 1000001 := by
          have := lt_of_get hx
          rw [split_len] at this
          have := List.count_le_length (a := (46 : UInt8)) (l := m)
          omega
        have hxl := part_len (List.mem_of_getElem? hx)
        refine CallW.run good ok_addr_literal_1 (by simp) rfl ?_
        (repeat(first|refine pSeq ?_|refine pReg ?_|refine sCons ?_|refine sNil ?_|refine pSkip ?_|refine pRet ?_|refine pCond ?_|refine gNone ?_|refine gOn rfl ?_|refine gOff rfl rfl ?_|refine gTup rfl ?_))
        refine ldI_is rfl hJ rfl ?_
        (repeat(first|refine pSeq ?_|refine pReg ?_|refine sCons ?_|refine sNil ?_|refine pSkip ?_|refine pRet ?_|refine pCond ?_|refine gNone ?_|refine gOn rfl ?_|refine gOff rfl rfl ?_|refine gTup rfl ?_))
        intro z hz
        rw [i64_id (by omega)] at hz
        obtain rfl : z = ((k + 1 : Nat) : Int) := by omega
        (repeat(first|refine pSeq ?_|refine pReg ?_|refine sCons ?_|refine sNil ?_|refine pSkip ?_|refine pRet ?_|refine pCond ?_|refine gNone ?_|refine gOn rfl ?_|refine gOff rfl rfl ?_|refine gTup rfl ?_))
        refine st_abs (cs' := [.int .i64 (k + 1 : Nat)]) rfl rfl hJ hb3 rfl rfl fun s4 e4 c4 n4 => ?_
        (repeat(first|refine pSeq ?_|refine pReg ?_|refine sCons ?_|refine sNil ?_|refine pSkip ?_|refine pRet ?_|refine pCond ?_|refine gNone ?_|refine gOn rfl ?_|refine gOff rfl rfl ?_|refine gTup rfl ?_))
        refine (mayNumber_w (by omega)).mono fun v s5 q => ?_
        obtain ⟨rfl, c5⟩ := q
        (repeat(first|refine pSeq ?_|refine pReg ?_|refine sCons ?_|refine sNil ?_|refine pSkip ?_|refine pRet ?_|refine pCond ?_|refine gNone ?_|refine gOn rfl ?_|refine gOff rfl rfl ?_|refine gTup rfl ?_))
        exact ⟨rfl, c5.blk _ _ (by rw [n4]; exact hb3) (by simp) e4, c4.trans' c5 (fun _ q _ => q) (by simp)⟩
      · obtain ⟨rfl, c3, hJ⟩ := q
        have cc : Chg s s3 [] := ((Chg.new []).fresh c2 (by simp)).fresh c3 (by simp)
        (repeat(first|refine pSeq ?_|refine pReg ?_|refine sCons ?_|refine sNil ?_|refine pSkip ?_|refine pRet ?_|refine pCond ?_|refine gNone ?_|refine gOn rfl ?_|refine gOff rfl rfl ?_|refine gTup rfl ?_))
        cases ha : (splitF 46 m).all octF with
        | false =>
          (repeat(first|refine pSeq ?_|refine pReg ?_|refine sCons ?_|refine sNil ?_|refine pSkip ?_|refine pRet ?_|refine pCond ?_|refine gNone ?_|refine gOn rfl ?_|refine gOff rfl rfl ?_|refine gTup rfl ?_))
          exact ⟨rfl, cc⟩
        | true =>
          (repeat(first|refine pSeq ?_|refine pReg ?_|refine sCons ?_|refine sNil ?_|refine pSkip ?_|refine pRet ?_|refine pCond ?_|refine gNone ?_|refine gOn rfl ?_|refine gOff rfl rfl ?_|refine gTup rfl ?_))
          refine ldI_is rfl (hJ ha) rfl ?_
          (repeat(first|refine pSeq ?_|refine pReg ?_|refine sCons ?_|refine sNil ?_|refine pSkip ?_|refine pRet ?_|refine pCond ?_|refine gNone ?_|refine gOn rfl ?_|refine gOff rfl rfl ?_|refine gTup rfl ?_))
          intro q hq
          (repeat(first|refine pSeq ?_|refine pReg ?_|refine sCons ?_|refine sNil ?_|refine pSkip ?_|refine pRet ?_|refine pCond ?_|refine gNone ?_|refine gOn rfl ?_|refine gOff rfl rfl ?_|refine gTup rfl ?_))
          refine ⟨bool_eq ?_, cc⟩
          rw [hq, Bool.true_and, Bool.eq_iff_iff]
          simp
          omega
    · have e2 : ¬[(93 : UInt8)] <:+ l.drop [(91 : UInt8)].length := h2
      rw [if_neg e2, decide_eq_false e2]
      (repeat(first|refine pSeq ?_|refine pReg ?_|refine sCons ?_|refine sNil ?_|refine pSkip ?_|refine pRet ?_|refine pCond ?_|refine gNone ?_|refine gOn rfl ?_|refine gOff rfl rfl ?_|refine gTup rfl ?_))
      intro q hq; obtain rfl : q = false := (by rw [hq]; simp <;> omega); (repeat(first|refine pSeq ?_|refine pReg ?_|refine sCons ?_|refine sNil ?_|refine pSkip ?_|refine pRet ?_|refine pCond ?_|refine gNone ?_|refine gOn rfl ?_|refine gOff rfl rfl ?_|refine gTup rfl ?_))
      intro q hq; obtain rfl : q = true := (by rw [hq]; simp <;> omega); (repeat(first|refine pSeq ?_|refine pReg ?_|refine sCons ?_|refine sNil ?_|refine pSkip ?_|refine pRet ?_|refine pCond ?_|refine gNone ?_|refine gOn rfl ?_|refine gOff rfl rfl ?_|refine gTup rfl ?_))
      exact ⟨bool_eq (by unfold litF; rw [decide_eq_false (fun q => h2 q.2)]; rfl), .refl _ _⟩
  · have e1 : ¬l.take [(91 : UInt8)].length = [91] := h1
    rw [if_neg e1, decide_eq_false e1]
    (repeat(first|refine pSeq ?_|refine pReg ?_|refine sCons ?_|refine sNil ?_|refine pSkip ?_|refine pRet ?_|refine pCond ?_|refine gNone ?_|refine gOn rfl ?_|refine gOff rfl rfl ?_|refine gTup rfl ?_))
    intro q hq; obtain rfl : q = true := (by rw [hq]; simp <;> omega); (repeat(first|refine pSeq ?_|refine pReg ?_|refine sCons ?_|refine sNil ?_|refine pSkip ?_|refine pRet ?_|refine pCond ?_|refine gNone ?_|refine gOn rfl ?_|refine gOff rfl rfl ?_|refine gTup rfl ?_))
    exact ⟨bool_eq (by unfold litF; rw [decide_eq_false (fun q => h1 q.1)]; rfl), .refl _ _⟩

theorem domErr_w {s : SS} {l : List UInt8} (hl : l.length ≤ 1000000) : CallW pr n_addr_domainError [str l] s fun v s' => v = .int .i64 (domF l) ∧ Chg s s' [] := by
  refine CallW.run good ok_addr_domainError (by simp) rfl ?_
  (repeat(first|refine pSeq ?_|refine pReg ?_|refine sCons ?_|refine sNil ?_|refine pBlock ?_|refine pSkip ?_|refine pRet ?_|refine pCond ?_|refine gNone ?_|refine gOn rfl ?_|refine gOff rfl rfl ?_|refine gTup rfl ?_))
  refine (literal_w hl).mono fun v s1 q => ?_
  obtain ⟨rfl, c1⟩ := q
  cases hli : litF l with
  | true =>
    (repeat(first|refine pSeq ?_|refine pReg ?_|refine sCons ?_|refine sNil ?_|refine pBlock ?_|refine pSkip ?_|refine pRet ?_|refine pCond ?_|refine gNone ?_|refine gOn rfl ?_|refine gOff rfl rfl ?_|refine gTup rfl ?_))
    refine ⟨?_, c1⟩
    unfold domF
    rw [if_pos hli]
    rfl
  | false =>
    have eD : domF l = if (splitF 46 l).all labelF = true then (if longF l = true then 3 else 0) else 5 := by unfold domF; rw [if_neg (by simp [hli])]
    rw [eD]
    (repeat(first|refine pSeq ?_|refine pReg ?_|refine sCons ?_|refine sNil ?_|refine pBlock ?_|refine pSkip ?_|refine pRet ?_|refine pCond ?_|refine gNone ?_|refine gOn rfl ?_|refine gOff rfl rfl ?_|refine gTup rfl ?_))
    intro n hn
    (repeat(first|refine pSeq ?_|refine pReg ?_|refine sCons ?_|refine sNil ?_|refine pBlock ?_|refine pSkip ?_|refine pRet ?_|refine pCond ?_|refine gNone ?_|refine gOn rfl ?_|refine gOff rfl rfl ?_|refine gTup rfl ?_))
    intro q hq
    have eq : q = decide (255 < l.length) := by rw [hq, decide_eq_decide]; omega
    (repeat(first|refine pSeq ?_|refine pReg ?_|refine sCons ?_|refine sNil ?_|refine pBlock ?_|refine pSkip ?_|refine pRet ?_|refine pCond ?_|refine gNone ?_|refine gOn rfl ?_|refine gOff rfl rfl ?_|refine gTup rfl ?_))
    refine st_abs (cs' := [.bool q]) rfl rfl lkH (Nat.lt_succ_self _) rfl rfl fun s2 e2 c2 n2 => ?_
    (repeat(first|refine pSeq ?_|refine pReg ?_|refine sCons ?_|refine sNil ?_|refine pBlock ?_|refine pSkip ?_|refine pRet ?_|refine pCond ?_|refine gNone ?_|refine gOn rfl ?_|refine gOff rfl rfl ?_|refine gTup rfl ?_))
    refine ⟨.val (.func (.func n_addr_domainError_1) ⟨[]⟩ ⟨[.pointer (some ⟨s1.next, 0, none⟩)]⟩), rfl, ?_⟩
    (repeat(first|refine pSeq ?_|refine pReg ?_|refine sCons ?_|refine sNil ?_|refine pBlock ?_|refine pSkip ?_|refine pRet ?_|refine pCond ?_|refine gNone ?_|refine gOn rfl ?_|refine gOff rfl rfl ?_|refine gTup rfl ?_))
    have hb : s1.next < s2.next := by rw [n2]; exact Nat.lt_succ_self _
    refine (madeOf_w (b := s1.next) (g := labelF) (fun k x => lookH x.heap s1.next = some (.cells [.bool (decide (255 < l.length) || ((splitF 46 l).take k).any fun p => decide (63 < p.length))] 4 false false)) hl (callV_of ok_addr_domainError_1 _) hb (by rw [e2, eq]; simp) (fun k s3 s4 h c hb => c.blk _ _ hb (by simp) h) (fun k x s3 hx hJ hb3 => ?_)).mono fun v s3 q => ?_
    · have hxl := part_len (List.mem_of_getElem? hx)
      refine CallW.run good ok_addr_domainError_1 (by simp) rfl ?_
      (repeat(first|refine pSeq ?_|refine pReg ?_|refine sCons ?_|refine sNil ?_|refine pBlock ?_|refine pSkip ?_|refine pRet ?_|refine pCond ?_|refine gNone ?_|refine gOn rfl ?_|refine gOff rfl rfl ?_|refine gTup rfl ?_))
      refine ldB_is rfl hJ rfl ?_
      have fin : ∀ (r : Bool), r = ((decide (255 < l.length) || ((splitF 46 l).take k).any fun p => decide (63 < p.length)) || decide (63 < x.length)) → r = (decide (255 < l.length) || ((splitF 46 l).take (k + 1)).any fun p => decide (63 < p.length)) := fun r hr => by
        rw [hr, take_next hx, List.any_append, Bool.or_assoc]
        simp
      cases hcur : (decide (255 < l.length) || ((splitF 46 l).take k).any fun p => decide (63 < p.length)) with
      | true =>
        rw [hcur] at hJ fin
        (repeat(first|refine pSeq ?_|refine pReg ?_|refine sCons ?_|refine sNil ?_|refine pBlock ?_|refine pSkip ?_|refine pRet ?_|refine pCond ?_|refine gNone ?_|refine gOn rfl ?_|refine gOff rfl rfl ?_|refine gTup rfl ?_))
        refine st_abs (cs' := [.bool true]) rfl rfl hJ hb3 rfl rfl fun s4 e4 c4 n4 => ?_
        (repeat(first|refine pSeq ?_|refine pReg ?_|refine sCons ?_|refine sNil ?_|refine pBlock ?_|refine pSkip ?_|refine pRet ?_|refine pCond ?_|refine gNone ?_|refine gOn rfl ?_|refine gOff rfl rfl ?_|refine gTup rfl ?_))
        refine (mayLabel_w (by omega)).mono fun v s5 q => ?_
        obtain ⟨rfl, c5⟩ := q
        (repeat(first|refine pSeq ?_|refine pReg ?_|refine sCons ?_|refine sNil ?_|refine pBlock ?_|refine pSkip ?_|refine pRet ?_|refine pCond ?_|refine gNone ?_|refine gOn rfl ?_|refine gOff rfl rfl ?_|refine gTup rfl ?_))
        exact ⟨rfl, by rw [← fin true rfl]; exact c5.blk _ _ (by rw [n4]; exact hb3) (by simp) e4, c4.trans' c5 (fun _ q _ => q) (by simp)⟩
      | false =>
        rw [hcur] at hJ fin
        (repeat(first|refine pSeq ?_|refine pReg ?_|refine sCons ?_|refine sNil ?_|refine pBlock ?_|refine pSkip ?_|refine pRet ?_|refine pCond ?_|refine gNone ?_|refine gOn rfl ?_|refine gOff rfl rfl ?_|refine gTup rfl ?_))
        intro n hn
        (repeat(first|refine pSeq ?_|refine pReg ?_|refine sCons ?_|refine sNil ?_|refine pBlock ?_|refine pSkip ?_|refine pRet ?_|refine pCond ?_|refine gNone ?_|refine gOn rfl ?_|refine gOff rfl rfl ?_|refine gTup rfl ?_))
        intro q hq
        have hq' : q = decide (63 < x.length) := by rw [hq, decide_eq_decide]; omega
        (repeat(first|refine pSeq ?_|refine pReg ?_|refine sCons ?_|refine sNil ?_|refine pBlock ?_|refine pSkip ?_|refine pRet ?_|refine pCond ?_|refine gNone ?_|refine gOn rfl ?_|refine gOff rfl rfl ?_|refine gTup rfl ?_))
        refine st_abs (cs' := [.bool q]) rfl rfl hJ hb3 rfl rfl fun s4 e4 c4 n4 => ?_
        (repeat(first|refine pSeq ?_|refine pReg ?_|refine sCons ?_|refine sNil ?_|refine pBlock ?_|refine pSkip ?_|refine pRet ?_|refine pCond ?_|refine gNone ?_|refine gOn rfl ?_|refine gOff rfl rfl ?_|refine gTup rfl ?_))
        refine (mayLabel_w (by omega)).mono fun v s5 q => ?_
        obtain ⟨rfl, c5⟩ := q
        (repeat(first|refine pSeq ?_|refine pReg ?_|refine sCons ?_|refine sNil ?_|refine pBlock ?_|refine pSkip ?_|refine pRet ?_|refine pCond ?_|refine gNone ?_|refine gOn rfl ?_|refine gOff rfl rfl ?_|refine gTup rfl ?_))
        exact ⟨rfl, by rw [← fin q (by rw [hq', Bool.false_or])]; exact c5.blk _ _ (by rw [n4]; exact hb3) (by simp) e4, c4.trans' c5 (fun _ q _ => q) (by simp)⟩
    · obtain ⟨rfl, c3, hJ⟩ := q
      have cc : Chg s s3 [] := c1.nil (((Chg.new []).fresh c2 (by simp)).fresh c3 (by simp))
      cases ha : (splitF 46 l).all labelF with
      | false =>
        (repeat(first|refine pSeq ?_|refine pReg ?_|refine sCons ?_|refine sNil ?_|refine pBlock ?_|refine pSkip ?_|refine pRet ?_|refine pCond ?_|refine gNone ?_|refine gOn rfl ?_|refine gOff rfl rfl ?_|refine gTup rfl ?_))
        intro q hq; obtain rfl : q = true := (by rw [hq]; simp <;> omega); (repeat(first|refine pSeq ?_|refine pReg ?_|refine sCons ?_|refine sNil ?_|refine pBlock ?_|refine pSkip ?_|refine pRet ?_|refine pCond ?_|refine gNone ?_|refine gOn rfl ?_|refine gOff rfl rfl ?_|refine gTup rfl ?_))
        exact ⟨rfl, cc⟩
      | true =>
        (repeat(first|refine pSeq ?_|refine pReg ?_|refine sCons ?_|refine sNil ?_|refine pBlock ?_|refine pSkip ?_|refine pRet ?_|refine pCond ?_|refine gNone ?_|refine gOn rfl ?_|refine gOff rfl rfl ?_|refine gTup rfl ?_))
        intro q hq; obtain rfl : q = false := (by rw [hq]; simp <;> omega); (repeat(first|refine pSeq ?_|refine pReg ?_|refine sCons ?_|refine sNil ?_|refine pBlock ?_|refine pSkip ?_|refine pRet ?_|refine pCond ?_|refine gNone ?_|refine gOn rfl ?_|refine gOff rfl rfl ?_|refine gTup rfl ?_))
        have hJ1 := hJ ha
        rw [List.take_of_length_le (Nat.le_refl _)] at hJ1
        refine ldB_is rfl hJ1 rfl ?_
        rw [if_pos rfl]
        cases hlo : longF l with
        | true =>
          have e : (decide (255 < l.length) || (splitF 46 l).any fun p => decide (63 < p.length)) = true := hlo
          rw [e]
          (repeat(first|refine pSeq ?_|refine pReg ?_|refine sCons ?_|refine sNil ?_|refine pBlock ?_|refine pSkip ?_|refine pRet ?_|refine pCond ?_|refine gNone ?_|refine gOn rfl ?_|refine gOff rfl rfl ?_|refine gTup rfl ?_))
          exact ⟨rfl, cc⟩
        | false =>
          have e : (decide (255 < l.length) || (splitF 46 l).any fun p => decide (63 < p.length)) = false := hlo
          rw [e]
          (repeat(first|refine pSeq ?_|refine pReg ?_|refine sCons ?_|refine sNil ?_|refine pBlock ?_|refine pSkip ?_|refine pRet ?_|refine pCond ?_|refine gNone ?_|refine gOn rfl ?_|refine gOff rfl rfl ?_|refine gTup rfl ?_))
          exact ⟨rfl, cc⟩

theorem mayDomain_w {s : SS} {l : List UInt8} (hl : l.length ≤ 1000000) : CallW pr n_addr_MayDomain [str l] s fun v s' => v = .bool (decide (domF l = 0)) ∧ Chg s s' [] := by
  refine CallW.run good ok_addr_MayDomain (by simp) rfl ?_
  (repeat(first|refine pSeq ?_|refine pReg ?_|refine sCons ?_|refine sNil ?_|refine pRet ?_|refine gNone ?_))
  refine (domErr_w hl).mono fun v s1 q => ?_
  obtain ⟨rfl, c1⟩ := q
  (repeat(first|refine pSeq ?_|refine pReg ?_|refine sCons ?_|refine sNil ?_|refine pRet ?_|refine gNone ?_))
  intro q hq
  (repeat(first|refine pSeq ?_|refine pReg ?_|refine sCons ?_|refine sNil ?_|refine pRet ?_|refine gNone ?_))
  refine ⟨bool_eq ?_, c1⟩
  rw [hq, decide_eq_decide]
  omega
end Go.Vf.S

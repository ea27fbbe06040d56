import Derived.Test.YtneanogeebbjiaaDoorTxT
import Derived.Test.YtneanogeebbjiaaDoorTxH
import Derived.Test.YtneanogeebbjiaaDoorTxL
/- Parts, lower case, ends: the law. -/
namespace Go.Vf.S
open Go Go.Vf Go.Proofs Go.RowKit
attribute [local irreducible] wSeq wRow wp wG
set_option linter.unusedVariables false
set_option linter.unusedSimpArgs false
set_option maxRecDepth 10000

theorem parts_no (c : UInt8) : ∀ (l : List UInt8), c ∉ (sp c l).1 ∧ ∀ p ∈ (sp c l).2, c ∉ p
  | [] => by simp [sp]
  | x :: l => by
    obtain ⟨h1, h2⟩ := parts_no c l
    rw [sp]
    by_cases h : x = c
    · rw [if_pos h]
      refine ⟨by simp, fun p hp => ?_⟩
      rcases List.mem_cons.1 hp with rfl | hp
      · exact h1
      · exact h2 p hp
    · rw [if_neg h]
      exact ⟨by simp [Ne.symm h, h1], h2⟩
theorem split_no {c : UInt8} {l p : List UInt8} (h : p ∈ splitF c l) : c ∉ p := by
  rcases List.mem_cons.1 h with rfl | h
  · exact (parts_no c l).1
  · exact (parts_no c l).2 p h
theorem idx_no {c : UInt8} : ∀ {l : List UInt8}, c ∉ l → Lib.indexByte l c = -1
  | [], _ => rfl
  | x :: l, h => by
    have h1 : (x == c) = false := by simp; exact fun e => h (by simp [e])
    rw [Lib.indexByte, h1, idx_no (l := l) fun q => h (by simp [q])]
    rfl
theorem low_idem (c : UInt8) : lowB (lowB c) = lowB c := by
  by_cases h : upB c = true
  · refine lowB_no fun q => ?_
    have h1 := lowB_up h
    have h2 : 65 ≤ c.toNat ∧ c.toNat ≤ 90 := by simpa [upB] using h
    have h3 : 65 ≤ (lowB c).toNat ∧ (lowB c).toNat ≤ 90 := by simpa [upB] using q
    omega
  · rw [lowB_no h, lowB_no h]
theorem low_map (l : List UInt8) : (l.map lowB).map lowB = l.map lowB := by simp [List.map_map, Function.comp_def, low_idem]
theorem dropR_part (l : List UInt8) : ∃ b, l = dropR l ++ b := by
  obtain ⟨t, ht⟩ := List.dropWhile_suffix (l := l.reverse) wh
  refine ⟨t.reverse, ?_⟩
  have := congrArg List.reverse ht
  simpa [dropR] using this.symm
theorem trim_part (l : List UInt8) : ∃ a b, l = a ++ trimF l ++ b := by
  obtain ⟨a, ha⟩ := List.dropWhile_suffix (l := l) wh
  obtain ⟨b, hb⟩ := dropR_part (l.dropWhile wh)
  exact ⟨a, b, by rw [List.append_assoc]; unfold trimF; rw [← hb, ha]⟩
theorem dropW_idem : ∀ l : List UInt8, (l.dropWhile wh).dropWhile wh = l.dropWhile wh
  | [] => rfl
  | c :: l => by
    cases h : wh c with
    | true => rw [List.dropWhile_cons, if_pos h, dropW_idem l]
    | false => rw [List.dropWhile_cons, if_neg (by simp [h]), List.dropWhile_cons, if_neg (by simp [h])]
theorem dropR_idem (l : List UInt8) : dropR (dropR l) = dropR l := by
  unfold dropR
  rw [List.reverse_reverse, dropW_idem]
theorem trim_idem (l : List UInt8) : trimF (trimF l) = trimF l := by
  have h1 : (trimF l).dropWhile wh = trimF l := by rw [trim_comm, dropW_idem]
  have h2 : dropR (trimF l) = trimF l := dropR_idem _
  conv => lhs; unfold trimF
  rw [show dropR (l.dropWhile wh) = trimF l from rfl, h1, h2]
theorem signs_in : ∀ c ∈ signsL, 33 ≤ c.toNat ∧ c.toNat ≤ 126 ∧ c.toNat ≠ 34 ∧ c.toNat ≠ 92 := by decide
theorem let_in {c : UInt8} (h : letB c = true) : plainB c = true ∧ needs c = false := by
  have : 33 ≤ c.toNat ∧ c.toNat ≤ 126 ∧ c.toNat ≠ 34 ∧ c.toNat ≠ 92 := by
    unfold letB letN at h
    simp only [Bool.or_eq_true, decide_eq_true_eq, List.any_eq_true, beq_iff_eq] at h
    rcases h with h | h | h | ⟨d, hd, h⟩
    · omega
    · omega
    · omega
    · have := signs_in d hd
      omega
  exact ⟨by unfold plainB; simp; omega, by unfold needs; simp; omega⟩
theorem atom_quote {l : List UInt8} (h : atomF l = true) : l.all plainB = true ∧ (quoteL l).length = l.length + 2 := by
  have h1 : l.all letB = true := by
    unfold atomF at h
    rw [Bool.and_eq_true] at h
    exact h.1
  rw [List.all_eq_true] at h1
  refine ⟨List.all_eq_true.2 fun c hc => (let_in (h1 c hc)).1, ?_⟩
  have : l.flatMap escB = l := by
    clear h
    induction l with
    | nil => rfl
    | cons c l ih => rw [List.flatMap_cons, escB, (let_in (h1 c (by simp))).2, ih fun d hd => h1 d (by simp [hd])]; rfl
  unfold quoteL
  rw [this]
  simp

/-- The tables lie there, and the library's number. -/
def Gm (s : SS) : Prop := s.gl = 2 ∧ 2 ≤ s.next ∧ lookH s.heap 0 = some gA ∧ ∃ m, lookH s.heap 1 = some (.cells [.int .i64 m] 3 false true)
theorem Gm.gb {s : SS} (h : Gm s) : Gb s := ⟨by rw [h.1]; omega, by have := h.2.1; omega, h.2.2.1⟩
theorem Gm.chg {s s' : SS} (h : Gm s) (c : Chg s s' []) : Gm s' := by
  obtain ⟨h1, h2, h3, m, h4⟩ := h
  exact ⟨c.gl.trans h1, Nat.le_trans h2 c.next, c.blk 0 _ (by omega) (by simp) h3, m, c.blk 1 _ (by omega) (by simp) h4⟩

theorem contains_w' {s : SS} {l a : List UInt8} (hG : Gm s) (hl : l.length ≤ 1000000) : CallW pr n_strings_Contains [str l, str a] s fun v s' => v = .bool (Lib.contains l a) ∧ s' = s := by
  refine CallW.kit rfl fun B w0 ρ args' w H ha => ?_
  obtain ⟨v1, v2, rfl, q1, q2⟩ := lrel_two ha
  obtain rfl := str_inv q1
  obtain rfl := str_inv q2
  obtain ⟨g1, g2, g3, m, g4⟩ := hG
  obtain ⟨e, he, hb, ho⟩ := H.glob 1 (by show 1 < s.gl; omega)
  obtain ⟨v', p1, p2⟩ := H.cellAt g4 he (off := 0) rfl
  rw [hb, ho, int_inv p2] at p1
  exact (Any.strings_Contains Tryd.lays144 ⟨⟨l⟩⟩ ⟨⟨a⟩⟩ m w (by show l.length < _; omega) p1).mono fun e w' ⟨q, r⟩ => ⟨q, by rw [r]; exact Below.refl _ _⟩

theorem IndexByte_w {s : SS} {l : List UInt8} {c : UInt8} : CallW pr n_strings_IndexByte [str l, .int .u8 c.toNat] s fun v s' => v = .int .i64 (Lib.indexByte l c) ∧ s' = s := by
  refine CallW.run good ok_strings_IndexByte (by simp) rfl ?_
  (repeat (first | refine pSeq ?_ | refine pReg ?_ | refine sRaw ?_ | refine sCons ?_ | refine sNil ?_ | refine rCons ?_ | refine rNil ?_ | refine kNo ?_ | refine pRow ?_ | refine pBlock ?_ | refine pSkip ?_ | refine pExit ?_ | refine pRet ?_ | refine pCond ?_ | refine gNone ?_ | refine gOn rfl ?_ | refine gOff rfl rfl ?_ | refine gTup rfl ?_))
  refine indexByte_w.mono fun v s q => ?_
  obtain ⟨rfl, rfl⟩ := q
  (repeat (first | refine pSeq ?_ | refine pReg ?_ | refine sRaw ?_ | refine sCons ?_ | refine sNil ?_ | refine rCons ?_ | refine rNil ?_ | refine kNo ?_ | refine pRow ?_ | refine pBlock ?_ | refine pSkip ?_ | refine pExit ?_ | refine pRet ?_ | refine pCond ?_ | refine gNone ?_ | refine gOn rfl ?_ | refine gOff rfl rfl ?_ | refine gTup rfl ?_))
  exact ⟨rfl, rfl⟩

set_option maxHeartbeats 2000000 in
theorem parts_w {s : SS} {l0 : List UInt8} {c : UInt8} (hG : Gm s) : CallW pr n_law04_TextParts [str l0, .int .u8 c.toNat] s fun v s' => v = .bool true := by
  refine CallW.run good ok_law04_TextParts (by simp) rfl ?_
  (repeat (first | refine pSeq ?_ | refine pReg ?_ | refine sRaw ?_ | refine sCons ?_ | refine sNil ?_ | refine rCons ?_ | refine rNil ?_ | refine kNo ?_ | refine pRow ?_ | refine pBlock ?_ | refine pSkip ?_ | refine pExit ?_ | refine pRet ?_ | refine pCond ?_ | refine gNone ?_ | refine gOn rfl ?_ | refine gOff rfl rfl ?_ | refine gTup rfl ?_))
  intro n hn
  (repeat (first | refine pSeq ?_ | refine pReg ?_ | refine sRaw ?_ | refine sCons ?_ | refine sNil ?_ | refine rCons ?_ | refine rNil ?_ | refine kNo ?_ | refine pRow ?_ | refine pBlock ?_ | refine pSkip ?_ | refine pExit ?_ | refine pRet ?_ | refine pCond ?_ | refine gNone ?_ | refine gOn rfl ?_ | refine gOff rfl rfl ?_ | refine gTup rfl ?_))
  intro z hz
  (repeat (first | refine pSeq ?_ | refine pReg ?_ | refine sRaw ?_ | refine sCons ?_ | refine sNil ?_ | refine rCons ?_ | refine rNil ?_ | refine kNo ?_ | refine pRow ?_ | refine pBlock ?_ | refine pSkip ?_ | refine pExit ?_ | refine pRet ?_ | refine pCond ?_ | refine gNone ?_ | refine gOn rfl ?_ | refine gOff rfl rfl ?_ | refine gTup rfl ?_))
  refine ⟨by omega, ?_⟩
  intro m hm l hl
  have hll : l.length ≤ 150 := by rw [hl]; simp; omega
  clear hl hm hz hn
  (repeat (first | refine pSeq ?_ | refine pReg ?_ | refine sRaw ?_ | refine sCons ?_ | refine sNil ?_ | refine rCons ?_ | refine rNil ?_ | refine kNo ?_ | refine pRow ?_ | refine pBlock ?_ | refine pSkip ?_ | refine pExit ?_ | refine pRet ?_ | refine pCond ?_ | refine gNone ?_ | refine gOn rfl ?_ | refine gOff rfl rfl ?_ | refine gTup rfl ?_))
  refine (Split_w (c := c) (by omega)).mono fun v s1 q => ?_
  obtain ⟨base, cap, rfl, p1, c1, o1, o2⟩ := q
  (repeat (first | refine pSeq ?_ | refine pReg ?_ | refine sRaw ?_ | refine sCons ?_ | refine sNil ?_ | refine rCons ?_ | refine rNil ?_ | refine kNo ?_ | refine pRow ?_ | refine pBlock ?_ | refine pSkip ?_ | refine pExit ?_ | refine pRet ?_ | refine pCond ?_ | refine gNone ?_ | refine gOn rfl ?_ | refine gOff rfl rfl ?_ | refine gTup rfl ?_))
  refine toStr_Rdb rfl (rdb_lit (l := [c]) lkH (Nat.lt_succ_self _)) ?_
  (repeat (first | refine pSeq ?_ | refine pReg ?_ | refine sRaw ?_ | refine sCons ?_ | refine sNil ?_ | refine rCons ?_ | refine rNil ?_ | refine kNo ?_ | refine pRow ?_ | refine pBlock ?_ | refine pSkip ?_ | refine pExit ?_ | refine pRet ?_ | refine pCond ?_ | refine gNone ?_ | refine gOn rfl ?_ | refine gOff rfl rfl ?_ | refine gTup rfl ?_))
  refine count_w.mono fun v s2 q => ?_
  obtain ⟨rfl, rfl⟩ := q
  have hcl : l.count c ≤ l.length := List.count_le_length
  (repeat (first | refine pSeq ?_ | refine pReg ?_ | refine sRaw ?_ | refine sCons ?_ | refine sNil ?_ | refine rCons ?_ | refine rNil ?_ | refine kNo ?_ | refine pRow ?_ | refine pBlock ?_ | refine pSkip ?_ | refine pExit ?_ | refine pRet ?_ | refine pCond ?_ | refine gNone ?_ | refine gOn rfl ?_ | refine gOff rfl rfl ?_ | refine gTup rfl ?_))
  intro z hz
  rw [i64_id (by omega)] at hz
  (repeat (first | refine pSeq ?_ | refine pReg ?_ | refine sRaw ?_ | refine sCons ?_ | refine sNil ?_ | refine rCons ?_ | refine rNil ?_ | refine kNo ?_ | refine pRow ?_ | refine pBlock ?_ | refine pSkip ?_ | refine pExit ?_ | refine pRet ?_ | refine pCond ?_ | refine gNone ?_ | refine gOn rfl ?_ | refine gOff rfl rfl ?_ | refine gTup rfl ?_))
  intro q hq
  obtain rfl : q = false := by rw [hq, split_len, hz]; simp
  (repeat (first | refine pSeq ?_ | refine pReg ?_ | refine sRaw ?_ | refine sCons ?_ | refine sNil ?_ | refine rCons ?_ | refine rNil ?_ | refine kNo ?_ | refine pRow ?_ | refine pBlock ?_ | refine pSkip ?_ | refine pExit ?_ | refine pRet ?_ | refine pCond ?_ | refine gNone ?_ | refine gOn rfl ?_ | refine gOff rfl rfl ?_ | refine gTup rfl ?_))
  refine toStr_Rdb rfl (rdb_lit (l := [c]) lkH (Nat.lt_succ_self _)) ?_
  (repeat (first | refine pSeq ?_ | refine pReg ?_ | refine sRaw ?_ | refine sCons ?_ | refine sNil ?_ | refine rCons ?_ | refine rNil ?_ | refine kNo ?_ | refine pRow ?_ | refine pBlock ?_ | refine pSkip ?_ | refine pExit ?_ | refine pRet ?_ | refine pCond ?_ | refine gNone ?_ | refine gOn rfl ?_ | refine gOff rfl rfl ?_ | refine gTup rfl ?_))
  have hlen : (splitF c l).length = l.count c + 1 := split_len l
  refine (join_w (c := c) ((p1.chg (Chg.new []) (by simp)).chg (Chg.new []) (by simp)) (by omega) o2 (by omega) (by rw [join_split]; omega)).mono fun v s3 q => ?_
  obtain ⟨rfl, hs⟩ := q
  have c3 : Chg s s3 [] := by rw [hs]; exact (c1.nil (Chg.new [])).nil (Chg.new [])
  have p3 : StrsAt s3 base (splitF c l) := by rw [hs]; exact (p1.chg (Chg.new []) (by simp)).chg (Chg.new []) (by simp)
  clear hs
  rw [join_split]
  (repeat (first | refine pSeq ?_ | refine pReg ?_ | refine sRaw ?_ | refine sCons ?_ | refine sNil ?_ | refine rCons ?_ | refine rNil ?_ | refine kNo ?_ | refine pRow ?_ | refine pBlock ?_ | refine pSkip ?_ | refine pExit ?_ | refine pRet ?_ | refine pCond ?_ | refine gNone ?_ | refine gOn rfl ?_ | refine gOff rfl rfl ?_ | refine gTup rfl ?_))
  intro q hq
  obtain rfl : q = false := by rw [hq]; simp
  (repeat (first | refine pSeq ?_ | refine pReg ?_ | refine sRaw ?_ | refine sCons ?_ | refine sNil ?_ | refine rCons ?_ | refine rNil ?_ | refine kNo ?_ | refine pRow ?_ | refine pBlock ?_ | refine pSkip ?_ | refine pExit ?_ | refine pRet ?_ | refine pCond ?_ | refine gNone ?_ | refine gOn rfl ?_ | refine gOff rfl rfl ?_ | refine gTup rfl ?_))
  obtain ⟨b1, rfl, cs1, t1, g1, r1, e1, f1⟩ := p3.at
  refine pLoop (MW.head good (fun i : Nat => (splitF c l).length - i) (fun i => i ≤ (splitF c l).length) (fun i => [(0, str l), (1, .int .u8 c.toNat), (45, .slice (some ⟨b1, 0, none⟩) (splitF c l).length cap), (46, .int .i64 (splitF c l).length), (47, .int .i64 i)]) (fun i => s3) 0 (Nat.zero_le _) (Wk.same ⟨rfl, rfl, rfl, rfl, rfl, trivial⟩) ?_)
  intro i hi
  (repeat (first | refine pSeq ?_ | refine pReg ?_ | refine sRaw ?_ | refine sCons ?_ | refine sNil ?_ | refine rCons ?_ | refine rNil ?_ | refine kNo ?_ | refine pRow ?_ | refine pBlock ?_ | refine pSkip ?_ | refine pExit ?_ | refine pRet ?_ | refine pCond ?_ | refine gNone ?_ | refine gOn rfl ?_ | refine gOff rfl rfl ?_ | refine gTup rfl ?_))
  intro q hq
  by_cases hlt : i < (splitF c l).length
  · obtain rfl : q = true := by rw [hq]; simp <;> omega
    obtain ⟨x, hx⟩ : ∃ x, (splitF c l)[i]? = some x := ⟨_, List.getElem?_eq_getElem hlt⟩
    (repeat (first | refine pSeq ?_ | refine pReg ?_ | refine sRaw ?_ | refine sCons ?_ | refine sNil ?_ | refine rCons ?_ | refine rNil ?_ | refine kNo ?_ | refine pRow ?_ | refine pBlock ?_ | refine pSkip ?_ | refine pExit ?_ | refine pRet ?_ | refine pCond ?_ | refine gNone ?_ | refine gOn rfl ?_ | refine gOff rfl rfl ?_ | refine gTup rfl ?_))
    refine ⟨by omega, ?_⟩
    intro m hm o ho
    obtain rfl : m = i := by omega
    (repeat (first | refine pSeq ?_ | refine pReg ?_ | refine sRaw ?_ | refine sCons ?_ | refine sNil ?_ | refine rCons ?_ | refine rNil ?_ | refine kNo ?_ | refine pRow ?_ | refine pBlock ?_ | refine pSkip ?_ | refine pExit ?_ | refine pRet ?_ | refine pCond ?_ | refine gNone ?_ | refine gOn rfl ?_ | refine gOff rfl rfl ?_ | refine gTup rfl ?_))
    refine ldS_is rfl e1 (by rw [ho, Nat.zero_add, Nat.mul_one]; exact f1 m x hx) ?_
    (repeat (first | refine pSeq ?_ | refine pReg ?_ | refine sRaw ?_ | refine sCons ?_ | refine sNil ?_ | refine rCons ?_ | refine rNil ?_ | refine kNo ?_ | refine pRow ?_ | refine pBlock ?_ | refine pSkip ?_ | refine pExit ?_ | refine pRet ?_ | refine pCond ?_ | refine gNone ?_ | refine gOn rfl ?_ | refine gOff rfl rfl ?_ | refine gTup rfl ?_))
    refine IndexByte_w.mono fun v s4 q => ?_
    obtain ⟨rfl, rfl⟩ := q
    rw [idx_no (split_no (List.mem_of_getElem? hx))]
    (repeat (first | refine pSeq ?_ | refine pReg ?_ | refine sRaw ?_ | refine sCons ?_ | refine sNil ?_ | refine rCons ?_ | refine rNil ?_ | refine kNo ?_ | refine pRow ?_ | refine pBlock ?_ | refine pSkip ?_ | refine pExit ?_ | refine pRet ?_ | refine pCond ?_ | refine gNone ?_ | refine gOn rfl ?_ | refine gOff rfl rfl ?_ | refine gTup rfl ?_))
    intro q hq
    obtain rfl : q = false := by rw [hq]; rfl
    (repeat (first | refine pSeq ?_ | refine pReg ?_ | refine sRaw ?_ | refine sCons ?_ | refine sNil ?_ | refine rCons ?_ | refine rNil ?_ | refine kNo ?_ | refine pRow ?_ | refine pBlock ?_ | refine pSkip ?_ | refine pExit ?_ | refine pRet ?_ | refine pCond ?_ | refine gNone ?_ | refine gOn rfl ?_ | refine gOff rfl rfl ?_ | refine gTup rfl ?_))
    intro z hz
    rw [i64_id (by omega)] at hz
    obtain rfl : z = ((m + 1 : Nat) : Int) := by omega
    (repeat (first | refine pSeq ?_ | refine pReg ?_ | refine sRaw ?_ | refine sCons ?_ | refine sNil ?_ | refine rCons ?_ | refine rNil ?_ | refine kNo ?_ | refine pRow ?_ | refine pBlock ?_ | refine pSkip ?_ | refine pExit ?_ | refine pRet ?_ | refine pCond ?_ | refine gNone ?_ | refine gOn rfl ?_ | refine gOff rfl rfl ?_ | refine gTup rfl ?_))
    exact ⟨m + 1, hlt, by show (splitF c l).length - (m + 1) < (splitF c l).length - m; omega, Wk.same ⟨rfl, rfl, rfl, rfl, rfl, trivial⟩⟩
  · obtain rfl : q = false := by rw [hq]; simp <;> omega
    (repeat (first | refine pSeq ?_ | refine pReg ?_ | refine sRaw ?_ | refine sCons ?_ | refine sNil ?_ | refine rCons ?_ | refine rNil ?_ | refine kNo ?_ | refine pRow ?_ | refine pBlock ?_ | refine pSkip ?_ | refine pExit ?_ | refine pRet ?_ | refine pCond ?_ | refine gNone ?_ | refine gOn rfl ?_ | refine gOff rfl rfl ?_ | refine gTup rfl ?_))
    refine (Split_w (c := 46) (by omega)).mono fun v s5 q => ?_
    obtain ⟨base5, cap5, rfl, p5, c5, _, _⟩ := q
    have c05 := c3.nil c5
    clear e1 f1 p3
    obtain ⟨b5, rfl, cs5, t5, g5, r5, e5, f5⟩ := p5.at
    have hdot : dotF l = (splitF 46 l).all atomF := rfl
    have hlen5 : (splitF 46 l).length ≤ 151 := by
      rw [split_len]
      have := List.count_le_length (a := (46 : UInt8)) (l := l)
      omega
    have hb5 : b5 < s5.next := by
      obtain ⟨_, _, _, _, _, e, q, _⟩ := p5
      cases e
      exact q
    generalize splitF 46 l = ls at *
    (repeat (first | refine pSeq ?_ | refine pReg ?_ | refine sRaw ?_ | refine sCons ?_ | refine sNil ?_ | refine rCons ?_ | refine rNil ?_ | refine kNo ?_ | refine pRow ?_ | refine pBlock ?_ | refine pSkip ?_ | refine pExit ?_ | refine pRet ?_ | refine pCond ?_ | refine gNone ?_ | refine gOn rfl ?_ | refine gOff rfl rfl ?_ | refine gTup rfl ?_))
    refine pLoop (MW.head good (fun x : SIt => ls.length - x.i) (fun x => x.i ≤ ls.length ∧ Chg s5 x.s []) (fun x => [(0, str l), (8, .bool ((ls.take x.i).all atomF)), (57, .slice (some ⟨b5, 0, none⟩) ls.length cap5), (58, .int .i64 ls.length), (59, .int .i64 x.i)]) (fun x => x.s) ⟨0, s5⟩ ⟨Nat.zero_le _, .refl _ _⟩ (Wk.same ⟨rfl, rfl, rfl, rfl, rfl, trivial⟩) ?_)
    intro ⟨i, s6⟩ ⟨hi6, c6⟩
    dsimp only at hi6 c6 ⊢
    (repeat (first | refine pSeq ?_ | refine pReg ?_ | refine sRaw ?_ | refine sCons ?_ | refine sNil ?_ | refine rCons ?_ | refine rNil ?_ | refine kNo ?_ | refine pRow ?_ | refine pBlock ?_ | refine pSkip ?_ | refine pExit ?_ | refine pRet ?_ | refine pCond ?_ | refine gNone ?_ | refine gOn rfl ?_ | refine gOff rfl rfl ?_ | refine gTup rfl ?_))
    intro q hq
    by_cases hlt6 : i < ls.length
    · obtain rfl : q = true := by rw [hq]; simp <;> omega
      obtain ⟨x, hx⟩ : ∃ x, ls[i]? = some x := ⟨_, List.getElem?_eq_getElem hlt6⟩
      have hnext : (ls.take (i + 1)).all atomF = ((ls.take i).all atomF && atomF x) := by rw [take_next hx]; simp
      (repeat (first | refine pSeq ?_ | refine pReg ?_ | refine sRaw ?_ | refine sCons ?_ | refine sNil ?_ | refine rCons ?_ | refine rNil ?_ | refine kNo ?_ | refine pRow ?_ | refine pBlock ?_ | refine pSkip ?_ | refine pExit ?_ | refine pRet ?_ | refine pCond ?_ | refine gNone ?_ | refine gOn rfl ?_ | refine gOff rfl rfl ?_ | refine gTup rfl ?_))
      refine ⟨by omega, ?_⟩
      intro m hm o ho
      obtain rfl : m = i := by omega
      (repeat (first | refine pSeq ?_ | refine pReg ?_ | refine sRaw ?_ | refine sCons ?_ | refine sNil ?_ | refine rCons ?_ | refine rNil ?_ | refine kNo ?_ | refine pRow ?_ | refine pBlock ?_ | refine pSkip ?_ | refine pExit ?_ | refine pRet ?_ | refine pCond ?_ | refine gNone ?_ | refine gOn rfl ?_ | refine gOff rfl rfl ?_ | refine gTup rfl ?_))
      refine ldS_is rfl (c6.blk b5 _ hb5 (by simp) e5) (by rw [ho, Nat.zero_add, Nat.mul_one]; exact f5 m x hx) ?_
      (repeat (first | refine pSeq ?_ | refine pReg ?_ | refine sRaw ?_ | refine sCons ?_ | refine sNil ?_ | refine rCons ?_ | refine rNil ?_ | refine kNo ?_ | refine pRow ?_ | refine pBlock ?_ | refine pSkip ?_ | refine pExit ?_ | refine pRet ?_ | refine pCond ?_ | refine gNone ?_ | refine gOn rfl ?_ | refine gOff rfl rfl ?_ | refine gTup rfl ?_))
      cases hal : (ls.take m).all atomF with
      | true =>
        rw [hal] at hnext
        (repeat (first | refine pSeq ?_ | refine pReg ?_ | refine sRaw ?_ | refine sCons ?_ | refine sNil ?_ | refine rCons ?_ | refine rNil ?_ | refine kNo ?_ | refine pRow ?_ | refine pBlock ?_ | refine pSkip ?_ | refine pExit ?_ | refine pRet ?_ | refine pCond ?_ | refine gNone ?_ | refine gOn rfl ?_ | refine gOff rfl rfl ?_ | refine gTup rfl ?_))
        refine (atom_w ((hG.chg (c05.nil c6)).gb)).mono fun v s7 q => ?_
        obtain ⟨rfl, c7⟩ := q
        (repeat (first | refine pSeq ?_ | refine pReg ?_ | refine sRaw ?_ | refine sCons ?_ | refine sNil ?_ | refine rCons ?_ | refine rNil ?_ | refine kNo ?_ | refine pRow ?_ | refine pBlock ?_ | refine pSkip ?_ | refine pExit ?_ | refine pRet ?_ | refine pCond ?_ | refine gNone ?_ | refine gOn rfl ?_ | refine gOff rfl rfl ?_ | refine gTup rfl ?_))
        intro z hz
        rw [i64_id (by omega)] at hz
        obtain rfl : z = ((m + 1 : Nat) : Int) := by omega
        (repeat (first | refine pSeq ?_ | refine pReg ?_ | refine sRaw ?_ | refine sCons ?_ | refine sNil ?_ | refine rCons ?_ | refine rNil ?_ | refine kNo ?_ | refine pRow ?_ | refine pBlock ?_ | refine pSkip ?_ | refine pExit ?_ | refine pRet ?_ | refine pCond ?_ | refine gNone ?_ | refine gOn rfl ?_ | refine gOff rfl rfl ?_ | refine gTup rfl ?_))
        exact ⟨⟨m + 1, s7⟩, ⟨hlt6, c6.nil c7⟩, by show ls.length - (m + 1) < ls.length - m; omega, Wk.same ⟨rfl, by show some _ = some _; rw [hnext, Bool.true_and], rfl, rfl, rfl, trivial⟩⟩
      | false =>
        rw [hal] at hnext
        (repeat (first | refine pSeq ?_ | refine pReg ?_ | refine sRaw ?_ | refine sCons ?_ | refine sNil ?_ | refine rCons ?_ | refine rNil ?_ | refine kNo ?_ | refine pRow ?_ | refine pBlock ?_ | refine pSkip ?_ | refine pExit ?_ | refine pRet ?_ | refine pCond ?_ | refine gNone ?_ | refine gOn rfl ?_ | refine gOff rfl rfl ?_ | refine gTup rfl ?_))
        intro z hz
        rw [i64_id (by omega)] at hz
        obtain rfl : z = ((m + 1 : Nat) : Int) := by omega
        (repeat (first | refine pSeq ?_ | refine pReg ?_ | refine sRaw ?_ | refine sCons ?_ | refine sNil ?_ | refine rCons ?_ | refine rNil ?_ | refine kNo ?_ | refine pRow ?_ | refine pBlock ?_ | refine pSkip ?_ | refine pExit ?_ | refine pRet ?_ | refine pCond ?_ | refine gNone ?_ | refine gOn rfl ?_ | refine gOff rfl rfl ?_ | refine gTup rfl ?_))
        exact ⟨⟨m + 1, s6⟩, ⟨hlt6, c6⟩, by show ls.length - (m + 1) < ls.length - m; omega, Wk.same ⟨rfl, by show some _ = some _; rw [hnext, Bool.false_and], rfl, rfl, rfl, trivial⟩⟩
    · obtain rfl : q = false := by rw [hq]; simp <;> omega
      rw [List.take_of_length_le (by omega), ← hdot]
      have g6 := hG.chg (c05.nil c6)
      clear hdot e5 f5 p5
      (repeat (first | refine pSeq ?_ | refine pReg ?_ | refine sRaw ?_ | refine sCons ?_ | refine sNil ?_ | refine rCons ?_ | refine rNil ?_ | refine kNo ?_ | refine pRow ?_ | refine pBlock ?_ | refine pSkip ?_ | refine pExit ?_ | refine pRet ?_ | refine pCond ?_ | refine gNone ?_ | refine gOn rfl ?_ | refine gOff rfl rfl ?_ | refine gTup rfl ?_))
      refine (lower_w (by omega)).mono fun v s7 q => ?_
      obtain ⟨rfl, c7⟩ := q
      (repeat (first | refine pSeq ?_ | refine pReg ?_ | refine sRaw ?_ | refine sCons ?_ | refine sNil ?_ | refine rCons ?_ | refine rNil ?_ | refine kNo ?_ | refine pRow ?_ | refine pBlock ?_ | refine pSkip ?_ | refine pExit ?_ | refine pRet ?_ | refine pCond ?_ | refine gNone ?_ | refine gOn rfl ?_ | refine gOff rfl rfl ?_ | refine gTup rfl ?_))
      refine (textTrim_w (by omega)).mono fun v s8 q => ?_
      obtain ⟨rfl, c8⟩ := q
      (repeat (first | refine pSeq ?_ | refine pReg ?_ | refine sRaw ?_ | refine sCons ?_ | refine sNil ?_ | refine rCons ?_ | refine rNil ?_ | refine kNo ?_ | refine pRow ?_ | refine pBlock ?_ | refine pSkip ?_ | refine pExit ?_ | refine pRet ?_ | refine pCond ?_ | refine gNone ?_ | refine gOn rfl ?_ | refine gOff rfl rfl ?_ | refine gTup rfl ?_))
      refine (lower_w (by simp; omega)).mono fun v s9 q => ?_
      obtain ⟨rfl, c9⟩ := q
      rw [low_map]
      (repeat (first | refine pSeq ?_ | refine pReg ?_ | refine sRaw ?_ | refine sCons ?_ | refine sNil ?_ | refine rCons ?_ | refine rNil ?_ | refine kNo ?_ | refine pRow ?_ | refine pBlock ?_ | refine pSkip ?_ | refine pExit ?_ | refine pRet ?_ | refine pCond ?_ | refine gNone ?_ | refine gOn rfl ?_ | refine gOff rfl rfl ?_ | refine gTup rfl ?_))
      intro q hq
      obtain rfl : q = false := by rw [hq]; simp
      (repeat (first | refine pSeq ?_ | refine pReg ?_ | refine sRaw ?_ | refine sCons ?_ | refine sNil ?_ | refine rCons ?_ | refine rNil ?_ | refine kNo ?_ | refine pRow ?_ | refine pBlock ?_ | refine pSkip ?_ | refine pExit ?_ | refine pRet ?_ | refine pCond ?_ | refine gNone ?_ | refine gOn rfl ?_ | refine gOff rfl rfl ?_ | refine gTup rfl ?_))
      intro n1 hn1
      (repeat (first | refine pSeq ?_ | refine pReg ?_ | refine sRaw ?_ | refine sCons ?_ | refine sNil ?_ | refine rCons ?_ | refine rNil ?_ | refine kNo ?_ | refine pRow ?_ | refine pBlock ?_ | refine pSkip ?_ | refine pExit ?_ | refine pRet ?_ | refine pCond ?_ | refine gNone ?_ | refine gOn rfl ?_ | refine gOff rfl rfl ?_ | refine gTup rfl ?_))
      intro n2 hn2
      (repeat (first | refine pSeq ?_ | refine pReg ?_ | refine sRaw ?_ | refine sCons ?_ | refine sNil ?_ | refine rCons ?_ | refine rNil ?_ | refine kNo ?_ | refine pRow ?_ | refine pBlock ?_ | refine pSkip ?_ | refine pExit ?_ | refine pRet ?_ | refine pCond ?_ | refine gNone ?_ | refine gOn rfl ?_ | refine gOff rfl rfl ?_ | refine gTup rfl ?_))
      intro q hq
      obtain rfl : q = false := by rw [hq, hn1, hn2]; simp
      (repeat (first | refine pSeq ?_ | refine pReg ?_ | refine sRaw ?_ | refine sCons ?_ | refine sNil ?_ | refine rCons ?_ | refine rNil ?_ | refine kNo ?_ | refine pRow ?_ | refine pBlock ?_ | refine pSkip ?_ | refine pExit ?_ | refine pRet ?_ | refine pCond ?_ | refine gNone ?_ | refine gOn rfl ?_ | refine gOff rfl rfl ?_ | refine gTup rfl ?_))
      refine (same_w (by simp; omega) (by omega)).mono fun v s10 q => ?_
      obtain ⟨rfl, c10⟩ := q
      rw [low_map]
      (repeat (first | refine pSeq ?_ | refine pReg ?_ | refine sRaw ?_ | refine sCons ?_ | refine sNil ?_ | refine rCons ?_ | refine rNil ?_ | refine kNo ?_ | refine pRow ?_ | refine pBlock ?_ | refine pSkip ?_ | refine pExit ?_ | refine pRet ?_ | refine pCond ?_ | refine gNone ?_ | refine gOn rfl ?_ | refine gOff rfl rfl ?_ | refine gTup rfl ?_))
      intro q hq
      obtain rfl : q = false := by rw [hq]; simp
      (repeat (first | refine pSeq ?_ | refine pReg ?_ | refine sRaw ?_ | refine sCons ?_ | refine sNil ?_ | refine rCons ?_ | refine rNil ?_ | refine kNo ?_ | refine pRow ?_ | refine pBlock ?_ | refine pSkip ?_ | refine pExit ?_ | refine pRet ?_ | refine pCond ?_ | refine gNone ?_ | refine gOn rfl ?_ | refine gOff rfl rfl ?_ | refine gTup rfl ?_))
      have g10 := (((g6.chg c7).chg c8).chg c9).chg c10
      refine (dotatom_w g10.gb (by omega)).mono fun v s11 q => ?_
      obtain ⟨rfl, c11⟩ := q
      (repeat (first | refine pSeq ?_ | refine pReg ?_ | refine sRaw ?_ | refine sCons ?_ | refine sNil ?_ | refine rCons ?_ | refine rNil ?_ | refine kNo ?_ | refine pRow ?_ | refine pBlock ?_ | refine pSkip ?_ | refine pExit ?_ | refine pRet ?_ | refine pCond ?_ | refine gNone ?_ | refine gOn rfl ?_ | refine gOff rfl rfl ?_ | refine gTup rfl ?_))
      intro q hq
      obtain rfl : q = false := by rw [hq]; simp
      (repeat (first | refine pSeq ?_ | refine pReg ?_ | refine sRaw ?_ | refine sCons ?_ | refine sNil ?_ | refine rCons ?_ | refine rNil ?_ | refine kNo ?_ | refine pRow ?_ | refine pBlock ?_ | refine pSkip ?_ | refine pExit ?_ | refine pRet ?_ | refine pCond ?_ | refine gNone ?_ | refine gOn rfl ?_ | refine gOff rfl rfl ?_ | refine gTup rfl ?_))
      refine (contains_w' (g10.chg c11) (by omega)).mono fun v s12 q => ?_
      obtain ⟨rfl, rfl⟩ := q
      obtain ⟨pa, pb, hpart⟩ := trim_part l
      have hcon : Lib.contains l (trimF l) = true := by
        conv => lhs; arg 1; rw [hpart]
        exact contains_part pa
      have htl : (trimF l).length ≤ 150 := by
        have := congrArg List.length hpart
        simp only [List.length_append] at this
        omega
      rw [hcon]
      (repeat (first | refine pSeq ?_ | refine pReg ?_ | refine sRaw ?_ | refine sCons ?_ | refine sNil ?_ | refine rCons ?_ | refine rNil ?_ | refine kNo ?_ | refine pRow ?_ | refine pBlock ?_ | refine pSkip ?_ | refine pExit ?_ | refine pRet ?_ | refine pCond ?_ | refine gNone ?_ | refine gOn rfl ?_ | refine gOff rfl rfl ?_ | refine gTup rfl ?_))
      intro q hq
      obtain rfl : q = false := by rw [hq]; rfl
      (repeat (first | refine pSeq ?_ | refine pReg ?_ | refine sRaw ?_ | refine sCons ?_ | refine sNil ?_ | refine rCons ?_ | refine rNil ?_ | refine kNo ?_ | refine pRow ?_ | refine pBlock ?_ | refine pSkip ?_ | refine pExit ?_ | refine pRet ?_ | refine pCond ?_ | refine gNone ?_ | refine gOn rfl ?_ | refine gOff rfl rfl ?_ | refine gTup rfl ?_))
      refine (textTrim_w (by omega)).mono fun v s13 q => ?_
      obtain ⟨rfl, c13⟩ := q
      rw [trim_idem]
      (repeat (first | refine pSeq ?_ | refine pReg ?_ | refine sRaw ?_ | refine sCons ?_ | refine sNil ?_ | refine rCons ?_ | refine rNil ?_ | refine kNo ?_ | refine pRow ?_ | refine pBlock ?_ | refine pSkip ?_ | refine pExit ?_ | refine pRet ?_ | refine pCond ?_ | refine gNone ?_ | refine gOn rfl ?_ | refine gOff rfl rfl ?_ | refine gTup rfl ?_))
      intro q hq
      obtain rfl : q = false := by rw [hq]; simp
      (repeat (first | refine pSeq ?_ | refine pReg ?_ | refine sRaw ?_ | refine sCons ?_ | refine sNil ?_ | refine rCons ?_ | refine rNil ?_ | refine kNo ?_ | refine pRow ?_ | refine pBlock ?_ | refine pSkip ?_ | refine pExit ?_ | refine pRet ?_ | refine pCond ?_ | refine gNone ?_ | refine gOn rfl ?_ | refine gOff rfl rfl ?_ | refine gTup rfl ?_))
      refine (Trim_w (by omega)).mono fun v s14 q => ?_
      obtain ⟨rfl, c14⟩ := q
      (repeat (first | refine pSeq ?_ | refine pReg ?_ | refine sRaw ?_ | refine sCons ?_ | refine sNil ?_ | refine rCons ?_ | refine rNil ?_ | refine kNo ?_ | refine pRow ?_ | refine pBlock ?_ | refine pSkip ?_ | refine pExit ?_ | refine pRet ?_ | refine pCond ?_ | refine gNone ?_ | refine gOn rfl ?_ | refine gOff rfl rfl ?_ | refine gTup rfl ?_))
      intro q hq
      obtain rfl : q = false := by rw [hq]; simp
      (repeat (first | refine pSeq ?_ | refine pReg ?_ | refine sRaw ?_ | refine sCons ?_ | refine sNil ?_ | refine rCons ?_ | refine rNil ?_ | refine kNo ?_ | refine pRow ?_ | refine pBlock ?_ | refine pSkip ?_ | refine pExit ?_ | refine pRet ?_ | refine pCond ?_ | refine gNone ?_ | refine gOn rfl ?_ | refine gOff rfl rfl ?_ | refine gTup rfl ?_))
      refine (quote_w (by omega)).mono fun v s15 q => ?_
      obtain ⟨rfl, c15⟩ := q
      (repeat (first | refine pSeq ?_ | refine pReg ?_ | refine sRaw ?_ | refine sCons ?_ | refine sNil ?_ | refine rCons ?_ | refine rNil ?_ | refine kNo ?_ | refine pRow ?_ | refine pBlock ?_ | refine pSkip ?_ | refine pExit ?_ | refine pRet ?_ | refine pCond ?_ | refine gNone ?_ | refine gOn rfl ?_ | refine gOff rfl rfl ?_ | refine gTup rfl ?_))
      have g15 := (((g10.chg c11).chg c13).chg c14).chg c15
      refine (atom_w g15.gb).mono fun v s16 q => ?_
      obtain ⟨rfl, c16⟩ := q
      cases hat : atomF l with
      | false =>
        (repeat (first | refine pSeq ?_ | refine pReg ?_ | refine sRaw ?_ | refine sCons ?_ | refine sNil ?_ | refine rCons ?_ | refine rNil ?_ | refine kNo ?_ | refine pRow ?_ | refine pBlock ?_ | refine pSkip ?_ | refine pExit ?_ | refine pRet ?_ | refine pCond ?_ | refine gNone ?_ | refine gOn rfl ?_ | refine gOff rfl rfl ?_ | refine gTup rfl ?_))
        refine tells_w.mono fun v s17 q => ?_
        obtain ⟨rfl, c17⟩ := q
        (repeat (first | refine pSeq ?_ | refine pReg ?_ | refine sRaw ?_ | refine sCons ?_ | refine sNil ?_ | refine rCons ?_ | refine rNil ?_ | refine kNo ?_ | refine pRow ?_ | refine pBlock ?_ | refine pSkip ?_ | refine pExit ?_ | refine pRet ?_ | refine pCond ?_ | refine gNone ?_ | refine gOn rfl ?_ | refine gOff rfl rfl ?_ | refine gTup rfl ?_))
        rfl
      | true =>
        obtain ⟨hp1, hp2⟩ := atom_quote hat
        have eq : quoteF l = (quoteL l, 0) := by unfold quoteF; rw [if_pos hp1]
        rw [show (quoteF l).1 = quoteL l by rw [eq], show (quoteF l).2 = 0 by rw [eq]]
        (repeat (first | refine pSeq ?_ | refine pReg ?_ | refine sRaw ?_ | refine sCons ?_ | refine sNil ?_ | refine rCons ?_ | refine rNil ?_ | refine kNo ?_ | refine pRow ?_ | refine pBlock ?_ | refine pSkip ?_ | refine pExit ?_ | refine pRet ?_ | refine pCond ?_ | refine gNone ?_ | refine gOn rfl ?_ | refine gOff rfl rfl ?_ | refine gTup rfl ?_))
        intro q hq
        obtain rfl : q = false := by rw [hq]; simp
        (repeat (first | refine pSeq ?_ | refine pReg ?_ | refine sRaw ?_ | refine sCons ?_ | refine sNil ?_ | refine rCons ?_ | refine rNil ?_ | refine kNo ?_ | refine pRow ?_ | refine pBlock ?_ | refine pSkip ?_ | refine pExit ?_ | refine pRet ?_ | refine pCond ?_ | refine gNone ?_ | refine gOn rfl ?_ | refine gOff rfl rfl ?_ | refine gTup rfl ?_))
        intro n3 hn3
        (repeat (first | refine pSeq ?_ | refine pReg ?_ | refine sRaw ?_ | refine sCons ?_ | refine sNil ?_ | refine rCons ?_ | refine rNil ?_ | refine kNo ?_ | refine pRow ?_ | refine pBlock ?_ | refine pSkip ?_ | refine pExit ?_ | refine pRet ?_ | refine pCond ?_ | refine gNone ?_ | refine gOn rfl ?_ | refine gOff rfl rfl ?_ | refine gTup rfl ?_))
        intro n4 hn4
        (repeat (first | refine pSeq ?_ | refine pReg ?_ | refine sRaw ?_ | refine sCons ?_ | refine sNil ?_ | refine rCons ?_ | refine rNil ?_ | refine kNo ?_ | refine pRow ?_ | refine pBlock ?_ | refine pSkip ?_ | refine pExit ?_ | refine pRet ?_ | refine pCond ?_ | refine gNone ?_ | refine gOn rfl ?_ | refine gOff rfl rfl ?_ | refine gTup rfl ?_))
        intro n5 hn5
        rw [i64_id (by omega)] at hn5
        (repeat (first | refine pSeq ?_ | refine pReg ?_ | refine sRaw ?_ | refine sCons ?_ | refine sNil ?_ | refine rCons ?_ | refine rNil ?_ | refine kNo ?_ | refine pRow ?_ | refine pBlock ?_ | refine pSkip ?_ | refine pExit ?_ | refine pRet ?_ | refine pCond ?_ | refine gNone ?_ | refine gOn rfl ?_ | refine gOff rfl rfl ?_ | refine gTup rfl ?_))
        intro q hq
        obtain rfl : q = false := by rw [hq]; simp; omega
        (repeat (first | refine pSeq ?_ | refine pReg ?_ | refine sRaw ?_ | refine sCons ?_ | refine sNil ?_ | refine rCons ?_ | refine rNil ?_ | refine kNo ?_ | refine pRow ?_ | refine pBlock ?_ | refine pSkip ?_ | refine pExit ?_ | refine pRet ?_ | refine pCond ?_ | refine gNone ?_ | refine gOn rfl ?_ | refine gOff rfl rfl ?_ | refine gTup rfl ?_))
        refine Plain_w.mono fun v s17 q => ?_
        obtain ⟨rfl, c17⟩ := q
        rw [hp1]
        (repeat (first | refine pSeq ?_ | refine pReg ?_ | refine sRaw ?_ | refine sCons ?_ | refine sNil ?_ | refine rCons ?_ | refine rNil ?_ | refine kNo ?_ | refine pRow ?_ | refine pBlock ?_ | refine pSkip ?_ | refine pExit ?_ | refine pRet ?_ | refine pCond ?_ | refine gNone ?_ | refine gOn rfl ?_ | refine gOff rfl rfl ?_ | refine gTup rfl ?_))
        intro q hq
        obtain rfl : q = false := by rw [hq]; rfl
        (repeat (first | refine pSeq ?_ | refine pReg ?_ | refine sRaw ?_ | refine sCons ?_ | refine sNil ?_ | refine rCons ?_ | refine rNil ?_ | refine kNo ?_ | refine pRow ?_ | refine pBlock ?_ | refine pSkip ?_ | refine pExit ?_ | refine pRet ?_ | refine pCond ?_ | refine gNone ?_ | refine gOn rfl ?_ | refine gOff rfl rfl ?_ | refine gTup rfl ?_))
        refine tells_w.mono fun v s18 q => ?_
        obtain ⟨rfl, c18⟩ := q
        (repeat (first | refine pSeq ?_ | refine pReg ?_ | refine sRaw ?_ | refine sCons ?_ | refine sNil ?_ | refine rCons ?_ | refine rNil ?_ | refine kNo ?_ | refine pRow ?_ | refine pBlock ?_ | refine pSkip ?_ | refine pExit ?_ | refine pRet ?_ | refine pCond ?_ | refine gNone ?_ | refine gOn rfl ?_ | refine gOff rfl rfl ?_ | refine gTup rfl ?_))
        rfl
end Go.Vf.S

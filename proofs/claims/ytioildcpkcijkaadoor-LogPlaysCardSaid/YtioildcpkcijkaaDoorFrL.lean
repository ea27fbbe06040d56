import Derived.Test.YtioildcpkcijkaaDoorFrK
/- Frames opened: the program's way, and the document's. -/
namespace Go.Vf.S
open Go Go.Vf Go.Vf.Fr
attribute [local irreducible] wSeq wRow wp wG
set_option linter.unusedVariables false
set_option linter.unusedSimpArgs false
set_option maxRecDepth 10000

/-- The size that a form tells. -/
def sz (l : List UInt8) : Nat := (l.getD 0 0).toNat * 256 + (l.getD 1 0).toNat
/-- The error of a form. -/
def openE (a k : BitVec 32) (l : List UInt8) : Nat :=
  if l.length < 10 then 4 else if 16384 < sz l then 3 else if l.length < 10 + sz l then 4 else if rd4 l 2 ≠ k ∨ rd4 l 6 ≠ sumS a k (sz l) ((l.drop 10).take (sz l)) then 11 else 0
def oP (a k : BitVec 32) (l : List UInt8) : List UInt8 := if openE a k l = 0 then (l.drop 10).take (sz l) else []
def oN (a k : BitVec 32) (l : List UInt8) : Nat := if openE a k l = 0 then 10 + sz l else 0
def oS (a k : BitVec 32) (l : List UInt8) : BitVec 32 := if openE a k l = 0 then sumS a k (sz l) ((l.drop 10).take (sz l)) else 0#32

theorem sz_lt (l : List UInt8) : sz l < 65536 := by
  have h0 := (l.getD 0 0).toNat_lt
  have h1 := (l.getD 1 0).toNat_lt
  unfold sz
  omega

theorem ne_u32 {x y : BitVec 32} (h : x ≠ y) : true = decide ((x.toNat : Int) ≠ (y.toNat : Int)) := by
  symm
  rw [decide_eq_true_eq]
  exact fun e => h (BitVec.eq_of_toNat_eq (by omega))

/-- What opening tells. -/
def Told (a k : BitVec 32) (l : List UInt8) (s : SS) (v : Value) (s' : SS) (b' : Option Addr) (c' : Nat) : Prop :=
  v = .tuple ⟨[.slice b' (oP a k l).length c', .int .i64 (oN a k l), .int .u32 (oS a k l).toNat, .int .i64 (openE a k l)]⟩ ∧ Rdb s' b' (oP a k l).length (oP a k l) ∧ Old s s'

theorem told_err {a k : BitVec 32} {l : List UInt8} {s s' : SS} (e : Nat) (h : openE a k l = e + 1) (o : Old s s') : Told a k l s (.tuple ⟨[.slice none 0 0, .int .i64 0, .int .u32 0, .int .i64 ((e + 1 : Nat) : Int)]⟩) s' none 0 := by
  have e1 : oP a k l = [] := by unfold oP; rw [h, if_neg (by omega)]
  have e2 : oN a k l = 0 := by unfold oN; rw [h, if_neg (by omega)]
  have e3 : oS a k l = 0#32 := by unfold oS; rw [h, if_neg (by omega)]
  refine ⟨?_, ?_, o⟩
  · rw [e1, e2, e3, h]; rfl
  · rw [e1]; exact ⟨rfl, rfl⟩

theorem told_ok {a k : BitVec 32} {l : List UInt8} {s s' : SS} {b' : Option Addr} {c' : Nat} (h : openE a k l = 0) (hn : 10 + sz l ≤ l.length) (hr : Rdb s' b' (sz l) ((l.drop 10).take (sz l))) (o : Old s s') :
    Told a k l s (.tuple ⟨[.slice b' (sz l) c', .int .i64 ((10 + sz l : Nat) : Int), .int .u32 (sumS a k (sz l) ((l.drop 10).take (sz l))).toNat, .int .i64 0]⟩) s' b' c' := by
  have e1 : oP a k l = (l.drop 10).take (sz l) := by unfold oP; rw [h, if_pos rfl]
  have e2 : oN a k l = 10 + sz l := by unfold oN; rw [h, if_pos rfl]
  have e3 : oS a k l = sumS a k (sz l) ((l.drop 10).take (sz l)) := by unfold oS; rw [h, if_pos rfl]
  have e4 : ((l.drop 10).take (sz l)).length = sz l := by rw [List.length_take, List.length_drop]; omega
  refine ⟨?_, ?_, o⟩
  · rw [e1, e2, e3, h, e4]; rfl
  · rw [e1, e4]; exact hr

theorem open_w {s : SS} {base : Option Addr} {n c : Nat} {l : List UInt8} (h : Pre s base n l) (hc : Slc pr s base n c l) (hb : n < 2 ^ 40) (a k : BitVec 32) :
    CallW pr n_frame_Open [.int .u32 a.toNat, .int .u32 k.toNat, .slice base n c] s fun v s' => ∃ b' c', Told a k l s v s' b' c' ∧ New s b' := by
  have hnl := h.rd.1
  refine CallW.run good ok_frame_Open (by simp) rfl ?_
  (repeat(first|refine pSeq ?_|refine pReg ?_|refine sCons ?_|refine sNil ?_|refine rCons ?_|refine rNil ?_|refine kNo ?_|refine pRow ?_|refine pSkip ?_|refine pRet ?_|refine pCond ?_|refine gNone ?_))
  intro q hq
  by_cases h10 : n < 10
  · obtain rfl : q = true := by rw [hq]; simp; omega
    (repeat(first|refine pSeq ?_|refine pReg ?_|refine sCons ?_|refine sNil ?_|refine rCons ?_|refine rNil ?_|refine kNo ?_|refine pRow ?_|refine pSkip ?_|refine pRet ?_|refine pCond ?_|refine gNone ?_))
    exact ⟨none, 0, told_err 3 (by unfold openE; rw [if_pos (by omega)]) (.refl s), trivial⟩
  obtain rfl : q = false := by rw [hq]; simp; omega
  (repeat(first|refine pSeq ?_|refine pReg ?_|refine sCons ?_|refine sNil ?_|refine rCons ?_|refine rNil ?_|refine kNo ?_|refine pRow ?_|refine pSkip ?_|refine pRet ?_|refine pCond ?_|refine gNone ?_))
  have rd : ∃ b off, base = some ⟨b, off, none⟩ ∧ ∃ cc t g r, lookH s.heap b = some (.cells cc t g r) ∧ ∀ i, i < n → cc[off + i]? = some (.int .u8 (l.getD i 0).toNat) := by
    have hr := h.rd
    cases base with
    | none => exact absurd hnl (by have := hr.2; simp only at this; subst this; simp; omega)
    | some q =>
      obtain ⟨b, off, sp⟩ := q
      obtain ⟨rfl, cc, t, g, rr, hb1, hat⟩ := hr.at
      exact ⟨b, off, rfl, cc, t, g, rr, hb1, hat⟩
  obtain ⟨b, off, rfl, cc, t, g, r, hb1, hat⟩ := rd
  (repeat(first|refine pSeq ?_|refine pReg ?_|refine sCons ?_|refine sNil ?_|refine rCons ?_|refine rNil ?_|refine kNo ?_|refine pRow ?_|refine pSkip ?_|refine pRet ?_|refine pCond ?_|refine gNone ?_))
  refine ⟨by omega, ?_⟩
  intro m0 hm0 o0 ho0
  obtain rfl : m0 = 0 := by omega
  (repeat(first|refine pSeq ?_|refine pReg ?_|refine sCons ?_|refine sNil ?_|refine rCons ?_|refine rNil ?_|refine kNo ?_|refine pRow ?_|refine pSkip ?_|refine pRet ?_|refine pCond ?_|refine gNone ?_))
  refine ldI_at rfl hb1 (by rw [ho0, Nat.mul_one]; exact hat _ (by omega)) ?_
  have l0 := (l.getD 0 0).toNat_lt
  have l1 := (l.getD 1 0).toNat_lt
  (repeat(first|refine pSeq ?_|refine pReg ?_|refine sCons ?_|refine sNil ?_|refine rCons ?_|refine rNil ?_|refine kNo ?_|refine pRow ?_|refine pSkip ?_|refine pRet ?_|refine pCond ?_|refine gNone ?_))
  intro z hz; rw [i64_id (by omega)] at hz; subst hz
  (repeat(first|refine pSeq ?_|refine pReg ?_|refine sCons ?_|refine sNil ?_|refine rCons ?_|refine rNil ?_|refine kNo ?_|refine pRow ?_|refine pSkip ?_|refine pRet ?_|refine pCond ?_|refine gNone ?_))
  intro z hz; rw [i64_id (by omega)] at hz; subst hz
  (repeat(first|refine pSeq ?_|refine pReg ?_|refine sCons ?_|refine sNil ?_|refine rCons ?_|refine rNil ?_|refine kNo ?_|refine pRow ?_|refine pSkip ?_|refine pRet ?_|refine pCond ?_|refine gNone ?_))
  refine ⟨by omega, ?_⟩
  intro m1 hm1 o1 ho1
  obtain rfl : m1 = 1 := by omega
  (repeat(first|refine pSeq ?_|refine pReg ?_|refine sCons ?_|refine sNil ?_|refine rCons ?_|refine rNil ?_|refine kNo ?_|refine pRow ?_|refine pSkip ?_|refine pRet ?_|refine pCond ?_|refine gNone ?_))
  refine ldI_at rfl hb1 (by rw [ho1, Nat.mul_one]; exact hat _ (by omega)) ?_
  (repeat(first|refine pSeq ?_|refine pReg ?_|refine sCons ?_|refine sNil ?_|refine rCons ?_|refine rNil ?_|refine kNo ?_|refine pRow ?_|refine pSkip ?_|refine pRet ?_|refine pCond ?_|refine gNone ?_))
  intro z hz; rw [i64_id (by omega)] at hz; subst hz
  (repeat(first|refine pSeq ?_|refine pReg ?_|refine sCons ?_|refine sNil ?_|refine rCons ?_|refine rNil ?_|refine kNo ?_|refine pRow ?_|refine pSkip ?_|refine pRet ?_|refine pCond ?_|refine gNone ?_))
  intro z hz
  rw [or_byte (by omega) (by omega)] at hz
  obtain rfl : z = (sz l : Int) := hz
  have hsz := sz_lt l
  (repeat(first|refine pSeq ?_|refine pReg ?_|refine sCons ?_|refine sNil ?_|refine rCons ?_|refine rNil ?_|refine kNo ?_|refine pRow ?_|refine pSkip ?_|refine pRet ?_|refine pCond ?_|refine gNone ?_))
  intro q hq
  by_cases hlong : 16384 < sz l
  · obtain rfl : q = true := by rw [hq]; simp; omega
    (repeat(first|refine pSeq ?_|refine pReg ?_|refine sCons ?_|refine sNil ?_|refine rCons ?_|refine rNil ?_|refine kNo ?_|refine pRow ?_|refine pSkip ?_|refine pRet ?_|refine pCond ?_|refine gNone ?_))
    exact ⟨none, 0, told_err 2 (by unfold openE; rw [if_neg (by omega), if_pos hlong]) (.refl s), trivial⟩
  obtain rfl : q = false := by rw [hq]; simp; omega
  (repeat(first|refine pSeq ?_|refine pReg ?_|refine sCons ?_|refine sNil ?_|refine rCons ?_|refine rNil ?_|refine kNo ?_|refine pRow ?_|refine pSkip ?_|refine pRet ?_|refine pCond ?_|refine gNone ?_))
  intro z hz
  rw [i64_id (by omega)] at hz
  obtain rfl : z = ((10 + sz l : Nat) : Int) := by rw [hz]; omega
  (repeat(first|refine pSeq ?_|refine pReg ?_|refine sCons ?_|refine sNil ?_|refine rCons ?_|refine rNil ?_|refine kNo ?_|refine pRow ?_|refine pSkip ?_|refine pRet ?_|refine pCond ?_|refine gNone ?_))
  intro q hq
  by_cases hsh : n < 10 + sz l
  · obtain rfl : q = true := by rw [hq]; simp; omega
    (repeat(first|refine pSeq ?_|refine pReg ?_|refine sCons ?_|refine sNil ?_|refine rCons ?_|refine rNil ?_|refine kNo ?_|refine pRow ?_|refine pSkip ?_|refine pRet ?_|refine pCond ?_|refine gNone ?_))
    exact ⟨none, 0, told_err 3 (by unfold openE; rw [if_neg (by omega), if_neg hlong, if_pos (by omega)]) (.refl s), trivial⟩
  obtain rfl : q = false := by rw [hq]; simp; omega
  (repeat(first|refine pSeq ?_|refine pReg ?_|refine sCons ?_|refine sNil ?_|refine rCons ?_|refine rNil ?_|refine kNo ?_|refine pRow ?_|refine pSkip ?_|refine pRet ?_|refine pCond ?_|refine gNone ?_))
  refine slL_any 10 (sz l) rfl rfl rfl hc rfl rfl (by omega) fun b1 c1 hc1 => ?_
  (repeat(first|refine pSeq ?_|refine pReg ?_|refine sCons ?_|refine sNil ?_|refine rCons ?_|refine rNil ?_|refine kNo ?_|refine pRow ?_|refine pSkip ?_|refine pRet ?_|refine pCond ?_|refine gNone ?_))
  refine (CallW.of_ok (wordAt_ok 6 h (by omega) (by omega)) ⟨rfl, rfl⟩ : CallW pr n_frame_wordAt _ s fun v s' => v = _ ∧ s' = s).mono fun v s' q => ?_
  obtain ⟨rfl, rfl⟩ := q
  refine kAll .refl ?_
  (repeat(first|refine pSeq ?_|refine pReg ?_|refine sCons ?_|refine sNil ?_|refine rCons ?_|refine rNil ?_|refine kNo ?_|refine pRow ?_|refine pSkip ?_|refine pRet ?_|refine pCond ?_|refine gNone ?_))
  refine (CallW.of_ok (wordAt_ok 2 h (by omega) (by omega)) ⟨rfl, rfl⟩ : CallW pr n_frame_wordAt _ _ fun v s' => v = _ ∧ s' = _).mono fun v s1 q => ?_
  obtain ⟨rfl, rfl⟩ := q
  (repeat(first|refine pSeq ?_|refine pReg ?_|refine sCons ?_|refine sNil ?_|refine rCons ?_|refine rNil ?_|refine kNo ?_|refine pRow ?_|refine pSkip ?_|refine pRet ?_|refine pCond ?_|refine gNone ?_))
  intro q hq
  by_cases hk : rd4 l 2 = k
  · obtain rfl : q = false := by rw [hq]; simp [hk]
    (repeat(first|refine pSeq ?_|refine pReg ?_|refine sCons ?_|refine sNil ?_|refine rCons ?_|refine rNil ?_|refine kNo ?_|refine pRow ?_|refine pSkip ?_|refine pRet ?_|refine pCond ?_|refine gNone ?_|refine gOn rfl ?_|refine gOff rfl rfl ?_|refine gTup rfl ?_))
    refine (CallW.of_ok (sum_ok ⟨h.gl, h.steps, h.next, hc1.1⟩ (by omega) a k) ⟨rfl, rfl⟩ : CallW pr n_frame_Sum _ _ fun v s' => v = _ ∧ s' = _).mono fun v s2 q => ?_
    obtain ⟨rfl, rfl⟩ := q
    (repeat(first|refine pSeq ?_|refine pReg ?_|refine sCons ?_|refine sNil ?_|refine rCons ?_|refine rNil ?_|refine kNo ?_|refine pRow ?_|refine pSkip ?_|refine pRet ?_|refine pCond ?_|refine gNone ?_|refine gOn rfl ?_|refine gOff rfl rfl ?_|refine gTup rfl ?_))
    intro q hq
    by_cases hs : rd4 l 6 = sumS a k (sz l) ((l.drop 10).take (sz l))
    · obtain rfl : q = false := by rw [hq]; simp [hs]
      (repeat(first|refine pSeq ?_|refine pReg ?_|refine sCons ?_|refine sNil ?_|refine rCons ?_|refine rNil ?_|refine kNo ?_|refine pRow ?_|refine pSkip ?_|refine pRet ?_|refine pCond ?_|refine gNone ?_|refine gOn rfl ?_|refine gOff rfl rfl ?_|refine gTup rfl ?_))
      refine (fclone_w hc1.1 (by omega)).mono fun v s3 q => ?_
      obtain ⟨b3, c3, rfl, r3, n3, o3⟩ := q
      (repeat(first|refine pSeq ?_|refine pReg ?_|refine sCons ?_|refine sNil ?_|refine rCons ?_|refine rNil ?_|refine kNo ?_|refine pRow ?_|refine pSkip ?_|refine pRet ?_|refine pCond ?_|refine gNone ?_|refine gOn rfl ?_|refine gOff rfl rfl ?_|refine gTup rfl ?_))
      rw [hs]
      exact ⟨b3, c3, told_ok (by unfold openE; rw [if_neg (by omega), if_neg hlong, if_neg (by omega), if_neg (by simp [hk, hs])]) (by omega) r3 o3, n3⟩
    · obtain rfl : q = true := hq.trans (ne_u32 hs).symm
      (repeat(first|refine pSeq ?_|refine pReg ?_|refine sCons ?_|refine sNil ?_|refine rCons ?_|refine rNil ?_|refine kNo ?_|refine pRow ?_|refine pSkip ?_|refine pRet ?_|refine pCond ?_|refine gNone ?_|refine gOn rfl ?_|refine gOff rfl rfl ?_|refine gTup rfl ?_))
      exact ⟨none, 0, told_err 10 (by unfold openE; rw [if_neg (by omega), if_neg hlong, if_neg (by omega), if_pos (.inr hs)]) (.refl _), trivial⟩
  · obtain rfl : q = true := hq.trans (ne_u32 hk).symm
    (repeat(first|refine pSeq ?_|refine pReg ?_|refine sCons ?_|refine sNil ?_|refine rCons ?_|refine rNil ?_|refine kNo ?_|refine pRow ?_|refine pSkip ?_|refine pRet ?_|refine pCond ?_|refine gNone ?_|refine gOn rfl ?_|refine gOff rfl rfl ?_|refine gTup rfl ?_))
    exact ⟨none, 0, told_err 10 (by unfold openE; rw [if_neg (by omega), if_neg hlong, if_neg (by omega), if_pos (.inl hk)]) (.refl _), trivial⟩
end Go.Vf.S

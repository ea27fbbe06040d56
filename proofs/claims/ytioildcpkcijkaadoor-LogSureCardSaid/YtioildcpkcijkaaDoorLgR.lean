import Derived.Test.YtioildcpkcijkaaDoorLgQ
import Derived.Test.YtioildcpkcijkaaDoorLgO
/- The model's sums ahead; whether torn bytes are by chance a frame. -/
namespace Go.Vf.S
open Go Go.Vf Go.Vf.Fr
attribute [local irreducible] wSeq wRow wp wG
set_option linter.unusedVariables false
set_option linter.unusedSimpArgs false
set_option maxRecDepth 10000

abbrev tMd : TypeId := 58
def mdV (W : Option Addr) (n cw : Nat) (j : Nat) : Value := .agg ⟨[.slice W n cw, .int .i64 j]⟩

theorem chS_next {all : PL} {m : Nat} (h : m < all.length) : chS 0#32 1#32 (all.take (m + 1)) = sumS (chS 0#32 1#32 (all.take m)) (1#32 + BitVec.ofNat 32 m) (all.getD m []).length (all.getD m []) := by
  have e : (all.take m).length = m := by rw [List.length_take]; omega
  rw [take_next' h, chS_snoc, e]
theorem toU32 {z : Int} {n : Nat} (h : z = (n : Int)) : IntKind.u32.wrap z = ((BitVec.ofNat 32 n).toNat : Int) := by
  subst h
  rw [wrap_u32, BitVec.toNat_ofNat]
  omega
theorem num_is (n : Nat) : BitVec.ofNat 32 (n + 1) = 1#32 + BitVec.ofNat 32 n := by rw [ofNat_succ, BitVec.add_comm]

theorem RowAt.chg {s s' : SS} {W : Option Addr} {qs : List Py} {Z : List Nat} (h : RowAt s W qs) (c : Chg s s' Z) (hZ : ∀ id, PyIn W qs id → id ∉ Z) : RowAt s' W qs := by
  refine ⟨?_, fun q hq => (h.2 q hq).chg c fun id r => hZ id (.inr ⟨q, hq, r⟩)⟩
  have := h.1
  cases W with
  | none => exact this
  | some a =>
    obtain ⟨b, off, sp⟩ := a
    obtain ⟨h1, h2, h3, cs, t, g, r, h4, h5⟩ := this
    exact ⟨h1, h2, Nat.lt_of_lt_of_le h3 c.next, cs, t, g, r, c.blk _ _ h3 (hZ b (.inl (by simp [blkOf]))) h4, h5⟩

theorem ahead_w {s : SS} {W : Option Addr} {cw j k : Nat} {qs : List Py} (ev : Ev s) (h : RowAt s W qs) (hk : k ≤ qs.length) (hl : qs.length < 1000000) (h164 : ∀ q ∈ qs, q.2.2.length ≤ 16384) :
    CallW pr n_law03_model_ahead [mdV W qs.length cw j, .int .i64 k] s fun v s' => v = .int .u32 (chS 0#32 1#32 ((qs.map (·.2.2)).take k)).toNat ∧ Chg s s' [] := by
  refine CallW.run good ok_law03_model_ahead (by simp) rfl ?_
  (repeat(first|refine pSeq ?_|refine pReg ?_|refine sCons ?_|refine sNil ?_|refine pBlock ?_|refine pSkip ?_|refine pExit ?_|refine pRet ?_|refine pCond ?_|refine gNone ?_))
  have c1 : Chg s ({ s with heap := (s.next, some (.cells (flat (mdV W qs.length cw j)) tMd false false)) :: s.heap, next := s.next + 1 } : SS) [] := .new []
  have e1 : lookH ({ s with heap := (s.next, some (.cells (flat (mdV W qs.length cw j)) tMd false false)) :: s.heap, next := s.next + 1 } : SS).heap s.next = some (.cells [.slice W qs.length cw, .int .i64 j] tMd false false) := lkH
  generalize ({ s with heap := (s.next, some (.cells (flat (mdV W qs.length cw j)) tMd false false)) :: s.heap, next := s.next + 1 } : SS) = s1 at c1 e1 ⊢
  have ev1 := ev.chg c1 (by simp)
  have h1 := h.chg c1 (by simp)
  refine pLoop (MW.head good (fun i => k - i) (fun i => i ≤ k) (fun i => [(2, .pointer (some ⟨s.next, 0, none⟩)), (5, .int .u32 (chS 0#32 1#32 ((qs.map (·.2.2)).take i)).toNat), (7, .int .i64 k), (8, .int .i64 i)]) (fun _ => s1) 0 (Nat.zero_le _) (Wk.same ⟨rfl, rfl, rfl, rfl, trivial⟩) ?_)
  intro i hi
  (repeat(first|refine pSeq ?_|refine pReg ?_|refine sCons ?_|refine sNil ?_|refine pBlock ?_|refine pSkip ?_|refine pExit ?_|refine pRet ?_|refine pCond ?_|refine gNone ?_))
  intro q hq
  by_cases hlt : i < k
  · obtain rfl : q = true := by rw [hq]; simp [hlt]
    (repeat(first|refine pSeq ?_|refine pReg ?_|refine sCons ?_|refine sNil ?_|refine pBlock ?_|refine pSkip ?_|refine pExit ?_|refine pRet ?_|refine pCond ?_|refine gNone ?_))
    intro z hz
    rw [i64_id (by omega)] at hz
    (repeat(first|refine pSeq ?_|refine pReg ?_|refine sCons ?_|refine sNil ?_|refine pBlock ?_|refine pSkip ?_|refine pExit ?_|refine pRet ?_|refine pCond ?_|refine gNone ?_))
    intro z2 hz2
    rw [toU32 (n := i + 1) (by omega)] at hz2
    (repeat(first|refine pSeq ?_|refine pReg ?_|refine sCons ?_|refine sNil ?_|refine pBlock ?_|refine pSkip ?_|refine pExit ?_|refine pRet ?_|refine pCond ?_|refine gNone ?_))
    refine ld1_is rfl e1 rfl ?_
    obtain ⟨a, ha⟩ : ∃ a, qs[i]? = some a := ⟨_, List.getElem?_eq_getElem (by omega)⟩
    obtain ⟨b, rfl, cs, t, g, r, p1, p2⟩ := h1.at ha
    (repeat(first|refine pSeq ?_|refine pReg ?_|refine sCons ?_|refine sNil ?_|refine pBlock ?_|refine pSkip ?_|refine pExit ?_|refine pRet ?_|refine pCond ?_|refine gNone ?_))
    refine ⟨by omega, ?_⟩
    intro m hm o ho
    obtain rfl : m = i := by omega
    (repeat(first|refine pSeq ?_|refine pReg ?_|refine sCons ?_|refine sNil ?_|refine pBlock ?_|refine pSkip ?_|refine pExit ?_|refine pRet ?_|refine pCond ?_|refine gNone ?_))
    refine ld1_is rfl p1 (by rw [ho, Nat.mul_one, Nat.zero_add]; exact p2) ?_
    (repeat(first|refine pSeq ?_|refine pReg ?_|refine sCons ?_|refine sNil ?_|refine pBlock ?_|refine pSkip ?_|refine pExit ?_|refine pRet ?_|refine pCond ?_|refine gNone ?_))
    have hra := h1.2 a (List.mem_of_getElem? ha)
    have hla := h164 a (List.mem_of_getElem? ha)
    subst hz2
    refine (CallW.of_ok (sum_ok ⟨ev1.gl, ev1.steps, ev1.next, hra⟩ hla (chS 0#32 1#32 ((qs.map (·.2.2)).take m)) (BitVec.ofNat 32 (m + 1))) ⟨rfl, rfl⟩ : CallW pr n_frame_Sum _ s1 fun v s' => v = _ ∧ s' = s1).mono fun v s2 q => ?_
    obtain ⟨rfl, rfl⟩ := q
    (repeat(first|refine pSeq ?_|refine pReg ?_|refine sCons ?_|refine sNil ?_|refine pBlock ?_|refine pSkip ?_|refine pExit ?_|refine pRet ?_|refine pCond ?_|refine gNone ?_))
    intro z3 hz3
    rw [i64_id (by omega)] at hz3
    subst hz3
    (repeat(first|refine pSeq ?_|refine pReg ?_|refine sCons ?_|refine sNil ?_|refine pBlock ?_|refine pSkip ?_|refine pExit ?_|refine pRet ?_|refine pCond ?_|refine gNone ?_))
    have eg : (qs.map (·.2.2)).getD m [] = a.2.2 := by simp [List.getD, ha]
    refine ⟨m + 1, hlt, by show k - (m + 1) < k - m; omega, Wk.same ⟨rfl, ?_, rfl, rfl, trivial⟩⟩
    rw [chS_next (by rw [List.length_map]; omega), eg, ← num_is m]
    rfl
  · obtain rfl : q = false := by rw [hq]; simp; omega
    obtain rfl : i = k := by omega
    (repeat(first|refine pSeq ?_|refine pReg ?_|refine sCons ?_|refine sNil ?_|refine pBlock ?_|refine pSkip ?_|refine pExit ?_|refine pRet ?_|refine pCond ?_|refine gNone ?_))
    exact ⟨rfl, c1⟩

/-- Bytes laid over the front of others, perhaps none. -/
theorem cpy_any {T : TL} {s : SS} {x y : Operand} {d : Option Tmp} {ml : List MOper} {R : TL → SS → Prop} {b dl c1 n c : Nat} {a l : List UInt8} {sb : Option Addr} (hx : opd T s.gl x = some (.slice (some ⟨b, 0, none⟩) dl c1)) (hb : lookH s.heap b = some (.cells (bytesV a) tB false false)) (hlt : b < s.next) (hy : opd T s.gl y = some (.slice sb n c)) (hr : Rdb s sb n l) (hdl : n ≤ dl) (hlen : n ≤ a.length)
    (h : ∀ s' : SS, lookH s'.heap b = some (.cells (bytesV (l ++ a.drop n)) tB false false) → Chg s s' [b] → Box (wSeq pr ml (putL T d (.int .i64 n)) s' R)) : wN pr (.cpy 1 x y) T s (stepK pr d ml T s R) := by
  rcases Nat.eq_zero_or_pos n with h0 | h0
  · subst h0
    have hl : l = [] := List.eq_nil_of_length_eq_zero hr.1.symm
    subst hl
    have key := h s (by simpa using hb) (.refl _ _)
    simp only [wN, hx, hy]
    cases sb with
    | none =>
      have e : min 0 dl = 0 := Nat.zero_min dl
      refine ⟨fun _ => ?_, fun q => by omega⟩
      rw [e]
      exact key
    | some q =>
      obtain ⟨b2, o2, sp2⟩ := q
      obtain ⟨-, rfl, -, cc, t, g2, r, h2, h3, -⟩ := hr
      simp only [wSrcN, h2]
      have e : min 0 dl = 0 := Nat.zero_min dl
      refine ⟨[], ?_, fun _ => ?_, fun q => by omega⟩
      · rw [e, Nat.zero_mul]; exact h3
      · rw [e]; exact key
  · refine cpy_own hx hb hy hr h0 hdl (by omega) ?_
    have e : a.take 0 ++ l ++ a.drop (0 + n) = l ++ a.drop n := by simp
    rw [e]
    exact h _ lkH (.turn hlt)

set_option maxHeartbeats 1000000 in
theorem chance_w {s : SS} {W gb kb : Option Addr} {cw j k gn gc kn kc : Nat} {qs : List Py} {gl : List UInt8} {zs : List Int} (ev : Ev s) (h : RowAt s W qs) (hl : qs.length < 1000000) (h60 : ∀ q ∈ qs, q.2.2.length ≤ 60) (hj : j ≤ k) (hk : k < qs.length) (hz : k - j < zs.length) (hkl : zs.length < 1000000) (hK : RdI s kb kn zs) (hG : Rdb s gb gn gl)
    (ho : openE (chS 0#32 1#32 ((qs.map (·.2.2)).take k)) (1#32 + BitVec.ofNat 32 k) (tornL (qs.map (·.2.2)) k (kept zs (k - j))) = 0) (hp : oP (chS 0#32 1#32 ((qs.map (·.2.2)).take k)) (1#32 + BitVec.ofNat 32 k) (tornL (qs.map (·.2.2)) k (kept zs (k - j))) = gl) :
    CallW pr n_law03_model_chance [mdV W qs.length cw j, .int .i64 k, .slice gb gn gc, .slice kb kn kc] s fun v s' => v = .bool true := by
  have hkn : kn = zs.length := hK.1
  have h164 : ∀ q ∈ qs, q.2.2.length ≤ 16384 := fun q hq => by have := h60 q hq; omega
  obtain ⟨a, ha⟩ : ∃ a, qs[k]? = some a := ⟨_, List.getElem?_eq_getElem hk⟩
  have eg : (qs.map (·.2.2)).getD k [] = a.2.2 := by simp [List.getD, ha]
  have hla := h60 a (List.mem_of_getElem? ha)
  refine CallW.run good ok_law03_model_chance (by simp) rfl ?_
  (repeat(first|refine pSeq ?_|refine pReg ?_|refine sCons ?_|refine sNil ?_|refine rCons ?_|refine rNil ?_|refine kNo ?_|refine pRow ?_|refine pSkip ?_|refine pRet ?_|refine pCond ?_|refine gNone ?_|refine gOn rfl ?_|refine gOff rfl rfl ?_|refine gTup rfl ?_))
  have c1 : Chg s ({ s with heap := (s.next, some (.cells (flat (mdV W qs.length cw j)) tMd false false)) :: s.heap, next := s.next + 1 } : SS) [] := .new []
  have e1 : lookH ({ s with heap := (s.next, some (.cells (flat (mdV W qs.length cw j)) tMd false false)) :: s.heap, next := s.next + 1 } : SS).heap s.next = some (.cells [.slice W qs.length cw, .int .i64 j] tMd false false) := lkH
  have n1 : s.next < ({ s with heap := (s.next, some (.cells (flat (mdV W qs.length cw j)) tMd false false)) :: s.heap, next := s.next + 1 } : SS).next := Nat.lt_succ_self _
  generalize ({ s with heap := (s.next, some (.cells (flat (mdV W qs.length cw j)) tMd false false)) :: s.heap, next := s.next + 1 } : SS) = s1 at c1 e1 n1 ⊢
  have ev1 := ev.chg c1 (by simp)
  have h1 := h.chg c1 (by simp)
  have hK1 := hK.chg c1 (by simp)
  have hG1 := hG.chg c1 (by simp)
  refine ldI_is rfl e1 rfl ?_
  (repeat(first|refine pSeq ?_|refine pReg ?_|refine sCons ?_|refine sNil ?_|refine rCons ?_|refine rNil ?_|refine kNo ?_|refine pRow ?_|refine pSkip ?_|refine pRet ?_|refine pCond ?_|refine gNone ?_|refine gOn rfl ?_|refine gOff rfl rfl ?_|refine gTup rfl ?_))
  intro z hz1
  obtain rfl : z = ((k - j : Nat) : Int) := by rw [hz1, i64_id (by omega)]; omega
  (repeat(first|refine pSeq ?_|refine pReg ?_|refine sCons ?_|refine sNil ?_|refine rCons ?_|refine rNil ?_|refine kNo ?_|refine pRow ?_|refine pSkip ?_|refine pRet ?_|refine pCond ?_|refine gNone ?_|refine gOn rfl ?_|refine gOff rfl rfl ?_|refine gTup rfl ?_))
  intro q hq
  obtain rfl : q = false := by rw [hq]; simp
  (repeat(first|refine pSeq ?_|refine pReg ?_|refine sCons ?_|refine sNil ?_|refine rCons ?_|refine rNil ?_|refine kNo ?_|refine pRow ?_|refine pSkip ?_|refine pRet ?_|refine pCond ?_|refine gNone ?_|refine gOn rfl ?_|refine gOff rfl rfl ?_|refine gTup rfl ?_))
  intro q hq
  obtain rfl : q = false := by rw [hq]; simp; omega
  (repeat(first|refine pSeq ?_|refine pReg ?_|refine sCons ?_|refine sNil ?_|refine rCons ?_|refine rNil ?_|refine kNo ?_|refine pRow ?_|refine pSkip ?_|refine pRet ?_|refine pCond ?_|refine gNone ?_|refine gOn rfl ?_|refine gOff rfl rfl ?_|refine gTup rfl ?_))
  refine ld1_is rfl e1 rfl ?_
  (repeat(first|refine pSeq ?_|refine pReg ?_|refine sCons ?_|refine sNil ?_|refine rCons ?_|refine rNil ?_|refine kNo ?_|refine pRow ?_|refine pSkip ?_|refine pRet ?_|refine pCond ?_|refine gNone ?_|refine gOn rfl ?_|refine gOff rfl rfl ?_|refine gTup rfl ?_))
  intro q hq
  obtain rfl : q = false := by rw [hq]; simp; omega
  (repeat(first|refine pSeq ?_|refine pReg ?_|refine sCons ?_|refine sNil ?_|refine rCons ?_|refine rNil ?_|refine kNo ?_|refine pRow ?_|refine pSkip ?_|refine pRet ?_|refine pCond ?_|refine gNone ?_|refine gOn rfl ?_|refine gOff rfl rfl ?_|refine gTup rfl ?_))
  refine ldN_is (new := [.slice W qs.length cw, .int .i64 j]) rfl e1 rfl ?_
  (repeat(first|refine pSeq ?_|refine pReg ?_|refine sCons ?_|refine sNil ?_|refine rCons ?_|refine rNil ?_|refine kNo ?_|refine pRow ?_|refine pSkip ?_|refine pRet ?_|refine pCond ?_|refine gNone ?_|refine gOn rfl ?_|refine gOff rfl rfl ?_|refine gTup rfl ?_))
  intro z1 hz1
  rw [i64_id (by omega)] at hz1
  (repeat(first|refine pSeq ?_|refine pReg ?_|refine sCons ?_|refine sNil ?_|refine rCons ?_|refine rNil ?_|refine kNo ?_|refine pRow ?_|refine pSkip ?_|refine pRet ?_|refine pCond ?_|refine gNone ?_|refine gOn rfl ?_|refine gOff rfl rfl ?_|refine gTup rfl ?_))
  intro z2 hz2
  rw [toU32 (n := k + 1) (by omega)] at hz2
  (repeat(first|refine pSeq ?_|refine pReg ?_|refine sCons ?_|refine sNil ?_|refine rCons ?_|refine rNil ?_|refine kNo ?_|refine pRow ?_|refine pSkip ?_|refine pRet ?_|refine pCond ?_|refine gNone ?_|refine gOn rfl ?_|refine gOff rfl rfl ?_|refine gTup rfl ?_))
  refine ld1_is rfl e1 rfl ?_
  obtain ⟨b, rfl, cs, t, g, r, p1, p2⟩ := h1.at ha
  (repeat(first|refine pSeq ?_|refine pReg ?_|refine sCons ?_|refine sNil ?_|refine rCons ?_|refine rNil ?_|refine kNo ?_|refine pRow ?_|refine pSkip ?_|refine pRet ?_|refine pCond ?_|refine gNone ?_|refine gOn rfl ?_|refine gOff rfl rfl ?_|refine gTup rfl ?_))
  refine ⟨by omega, ?_⟩
  intro m hm o hof
  obtain rfl : m = k := by omega
  (repeat(first|refine pSeq ?_|refine pReg ?_|refine sCons ?_|refine sNil ?_|refine rCons ?_|refine rNil ?_|refine kNo ?_|refine pRow ?_|refine pSkip ?_|refine pRet ?_|refine pCond ?_|refine gNone ?_|refine gOn rfl ?_|refine gOff rfl rfl ?_|refine gTup rfl ?_))
  refine ld1_is rfl p1 (by rw [hof, Nat.mul_one, Nat.zero_add]; exact p2) ?_
  (repeat(first|refine pSeq ?_|refine pReg ?_|refine sCons ?_|refine sNil ?_|refine rCons ?_|refine rNil ?_|refine kNo ?_|refine pRow ?_|refine pSkip ?_|refine pRet ?_|refine pCond ?_|refine gNone ?_|refine gOn rfl ?_|refine gOff rfl rfl ?_|refine gTup rfl ?_))
  refine (ahead_w ev1 h1 (by omega) hl h164).mono fun v s2 q => ?_
  obtain ⟨rfl, c2⟩ := q
  refine kAll (c2.keep ev1.fine) ?_
  have ev2 := ev1.chg c2 (by simp)
  have h2 := h1.chg c2 (by simp)
  have hra := h2.2 a (List.mem_of_getElem? ha)
  subst hz2
  (repeat(first|refine pSeq ?_|refine pReg ?_|refine sCons ?_|refine sNil ?_|refine rCons ?_|refine rNil ?_|refine kNo ?_|refine pRow ?_|refine pSkip ?_|refine pRet ?_|refine pCond ?_|refine gNone ?_|refine gOn rfl ?_|refine gOff rfl rfl ?_|refine gTup rfl ?_))
  refine (sealed_w ⟨ev2.gl, ev2.steps, ev2.next, hra⟩ (by omega) (chS 0#32 1#32 ((qs.map (·.2.2)).take m)) (BitVec.ofNat 32 (m + 1))).mono fun v s3 q => ?_
  obtain ⟨b3, c3, rfl, r3, o3⟩ := q
  have ef : sealS (chS 0#32 1#32 ((qs.map (·.2.2)).take m)) (BitVec.ofNat 32 (m + 1)) a.2.2.length a.2.2 = fmt (qs.map (·.2.2)) m := by
    unfold fmt
    rw [eg, ← num_is m]
  rw [ef] at r3
  have ev3 := ev2.chg o3.chg (by simp)
  (repeat(first|refine pSeq ?_|refine pReg ?_|refine sCons ?_|refine sNil ?_|refine rCons ?_|refine rNil ?_|refine kNo ?_|refine pRow ?_|refine pSkip ?_|refine pRet ?_|refine pCond ?_|refine gNone ?_|refine gOn rfl ?_|refine gOff rfl rfl ?_|refine gTup rfl ?_))
  have fl : (fmt (qs.map (·.2.2)) m).length = 10 + a.2.2.length := by rw [fmt_len, eg]
  refine ⟨by omega, ?_⟩
  intro m1 n1' hm1 hn1 cs1 hcs
  obtain rfl : m1 = 10 + a.2.2.length := by omega
  obtain rfl : n1' = 10 + a.2.2.length := by omega
  rw [zeros] at hcs
  subst hcs
  (repeat(first|refine pSeq ?_|refine pReg ?_|refine sCons ?_|refine sNil ?_|refine rCons ?_|refine rNil ?_|refine kNo ?_|refine pRow ?_|refine pSkip ?_|refine pRet ?_|refine pCond ?_|refine gNone ?_|refine gOn rfl ?_|refine gOff rfl rfl ?_|refine gTup rfl ?_))
  have c4 : Chg s3 ({ s3 with heap := (s3.next, some (.cells (bytesV (List.replicate (10 + a.2.2.length) 0)) 5 false false)) :: s3.heap, next := s3.next + 1 } : SS) [] := .new _
  have e4 : lookH ({ s3 with heap := (s3.next, some (.cells (bytesV (List.replicate (10 + a.2.2.length) 0)) 5 false false)) :: s3.heap, next := s3.next + 1 } : SS).heap s3.next = some (.cells (bytesV (List.replicate (10 + a.2.2.length) 0)) 5 false false) := lkH
  have n4 : s3.next < ({ s3 with heap := (s3.next, some (.cells (bytesV (List.replicate (10 + a.2.2.length) 0)) 5 false false)) :: s3.heap, next := s3.next + 1 } : SS).next := Nat.lt_succ_self _
  generalize ({ s3 with heap := (s3.next, some (.cells (bytesV (List.replicate (10 + a.2.2.length) 0)) 5 false false)) :: s3.heap, next := s3.next + 1 } : SS) = s4 at c4 e4 n4 ⊢
  have ev4 := ev3.chg c4 (by simp)
  have r4 := r3.chg c4 (by simp)
  have hK4 := ((hK1.chg c2 (by simp)).chg o3.chg (by simp)).chg c4 (by simp)
  have hG4 := ((hG1.chg c2 (by simp)).chg o3.chg (by simp)).chg c4 (by simp)
  have h4 := (h2.chg o3.chg (by simp)).chg c4 (by simp)
  have e14 := c4.blk _ _ (Nat.lt_of_lt_of_le n1 (Nat.le_trans c2.next o3.chg.next)) (by simp) (o3.chg.blk _ _ (Nat.lt_of_lt_of_le n1 c2.next) (by simp) (c2.blk _ _ n1 (by simp) e1))
  have rK : ∃ kb0 ko, kb = some ⟨kb0, ko, none⟩ ∧ ∃ kcs kt kg kr, lookH s4.heap kb0 = some (.cells kcs kt kg kr) ∧ ∀ i, i < zs.length → kcs[ko + i]? = some (.int .i64 (zs.getD i 0)) := by
    cases kb with
    | none => have := hK4.2; simp only at this; subst this; simp at hz
    | some q =>
      obtain ⟨kb0, ko, sp⟩ := q
      obtain ⟨_, rfl, _, kcs, kg, kr, q1, q2⟩ := hK4
      exact ⟨kb0, ko, rfl, kcs, _, kg, kr, q1, fun i hi => q2 i (by omega)⟩
  obtain ⟨kb0, ko, rfl, kcs, kt, kg, kr, q1, q2⟩ := rK
  (repeat(first|refine pSeq ?_|refine pReg ?_|refine sCons ?_|refine sNil ?_|refine rCons ?_|refine rNil ?_|refine kNo ?_|refine pRow ?_|refine pSkip ?_|refine pRet ?_|refine pCond ?_|refine gNone ?_|refine gOn rfl ?_|refine gOff rfl rfl ?_|refine gTup rfl ?_))
  refine ⟨by omega, ?_⟩
  intro m5 hm5 o5 ho5
  obtain rfl : m5 = m - j := by omega
  (repeat(first|refine pSeq ?_|refine pReg ?_|refine sCons ?_|refine sNil ?_|refine rCons ?_|refine rNil ?_|refine kNo ?_|refine pRow ?_|refine pSkip ?_|refine pRet ?_|refine pCond ?_|refine gNone ?_|refine gOn rfl ?_|refine gOff rfl rfl ?_|refine gTup rfl ?_))
  refine ldI_is rfl q1 (by rw [ho5, Nat.mul_one]; exact q2 _ hz) ?_
  (repeat(first|refine pSeq ?_|refine pReg ?_|refine sCons ?_|refine sNil ?_|refine rCons ?_|refine rNil ?_|refine kNo ?_|refine pRow ?_|refine pSkip ?_|refine pRet ?_|refine pCond ?_|refine gNone ?_|refine gOn rfl ?_|refine gOff rfl rfl ?_|refine gTup rfl ?_))
  intro z5 hz5
  (repeat(first|refine pSeq ?_|refine pReg ?_|refine sCons ?_|refine sNil ?_|refine rCons ?_|refine rNil ?_|refine kNo ?_|refine pRow ?_|refine pSkip ?_|refine pRet ?_|refine pCond ?_|refine gNone ?_|refine gOn rfl ?_|refine gOff rfl rfl ?_|refine gTup rfl ?_))
  intro z6 hz6
  (repeat(first|refine pSeq ?_|refine pReg ?_|refine sCons ?_|refine sNil ?_|refine rCons ?_|refine rNil ?_|refine kNo ?_|refine pRow ?_|refine pSkip ?_|refine pRet ?_|refine pCond ?_|refine gNone ?_|refine gOn rfl ?_|refine gOff rfl rfl ?_|refine gTup rfl ?_))
  have hc : z6 = ((min (kept zs (m - j)) (10 + a.2.2.length) : Nat) : Int) := by
    rw [hz6, hz5]
    unfold kept
    omega
  refine slL_same 0 (min (kept zs (m - j)) (10 + a.2.2.length)) rfl rfl rfl r4 rfl (show z6 = _ by rw [hc]; omega) (by omega) fun b5 c5 r5 hb5 => ?_
  rw [List.drop_zero] at r5
  have tk : (fmt (qs.map (·.2.2)) m).take (min (kept zs (m - j)) (10 + a.2.2.length)) = (fmt (qs.map (·.2.2)) m).take (kept zs (m - j)) := by
    rw [← fl, ← List.take_take, List.take_of_length_le (Nat.le_refl _) (l := fmt (qs.map (·.2.2)) m)]
  rw [tk] at r5
  have r5n := r5.1.1
  (repeat(first|refine pSeq ?_|refine pReg ?_|refine sCons ?_|refine sNil ?_|refine rCons ?_|refine rNil ?_|refine kNo ?_|refine pRow ?_|refine pSkip ?_|refine pRet ?_|refine pCond ?_|refine gNone ?_|refine gOn rfl ?_|refine gOff rfl rfl ?_|refine gTup rfl ?_))
  refine cpy_any rfl e4 n4 rfl r5.1 (by omega) (by rw [List.length_replicate]; omega) fun s6 e6 c6 => ?_
  have tl : (fmt (qs.map (·.2.2)) m).take (kept zs (m - j)) ++ (List.replicate (10 + a.2.2.length) 0).drop (min (kept zs (m - j)) (10 + a.2.2.length)) = tornL (qs.map (·.2.2)) m (kept zs (m - j)) := by
    unfold tornL
    rw [List.drop_replicate, fl]
    congr 2
    omega
  rw [tl] at e6
  have hn3 : ∀ {x}, x < s3.next → x ∉ [s3.next] := fun hx => by simp; omega
  have ev6 := ev4.chg c6 (hn3 (by have := ev3.next; omega))
  have h6 := h4.chg c6 (fun id q => hn3 (by
    rcases q with q | ⟨p, hp, q⟩
    · have := h2.1
      simp only [blkOf, List.mem_singleton] at q
      subst q
      exact Nat.lt_of_lt_of_le this.2.2.1 o3.chg.next
    · exact Nat.lt_of_lt_of_le ((h2.2 p hp).lt id q) o3.chg.next))
  have hG6 := hG4.chg c6 (fun id q => hn3 (Nat.lt_of_lt_of_le (hG.lt id q) (Nat.le_trans c1.next (Nat.le_trans c2.next o3.chg.next))))
  have e16 := c6.blk _ _ (by have := c1.next; have := c2.next; have := o3.chg.next; have := c4.next; omega) (hn3 (by have := c2.next; have := o3.chg.next; omega)) e14
  have ltl : (tornL (qs.map (·.2.2)) m (kept zs (m - j))).length = 10 + a.2.2.length := by rw [tornL_len, fl]
  have hown : Rdb s6 (some ⟨s3.next, 0, none⟩) (10 + a.2.2.length) (tornL (qs.map (·.2.2)) m (kept zs (m - j))) := by
    refine ⟨ltl.symm, rfl, Nat.lt_of_lt_of_le n4 c6.next, _, _, _, _, e6, ?_, bytesV_plain _⟩
    rw [takeN_bytes (by omega), List.drop_zero, List.take_of_length_le (by omega)]
  (repeat(first|refine pSeq ?_|refine pReg ?_|refine sCons ?_|refine sNil ?_|refine rCons ?_|refine rNil ?_|refine kNo ?_|refine pRow ?_|refine pSkip ?_|refine pRet ?_|refine pCond ?_|refine gNone ?_|refine gOn rfl ?_|refine gOff rfl rfl ?_|refine gTup rfl ?_))
  refine ldN_is (new := [.slice (some ⟨b, 0, none⟩) qs.length cw, .int .i64 j]) rfl e16 rfl ?_
  (repeat(first|refine pSeq ?_|refine pReg ?_|refine sCons ?_|refine sNil ?_|refine rCons ?_|refine rNil ?_|refine kNo ?_|refine pRow ?_|refine pSkip ?_|refine pRet ?_|refine pCond ?_|refine gNone ?_|refine gOn rfl ?_|refine gOff rfl rfl ?_|refine gTup rfl ?_))
  refine (ahead_w ev6 h6 (by omega) hl h164).mono fun v s7 q => ?_
  obtain ⟨rfl, c7⟩ := q
  have ev7 := ev6.chg c7 (by simp)
  (repeat(first|refine pSeq ?_|refine pReg ?_|refine sCons ?_|refine sNil ?_|refine rCons ?_|refine rNil ?_|refine kNo ?_|refine pRow ?_|refine pSkip ?_|refine pRet ?_|refine pCond ?_|refine gNone ?_|refine gOn rfl ?_|refine gOff rfl rfl ?_|refine gTup rfl ?_))
  intro z7 hz7
  rw [i64_id (by omega)] at hz7
  (repeat(first|refine pSeq ?_|refine pReg ?_|refine sCons ?_|refine sNil ?_|refine rCons ?_|refine rNil ?_|refine kNo ?_|refine pRow ?_|refine pSkip ?_|refine pRet ?_|refine pCond ?_|refine gNone ?_|refine gOn rfl ?_|refine gOff rfl rfl ?_|refine gTup rfl ?_))
  intro z8 hz8
  rw [toU32 (n := m + 1) (by omega)] at hz8
  subst hz8
  (repeat(first|refine pSeq ?_|refine pReg ?_|refine sCons ?_|refine sNil ?_|refine rCons ?_|refine rNil ?_|refine kNo ?_|refine pRow ?_|refine pSkip ?_|refine pRet ?_|refine pCond ?_|refine gNone ?_|refine gOn rfl ?_|refine gOff rfl rfl ?_|refine gTup rfl ?_))
  have r7 := hown.chg c7 (by simp)
  refine (open_w ⟨ev7.gl, ev7.steps, ev7.next, r7⟩ ⟨r7, _, _, _, _, c7.blk _ _ (Nat.lt_of_lt_of_le n4 c6.next) (by simp) e6, fun q => (by cases q), fun _ => by omega⟩ (by omega) (chS 0#32 1#32 ((qs.map (·.2.2)).take m)) (BitVec.ofNat 32 (m + 1))).mono fun v s8 q => ?_
  obtain ⟨b8, c8, ⟨rfl, r8, o8⟩, -⟩ := q
  rw [num_is m, hp] at r8
  rw [num_is m, ho, hp]
  (repeat(first|refine pSeq ?_|refine pReg ?_|refine sCons ?_|refine sNil ?_|refine rCons ?_|refine rNil ?_|refine kNo ?_|refine pRow ?_|refine pSkip ?_|refine pRet ?_|refine pCond ?_|refine gNone ?_|refine gOn rfl ?_|refine gOff rfl rfl ?_|refine gTup rfl ?_))
  intro q hq
  obtain rfl : q = true := by rw [hq]; rfl
  (repeat(first|refine pSeq ?_|refine pReg ?_|refine sCons ?_|refine sNil ?_|refine rCons ?_|refine rNil ?_|refine kNo ?_|refine pRow ?_|refine pSkip ?_|refine pRet ?_|refine pCond ?_|refine gNone ?_|refine gOn rfl ?_|refine gOff rfl rfl ?_|refine gTup rfl ?_))
  refine (equal_w r8 ((hG6.chg c7 (by simp)).chg o8.chg (by simp))).mono fun v s9 q => ?_
  obtain ⟨hv, rfl⟩ := q
  obtain rfl : v = .bool true := by rw [hv]; simp
  (repeat(first|refine pSeq ?_|refine pReg ?_|refine sCons ?_|refine sNil ?_|refine rCons ?_|refine rNil ?_|refine kNo ?_|refine pRow ?_|refine pSkip ?_|refine pRet ?_|refine pCond ?_|refine gNone ?_|refine gOn rfl ?_|refine gOff rfl rfl ?_|refine gTup rfl ?_))
  rfl
end Go.Vf.S

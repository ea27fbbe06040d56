import Derived.Test.YtnafoonbjhoolaaDkN
/- The document's own disk: what it lays. -/
namespace Go.Vf.S
open Go Go.Vf
attribute [local irreducible] wSeq wRow wp
set_option linter.unusedVariables false
set_option linter.unusedSimpArgs false
set_option maxRecDepth 10000

abbrev tR : TypeId := 43
abbrev tV : TypeId := 65

theorem ext_getD {a b : List UInt8} (hl : a.length = b.length) (h : ∀ j, j < a.length → a.getD j 0 = b.getD j 0) : a = b := by
  refine List.ext_getElem? fun j => ?_
  by_cases q : j < a.length
  · have := h j q
    rw [List.getD, List.getD, List.getElem?_eq_getElem q, List.getElem?_eq_getElem (by omega : j < b.length)] at this
    rw [List.getElem?_eq_getElem q, List.getElem?_eq_getElem (by omega : j < b.length)]
    exact congrArg some this
  · rw [List.getElem?_eq_none (by omega), List.getElem?_eq_none (by omega)]

theorem layF_at (b w : List UInt8) (k j : Nat) (h : j < w.length) : (layF b k w).getD (k + j) 0 = w.getD j 0 := by
  unfold layF
  split
  · rename_i e; subst e; simp at h
  · generalize hB : b ++ List.replicate (k + w.length - b.length) (0 : UInt8) = B
    have lB : k + w.length ≤ B.length := by rw [← hB]; simp; omega
    rw [List.getD, List.getD]
    congr 1
    rw [List.append_assoc, List.getElem?_append_right (by rw [List.length_take]; omega), List.getElem?_append_left (by rw [List.length_take]; omega)]
    congr 1
    rw [List.length_take]
    omega

/-- One byte more. -/
theorem layF_step {b f : List UInt8} {k i z : Nat} (h : i < f.length) (hz : (layF b k (f.take i)).length + z = max (layF b k (f.take i)).length (k + i + 1)) :
    (layF b k (f.take i) ++ List.replicate z 0).take (k + i) ++ [f.getD i 0] ++ (layF b k (f.take i) ++ List.replicate z 0).drop (k + i + 1) = layF b k (f.take (i + 1)) := by
  have l1 : (f.take i).length = i := by rw [List.length_take]; omega
  have l2 : (f.take (i + 1)).length = i + 1 := by rw [List.length_take]; omega
  have n2 : f.take (i + 1) ≠ [] := fun e => by rw [e] at l2; simp at l2
  have len1 : (layF b k (f.take i)).length = if i = 0 then b.length else max b.length (k + i) := by
    rw [layF_len, l1]
    by_cases q : i = 0
    · subst q; simp
    · rw [if_neg (fun e => q (by rw [e] at l1; simpa using l1.symm)), if_neg q]
  have len2 : (layF b k (f.take (i + 1))).length = max b.length (k + (i + 1)) := by rw [layF_len, l2, if_neg n2]
  have lE : (layF b k (f.take i) ++ List.replicate z (0 : UInt8)).length = max (layF b k (f.take i)).length (k + i + 1) := by simp; omega
  refine ext_getD ?_ fun j hj => ?_
  · simp only [List.length_append, List.length_take, List.length_drop, List.length_replicate, List.length_cons, List.length_nil] at lE ⊢
    rw [len2]
    split at len1 <;> omega
  · have g1 : (layF b k (f.take i) ++ List.replicate z (0 : UInt8)).getD j 0 = (layF b k (f.take i)).getD j 0 := by
      rw [List.getD, List.getD]
      by_cases q : j < (layF b k (f.take i)).length
      · rw [List.getElem?_append_left q]
      · rw [List.getElem?_append_right (by omega), List.getElem?_replicate, List.getElem?_eq_none (by omega : (layF b k (f.take i)).length ≤ j)]
        split <;> rfl
    generalize hE : layF b k (f.take i) ++ List.replicate z (0 : UInt8) = E at *
    by_cases q : j = k + i
    · subst q
      rw [layF_at _ _ _ _ (by omega)]
      rw [List.getD, List.getD, List.getD, List.append_assoc, List.getElem?_append_right (by rw [List.length_take]; omega), List.length_take, Nat.min_eq_left (by omega), Nat.sub_self, List.getElem?_take, if_pos (by omega)]
      rfl
    · have e1 : (E.take (k + i) ++ [f.getD i 0] ++ E.drop (k + i + 1)).getD j 0 = E.getD j 0 := by
        rw [List.getD, List.getD]
        congr 1
        by_cases q2 : j < k + i
        · rw [List.append_assoc, List.getElem?_append_left (by rw [List.length_take]; omega), List.getElem?_take, if_pos q2]
        · rw [List.getElem?_append_right (by rw [List.length_append, List.length_take]; simp; omega), List.getElem?_drop]
          congr 1
          rw [List.length_append, List.length_take]
          simp
          omega
      rw [e1, g1]
      by_cases q2 : j < k ∨ k + (i + 1) ≤ j
      · rw [layF_get _ _ _ _ (by omega), layF_get _ _ _ _ (by omega)]
      · obtain ⟨t, rfl⟩ : ∃ t, j = k + t := ⟨j - k, by omega⟩
        rw [layF_at _ _ _ _ (by omega), layF_at _ _ _ _ (by omega), List.getD, List.getD, List.getElem?_take, List.getElem?_take, if_pos (by omega), if_pos (by omega)]

theorem _root_.Go.Vf.Own.some_at {s : SS} {base : Option Addr} {l : List UInt8} {i : Nat} (h : Own tB s base l) (hi : i < l.length) : ∃ b g, base = some ⟨b, 0, none⟩ ∧ lookH s.heap b = some (.cells (bytesV l) tB g false) := by
  cases base with
  | none => have : l = [] := h; subst this; simp at hi
  | some a =>
    obtain ⟨b, off, sp⟩ := a
    obtain ⟨rfl, rfl, h3, g, h4, h5⟩ := h
    exact ⟨b, g, rfl, h4⟩

/-- A slice's bytes behind none. -/
theorem app_none {T : TL} {s : SS} {K : RR → Prop} {x y : Operand} {sb : Option Addr} {n c : Nat} {l : List UInt8} (hx : opd T s.gl x = some (.slice none 0 0)) (hy : opd T s.gl y = some (.slice sb n c)) (hr : Rdb s sb n l) (hb : n ≤ 1073741824) (hv : ∀ v, K (.eff v s) → K (.val v))
    (h : ∀ (s' : SS) (b' : Option Addr), Own tB s' b' l → NewA s b' → Chg s s' [] → K (.eff (.slice b' n 0) s')) : wN pr (.app tB 1 1 x y) T s K := by
  have hn := hr.1
  by_cases h0 : n = 0
  · subst h0
    have hl : l = [] := List.eq_nil_of_length_eq_zero hn.symm
    subst hl
    exact appB_zero hx hy hr (hv _ (h s none rfl (fun id q => by simp [blkOf] at q) (.refl _ _)))
  · refine app_own (m := 0) (base := none) (a := []) rfl rfl hx hy hr (by omega) (by omega) fun s' o c hs => ?_
    rw [Nat.zero_add]
    exact h s' _ o (fun id q => by simp only [blkOf, List.mem_singleton] at q; omega) c

theorem own_set {s s' : SS} {O : Option Addr} {E : List UInt8} {b o : Nat} {x : UInt8} (hO : O = some ⟨b, 0, none⟩) (ho : Own tB s O E) (hlt : o < E.length) (hb : lookH s'.heap b = some (.cells (bytesV (E.take o ++ [x] ++ E.drop (o + 1))) tB true false)) (c : Chg s s' [b]) : Own tB s' O (E.take o ++ [x] ++ E.drop (o + 1)) := by
  subst hO
  obtain ⟨_, _, h3, _⟩ := ho
  exact ⟨rfl, rfl, Nat.lt_of_lt_of_le h3 c.next, true, hb, fun q => by cases q⟩

structure ZerS where
  z : Nat
  s : SS
  O : Option Addr

structure LayS where
  i : Nat
  s : SS
  O : Option Addr

set_option maxHeartbeats 2000000 in
theorem rlay_w {s : SS} {T X : Option Addr} {tl xl : List UInt8} {ct cx k : Nat} {many : Int} (ht : Rdb s T tl.length tl) (hx : Rdb s X xl.length xl) (hk : k ≤ 1048576) (htl : tl.length ≤ 1048576) (hxl : xl.length ≤ 1048576) :
    CallW pr n_ref01_lay [.slice T tl.length ct, .agg ⟨[.int .i64 k, .slice X xl.length cx]⟩, .int .i64 many] s fun v s' => ∃ O, v = .slice O (layF tl k (xl.take many.toNat)).length 0 ∧ Own tB s' O (layF tl k (xl.take many.toNat)) ∧ NewA s O ∧ Chg s s' [] := by
  refine CallW.run good ok_ref01_lay (by simp) rfl ?_
  have c1 : Chg s { s with heap := (s.next, some (.cells (flat (.agg ⟨[.int .i64 k, .slice X xl.length cx]⟩)) tV false false)) :: s.heap, next := s.next + 1 } [] := .new _
  have ht1 := ht.chg c1 (fun _ _ => by simp)
  (repeat (first | refine pSeq ?_ | refine pReg ?_ | refine sRaw ?_ | refine sCons ?_ | refine sNil ?_ | refine rCons ?_ | refine rNil ?_ | refine kNo ?_ | refine pRow ?_ | refine pBlock ?_ | refine pSkip ?_ | refine pExit ?_ | refine pRet ?_ | refine pCond ?_ | refine gNone ?_ | refine gOn rfl ?_ | refine gOff rfl rfl ?_))
  have lay0 : layF tl k [] = tl := by unfold layF; rw [if_pos rfl]
  have hx1 := hx.chg c1 (fun _ _ => by simp)
  have hlt1 : s.next < ({ s with heap := (s.next, some (.cells (flat (.agg ⟨[.int .i64 k, .slice X xl.length cx]⟩)) tV false false)) :: s.heap, next := s.next + 1 } : SS).next := Nat.lt_succ_self _
  have hbox1 : lookH ({ s with heap := (s.next, some (.cells (flat (.agg ⟨[.int .i64 k, .slice X xl.length cx]⟩)) tV false false)) :: s.heap, next := s.next + 1 } : SS).heap s.next = some (.cells [.int .i64 k, .slice X xl.length cx] tV false false) := lkH
  generalize ({ s with heap := (s.next, some (.cells (flat (.agg ⟨[.int .i64 k, .slice X xl.length cx]⟩)) tV false false)) :: s.heap, next := s.next + 1 } : SS) = s1 at *
  obtain ⟨f, hf⟩ : ∃ f, f = xl.take many.toNat := ⟨_, rfl⟩
  have lf : f.length = min many.toNat xl.length := by rw [hf, List.length_take]
  rw [← hf]
  have hc1 := c1.next
  refine app_none rfl rfl ht1 (by omega) (fun _ h => h) fun s2 O2 o2 n2 c2 => ?_
  (repeat (first | refine pSeq ?_ | refine pReg ?_ | refine sRaw ?_ | refine sCons ?_ | refine sNil ?_ | refine rCons ?_ | refine rNil ?_ | refine kNo ?_ | refine pRow ?_ | refine pBlock ?_ | refine pSkip ?_ | refine pExit ?_ | refine pRet ?_ | refine pCond ?_ | refine gNone ?_ | refine gOn rfl ?_ | refine gOff rfl rfl ?_))
  refine pLoop (MW.head good (fun x : LayS => f.length - x.i) (fun x => x.i ≤ f.length ∧ Own tB x.s x.O (layF tl k (f.take x.i)) ∧ NewA s1 x.O ∧ Chg s1 x.s [])
    (fun x => [(2, .int .i64 many), (4, .pointer (some ⟨s.next, 0, none⟩)), (7, .slice x.O (layF tl k (f.take x.i)).length 0), (8, .int .i64 x.i)]) (fun x => x.s) ⟨0, s2, O2⟩
    ⟨Nat.zero_le _, by simp only [List.take_zero, lay0]; exact o2, n2, c2⟩ ?_ ?_)
  · exact Wk.same ⟨rfl, rfl, by simp only [List.take_zero, lay0]; rfl, rfl, trivial⟩
  intro ⟨i, s3, O3⟩ ⟨hi, o3, n3, c3⟩
  dsimp only at hi o3 n3 c3 ⊢
  have hbox3 := c3.blk _ _ hlt1 (by simp) hbox1
  have hx3 := hx1.chg c3 (fun _ _ => by simp)
  have lL : (layF tl k (f.take i)).length ≤ 2097152 := by
    rw [layF_len, List.length_take]
    split <;> omega
  (repeat (first | refine pSeq ?_ | refine pReg ?_ | refine sRaw ?_ | refine sCons ?_ | refine sNil ?_ | refine rCons ?_ | refine rNil ?_ | refine kNo ?_ | refine pRow ?_ | refine pBlock ?_ | refine pSkip ?_ | refine pExit ?_ | refine pRet ?_ | refine pCond ?_ | refine gNone ?_ | refine gOn rfl ?_ | refine gOff rfl rfl ?_))
  refine ld1_is rfl hbox3 rfl ?_
  (repeat (first | refine pSeq ?_ | refine pReg ?_ | refine sRaw ?_ | refine sCons ?_ | refine sNil ?_ | refine rCons ?_ | refine rNil ?_ | refine kNo ?_ | refine pRow ?_ | refine pBlock ?_ | refine pSkip ?_ | refine pExit ?_ | refine pRet ?_ | refine pCond ?_ | refine gNone ?_ | refine gOn rfl ?_ | refine gOff rfl rfl ?_))
  intro q hq
  by_cases hlt : i < f.length
  · obtain rfl : q = true := by rw [hq]; simp; omega
    (repeat (first | refine pSeq ?_ | refine pReg ?_ | refine sRaw ?_ | refine sCons ?_ | refine sNil ?_ | refine rCons ?_ | refine rNil ?_ | refine kNo ?_ | refine pRow ?_ | refine pBlock ?_ | refine pSkip ?_ | refine pExit ?_ | refine pRet ?_ | refine pCond ?_ | refine gNone ?_ | refine gOn rfl ?_ | refine gOff rfl rfl ?_))
    intro q hq
    obtain rfl : q = true := by rw [hq]; simp; omega
    have eZ : ∃ Z, (layF tl k (f.take i)).length + Z = max (layF tl k (f.take i)).length (k + i + 1) := ⟨max (layF tl k (f.take i)).length (k + i + 1) - (layF tl k (f.take i)).length, by omega⟩
    obtain ⟨Z, hZ⟩ := eZ
    have hstep := layF_step (b := tl) (k := k) hlt hZ
    generalize hL : layF tl k (f.take i) = L at *
    (repeat (first | refine pSeq ?_ | refine pReg ?_ | refine sRaw ?_ | refine sCons ?_ | refine sNil ?_ | refine rCons ?_ | refine rNil ?_ | refine kNo ?_ | refine pRow ?_ | refine pBlock ?_ | refine pSkip ?_ | refine pExit ?_ | refine pRet ?_ | refine pCond ?_ | refine gNone ?_ | refine gOn rfl ?_ | refine gOff rfl rfl ?_))
    refine pLoop (MW.head good (fun x : ZerS => Z - x.z) (fun x => x.z ≤ Z ∧ Own tB x.s x.O (L ++ List.replicate x.z 0) ∧ NewA s1 x.O ∧ Chg s1 x.s [])
      (fun x => [(2, .int .i64 many), (4, .pointer (some ⟨s.next, 0, none⟩)), (7, .slice x.O (L.length + x.z) 0), (8, .int .i64 i)]) (fun x => x.s) ⟨0, s3, O3⟩
      ⟨Nat.zero_le _, by simp only [List.replicate_zero, List.append_nil]; exact o3, n3, c3⟩ ?_ ?_)
    · exact Wk.same ⟨rfl, rfl, rfl, rfl, trivial⟩
    intro ⟨z, s4, O4⟩ ⟨hz, o4, n4, c4⟩
    dsimp only at hz o4 n4 c4 ⊢
    have hbox4 := c4.blk _ _ hlt1 (by simp) hbox1
    have hx4 := hx1.chg c4 (fun _ _ => by simp)
    (repeat (first | refine pSeq ?_ | refine pReg ?_ | refine sRaw ?_ | refine sCons ?_ | refine sNil ?_ | refine rCons ?_ | refine rNil ?_ | refine kNo ?_ | refine pRow ?_ | refine pBlock ?_ | refine pSkip ?_ | refine pExit ?_ | refine pRet ?_ | refine pCond ?_ | refine gNone ?_ | refine gOn rfl ?_ | refine gOff rfl rfl ?_))
    refine ldI_is rfl hbox4 rfl ?_
    (repeat (first | refine pSeq ?_ | refine pReg ?_ | refine sRaw ?_ | refine sCons ?_ | refine sNil ?_ | refine rCons ?_ | refine rNil ?_ | refine kNo ?_ | refine pRow ?_ | refine pBlock ?_ | refine pSkip ?_ | refine pExit ?_ | refine pRet ?_ | refine pCond ?_ | refine gNone ?_ | refine gOn rfl ?_ | refine gOff rfl rfl ?_))
    intro z1 hz1
    rw [i64_id (by omega)] at hz1
    (repeat (first | refine pSeq ?_ | refine pReg ?_ | refine sRaw ?_ | refine sCons ?_ | refine sNil ?_ | refine rCons ?_ | refine rNil ?_ | refine kNo ?_ | refine pRow ?_ | refine pBlock ?_ | refine pSkip ?_ | refine pExit ?_ | refine pRet ?_ | refine pCond ?_ | refine gNone ?_ | refine gOn rfl ?_ | refine gOff rfl rfl ?_))
    intro q hq
    by_cases hzl : z < Z
    · obtain rfl : q = true := by rw [hq]; simp; omega
      (repeat (first | refine pSeq ?_ | refine pReg ?_ | refine sRaw ?_ | refine sCons ?_ | refine sNil ?_ | refine rCons ?_ | refine rNil ?_ | refine kNo ?_ | refine pRow ?_ | refine pBlock ?_ | refine pSkip ?_ | refine pExit ?_ | refine pRet ?_ | refine pCond ?_ | refine gNone ?_ | refine gOn rfl ?_ | refine gOff rfl rfl ?_))
      have cN := Chg.new (s := s4) (b := .cells (bytesV [0]) tB false false) []
      have rN : Rdb { s4 with heap := (s4.next, some (.cells (bytesV [0]) tB false false)) :: s4.heap, next := s4.next + 1 } (some ⟨s4.next, 0, none⟩) 1 [0] := ⟨rfl, rfl, Nat.lt_succ_self _, _, _, _, _, lkH, rfl, rfl⟩
      refine app_own (l := [0]) (o4.chg cN (fun _ _ => by simp)) (by simp) rfl rfl rN (by omega) (by omega) fun s5 o5 c5 n5 => ?_
      have n5 : s5.next = s4.next + 1 + 1 := n5
      (repeat (first | refine pSeq ?_ | refine pReg ?_ | refine sRaw ?_ | refine sCons ?_ | refine sNil ?_ | refine rCons ?_ | refine rNil ?_ | refine kNo ?_ | refine pRow ?_ | refine pBlock ?_ | refine pSkip ?_ | refine pExit ?_ | refine pRet ?_ | refine pCond ?_ | refine gNone ?_ | refine gOn rfl ?_ | refine gOff rfl rfl ?_))
      refine ⟨⟨z + 1, s5, some ⟨s4.next + 1, 0, none⟩⟩, ⟨hzl, ?_, ?_, ?_⟩, by dsimp only; omega, Wk.same ⟨rfl, rfl, rfl, rfl, trivial⟩⟩
      · dsimp only
        rw [List.replicate_succ', ← List.append_assoc]
        exact o5
      · intro id q
        simp only [blkOf, List.mem_singleton] at q
        have := c4.next
        omega
      · exact c4.fresh (cN.nil c5) (fun id q => n4 id q)
    · obtain rfl : q = false := by rw [hq]; simp; omega
      obtain rfl : z = Z := by omega
      have lE : (L ++ List.replicate z (0 : UInt8)).length = L.length + z := by simp
      have hoe : k + i < (L ++ List.replicate z (0 : UInt8)).length := by omega
      obtain ⟨bo, go, hO, hbo⟩ := o4.some_at hoe
      subst hO
      have hgo : bo < s4.next := o4.2.2.1
      (repeat (first | refine pSeq ?_ | refine pReg ?_ | refine sRaw ?_ | refine sCons ?_ | refine sNil ?_ | refine rCons ?_ | refine rNil ?_ | refine kNo ?_ | refine pRow ?_ | refine pBlock ?_ | refine pSkip ?_ | refine pExit ?_ | refine pRet ?_ | refine pCond ?_ | refine gNone ?_ | refine gOn rfl ?_ | refine gOff rfl rfl ?_))
      refine ldI_is rfl hbox4 rfl ?_
      (repeat (first | refine pSeq ?_ | refine pReg ?_ | refine sRaw ?_ | refine sCons ?_ | refine sNil ?_ | refine rCons ?_ | refine rNil ?_ | refine kNo ?_ | refine pRow ?_ | refine pBlock ?_ | refine pSkip ?_ | refine pExit ?_ | refine pRet ?_ | refine pCond ?_ | refine gNone ?_ | refine gOn rfl ?_ | refine gOff rfl rfl ?_))
      intro z2 hz2
      rw [i64_id (by omega)] at hz2
      (repeat (first | refine pSeq ?_ | refine pReg ?_ | refine sRaw ?_ | refine sCons ?_ | refine sNil ?_ | refine rCons ?_ | refine rNil ?_ | refine kNo ?_ | refine pRow ?_ | refine pBlock ?_ | refine pSkip ?_ | refine pExit ?_ | refine pRet ?_ | refine pCond ?_ | refine gNone ?_ | refine gOn rfl ?_ | refine gOff rfl rfl ?_))
      refine ld1_is rfl hbox4 rfl ?_
      cases X with
      | none =>
        have : xl = [] := hx4.2
        have l0 : xl.length = 0 := by rw [this]; rfl
        omega
      | some ax =>
        obtain ⟨bx, ox, sx⟩ := ax
        obtain ⟨rfl, xc, xt, xg, xr, hbx, hxat⟩ := hx4.at
        (repeat (first | refine pSeq ?_ | refine pReg ?_ | refine sRaw ?_ | refine sCons ?_ | refine sNil ?_ | refine rCons ?_ | refine rNil ?_ | refine kNo ?_ | refine pRow ?_ | refine pBlock ?_ | refine pSkip ?_ | refine pExit ?_ | refine pRet ?_ | refine pCond ?_ | refine gNone ?_ | refine gOn rfl ?_ | refine gOff rfl rfl ?_))
        refine ⟨⟨by omega, by show (i : Int) < (xl.length : Int); omega⟩, ?_⟩
        intro j hj o ho
        obtain rfl : j = i := by omega
        rw [Nat.mul_one] at ho
        subst ho
        (repeat (first | refine pSeq ?_ | refine pReg ?_ | refine sRaw ?_ | refine sCons ?_ | refine sNil ?_ | refine rCons ?_ | refine rNil ?_ | refine kNo ?_ | refine pRow ?_ | refine pBlock ?_ | refine pSkip ?_ | refine pExit ?_ | refine pRet ?_ | refine pCond ?_ | refine gNone ?_ | refine gOn rfl ?_ | refine gOff rfl rfl ?_))
        refine ldI_is rfl hbx (hxat j (by omega)) ?_
        (repeat (first | refine pSeq ?_ | refine pReg ?_ | refine sRaw ?_ | refine sCons ?_ | refine sNil ?_ | refine rCons ?_ | refine rNil ?_ | refine kNo ?_ | refine pRow ?_ | refine pBlock ?_ | refine pSkip ?_ | refine pExit ?_ | refine pRet ?_ | refine pCond ?_ | refine gNone ?_ | refine gOn rfl ?_ | refine gOff rfl rfl ?_))
        refine ⟨⟨by omega, by show z2 < ((L.length + z : Nat) : Int); omega⟩, ?_⟩
        intro j2 hj2 o ho
        obtain rfl : j2 = k + j := by omega
        rw [Nat.zero_add, Nat.mul_one] at ho
        subst ho
        (repeat (first | refine pSeq ?_ | refine pReg ?_ | refine sRaw ?_ | refine sCons ?_ | refine sNil ?_ | refine rCons ?_ | refine rNil ?_ | refine kNo ?_ | refine pRow ?_ | refine pBlock ?_ | refine pSkip ?_ | refine pExit ?_ | refine pRet ?_ | refine pCond ?_ | refine gNone ?_ | refine gOn rfl ?_ | refine gOff rfl rfl ?_))
        have ex : xl.getD j 0 = f.getD j 0 := by
          rw [hf, List.getD, List.getD, List.getElem?_take, if_pos (by omega)]
        have hset := setRow_bytes (L ++ List.replicate z (0 : UInt8)) [f.getD j 0] (k + j) (by simp; omega)
        rw [ex]
        have ga : go = true := by
          obtain ⟨_, _, _, g', h4, h5⟩ := o4
          rw [hbo] at h4
          cases h4
          cases hg : go with
          | true => rfl
          | false =>
            have h0 := congrArg List.length (h5 hg)
            rw [lE, List.length_nil] at h0
            omega
        subst ga
        refine st_abs rfl rfl hbo hgo rfl hset fun s5 hb5 c5 n5 => ?_
        have o5 := own_set (x := f.getD j 0) rfl o4 hoe hb5 c5
        have e5 : (L ++ List.replicate z 0).take (k + j) ++ [f.getD j 0] ++ (L ++ List.replicate z 0).drop (k + j + 1) = layF tl k (f.take (j + 1)) := hstep
        rw [e5] at o5
        have len5 : (layF tl k (f.take (j + 1))).length = L.length + z := by
          rw [← e5, List.length_append, List.length_append, List.length_take, List.length_drop]
          simp
          omega
        (repeat (first | refine pSeq ?_ | refine pReg ?_ | refine sRaw ?_ | refine sCons ?_ | refine sNil ?_ | refine rCons ?_ | refine rNil ?_ | refine kNo ?_ | refine pRow ?_ | refine pBlock ?_ | refine pSkip ?_ | refine pExit ?_ | refine pRet ?_ | refine pCond ?_ | refine gNone ?_ | refine gOn rfl ?_ | refine gOff rfl rfl ?_))
        intro z3 hz3
        rw [i64_id (by omega)] at hz3
        (repeat (first | refine pSeq ?_ | refine pReg ?_ | refine sRaw ?_ | refine sCons ?_ | refine sNil ?_ | refine rCons ?_ | refine rNil ?_ | refine kNo ?_ | refine pRow ?_ | refine pBlock ?_ | refine pSkip ?_ | refine pExit ?_ | refine pRet ?_ | refine pCond ?_ | refine gNone ?_ | refine gOn rfl ?_ | refine gOff rfl rfl ?_))
        refine ⟨⟨j + 1, s5, some ⟨bo, 0, none⟩⟩, ⟨hlt, o5, n4, c4.fresh c5 (fun id q => by rw [List.mem_singleton.1 q]; exact n4 bo (by simp [blkOf]))⟩, by dsimp only; omega, Wk.same ⟨rfl, rfl, ?_, ?_, trivial⟩⟩
        · dsimp only
          rw [len5]
          rfl
        · subst hz3
          rfl
  · have hend : f.take i = f := by rw [List.take_of_length_le (by omega)]
    have fin : ∃ O, (Value.slice O3 (layF tl k (f.take i)).length 0) = .slice O (layF tl k f).length 0 ∧ Own tB s3 O (layF tl k f) ∧ NewA s O ∧ Chg s s3 [] := by
      rw [hend] at o3 ⊢
      exact ⟨O3, rfl, o3, fun id q => Nat.le_trans hc1 (n3 id q), c1.nil c3⟩
    by_cases h2 : i < xl.length
    · obtain rfl : q = true := by rw [hq]; simp; omega
      (repeat (first | refine pSeq ?_ | refine pReg ?_ | refine sRaw ?_ | refine sCons ?_ | refine sNil ?_ | refine rCons ?_ | refine rNil ?_ | refine kNo ?_ | refine pRow ?_ | refine pBlock ?_ | refine pSkip ?_ | refine pExit ?_ | refine pRet ?_ | refine pCond ?_ | refine gNone ?_ | refine gOn rfl ?_ | refine gOff rfl rfl ?_))
      intro q hq
      obtain rfl : q = false := by rw [hq]; simp; omega
      (repeat (first | refine pSeq ?_ | refine pReg ?_ | refine sRaw ?_ | refine sCons ?_ | refine sNil ?_ | refine rCons ?_ | refine rNil ?_ | refine kNo ?_ | refine pRow ?_ | refine pBlock ?_ | refine pSkip ?_ | refine pExit ?_ | refine pRet ?_ | refine pCond ?_ | refine gNone ?_ | refine gOn rfl ?_ | refine gOff rfl rfl ?_))
      exact fin
    · obtain rfl : q = false := by rw [hq]; simp; omega
      (repeat (first | refine pSeq ?_ | refine pReg ?_ | refine sRaw ?_ | refine sCons ?_ | refine sNil ?_ | refine rCons ?_ | refine rNil ?_ | refine kNo ?_ | refine pRow ?_ | refine pBlock ?_ | refine pSkip ?_ | refine pExit ?_ | refine pRet ?_ | refine pCond ?_ | refine gNone ?_ | refine gOn rfl ?_ | refine gOff rfl rfl ?_))
      exact fin
end Go.Vf.S

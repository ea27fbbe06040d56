import Derived.Test.YtioildcpkcijkaaDoorLgO
/- The document's own disk (LgXa to LgXc, by tools/gen_lgx.py). -/

section
/- The document's own disk: what it lays. -/
namespace Go.Vf.S
open Go Go.Vf
attribute [local irreducible] wSeq wRow wp wG
set_option linter.unusedVariables false
set_option linter.unusedSimpArgs false
set_option maxRecDepth 10000

abbrev tR : TypeId := 48
abbrev tV : TypeId := 119
def Dk.Inv (A : Dk) : Prop := A.now = lays A.ws A.sure
def bare (w : WB) : Nat × List UInt8 := (w.1, w.2.1)
theorem layF_get (b w : List UInt8) (k j : Nat) (h : j < k ∨ k + w.length ≤ j) : (layF b k w).getD j 0 = b.getD j 0 := by
  unfold layF
  split
  · rfl
  · have ext : ∀ j, (b ++ List.replicate (k + w.length - b.length) 0).getD j 0 = b.getD j (0 : UInt8) := by
      intro j
      simp only [List.getD, List.getElem?_append, List.getElem?_replicate]
      split
      · rfl
      · rename_i q
        rw [List.getElem?_eq_none (by omega : b.length ≤ j)]
        split <;> rfl
    rw [← ext j]
    generalize hB : b ++ List.replicate (k + w.length - b.length) (0 : UInt8) = B
    have lB : k + w.length ≤ B.length := by rw [← hB]; simp; omega
    have lT : (B.take k).length = k := by rw [List.length_take]; omega
    rcases h with q | q
    · simp only [List.getD]
      rw [List.append_assoc, List.getElem?_append_left (by omega), List.getElem?_take, if_pos q]
    · simp only [List.getD]
      rw [List.getElem?_append_right (by simp; omega), List.length_append, lT, List.getElem?_drop]
      congr 3
      omega
theorem cutW_mem {ws : List (Nat × List UInt8)} {zs : List Int} {w : Nat × List UInt8} (h : w ∈ cutW ws zs) : ∃ x ∈ ws, w.1 = x.1 ∧ w.2.length ≤ x.2.length := by
  obtain ⟨i, hi⟩ := List.getElem?_of_mem h
  simp only [cutW, List.getElem?_mapIdx] at hi
  cases hx : ws[i]? with
  | none => rw [hx] at hi; cases hi
  | some x =>
    rw [hx] at hi
    cases hi
    exact ⟨x, List.mem_of_getElem? hx, rfl, by simp; omega⟩

theorem ext_getD {a b : List UInt8} (hl : a.length = b.length) (h : ∀ j, j < a.length → a.getD j 0 = b.getD j 0) : a = b := by
  refine List.ext_getElem? fun j => ?_
  by_cases q : j < a.length
  · have := h j q
    rw [List.getD, List.getD, List.getElem?_eq_getElem q, List.getElem?_eq_getElem (by omega : j < b.length)] at this
    rw [List.getElem?_eq_getElem q, List.getElem?_eq_getElem (by omega : j < b.length)]
    exact congrArg some this
  · rw [List.getElem?_eq_none (by omega), List.getElem?_eq_none (by omega)]

theorem layF_at (b w : List UInt8) (k j : Nat) (h : j < w.length) : (layF b k w).getD (k + j) 0 = w.getD j 0 := by
  unfold layF
  split
  · rename_i e; subst e; simp at h
  · generalize hB : b ++ List.replicate (k + w.length - b.length) (0 : UInt8) = B
    have lB : k + w.length ≤ B.length := by rw [← hB]; simp; omega
    rw [List.getD, List.getD]
    congr 1
    rw [List.append_assoc, List.getElem?_append_right (by rw [List.length_take]; omega), List.getElem?_append_left (by rw [List.length_take]; omega)]
    congr 1
    rw [List.length_take]
    omega

/-- One byte more. -/
theorem layF_step {b f : List UInt8} {k i z : Nat} (h : i < f.length) (hz : (layF b k (f.take i)).length + z = max (layF b k (f.take i)).length (k + i + 1)) :
    (layF b k (f.take i) ++ List.replicate z 0).take (k + i) ++ [f.getD i 0] ++ (layF b k (f.take i) ++ List.replicate z 0).drop (k + i + 1) = layF b k (f.take (i + 1)) := by
  have l1 : (f.take i).length = i := by rw [List.length_take]; omega
  have l2 : (f.take (i + 1)).length = i + 1 := by rw [List.length_take]; omega
  have n2 : f.take (i + 1) ≠ [] := fun e => by rw [e] at l2; simp at l2
  have len1 : (layF b k (f.take i)).length = if i = 0 then b.length else max b.length (k + i) := by
    rw [layF_len, l1]
    by_cases q : i = 0
    · subst q; simp
    · rw [if_neg (fun e => q (by rw [e] at l1; simpa using l1.symm)), if_neg q]
  have len2 : (layF b k (f.take (i + 1))).length = max b.length (k + (i + 1)) := by rw [layF_len, l2, if_neg n2]
  have lE : (layF b k (f.take i) ++ List.replicate z (0 : UInt8)).length = max (layF b k (f.take i)).length (k + i + 1) := by simp; omega
  refine ext_getD ?_ fun j hj => ?_
  · simp only [List.length_append, List.length_take, List.length_drop, List.length_replicate, List.length_cons, List.length_nil] at lE ⊢
    rw [len2]
    split at len1 <;> omega
  · have g1 : (layF b k (f.take i) ++ List.replicate z (0 : UInt8)).getD j 0 = (layF b k (f.take i)).getD j 0 := by
      rw [List.getD, List.getD]
      by_cases q : j < (layF b k (f.take i)).length
      · rw [List.getElem?_append_left q]
      · rw [List.getElem?_append_right (by omega), List.getElem?_replicate, List.getElem?_eq_none (by omega : (layF b k (f.take i)).length ≤ j)]
        split <;> rfl
    generalize hE : layF b k (f.take i) ++ List.replicate z (0 : UInt8) = E at *
    by_cases q : j = k + i
    · subst q
      rw [layF_at _ _ _ _ (by omega)]
      rw [List.getD, List.getD, List.getD, List.append_assoc, List.getElem?_append_right (by rw [List.length_take]; omega), List.length_take, Nat.min_eq_left (by omega), Nat.sub_self, List.getElem?_take, if_pos (by omega)]
      rfl
    · have e1 : (E.take (k + i) ++ [f.getD i 0] ++ E.drop (k + i + 1)).getD j 0 = E.getD j 0 := by
        rw [List.getD, List.getD]
        congr 1
        by_cases q2 : j < k + i
        · rw [List.append_assoc, List.getElem?_append_left (by rw [List.length_take]; omega), List.getElem?_take, if_pos q2]
        · rw [List.getElem?_append_right (by rw [List.length_append, List.length_take]; simp; omega), List.getElem?_drop]
          congr 1
          rw [List.length_append, List.length_take]
          simp
          omega
      rw [e1, g1]
      by_cases q2 : j < k ∨ k + (i + 1) ≤ j
      · rw [layF_get _ _ _ _ (by omega), layF_get _ _ _ _ (by omega)]
      · obtain ⟨t, rfl⟩ : ∃ t, j = k + t := ⟨j - k, by omega⟩
        rw [layF_at _ _ _ _ (by omega), layF_at _ _ _ _ (by omega), List.getD, List.getD, List.getElem?_take, List.getElem?_take, if_pos (by omega), if_pos (by omega)]

theorem _root_.Go.Vf.Own.some_at {s : SS} {base : Option Addr} {l : List UInt8} {i : Nat} (h : Own tB s base l) (hi : i < l.length) : ∃ b g, base = some ⟨b, 0, none⟩ ∧ lookH s.heap b = some (.cells (bytesV l) tB g false) := by
  cases base with
  | none => have : l = [] := h; subst this; simp at hi
  | some a =>
    obtain ⟨b, off, sp⟩ := a
    obtain ⟨rfl, rfl, h3, g, h4, h5⟩ := h
    exact ⟨b, g, rfl, h4⟩

/-- A slice's bytes behind none. -/
theorem app_none {T : TL} {s : SS} {K : RR → Prop} {x y : Operand} {sb : Option Addr} {n c : Nat} {l : List UInt8} (hx : opd T s.gl x = some (.slice none 0 0)) (hy : opd T s.gl y = some (.slice sb n c)) (hr : Rdb s sb n l) (hb : n ≤ 1073741824) (hv : ∀ v, K (.eff v s) → K (.val v))
    (h : ∀ (s' : SS) (b' : Option Addr), Own tB s' b' l → NewA s b' → Chg s s' [] → K (.eff (.slice b' n 0) s')) : wN pr (.app tB 1 1 x y) T s K := by
  have hn := hr.1
  by_cases h0 : n = 0
  · subst h0
    have hl : l = [] := List.eq_nil_of_length_eq_zero hn.symm
    subst hl
    exact appB_zero hx hy hr (hv _ (h s none rfl (fun id q => by simp [blkOf] at q) (.refl _ _)))
  · refine app_own (m := 0) (base := none) (a := []) rfl rfl hx hy hr (by omega) (by omega) fun s' o c hs => ?_
    rw [Nat.zero_add]
    exact h s' _ o (fun id q => by simp only [blkOf, List.mem_singleton] at q; omega) c

theorem own_set {s s' : SS} {O : Option Addr} {E : List UInt8} {b o : Nat} {x : UInt8} (hO : O = some ⟨b, 0, none⟩) (ho : Own tB s O E) (hlt : o < E.length) (hb : lookH s'.heap b = some (.cells (bytesV (E.take o ++ [x] ++ E.drop (o + 1))) tB true false)) (c : Chg s s' [b]) : Own tB s' O (E.take o ++ [x] ++ E.drop (o + 1)) := by
  subst hO
  obtain ⟨_, _, h3, _⟩ := ho
  exact ⟨rfl, rfl, Nat.lt_of_lt_of_le h3 c.next, true, hb, fun q => by cases q⟩

structure ZerS where
  z : Nat
  s : SS
  O : Option Addr

structure LayS where
  i : Nat
  s : SS
  O : Option Addr

set_option maxHeartbeats 2000000 in
theorem rlay_w {s : SS} {T X : Option Addr} {tl xl : List UInt8} {ct cx k : Nat} {many : Int} (ht : Rdb s T tl.length tl) (hx : Rdb s X xl.length xl) (hk : k ≤ 1048576) (htl : tl.length ≤ 1048576) (hxl : xl.length ≤ 1048576) :
    CallW pr n_ref01_lay [.slice T tl.length ct, .agg ⟨[.int .i64 k, .slice X xl.length cx]⟩, .int .i64 many] s fun v s' => ∃ O, v = .slice O (layF tl k (xl.take many.toNat)).length 0 ∧ Own tB s' O (layF tl k (xl.take many.toNat)) ∧ NewA s O ∧ Chg s s' [] := by
  refine CallW.run good ok_ref01_lay (by simp) rfl ?_
  have c1 : Chg s { s with heap := (s.next, some (.cells (flat (.agg ⟨[.int .i64 k, .slice X xl.length cx]⟩)) tV false false)) :: s.heap, next := s.next + 1 } [] := .new _
  have ht1 := ht.chg c1 (fun _ _ => by simp)
  (repeat(first|refine pSeq ?_|refine pReg ?_|refine sCons ?_|refine sNil ?_|refine rCons ?_|refine rNil ?_|refine kNo ?_|refine pRow ?_|refine pBlock ?_|refine pSkip ?_|refine pExit ?_|refine pRet ?_|refine pCond ?_|refine gNone ?_|refine gOn rfl ?_|refine gOff rfl rfl ?_|refine gTup rfl ?_))
  have lay0 : layF tl k [] = tl := by unfold layF; rw [if_pos rfl]
  have hx1 := hx.chg c1 (fun _ _ => by simp)
  have hlt1 : s.next < ({ s with heap := (s.next, some (.cells (flat (.agg ⟨[.int .i64 k, .slice X xl.length cx]⟩)) tV false false)) :: s.heap, next := s.next + 1 } : SS).next := Nat.lt_succ_self _
  have hbox1 : lookH ({ s with heap := (s.next, some (.cells (flat (.agg ⟨[.int .i64 k, .slice X xl.length cx]⟩)) tV false false)) :: s.heap, next := s.next + 1 } : SS).heap s.next = some (.cells [.int .i64 k, .slice X xl.length cx] tV false false) := lkH
  generalize ({ s with heap := (s.next, some (.cells (flat (.agg ⟨[.int .i64 k, .slice X xl.length cx]⟩)) tV false false)) :: s.heap, next := s.next + 1 } : SS) = s1 at *
  obtain ⟨f, hf⟩ : ∃ f, f = xl.take many.toNat := ⟨_, rfl⟩
  have lf : f.length = min many.toNat xl.length := by rw [hf, List.length_take]
  rw [← hf]
  have hc1 := c1.next
  refine app_none rfl rfl ht1 (by omega) (fun _ h => h) fun s2 O2 o2 n2 c2 => ?_
  (repeat(first|refine pSeq ?_|refine pReg ?_|refine sCons ?_|refine sNil ?_|refine rCons ?_|refine rNil ?_|refine kNo ?_|refine pRow ?_|refine pBlock ?_|refine pSkip ?_|refine pExit ?_|refine pRet ?_|refine pCond ?_|refine gNone ?_|refine gOn rfl ?_|refine gOff rfl rfl ?_|refine gTup rfl ?_))
  refine pLoop (MW.head good (fun x : LayS => f.length - x.i) (fun x => x.i ≤ f.length ∧ Own tB x.s x.O (layF tl k (f.take x.i)) ∧ NewA s1 x.O ∧ Chg s1 x.s [])
    (fun x => [(2, .int .i64 many), (4, .pointer (some ⟨s.next, 0, none⟩)), (7, .slice x.O (layF tl k (f.take x.i)).length 0), (8, .int .i64 x.i)]) (fun x => x.s) ⟨0, s2, O2⟩
    ⟨Nat.zero_le _, by simp only [List.take_zero, lay0]; exact o2, n2, c2⟩ ?_ ?_)
  · exact Wk.same ⟨rfl, rfl, by simp only [List.take_zero, lay0]; rfl, rfl, trivial⟩
  intro ⟨i, s3, O3⟩ ⟨hi, o3, n3, c3⟩
  dsimp only at hi o3 n3 c3 ⊢
  have hbox3 := c3.blk _ _ hlt1 (by simp) hbox1
  have hx3 := hx1.chg c3 (fun _ _ => by simp)
  have lL : (layF tl k (f.take i)).length ≤ 2097152 := by
    rw [layF_len, List.length_take]
    split <;> omega
  (repeat(first|refine pSeq ?_|refine pReg ?_|refine sCons ?_|refine sNil ?_|refine rCons ?_|refine rNil ?_|refine kNo ?_|refine pRow ?_|refine pBlock ?_|refine pSkip ?_|refine pExit ?_|refine pRet ?_|refine pCond ?_|refine gNone ?_|refine gOn rfl ?_|refine gOff rfl rfl ?_|refine gTup rfl ?_))
  refine ld1_is rfl hbox3 rfl ?_
  (repeat(first|refine pSeq ?_|refine pReg ?_|refine sCons ?_|refine sNil ?_|refine rCons ?_|refine rNil ?_|refine kNo ?_|refine pRow ?_|refine pBlock ?_|refine pSkip ?_|refine pExit ?_|refine pRet ?_|refine pCond ?_|refine gNone ?_|refine gOn rfl ?_|refine gOff rfl rfl ?_|refine gTup rfl ?_))
  intro q hq
  by_cases hlt : i < f.length
  · obtain rfl : q = true := by rw [hq]; simp; omega
    (repeat(first|refine pSeq ?_|refine pReg ?_|refine sCons ?_|refine sNil ?_|refine rCons ?_|refine rNil ?_|refine kNo ?_|refine pRow ?_|refine pBlock ?_|refine pSkip ?_|refine pExit ?_|refine pRet ?_|refine pCond ?_|refine gNone ?_|refine gOn rfl ?_|refine gOff rfl rfl ?_|refine gTup rfl ?_))
    intro q hq
    obtain rfl : q = true := by rw [hq]; simp; omega
    have eZ : ∃ Z, (layF tl k (f.take i)).length + Z = max (layF tl k (f.take i)).length (k + i + 1) := ⟨max (layF tl k (f.take i)).length (k + i + 1) - (layF tl k (f.take i)).length, by omega⟩
    obtain ⟨Z, hZ⟩ := eZ
    have hstep := layF_step (b := tl) (k := k) hlt hZ
    generalize hL : layF tl k (f.take i) = L at *
    (repeat(first|refine pSeq ?_|refine pReg ?_|refine sCons ?_|refine sNil ?_|refine rCons ?_|refine rNil ?_|refine kNo ?_|refine pRow ?_|refine pBlock ?_|refine pSkip ?_|refine pExit ?_|refine pRet ?_|refine pCond ?_|refine gNone ?_|refine gOn rfl ?_|refine gOff rfl rfl ?_|refine gTup rfl ?_))
    refine pLoop (MW.head good (fun x : ZerS => Z - x.z) (fun x => x.z ≤ Z ∧ Own tB x.s x.O (L ++ List.replicate x.z 0) ∧ NewA s1 x.O ∧ Chg s1 x.s [])
      (fun x => [(2, .int .i64 many), (4, .pointer (some ⟨s.next, 0, none⟩)), (7, .slice x.O (L.length + x.z) 0), (8, .int .i64 i)]) (fun x => x.s) ⟨0, s3, O3⟩
      ⟨Nat.zero_le _, by simp only [List.replicate_zero, List.append_nil]; exact o3, n3, c3⟩ ?_ ?_)
    · exact Wk.same ⟨rfl, rfl, rfl, rfl, trivial⟩
    intro ⟨z, s4, O4⟩ ⟨hz, o4, n4, c4⟩
    dsimp only at hz o4 n4 c4 ⊢
    have hbox4 := c4.blk _ _ hlt1 (by simp) hbox1
    have hx4 := hx1.chg c4 (fun _ _ => by simp)
    (repeat(first|refine pSeq ?_|refine pReg ?_|refine sCons ?_|refine sNil ?_|refine rCons ?_|refine rNil ?_|refine kNo ?_|refine pRow ?_|refine pBlock ?_|refine pSkip ?_|refine pExit ?_|refine pRet ?_|refine pCond ?_|refine gNone ?_|refine gOn rfl ?_|refine gOff rfl rfl ?_|refine gTup rfl ?_))
    refine ldI_is rfl hbox4 rfl ?_
    (repeat(first|refine pSeq ?_|refine pReg ?_|refine sCons ?_|refine sNil ?_|refine rCons ?_|refine rNil ?_|refine kNo ?_|refine pRow ?_|refine pBlock ?_|refine pSkip ?_|refine pExit ?_|refine pRet ?_|refine pCond ?_|refine gNone ?_|refine gOn rfl ?_|refine gOff rfl rfl ?_|refine gTup rfl ?_))
    intro z1 hz1
    rw [i64_id (by omega)] at hz1
    (repeat(first|refine pSeq ?_|refine pReg ?_|refine sCons ?_|refine sNil ?_|refine rCons ?_|refine rNil ?_|refine kNo ?_|refine pRow ?_|refine pBlock ?_|refine pSkip ?_|refine pExit ?_|refine pRet ?_|refine pCond ?_|refine gNone ?_|refine gOn rfl ?_|refine gOff rfl rfl ?_|refine gTup rfl ?_))
    intro q hq
    by_cases hzl : z < Z
    · obtain rfl : q = true := by rw [hq]; simp; omega
      (repeat(first|refine pSeq ?_|refine pReg ?_|refine sCons ?_|refine sNil ?_|refine rCons ?_|refine rNil ?_|refine kNo ?_|refine pRow ?_|refine pBlock ?_|refine pSkip ?_|refine pExit ?_|refine pRet ?_|refine pCond ?_|refine gNone ?_|refine gOn rfl ?_|refine gOff rfl rfl ?_|refine gTup rfl ?_))
      have cN := Chg.new (s := s4) (b := .cells (bytesV [0]) tB false false) []
      have rN : Rdb { s4 with heap := (s4.next, some (.cells (bytesV [0]) tB false false)) :: s4.heap, next := s4.next + 1 } (some ⟨s4.next, 0, none⟩) 1 [0] := ⟨rfl, rfl, Nat.lt_succ_self _, _, _, _, _, lkH, rfl, rfl⟩
      refine app_own (l := [0]) (o4.chg cN (fun _ _ => by simp)) (by simp) rfl rfl rN (by omega) (by omega) fun s5 o5 c5 n5 => ?_
      have n5 : s5.next = s4.next + 1 + 1 := n5
      (repeat(first|refine pSeq ?_|refine pReg ?_|refine sCons ?_|refine sNil ?_|refine rCons ?_|refine rNil ?_|refine kNo ?_|refine pRow ?_|refine pBlock ?_|refine pSkip ?_|refine pExit ?_|refine pRet ?_|refine pCond ?_|refine gNone ?_|refine gOn rfl ?_|refine gOff rfl rfl ?_|refine gTup rfl ?_))
      refine ⟨⟨z + 1, s5, some ⟨s4.next + 1, 0, none⟩⟩, ⟨hzl, ?_, ?_, ?_⟩, by dsimp only; omega, Wk.same ⟨rfl, rfl, rfl, rfl, trivial⟩⟩
      · dsimp only
        rw [List.replicate_succ', ← List.append_assoc]
        exact o5
      · intro id q
        simp only [blkOf, List.mem_singleton] at q
        have := c4.next
        omega
      · exact c4.fresh (cN.nil c5) (fun id q => n4 id q)
    · obtain rfl : q = false := by rw [hq]; simp; omega
      obtain rfl : z = Z := by omega
      have lE : (L ++ List.replicate z (0 : UInt8)).length = L.length + z := by simp
      have hoe : k + i < (L ++ List.replicate z (0 : UInt8)).length := by omega
      obtain ⟨bo, go, hO, hbo⟩ := o4.some_at hoe
      subst hO
      have hgo : bo < s4.next := o4.2.2.1
      (repeat(first|refine pSeq ?_|refine pReg ?_|refine sCons ?_|refine sNil ?_|refine rCons ?_|refine rNil ?_|refine kNo ?_|refine pRow ?_|refine pBlock ?_|refine pSkip ?_|refine pExit ?_|refine pRet ?_|refine pCond ?_|refine gNone ?_|refine gOn rfl ?_|refine gOff rfl rfl ?_|refine gTup rfl ?_))
      refine ldI_is rfl hbox4 rfl ?_
      (repeat(first|refine pSeq ?_|refine pReg ?_|refine sCons ?_|refine sNil ?_|refine rCons ?_|refine rNil ?_|refine kNo ?_|refine pRow ?_|refine pBlock ?_|refine pSkip ?_|refine pExit ?_|refine pRet ?_|refine pCond ?_|refine gNone ?_|refine gOn rfl ?_|refine gOff rfl rfl ?_|refine gTup rfl ?_))
      intro z2 hz2
      rw [i64_id (by omega)] at hz2
      (repeat(first|refine pSeq ?_|refine pReg ?_|refine sCons ?_|refine sNil ?_|refine rCons ?_|refine rNil ?_|refine kNo ?_|refine pRow ?_|refine pBlock ?_|refine pSkip ?_|refine pExit ?_|refine pRet ?_|refine pCond ?_|refine gNone ?_|refine gOn rfl ?_|refine gOff rfl rfl ?_|refine gTup rfl ?_))
      refine ld1_is rfl hbox4 rfl ?_
      cases X with
      | none =>
        have : xl = [] := hx4.2
        have l0 : xl.length = 0 := by rw [this]; rfl
        omega
      | some ax =>
        obtain ⟨bx, ox, sx⟩ := ax
        obtain ⟨rfl, xc, xt, xg, xr, hbx, hxat⟩ := hx4.at
        (repeat(first|refine pSeq ?_|refine pReg ?_|refine sCons ?_|refine sNil ?_|refine rCons ?_|refine rNil ?_|refine kNo ?_|refine pRow ?_|refine pBlock ?_|refine pSkip ?_|refine pExit ?_|refine pRet ?_|refine pCond ?_|refine gNone ?_|refine gOn rfl ?_|refine gOff rfl rfl ?_|refine gTup rfl ?_))
        refine ⟨⟨by omega, by show (i : Int) < (xl.length : Int); omega⟩, ?_⟩
        intro j hj o ho
        obtain rfl : j = i := by omega
        rw [Nat.mul_one] at ho
        subst ho
        (repeat(first|refine pSeq ?_|refine pReg ?_|refine sCons ?_|refine sNil ?_|refine rCons ?_|refine rNil ?_|refine kNo ?_|refine pRow ?_|refine pBlock ?_|refine pSkip ?_|refine pExit ?_|refine pRet ?_|refine pCond ?_|refine gNone ?_|refine gOn rfl ?_|refine gOff rfl rfl ?_|refine gTup rfl ?_))
        refine ldI_is rfl hbx (hxat j (by omega)) ?_
        (repeat(first|refine pSeq ?_|refine pReg ?_|refine sCons ?_|refine sNil ?_|refine rCons ?_|refine rNil ?_|refine kNo ?_|refine pRow ?_|refine pBlock ?_|refine pSkip ?_|refine pExit ?_|refine pRet ?_|refine pCond ?_|refine gNone ?_|refine gOn rfl ?_|refine gOff rfl rfl ?_|refine gTup rfl ?_))
        refine ⟨⟨by omega, by show z2 < ((L.length + z : Nat) : Int); omega⟩, ?_⟩
        intro j2 hj2 o ho
        obtain rfl : j2 = k + j := by omega
        rw [Nat.zero_add, Nat.mul_one] at ho
        subst ho
        (repeat(first|refine pSeq ?_|refine pReg ?_|refine sCons ?_|refine sNil ?_|refine rCons ?_|refine rNil ?_|refine kNo ?_|refine pRow ?_|refine pBlock ?_|refine pSkip ?_|refine pExit ?_|refine pRet ?_|refine pCond ?_|refine gNone ?_|refine gOn rfl ?_|refine gOff rfl rfl ?_|refine gTup rfl ?_))
        have ex : xl.getD j 0 = f.getD j 0 := by
          rw [hf, List.getD, List.getD, List.getElem?_take, if_pos (by omega)]
        have hset := setRow_bytes (L ++ List.replicate z (0 : UInt8)) [f.getD j 0] (k + j) (by simp; omega)
        rw [ex]
        have ga : go = true := by
          obtain ⟨_, _, _, g', h4, h5⟩ := o4
          rw [hbo] at h4
          cases h4
          cases hg : go with
          | true => rfl
          | false =>
            have h0 := congrArg List.length (h5 hg)
            rw [lE, List.length_nil] at h0
            omega
        subst ga
        refine st_abs rfl rfl hbo hgo rfl hset fun s5 hb5 c5 n5 => ?_
        have o5 := own_set (x := f.getD j 0) rfl o4 hoe hb5 c5
        have e5 : (L ++ List.replicate z 0).take (k + j) ++ [f.getD j 0] ++ (L ++ List.replicate z 0).drop (k + j + 1) = layF tl k (f.take (j + 1)) := hstep
        rw [e5] at o5
        have len5 : (layF tl k (f.take (j + 1))).length = L.length + z := by
          rw [← e5, List.length_append, List.length_append, List.length_take, List.length_drop]
          simp
          omega
        (repeat(first|refine pSeq ?_|refine pReg ?_|refine sCons ?_|refine sNil ?_|refine rCons ?_|refine rNil ?_|refine kNo ?_|refine pRow ?_|refine pBlock ?_|refine pSkip ?_|refine pExit ?_|refine pRet ?_|refine pCond ?_|refine gNone ?_|refine gOn rfl ?_|refine gOff rfl rfl ?_|refine gTup rfl ?_))
        intro z3 hz3
        rw [i64_id (by omega)] at hz3
        (repeat(first|refine pSeq ?_|refine pReg ?_|refine sCons ?_|refine sNil ?_|refine rCons ?_|refine rNil ?_|refine kNo ?_|refine pRow ?_|refine pBlock ?_|refine pSkip ?_|refine pExit ?_|refine pRet ?_|refine pCond ?_|refine gNone ?_|refine gOn rfl ?_|refine gOff rfl rfl ?_|refine gTup rfl ?_))
        refine ⟨⟨j + 1, s5, some ⟨bo, 0, none⟩⟩, ⟨hlt, o5, n4, c4.fresh c5 (fun id q => by rw [List.mem_singleton.1 q]; exact n4 bo (by simp [blkOf]))⟩, by dsimp only; omega, Wk.same ⟨rfl, rfl, ?_, ?_, trivial⟩⟩
        · dsimp only
          rw [len5]
          rfl
        · subst hz3
          rfl
  · have hend : f.take i = f := by rw [List.take_of_length_le (by omega)]
    have fin : ∃ O, (Value.slice O3 (layF tl k (f.take i)).length 0) = .slice O (layF tl k f).length 0 ∧ Own tB s3 O (layF tl k f) ∧ NewA s O ∧ Chg s s3 [] := by
      rw [hend] at o3 ⊢
      exact ⟨O3, rfl, o3, fun id q => Nat.le_trans hc1 (n3 id q), c1.nil c3⟩
    by_cases h2 : i < xl.length
    · obtain rfl : q = true := by rw [hq]; simp; omega
      (repeat(first|refine pSeq ?_|refine pReg ?_|refine sCons ?_|refine sNil ?_|refine rCons ?_|refine rNil ?_|refine kNo ?_|refine pRow ?_|refine pBlock ?_|refine pSkip ?_|refine pExit ?_|refine pRet ?_|refine pCond ?_|refine gNone ?_|refine gOn rfl ?_|refine gOff rfl rfl ?_|refine gTup rfl ?_))
      intro q hq
      obtain rfl : q = false := by rw [hq]; simp; omega
      (repeat(first|refine pSeq ?_|refine pReg ?_|refine sCons ?_|refine sNil ?_|refine rCons ?_|refine rNil ?_|refine kNo ?_|refine pRow ?_|refine pBlock ?_|refine pSkip ?_|refine pExit ?_|refine pRet ?_|refine pCond ?_|refine gNone ?_|refine gOn rfl ?_|refine gOff rfl rfl ?_|refine gTup rfl ?_))
      exact fin
    · obtain rfl : q = false := by rw [hq]; simp; omega
      (repeat(first|refine pSeq ?_|refine pReg ?_|refine sCons ?_|refine sNil ?_|refine rCons ?_|refine rNil ?_|refine kNo ?_|refine pRow ?_|refine pBlock ?_|refine pSkip ?_|refine pExit ?_|refine pRet ?_|refine pCond ?_|refine gNone ?_|refine gOn rfl ?_|refine gOff rfl rfl ?_|refine gTup rfl ?_))
      exact fin
end Go.Vf.S
end

section
/- The document's own disk. -/
namespace Go.Vf.S
open Go Go.Vf
attribute [local irreducible] wSeq wRow wp wG
set_option linter.unusedVariables false
set_option linter.unusedSimpArgs false
set_option maxRecDepth 10000

structure RB where
  S : Option Addr
  W : Option Addr
  cw : Nat
  wl : List WB

def rCells (A : Dk) (R : RB) : List Value := [.int .i64 A.cap, .bool A.full, .slice R.S A.sure.length 0, .slice R.W R.wl.length R.cw]
def rbytes (R : RB) : List Nat := blkOf R.S ++ R.wl.flatMap fun w => blkOf w.2.2
def rfoot (r : Nat) (R : RB) : List Nat := r :: blkOf R.W
def rwhole (r : Nat) (R : RB) : List Nat := rfoot r R ++ rbytes R

structure RAt (s : SS) (r : Nat) (A : Dk) (R : RB) : Prop where
  obj : lookH s.heap r = some (.cells (rCells A R) tR false false)
  lt : r < s.next
  sure : Own tB s R.S A.sure
  row : OwnR tV s R.W R.cw R.wl.length (wCells R.wl)
  each : ∀ w ∈ R.wl, Own tB s w.2.2 w.2.1 ∧ w.1 + w.2.1.length ≤ A.cap
  cap : A.cap ≤ 1048576
  lsure : A.sure.length ≤ A.cap
  lws : R.wl.length ≤ 10000
  ews : R.wl.map bare = A.ws

theorem RAt.chg {s s' : SS} {r : Nat} {A : Dk} {R : RB} {Z : List Nat} (h : RAt s r A R) (c : Chg s s' Z) (hZ : ∀ id ∈ rwhole r R, id ∉ Z) : RAt s' r A R := by
  refine ⟨c.blk _ _ h.lt (hZ r (by simp [rwhole, rfoot])) h.obj, Nat.lt_of_lt_of_le h.lt c.next, h.sure.chg c (fun id q => hZ id (by simp [rwhole, rbytes, q])), h.row.chg c (fun id q => hZ id (by simp [rwhole, rfoot, q])),
    fun w hw => ⟨(h.each w hw).1.chg c (fun id q => hZ id ?_), (h.each w hw).2⟩, h.cap, h.lsure, h.lws, h.ews⟩
  simp only [rwhole, rbytes, List.mem_append, List.mem_flatMap]
  exact .inr (.inr ⟨w, hw, q⟩)

theorem RAt.blt {s : SS} {r : Nat} {A : Dk} {R : RB} (h : RAt s r A R) : ∀ id ∈ rwhole r R, id < s.next := by
  intro id q
  simp only [rwhole, rfoot, rbytes, List.mem_append, List.mem_cons, List.mem_flatMap] at q
  rcases q with (rfl | q) | (q | ⟨w, hw, q⟩)
  · exact h.lt
  · exact h.row.lt _ q
  · exact h.sure.lt _ q
  · exact (h.each w hw).1.lt _ q

structure RStep (r : Nat) (s : SS) (R : RB) (s' : SS) (R' : RB) : Prop where
  chg : Chg s s' (rfoot r R)
  ft : ∀ id ∈ rfoot r R', id ∈ rfoot r R ∨ s.next ≤ id
  al : ∀ id ∈ rbytes R', id ∈ rbytes R ∨ s.next ≤ id

theorem RAt.apart {s : SS} {r : Nat} {A : Dk} {R : RB} (h : RAt s r A R) : (∀ id ∈ blkOf R.S, r ≠ id) ∧ (∀ id ∈ blkOf R.W, r ≠ id) ∧ (∀ w ∈ R.wl, ∀ id ∈ blkOf w.2.2, r ≠ id) ∧ ∀ i ∈ blkOf R.W, (∀ id ∈ blkOf R.S, i ≠ id) ∧ ∀ w ∈ R.wl, ∀ id ∈ blkOf w.2.2, i ≠ id :=
  ⟨fun id q => let ⟨_, e⟩ := h.sure.at id q; type_ne h.obj e (by decide), fun id q => let ⟨_, e⟩ := h.row.at id q; type_ne h.obj e (by decide), fun w hw id q => let ⟨_, e⟩ := (h.each w hw).1.at id q; type_ne h.obj e (by decide),
    fun i hi => let ⟨_, e0⟩ := h.row.at i hi
      ⟨fun id q => let ⟨_, e⟩ := h.sure.at id q; type_ne e0 e (by decide), fun w hw id q => let ⟨_, e⟩ := (h.each w hw).1.at id q; type_ne e0 e (by decide)⟩⟩

theorem RAt.wsAt {s : SS} {r : Nat} {A : Dk} {R : RB} (h : RAt s r A R) {i : Nat} (hi : i < R.wl.length) : A.ws.length = R.wl.length ∧ ∃ hi' : i < A.ws.length, (A.ws[i]).1 = (R.wl[i]).1 ∧ (A.ws[i]).2 = (R.wl[i]).2.1 := by
  have e := h.ews
  have l : A.ws.length = R.wl.length := by rw [← e, List.length_map]
  have hi' : i < A.ws.length := by omega
  have e3 : A.ws[i]? = some ((R.wl[i]).1, (R.wl[i]).2.1) := by rw [← e, List.getElem?_map, List.getElem?_eq_getElem hi]; rfl
  rw [List.getElem?_eq_getElem hi'] at e3
  have e4 := Option.some.inj e3
  exact ⟨l, hi', by rw [e4], by rw [e4]⟩
theorem RAt.rowAt {s : SS} {r : Nat} {A : Dk} {R : RB} (h : RAt s r A R) {i : Nat} (hi : i < R.wl.length) : ∃ bw g, lookH s.heap bw = some (.cells (wCells R.wl) tV g false) ∧
    lookH s.heap r = some (.cells [.int .i64 A.cap, .bool A.full, .slice R.S A.sure.length 0, .slice (some ⟨bw, 0, none⟩) R.wl.length R.cw] tR false false) := by
  obtain ⟨b, g, e, h4⟩ := h.row.pos (by omega)
  have ho := h.obj
  unfold rCells at ho
  rw [e] at ho
  exact ⟨b, g, h4, ho⟩
theorem RAt.wsle {s : SS} {r : Nat} {A : Dk} {R : RB} (h : RAt s r A R) : ∀ w ∈ A.ws, w.1 + w.2.length ≤ A.cap := by
  intro w hw
  rw [← h.ews] at hw
  obtain ⟨x, hx, rfl⟩ := List.mem_map.1 hw
  exact (h.each x hx).2

theorem rnew_bad {s : SS} {c : Int} (h : c < 0 ∨ 1048576 < c) : CallW pr n_ref01_New [.int .i64 c] s fun v s' => v = .tuple ⟨[.pointer none, .int .i64 1]⟩ ∧ s' = s := by
  refine CallW.run good ok_ref01_New (by simp) rfl ?_
  (repeat(first|refine pSeq ?_|refine pReg ?_|refine sCons ?_|refine sNil ?_|refine pSkip ?_|refine pRet ?_|refine pCond ?_|refine gNone ?_|refine gOn rfl ?_|refine gOff rfl rfl ?_|refine gTup rfl ?_))
  intro q hq
  by_cases h0 : c < 0
  · obtain rfl : q = true := by rw [hq]; simp; omega
    (repeat(first|refine pSeq ?_|refine pReg ?_|refine sCons ?_|refine sNil ?_|refine pSkip ?_|refine pRet ?_|refine pCond ?_|refine gNone ?_|refine gOn rfl ?_|refine gOff rfl rfl ?_|refine gTup rfl ?_))
    exact ⟨rfl, rfl⟩
  obtain rfl : q = false := by rw [hq]; simp; omega
  (repeat(first|refine pSeq ?_|refine pReg ?_|refine sCons ?_|refine sNil ?_|refine pSkip ?_|refine pRet ?_|refine pCond ?_|refine gNone ?_|refine gOn rfl ?_|refine gOff rfl rfl ?_|refine gTup rfl ?_))
  intro q hq
  obtain rfl : q = true := by rw [hq]; simp; omega
  (repeat(first|refine pSeq ?_|refine pReg ?_|refine sCons ?_|refine sNil ?_|refine pSkip ?_|refine pRet ?_|refine pCond ?_|refine gNone ?_|refine gOn rfl ?_|refine gOff rfl rfl ?_|refine gTup rfl ?_))
  exact ⟨rfl, rfl⟩
theorem rnew_w {s : SS} {c : Nat} (h : c ≤ 1048576) : CallW pr n_ref01_New [.int .i64 c] s fun v s' =>
    ∃ r, s.next ≤ r ∧ v = .tuple ⟨[.pointer (some ⟨r, 0, none⟩), .int .i64 0]⟩ ∧ RAt s' r (Dk.made c) ⟨none, none, 0, []⟩ ∧ Chg s s' [] := by
  refine CallW.run good ok_ref01_New (by simp) rfl ?_
  (repeat(first|refine pSeq ?_|refine pReg ?_|refine sCons ?_|refine sNil ?_|refine pSkip ?_|refine pRet ?_|refine pCond ?_|refine gNone ?_|refine gOn rfl ?_|refine gOff rfl rfl ?_|refine gTup rfl ?_))
  intro q hq
  obtain rfl : q = false := by rw [hq]; simp
  (repeat(first|refine pSeq ?_|refine pReg ?_|refine sCons ?_|refine sNil ?_|refine pSkip ?_|refine pRet ?_|refine pCond ?_|refine gNone ?_|refine gOn rfl ?_|refine gOff rfl rfl ?_|refine gTup rfl ?_))
  intro q hq
  obtain rfl : q = false := by rw [hq]; simp; omega
  (repeat(first|refine pSeq ?_|refine pReg ?_|refine sCons ?_|refine sNil ?_|refine pSkip ?_|refine pRet ?_|refine pCond ?_|refine gNone ?_|refine gOn rfl ?_|refine gOff rfl rfl ?_|refine gTup rfl ?_))
  exact ⟨s.next, Nat.le_refl _, rfl, ⟨lkH, Nat.lt_succ_self _, rfl, ⟨rfl, rfl, rfl⟩, fun w hw => by simp at hw, h, Nat.zero_le _, Nat.zero_le _, rfl⟩, .new _⟩

set_option maxHeartbeats 1000000 in
theorem seen_w {s : SS} {r : Nat} {A : Dk} {R : RB} (h : RAt s r A R) : CallW pr n_ref01_Disk_Seen [.pointer (some ⟨r, 0, none⟩)] s fun v s' => ∃ O, v = .slice O (lays A.ws A.sure).length 0 ∧ Own tB s' O (lays A.ws A.sure) ∧ (∀ id ∈ blkOf O, id ∈ blkOf R.S ∨ s.next ≤ id) ∧ Chg s s' [] := by
  have hcap := h.cap
  have hlws := h.lws
  have hws := h.wsle
  have lw : A.ws.length = R.wl.length := by rw [← h.ews, List.length_map]
  refine CallW.run good ok_ref01_Disk_Seen (by simp) rfl ?_
  (repeat(first|refine pSeq ?_|refine pReg ?_|refine sCons ?_|refine sNil ?_|refine rCons ?_|refine rNil ?_|refine kNo ?_|refine pRow ?_|refine pBlock ?_|refine pSkip ?_|refine pExit ?_|refine pRet ?_|refine pCond ?_|refine gNone ?_))
  refine ld1_is rfl h.obj rfl ?_
  (repeat(first|refine pSeq ?_|refine pReg ?_|refine sCons ?_|refine sNil ?_|refine rCons ?_|refine rNil ?_|refine kNo ?_|refine pRow ?_|refine pBlock ?_|refine pSkip ?_|refine pExit ?_|refine pRet ?_|refine pCond ?_|refine gNone ?_))
  refine pLoop (MW.head good (fun x : LayS => R.wl.length - x.i) (fun x => x.i ≤ R.wl.length ∧ Own tB x.s x.O (lays (A.ws.take x.i) A.sure) ∧ (∀ id ∈ blkOf x.O, id ∈ blkOf R.S ∨ s.next ≤ id) ∧ Chg s x.s [])
    (fun x => [(0, .pointer (some ⟨r, 0, none⟩)), (3, .slice x.O (lays (A.ws.take x.i) A.sure).length 0), (4, .int .i64 x.i)]) (fun x => x.s) ⟨0, s, R.S⟩ ⟨Nat.zero_le _, by simp only [List.take_zero]; exact h.sure, fun id q => .inl q, .refl _ _⟩ ?_ ?_)
  · exact Wk.same ⟨rfl, rfl, rfl, trivial⟩
  intro ⟨i, s1, O1⟩ ⟨hi, o1, n1, c1⟩
  dsimp only at hi o1 n1 c1 ⊢
  have h1 := h.chg c1 (fun _ _ => by simp)
  have lb := lays_len (cap := A.cap) (ws := A.ws.take i) h.lsure (fun w hw => hws w (List.mem_of_mem_take hw))
  (repeat(first|refine pSeq ?_|refine pReg ?_|refine sCons ?_|refine sNil ?_|refine rCons ?_|refine rNil ?_|refine kNo ?_|refine pRow ?_|refine pBlock ?_|refine pSkip ?_|refine pExit ?_|refine pRet ?_|refine pCond ?_|refine gNone ?_))
  refine ld1_is rfl h1.obj rfl ?_
  (repeat(first|refine pSeq ?_|refine pReg ?_|refine sCons ?_|refine sNil ?_|refine rCons ?_|refine rNil ?_|refine kNo ?_|refine pRow ?_|refine pBlock ?_|refine pSkip ?_|refine pExit ?_|refine pRet ?_|refine pCond ?_|refine gNone ?_))
  intro q hq
  by_cases hlt : i < R.wl.length
  · obtain rfl : q = true := by rw [hq]; simp; omega
    obtain ⟨hl, hi', e1, e2⟩ := h.wsAt hlt
    obtain ⟨bw, g, hrow, obj1⟩ := h1.rowAt hlt
    have hw := h1.each _ (List.getElem_mem hlt)
    have lw1 : (R.wl[i]).1 + (R.wl[i]).2.1.length ≤ A.cap := hw.2
    have ltk := lays_take hi' (b := A.sure)
    rw [e1, e2] at ltk
    (repeat(first|refine pSeq ?_|refine pReg ?_|refine sCons ?_|refine sNil ?_|refine rCons ?_|refine rNil ?_|refine kNo ?_|refine pRow ?_|refine pBlock ?_|refine pSkip ?_|refine pExit ?_|refine pRet ?_|refine pCond ?_|refine gNone ?_))
    refine ld1_is rfl obj1 rfl ?_
    (repeat(first|refine pSeq ?_|refine pReg ?_|refine sCons ?_|refine sNil ?_|refine rCons ?_|refine rNil ?_|refine kNo ?_|refine pRow ?_|refine pBlock ?_|refine pSkip ?_|refine pExit ?_|refine pRet ?_|refine pCond ?_|refine gNone ?_))
    refine ⟨⟨by omega, Int.ofNat_lt.2 hlt⟩, ?_⟩
    intro m hm o ho
    obtain rfl : m = i := by omega
    rw [Nat.zero_add, Nat.mul_comm] at ho
    subst ho
    (repeat(first|refine pSeq ?_|refine pReg ?_|refine sCons ?_|refine sNil ?_|refine rCons ?_|refine rNil ?_|refine kNo ?_|refine pRow ?_|refine pBlock ?_|refine pSkip ?_|refine pExit ?_|refine pRet ?_|refine pCond ?_|refine gNone ?_))
    refine ldN_is rfl hrow (wCells_at hlt) ?_
    (repeat(first|refine pSeq ?_|refine pReg ?_|refine sCons ?_|refine sNil ?_|refine rCons ?_|refine rNil ?_|refine kNo ?_|refine pRow ?_|refine pBlock ?_|refine pSkip ?_|refine pExit ?_|refine pRet ?_|refine pCond ?_|refine gNone ?_))
    refine ld1_is rfl obj1 rfl ?_
    (repeat(first|refine pSeq ?_|refine pReg ?_|refine sCons ?_|refine sNil ?_|refine rCons ?_|refine rNil ?_|refine kNo ?_|refine pRow ?_|refine pBlock ?_|refine pSkip ?_|refine pExit ?_|refine pRet ?_|refine pCond ?_|refine gNone ?_))
    refine ⟨⟨by omega, Int.ofNat_lt.2 hlt⟩, ?_⟩
    intro m' hm o ho
    obtain rfl : m' = m := by omega
    rw [Nat.zero_add, Nat.mul_comm] at ho
    subst ho
    (repeat(first|refine pSeq ?_|refine pReg ?_|refine sCons ?_|refine sNil ?_|refine rCons ?_|refine rNil ?_|refine kNo ?_|refine pRow ?_|refine pBlock ?_|refine pSkip ?_|refine pExit ?_|refine pRet ?_|refine pCond ?_|refine gNone ?_))
    refine ld1_is rfl hrow (wCells_get hlt).1 ?_
    (repeat(first|refine pSeq ?_|refine pReg ?_|refine sCons ?_|refine sNil ?_|refine rCons ?_|refine rNil ?_|refine kNo ?_|refine pRow ?_|refine pBlock ?_|refine pSkip ?_|refine pExit ?_|refine pRet ?_|refine pCond ?_|refine gNone ?_))
    refine (rlay_w (X := (R.wl[m']).2.2) (xl := (R.wl[m']).2.1) (cx := 0) (k := (R.wl[m']).1) (many := ((R.wl[m']).2.1.length : Int)) o1.rdb hw.1.rdb (by omega) (by omega) (by omega)).mono fun v s6 q => ?_
    obtain ⟨O6, rfl, o6, n6, c6⟩ := q
    rw [Int.toNat_natCast, List.take_of_length_le (Nat.le_refl _), ← ltk] at *
    (repeat(first|refine pSeq ?_|refine pReg ?_|refine sCons ?_|refine sNil ?_|refine rCons ?_|refine rNil ?_|refine kNo ?_|refine pRow ?_|refine pBlock ?_|refine pSkip ?_|refine pExit ?_|refine pRet ?_|refine pCond ?_|refine gNone ?_))
    intro z hz
    rw [i64_id (by omega)] at hz
    (repeat(first|refine pSeq ?_|refine pReg ?_|refine sCons ?_|refine sNil ?_|refine rCons ?_|refine rNil ?_|refine kNo ?_|refine pRow ?_|refine pBlock ?_|refine pSkip ?_|refine pExit ?_|refine pRet ?_|refine pCond ?_|refine gNone ?_))
    refine ⟨⟨m' + 1, s6, O6⟩, ⟨hlt, o6, fun id q => .inr (Nat.le_trans c1.next (n6 id q)), c1.nil c6⟩, by dsimp only; omega, Wk.same ⟨rfl, rfl, ?_, trivial⟩⟩
    subst hz
    rfl
  · obtain rfl : q = false := by rw [hq]; simp; omega
    rw [List.take_of_length_le (by omega)] at o1 ⊢
    (repeat(first|refine pSeq ?_|refine pReg ?_|refine sCons ?_|refine sNil ?_|refine rCons ?_|refine rNil ?_|refine kNo ?_|refine pRow ?_|refine pBlock ?_|refine pSkip ?_|refine pExit ?_|refine pRet ?_|refine pCond ?_|refine gNone ?_))
    exact ⟨O1, rfl, o1, n1, c1⟩

/-- The object turned, its row perhaps. -/
theorem RAt.turn {s s6 s7 : SS} {r : Nat} {A A' : Dk} {R R' : RB} (h : RAt s r A R) (c6 : Chg s s6 (blkOf R.W)) (c7 : Chg s6 s7 [r]) (hobj : lookH s7.heap r = some (.cells (rCells A' R') tR false false)) (hs : Own tB s7 R'.S A'.sure) (hw : OwnR tV s7 R'.W R'.cw R'.wl.length (wCells R'.wl))
    (he : ∀ w ∈ R'.wl, w ∈ R.wl ∨ Own tB s7 w.2.2 w.2.1 ∧ w.1 + w.2.1.length ≤ A.cap ∧ ∀ id ∈ blkOf w.2.2, s.next ≤ id) (hc : A'.cap = A.cap) (hl : A'.sure.length ≤ A.cap) (hn : R'.wl.length ≤ 10000) (hew : R'.wl.map bare = A'.ws)
    (ft : ∀ id ∈ blkOf R'.W, id ∈ blkOf R.W ∨ s.next ≤ id) (al : ∀ id ∈ blkOf R'.S, id ∈ blkOf R.S ∨ s.next ≤ id) : RAt s7 r A' R' ∧ RStep r s R s7 R' := by
  obtain ⟨a1, a2, a3, a4⟩ := h.apart
  have n6 := c6.next
  have n7 := c7.next
  have hlt := h.lt
  refine ⟨⟨hobj, by omega, hs, hw, fun w hw => ?_, by rw [hc]; exact h.cap, by rw [hc]; exact hl, hn, hew⟩, ?_, ?_, ?_⟩
  · rcases he w hw with q | ⟨q1, q2, q3⟩
    · have e := h.each w q
      exact ⟨(e.1.chg c6 (fun id q1 q2 => (a4 id q2).2 w q id q1 rfl)).chg c7 (fun id q1 q2 => a3 w q id q1 (List.mem_singleton.1 q2).symm), by rw [hc]; exact e.2⟩
    · exact ⟨q1, by rw [hc]; exact q2⟩
  · have t1 : Chg s s6 (rfoot r R) := c6.sub (fun id q _ => by simp [rfoot, q])
    exact t1.trans' (C := rfoot r R) c7 (fun id q _ => q) (fun id q _ => by simp at q; simp [rfoot, q])
  · intro id q
    simp only [rfoot, List.mem_cons] at q ⊢
    rcases q with q | q
    · exact .inl (.inl q)
    · rcases ft id q with q | q
      · exact .inl (.inr q)
      · exact .inr q
  · intro id q
    simp only [rbytes, List.mem_append, List.mem_flatMap] at q ⊢
    rcases q with q | ⟨w, hw, q⟩
    · rcases al id q with q | q
      · exact .inl (.inl q)
      · exact .inr q
    · rcases he w hw with e | ⟨_, _, e⟩
      · exact .inl (.inr ⟨w, e, q⟩)
      · exact .inr (e id q)

set_option maxHeartbeats 1000000 in
theorem rwrite_w {s : SS} {r : Nat} {A : Dk} {R : RB} {X : Option Addr} {cx n : Nat} {l : List UInt8} {k : Int} (h : RAt s r A R) (hi : A.Inv) (hx : Rdb s X n l) (hn : n ≤ 1073741824) (hw : R.wl.length < 10000) (hnow : A.now.length ≤ A.cap) :
    CallW pr n_ref01_Disk_Write [.pointer (some ⟨r, 0, none⟩), .int .i64 k, .slice X n cx] s fun v s' => v = .int .i64 (A.wrote k l).1 ∧ ∃ R', RAt s' r (A.wrote k l).2 R' ∧ RStep r s R s' R' ∧ R'.wl.length ≤ R.wl.length + 1 := by
  have hnl := hx.1
  have hcap := h.cap
  have hI : lays A.ws A.sure = A.now := hi.symm
  have same : RStep r s R s R := ⟨.refl _ _, fun id q => .inl q, fun id q => .inl q⟩
  refine CallW.run good ok_ref01_Disk_Write (by simp) rfl ?_
  (repeat(first|refine pSeq ?_|refine pReg ?_|refine sCons ?_|refine sNil ?_|refine pSkip ?_|refine pRet ?_|refine pCond ?_|refine gNone ?_|refine gOn rfl ?_|refine gOff rfl rfl ?_|refine gTup rfl ?_))
  intro q hq
  by_cases h0 : k < 0
  · obtain rfl : q = true := by rw [hq]; simp; omega
    have e : A.wrote k l = (1, A) := by unfold Dk.wrote; rw [if_pos (.inl h0)]
    rw [e]
    (repeat(first|refine pSeq ?_|refine pReg ?_|refine sCons ?_|refine sNil ?_|refine pSkip ?_|refine pRet ?_|refine pCond ?_|refine gNone ?_|refine gOn rfl ?_|refine gOff rfl rfl ?_|refine gTup rfl ?_))
    exact ⟨rfl, R, h, same, by omega⟩
  obtain rfl : q = false := by rw [hq]; simp; omega
  (repeat(first|refine pSeq ?_|refine pReg ?_|refine sCons ?_|refine sNil ?_|refine pSkip ?_|refine pRet ?_|refine pCond ?_|refine gNone ?_|refine gOn rfl ?_|refine gOff rfl rfl ?_|refine gTup rfl ?_))
  refine (seen_w h).mono fun v s1 q => ?_
  obtain ⟨O1, rfl, o1, n1, c1⟩ := q
  rw [hI]
  have h1 := h.chg c1 (fun _ _ => by simp)
  have hx1 := hx.chg c1 (fun _ _ => by simp)
  have same1 : RStep r s R s1 R := ⟨c1.sub (by simp), fun id q => .inl q, fun id q => .inl q⟩
  (repeat(first|refine pSeq ?_|refine pReg ?_|refine sCons ?_|refine sNil ?_|refine pSkip ?_|refine pRet ?_|refine pCond ?_|refine gNone ?_|refine gOn rfl ?_|refine gOff rfl rfl ?_|refine gTup rfl ?_))
  intro q hq
  by_cases h2 : (A.now.length : Int) < k
  · obtain rfl : q = true := by rw [hq]; simp; omega
    have e : A.wrote k l = (1, A) := by unfold Dk.wrote; rw [if_pos (.inr h2)]
    rw [e]
    (repeat(first|refine pSeq ?_|refine pReg ?_|refine sCons ?_|refine sNil ?_|refine pSkip ?_|refine pRet ?_|refine pCond ?_|refine gNone ?_|refine gOn rfl ?_|refine gOff rfl rfl ?_|refine gTup rfl ?_))
    exact ⟨rfl, R, h1, same1, by omega⟩
  obtain rfl : q = false := by rw [hq]; simp; omega
  (repeat(first|refine pSeq ?_|refine pReg ?_|refine sCons ?_|refine sNil ?_|refine pSkip ?_|refine pRet ?_|refine pCond ?_|refine gNone ?_|refine gOn rfl ?_|refine gOff rfl rfl ?_|refine gTup rfl ?_))
  refine ldB_is rfl h1.obj rfl ?_
  cases hfull : A.full with
  | true =>
    have e : A.wrote k l = (7, A) := by unfold Dk.wrote; rw [if_neg (by omega), if_pos (.inl hfull)]
    rw [e]
    (repeat(first|refine pSeq ?_|refine pReg ?_|refine sCons ?_|refine sNil ?_|refine pSkip ?_|refine pRet ?_|refine pCond ?_|refine gNone ?_|refine gOn rfl ?_|refine gOff rfl rfl ?_|refine gTup rfl ?_))
    exact ⟨rfl, R, h1, same1, by omega⟩
  | false =>
  (repeat(first|refine pSeq ?_|refine pReg ?_|refine sCons ?_|refine sNil ?_|refine pSkip ?_|refine pRet ?_|refine pCond ?_|refine gNone ?_|refine gOn rfl ?_|refine gOff rfl rfl ?_|refine gTup rfl ?_))
  intro z hz
  rw [i64_id (by omega)] at hz
  (repeat(first|refine pSeq ?_|refine pReg ?_|refine sCons ?_|refine sNil ?_|refine pSkip ?_|refine pRet ?_|refine pCond ?_|refine gNone ?_|refine gOn rfl ?_|refine gOff rfl rfl ?_|refine gTup rfl ?_))
  refine ldI_is rfl h1.obj rfl ?_
  (repeat(first|refine pSeq ?_|refine pReg ?_|refine sCons ?_|refine sNil ?_|refine pSkip ?_|refine pRet ?_|refine pCond ?_|refine gNone ?_|refine gOn rfl ?_|refine gOff rfl rfl ?_|refine gTup rfl ?_))
  intro q hq
  by_cases h3 : (A.cap : Int) - k < l.length
  · obtain rfl : q = true := by rw [hq]; simp; omega
    have e : A.wrote k l = (7, A) := by unfold Dk.wrote; rw [if_neg (by omega), if_pos (.inr h3)]
    rw [e]
    (repeat(first|refine pSeq ?_|refine pReg ?_|refine sCons ?_|refine sNil ?_|refine pSkip ?_|refine pRet ?_|refine pCond ?_|refine gNone ?_|refine gOn rfl ?_|refine gOff rfl rfl ?_|refine gTup rfl ?_))
    exact ⟨rfl, R, h1, same1, by omega⟩
  obtain rfl : q = false := by rw [hq]; simp; omega
  have e : A.wrote k l = (0, { A with now := layF A.now k.toNat l, ws := A.ws ++ [(k.toNat, l)] }) := by unfold Dk.wrote; rw [if_neg (by omega), if_neg (by rw [hfull]; simp; omega)]
  rw [e]
  obtain ⟨k, rfl⟩ := Int.eq_ofNat_of_zero_le (show 0 ≤ k by omega)
  simp only [Int.toNat_natCast] at *
  subst hnl
  (repeat(first|refine pSeq ?_|refine pReg ?_|refine sCons ?_|refine sNil ?_|refine pSkip ?_|refine pRet ?_|refine pCond ?_|refine gNone ?_|refine gOn rfl ?_|refine gOff rfl rfl ?_|refine gTup rfl ?_))
  refine app_none rfl rfl hx1 hn (fun _ h => h) fun s2 X2 o2 nX2 c2 => ?_
  have h2' := h1.chg c2 (fun _ _ => by simp)
  (repeat(first|refine pSeq ?_|refine pReg ?_|refine sCons ?_|refine sNil ?_|refine pSkip ?_|refine pRet ?_|refine pCond ?_|refine gNone ?_|refine gOn rfl ?_|refine gOff rfl rfl ?_|refine gTup rfl ?_))
  refine ld1_is rfl h2'.obj rfl ?_
  (repeat(first|refine pSeq ?_|refine pReg ?_|refine sCons ?_|refine sNil ?_|refine pSkip ?_|refine pRet ?_|refine pCond ?_|refine gNone ?_|refine gOn rfl ?_|refine gOff rfl rfl ?_|refine gTup rfl ?_))
  have cN := Chg.new (s := s2) (b := .cells (wCell (k, l, X2)) tV false false) []
  have h3' := h2'.chg cN (fun _ _ => by simp)
  refine appR (new := wCell (k, l, X2)) h3'.row (by rw [wCells_len]; omega) ⟨by omega, by omega⟩ rfl rfl lkH rfl rfl fun s4 hrow c4 n4 => ?_
  have n4 : s4.next = s2.next + 1 + 1 := n4
  obtain ⟨a1, a2, a3, a4⟩ := h3'.apart
  have obj4 := c4.blk r _ h3'.lt (fun q => a2 r q rfl) h3'.obj
  (repeat(first|refine pSeq ?_|refine pReg ?_|refine sCons ?_|refine sNil ?_|refine pSkip ?_|refine pRet ?_|refine pCond ?_|refine gNone ?_|refine gOn rfl ?_|refine gOff rfl rfl ?_|refine gTup rfl ?_))
  refine st_abs (cs' := rCells { A with now := layF A.now k l, ws := A.ws ++ [(k, l)] } { R with W := some ⟨s2.next + 1, 0, none⟩, cw := 0, wl := R.wl ++ [(k, l, X2)] }) rfl rfl obj4 (Nat.lt_of_lt_of_le h3'.lt c4.next) rfl (by simp only [rCells, List.length_append]; rfl) fun s5 obj5 c5 n5 => ?_
  have ltr := h.lt
  have ltW := h.row.lt
  have x1 := c1.next
  have x2 := c2.next
  have hX2 : ∀ id ∈ blkOf X2, s1.next ≤ id ∧ id < s2.next := fun id q => ⟨nX2 id q, o2.lt id q⟩
  obtain ⟨f1, f2⟩ := h.turn (A' := { A with now := layF A.now k l, ws := A.ws ++ [(k, l)] }) (R' := { R with W := some ⟨s2.next + 1, 0, none⟩, cw := 0, wl := R.wl ++ [(k, l, X2)] }) (((c1.nil c2).nil cN).nil c4) c5 obj5
    ((h3'.sure.chg c4 (fun id q1 q2 => (a4 id q2).1 id q1 rfl)).chg c5 (fun id q1 q2 => a1 id q1 (List.mem_singleton.1 q2).symm))
    (by
      have := hrow.chg c5 (fun id q1 q2 => by simp only [blkOf, List.mem_singleton] at q1 q2; omega)
      simp only [List.length_append, List.length_cons, List.length_nil, wCells_app]
      have e : wCells [(k, l, X2)] = wCell (k, l, X2) := by simp [wCells]
      rw [e]
      exact this)
    (fun w hw => by
      rcases List.mem_append.1 hw with q | q
      · exact .inl q
      · obtain rfl := List.mem_singleton.1 q
        refine .inr ⟨((o2.chg cN (fun _ _ => by simp)).chg c4 (fun id q1 q2 => ?_)).chg c5 (fun id q1 q2 => ?_), ?_, fun id q => ?_⟩
        · have := hX2 id q1; have := ltW id q2; omega
        · have := hX2 id q1; simp only [List.mem_singleton] at q2; omega
        · show k + l.length ≤ A.cap
          omega
        · have := hX2 id q; omega)
    rfl h.lsure (by simp; omega) (by rw [List.map_append, h.ews]; rfl) (fun id q => by simp only [blkOf, List.mem_singleton] at q; right; omega) (fun id q => .inl q)
  (repeat(first|refine pSeq ?_|refine pReg ?_|refine sCons ?_|refine sNil ?_|refine pSkip ?_|refine pRet ?_|refine pCond ?_|refine gNone ?_|refine gOn rfl ?_|refine gOff rfl rfl ?_|refine gTup rfl ?_))
  exact ⟨rfl, _, f1, f2, by simp⟩
end Go.Vf.S
end

section
/- The document's own disk: Sync, Crash, Read. -/
namespace Go.Vf.S
open Go Go.Vf
attribute [local irreducible] wSeq wRow wp wG
set_option linter.unusedVariables false
set_option linter.unusedSimpArgs false
set_option maxRecDepth 10000

theorem RStep.refl (r : Nat) (s : SS) (R : RB) : RStep r s R s R := ⟨.refl _ _, fun id q => .inl q, fun id q => .inl q⟩
theorem RStep.of {r : Nat} {s s' : SS} {R : RB} (c : Chg s s' []) : RStep r s R s' R := ⟨c.sub (by simp), fun id q => .inl q, fun id q => .inl q⟩
theorem RStep.trans {r : Nat} {s s1 s2 : SS} {R R1 R2 : RB} (h : RStep r s R s1 R1) (k : RStep r s1 R1 s2 R2) : RStep r s R s2 R2 := by
  have := h.chg.next
  refine ⟨h.chg.trans' k.chg (fun id q _ => q) (fun id q hid => ?_), fun id q => ?_, fun id q => ?_⟩
  · rcases h.ft id q with r | r
    · exact r
    · omega
  · rcases k.ft id q with r | r
    · exact h.ft id r
    · exact .inr (by omega)
  · rcases k.al id q with r | r
    · exact h.al id r
    · exact .inr (by omega)
theorem RAt.foot3 {s : SS} {r : Nat} {A : Dk} {R : RB} (h : RAt s r A R) {b : Nat} {c : List Value} {t : TypeId} {g ro : Bool} (hb : lookH s.heap b = some (.cells c t g ro)) (ht : t ≠ tR ∧ t ≠ tV) : b ∉ rfoot r R := by
  intro q
  simp only [rfoot, List.mem_cons] at q
  rcases q with rfl | q
  · exact type_ne hb h.obj ht.1 rfl
  · obtain ⟨_, e⟩ := h.row.at _ q; exact type_ne hb e ht.2 rfl
theorem RAt.footR {s : SS} {r : Nat} {A : Dk} {R : RB} (h : RAt s r A R) {b : Nat} {c : List Value} {t : TypeId} {g : Bool} (hb : lookH s.heap b = some (.cells c t g true)) : b ∉ rwhole r R := by
  intro q
  simp only [rwhole, rfoot, rbytes, List.mem_append, List.mem_cons, List.mem_flatMap] at q
  rcases q with (rfl | q) | (q | ⟨w, hw, q⟩)
  · exact ro_ne hb h.obj rfl
  · obtain ⟨_, e⟩ := h.row.at _ q; exact ro_ne hb e rfl
  · obtain ⟨_, e⟩ := h.sure.at _ q; exact ro_ne hb e rfl
  · obtain ⟨_, e⟩ := (h.each w hw).1.at _ q; exact ro_ne hb e rfl

theorem rsync_w {s : SS} {r : Nat} {A : Dk} {R : RB} (h : RAt s r A R) : CallW pr n_ref01_Disk_Sync [.pointer (some ⟨r, 0, none⟩)] s fun _ s' => ∃ R', RAt s' r A.synced R' ∧ RStep r s R s' R' ∧ R'.wl = [] := by
  obtain ⟨a1, a2, a3, a4⟩ := h.apart
  have hlt := h.lt
  have lsn := lays_len (cap := A.cap) (ws := A.ws) h.lsure h.wsle
  refine CallW.run good ok_ref01_Disk_Sync (by simp) rfl ?_
  (repeat(first|refine pSeq ?_|refine pReg ?_|refine sCons ?_|refine sNil ?_|refine gNone ?_))
  refine (seen_w h).mono fun v s1 q => ?_
  obtain ⟨O, rfl, o1, n1, c1⟩ := q
  have h1 := h.chg c1 (fun _ _ => by simp)
  have hO : ∀ id ∈ blkOf O, r ≠ id := fun id q => by
    rcases n1 id q with q | q
    · exact a1 id q
    · omega
  (repeat(first|refine pSeq ?_|refine pReg ?_|refine sCons ?_|refine sNil ?_|refine gNone ?_))
  refine st_abs (cs' := [.int .i64 A.cap, .bool A.full, .slice O (lays A.ws A.sure).length 0, .slice R.W R.wl.length R.cw]) rfl rfl h1.obj h1.lt rfl rfl fun s2 obj2 c2 n2 => ?_
  (repeat(first|refine pSeq ?_|refine pReg ?_|refine sCons ?_|refine sNil ?_|refine gNone ?_))
  refine st_abs (cs' := rCells A.synced ⟨O, none, 0, []⟩) rfl rfl obj2 (by have := h1.lt; omega) rfl rfl fun s3 obj3 c3 n3 => ?_
  (repeat(first|refine pSeq ?_|refine pReg ?_|refine sCons ?_|refine sNil ?_|refine gNone ?_))
  obtain ⟨f1, f2⟩ := h.turn (A' := A.synced) (R' := ⟨O, none, 0, []⟩) (c1.sub (by simp)) (c2.trans' c3 (fun id q _ => q) (fun id q _ => q)) obj3
    ((o1.chg c2 (fun id q1 q2 => hO id q1 (List.mem_singleton.1 q2).symm)).chg c3 (fun id q1 q2 => hO id q1 (List.mem_singleton.1 q2).symm)) ⟨rfl, rfl, rfl⟩ (fun w hw => by simp at hw) rfl lsn (Nat.zero_le _) rfl (fun id q => by simp [blkOf] at q) n1
  exact ⟨_, f1, f2, rfl⟩

theorem lays_append (a b : List (Nat × List UInt8)) (l : List UInt8) : lays (a ++ b) l = lays b (lays a l) := by simp [lays, List.foldl_append]
theorem lays_empty : ∀ {ws : List (Nat × List UInt8)} {b : List UInt8}, (∀ w ∈ ws, w.2 = []) → lays ws b = b
  | [], b, _ => rfl
  | w :: ws, b, h => by
    show lays ws (layF b w.1 w.2) = b
    rw [h w (List.mem_cons_self ..)]
    have e : layF b w.1 [] = b := by unfold layF; rw [if_pos rfl]
    rw [e]
    exact lays_empty fun x hx => h x (List.mem_cons_of_mem _ hx)
theorem cutW_front (ws : List (Nat × List UInt8)) (zs : List Int) (b : List UInt8) : lays ((cutW ws zs).take zs.length) b = lays (cutW ws zs) b := by
  have e := lays_append ((cutW ws zs).take zs.length) ((cutW ws zs).drop zs.length) b
  rw [List.take_append_drop] at e
  have hz : ∀ w ∈ (cutW ws zs).drop zs.length, w.2 = [] := by
    intro w hw
    obtain ⟨i, hi⟩ := List.getElem?_of_mem hw
    rw [List.getElem?_drop] at hi
    simp only [cutW, List.getElem?_mapIdx] at hi
    cases hx : ws[zs.length + i]? with
    | none => rw [hx] at hi; cases hi
    | some x =>
      rw [hx] at hi
      cases hi
      have e0 : zs.getD (zs.length + i) 0 = 0 := by rw [List.getD, List.getElem?_eq_none (by omega)]; rfl
      show x.2.take (max (zs.getD (zs.length + i) 0) 0).toNat = []
      rw [e0]
      rfl
  rw [e, lays_empty hz]

set_option maxHeartbeats 1000000 in
theorem rcrash_w {s : SS} {r : Nat} {A : Dk} {R : RB} {kb : Option Addr} {kc : Nat} {zs : List Int} (h : RAt s r A R) (hk : RdI s kb zs.length zs) :
    CallW pr n_ref01_Disk_Crash [.pointer (some ⟨r, 0, none⟩), .slice kb zs.length kc] s fun _ s' => ∃ R', RAt s' r (A.crashed zs) R' ∧ RStep r s R s' R' ∧ R'.wl = [] := by
  have hcap := h.cap
  have hlws := h.lws
  have lw : A.ws.length = R.wl.length := by rw [← h.ews, List.length_map]
  have hws : ∀ w ∈ cutW A.ws zs, w.1 + w.2.length ≤ A.cap := by
    intro w hw
    obtain ⟨x, hx, e1, e2⟩ := cutW_mem hw
    have := h.wsle x hx
    omega
  have hcl : (cutW A.ws zs).length = R.wl.length := by simp [cutW, lw]
  refine CallW.run good ok_ref01_Disk_Crash (by simp) rfl ?_
  (repeat(first|refine pSeq ?_|refine pReg ?_|refine sCons ?_|refine sNil ?_|refine rCons ?_|refine rNil ?_|refine kNo ?_|refine pRow ?_|refine pBlock ?_|refine pSkip ?_|refine pExit ?_|refine pCond ?_|refine gNone ?_|refine gOn rfl ?_|refine gOff rfl rfl ?_|refine gTup rfl ?_))
  refine pLoop (MW.head good (fun x : LoopS => R.wl.length - x.i) (fun x => x.i ≤ R.wl.length ∧ x.i ≤ zs.length ∧ RAt x.s r { A with sure := lays ((cutW A.ws zs).take x.i) A.sure } { R with S := x.S } ∧ RStep r s R x.s { R with S := x.S } ∧ RdI x.s kb zs.length zs)
    (fun x => [(0, .pointer (some ⟨r, 0, none⟩)), (1, .slice kb zs.length kc), (4, .int .i64 x.i)]) (fun x => x.s) ⟨0, s, R.S⟩ ⟨Nat.zero_le _, Nat.zero_le _, ?_, .refl _ _ _, hk⟩ ?_ ?_)
  · simp only [List.take_zero]
    exact h
  · exact Wk.same ⟨rfl, rfl, rfl, trivial⟩
  intro ⟨i, s1, S1⟩ ⟨hi, hiz, h1, st1, hk1⟩
  dsimp only at hi hiz h1 st1 hk1 ⊢
  obtain ⟨a1, a2, a3, a4⟩ := h1.apart
  have ltr := h1.lt
  have lb := lays_len (cap := A.cap) (ws := (cutW A.ws zs).take i) h.lsure (fun w hw => hws w (List.mem_of_mem_take hw))
  have fin : i = R.wl.length ∨ i = zs.length → lays ((cutW A.ws zs).take i) A.sure = lays (cutW A.ws zs) A.sure := by
    rintro (e | e)
    · rw [List.take_of_length_le (by omega)]
    · rw [e]; exact cutW_front _ _ _
  (repeat(first|refine pSeq ?_|refine pReg ?_|refine sCons ?_|refine sNil ?_|refine rCons ?_|refine rNil ?_|refine kNo ?_|refine pRow ?_|refine pBlock ?_|refine pSkip ?_|refine pExit ?_|refine pCond ?_|refine gNone ?_|refine gOn rfl ?_|refine gOff rfl rfl ?_|refine gTup rfl ?_))
  refine ld1_is rfl h1.obj rfl ?_
  (repeat(first|refine pSeq ?_|refine pReg ?_|refine sCons ?_|refine sNil ?_|refine rCons ?_|refine rNil ?_|refine kNo ?_|refine pRow ?_|refine pBlock ?_|refine pSkip ?_|refine pExit ?_|refine pCond ?_|refine gNone ?_|refine gOn rfl ?_|refine gOff rfl rfl ?_|refine gTup rfl ?_))
  intro q hq
  by_cases hlt : i < R.wl.length
  · obtain rfl : q = true := by rw [hq]; simp; omega
    (repeat(first|refine pSeq ?_|refine pReg ?_|refine sCons ?_|refine sNil ?_|refine rCons ?_|refine rNil ?_|refine kNo ?_|refine pRow ?_|refine pBlock ?_|refine pSkip ?_|refine pExit ?_|refine pCond ?_|refine gNone ?_|refine gOn rfl ?_|refine gOff rfl rfl ?_|refine gTup rfl ?_))
    intro q hq
    by_cases hltz : i < zs.length
    · obtain rfl : q = true := by rw [hq]; simp; omega
      obtain ⟨hl, hi', e1, e2⟩ := h.wsAt hlt
      obtain ⟨bw, g, hrow, obj1⟩ := h1.rowAt hlt
      have hw := h1.each _ (List.getElem_mem hlt)
      have lw1 : (R.wl[i]).1 + (R.wl[i]).2.1.length ≤ A.cap := hw.2
      have hic : i < (cutW A.ws zs).length := by omega
      have ltk := lays_take hic (b := A.sure)
      have hci : (cutW A.ws zs)[i] = ((R.wl[i]).1, (R.wl[i]).2.1.take (zs.getD i 0).toNat) := by
        simp only [cutW, List.getElem_mapIdx, e1, e2]
        rw [show (max (zs.getD i 0) 0).toNat = (zs.getD i 0).toNat from by omega]
      rw [hci] at ltk
      have lnext := lays_len (cap := A.cap) (ws := (cutW A.ws zs).take (i + 1)) h.lsure (fun w hw => hws w (List.mem_of_mem_take hw))
      cases kb with
      | none =>
        have : zs = [] := hk1.2
        have l0 : zs.length = 0 := by rw [this]; rfl
        omega
      | some ak =>
      obtain ⟨bk, ok, sk⟩ := ak
      obtain ⟨-, rfl, ltk2, kcs, kg, kro, hbk, hkat⟩ := hk1
      (repeat(first|refine pSeq ?_|refine pReg ?_|refine sCons ?_|refine sNil ?_|refine rCons ?_|refine rNil ?_|refine kNo ?_|refine pRow ?_|refine pBlock ?_|refine pSkip ?_|refine pExit ?_|refine pCond ?_|refine gNone ?_|refine gOn rfl ?_|refine gOff rfl rfl ?_|refine gTup rfl ?_))
      refine ld1_is rfl obj1 rfl ?_
      (repeat(first|refine pSeq ?_|refine pReg ?_|refine sCons ?_|refine sNil ?_|refine rCons ?_|refine rNil ?_|refine kNo ?_|refine pRow ?_|refine pBlock ?_|refine pSkip ?_|refine pExit ?_|refine pCond ?_|refine gNone ?_|refine gOn rfl ?_|refine gOff rfl rfl ?_|refine gTup rfl ?_))
      refine ld1_is rfl obj1 rfl ?_
      (repeat(first|refine pSeq ?_|refine pReg ?_|refine sCons ?_|refine sNil ?_|refine rCons ?_|refine rNil ?_|refine kNo ?_|refine pRow ?_|refine pBlock ?_|refine pSkip ?_|refine pExit ?_|refine pCond ?_|refine gNone ?_|refine gOn rfl ?_|refine gOff rfl rfl ?_|refine gTup rfl ?_))
      refine ⟨⟨by omega, Int.ofNat_lt.2 hlt⟩, ?_⟩
      intro m hm o ho
      obtain rfl : m = i := by omega
      rw [Nat.zero_add, Nat.mul_comm] at ho
      subst ho
      (repeat(first|refine pSeq ?_|refine pReg ?_|refine sCons ?_|refine sNil ?_|refine rCons ?_|refine rNil ?_|refine kNo ?_|refine pRow ?_|refine pBlock ?_|refine pSkip ?_|refine pExit ?_|refine pCond ?_|refine gNone ?_|refine gOn rfl ?_|refine gOff rfl rfl ?_|refine gTup rfl ?_))
      refine ldN_is rfl hrow (wCells_at hlt) ?_
      (repeat(first|refine pSeq ?_|refine pReg ?_|refine sCons ?_|refine sNil ?_|refine rCons ?_|refine rNil ?_|refine kNo ?_|refine pRow ?_|refine pBlock ?_|refine pSkip ?_|refine pExit ?_|refine pCond ?_|refine gNone ?_|refine gOn rfl ?_|refine gOff rfl rfl ?_|refine gTup rfl ?_))
      refine ⟨⟨by omega, Int.ofNat_lt.2 hltz⟩, ?_⟩
      intro m' hm o ho
      obtain rfl : m' = m := by omega
      rw [Nat.mul_one] at ho
      subst ho
      (repeat(first|refine pSeq ?_|refine pReg ?_|refine sCons ?_|refine sNil ?_|refine rCons ?_|refine rNil ?_|refine kNo ?_|refine pRow ?_|refine pBlock ?_|refine pSkip ?_|refine pExit ?_|refine pCond ?_|refine gNone ?_|refine gOn rfl ?_|refine gOff rfl rfl ?_|refine gTup rfl ?_))
      refine ldI_is rfl hbk (hkat m' hltz) ?_
      (repeat(first|refine pSeq ?_|refine pReg ?_|refine sCons ?_|refine sNil ?_|refine rCons ?_|refine rNil ?_|refine kNo ?_|refine pRow ?_|refine pBlock ?_|refine pSkip ?_|refine pExit ?_|refine pCond ?_|refine gNone ?_|refine gOn rfl ?_|refine gOff rfl rfl ?_|refine gTup rfl ?_))
      refine (rlay_w (X := (R.wl[m']).2.2) (xl := (R.wl[m']).2.1) (cx := 0) (k := (R.wl[m']).1) (many := zs.getD m' 0) h1.sure.rdb hw.1.rdb (by omega) (by show (lays ((cutW A.ws zs).take m') A.sure).length ≤ _; omega) (by omega)).mono fun v s6 q => ?_
      obtain ⟨S', rfl, o6, n6, c6⟩ := q
      rw [← ltk] at o6 ⊢
      have obj6 := c6.blk r _ h1.lt (by simp) h1.obj
      (repeat(first|refine pSeq ?_|refine pReg ?_|refine sCons ?_|refine sNil ?_|refine rCons ?_|refine rNil ?_|refine kNo ?_|refine pRow ?_|refine pBlock ?_|refine pSkip ?_|refine pExit ?_|refine pCond ?_|refine gNone ?_|refine gOn rfl ?_|refine gOff rfl rfl ?_|refine gTup rfl ?_))
      refine st_abs (cs' := rCells { A with sure := lays ((cutW A.ws zs).take (m' + 1)) A.sure } { R with S := S' }) rfl rfl obj6 (Nat.lt_of_lt_of_le h1.lt c6.next) rfl rfl fun s7 hobj7 c7 hn7 => ?_
      obtain ⟨h7, st7⟩ := h1.turn (A' := { A with sure := lays ((cutW A.ws zs).take (m' + 1)) A.sure }) (R' := { R with S := S' }) (c6.sub (by simp)) c7 hobj7 (o6.chg c7 (fun id q1 q2 => by have := n6 id q1; have := List.mem_singleton.1 q2; omega))
        ((h1.row.chg c6 (fun _ _ => by simp)).chg c7 (fun id q1 q2 => a2 id q1 (List.mem_singleton.1 q2).symm)) (fun w hw => .inl hw) rfl lnext h.lws h.ews (fun id q => .inl q) (fun id q => .inr (n6 id q))
      (repeat(first|refine pSeq ?_|refine pReg ?_|refine sCons ?_|refine sNil ?_|refine rCons ?_|refine rNil ?_|refine kNo ?_|refine pRow ?_|refine pBlock ?_|refine pSkip ?_|refine pExit ?_|refine pCond ?_|refine gNone ?_|refine gOn rfl ?_|refine gOff rfl rfl ?_|refine gTup rfl ?_))
      intro z hz
      rw [i64_id (by omega)] at hz
      (repeat(first|refine pSeq ?_|refine pReg ?_|refine sCons ?_|refine sNil ?_|refine rCons ?_|refine rNil ?_|refine kNo ?_|refine pRow ?_|refine pBlock ?_|refine pSkip ?_|refine pExit ?_|refine pCond ?_|refine gNone ?_|refine gOn rfl ?_|refine gOff rfl rfl ?_|refine gTup rfl ?_))
      have hk7 : RdI s7 (some ⟨bk, ok, none⟩) zs.length zs := (show RdI s1 (some ⟨bk, ok, none⟩) zs.length zs from ⟨rfl, rfl, ltk2, kcs, kg, kro, hbk, hkat⟩).chg st7.chg (fun id q1 q2 => by
        simp only [blkOf, List.mem_singleton] at q1
        subst q1
        exact h1.foot3 hbk ⟨by decide, by decide⟩ q2)
      refine ⟨⟨m' + 1, s7, S'⟩, ⟨hlt, hltz, h7, st1.trans st7, hk7⟩, by dsimp only; omega, Wk.same ⟨rfl, rfl, ?_, trivial⟩⟩
      subst hz
      rfl
    · obtain rfl : q = false := by rw [hq]; simp; omega
      have e := fin (.inr (by omega))
      rw [e] at h1
      (repeat(first|refine pSeq ?_|refine pReg ?_|refine sCons ?_|refine sNil ?_|refine rCons ?_|refine rNil ?_|refine kNo ?_|refine pRow ?_|refine pBlock ?_|refine pSkip ?_|refine pExit ?_|refine pCond ?_|refine gNone ?_|refine gOn rfl ?_|refine gOff rfl rfl ?_|refine gTup rfl ?_))
      refine st_abs (cs' := rCells (A.crashed zs) { R with S := S1, W := none, cw := 0, wl := [] }) rfl rfl h1.obj h1.lt rfl rfl fun s7 hobj7 c7 hn7 => ?_
      obtain ⟨h7, st7⟩ := h1.turn (A' := A.crashed zs) (R' := { R with S := S1, W := none, cw := 0, wl := [] }) (.refl _ _) c7 hobj7 (h1.sure.chg c7 (fun id q1 q2 => a1 id q1 (List.mem_singleton.1 q2).symm)) ⟨rfl, rfl, rfl⟩ (fun w hw => by simp at hw) rfl h1.lsure (Nat.zero_le _) rfl (fun id q => by simp [blkOf] at q) (fun id q => .inl q)
      (repeat(first|refine pSeq ?_|refine pReg ?_|refine sCons ?_|refine sNil ?_|refine rCons ?_|refine rNil ?_|refine kNo ?_|refine pRow ?_|refine pBlock ?_|refine pSkip ?_|refine pExit ?_|refine pCond ?_|refine gNone ?_|refine gOn rfl ?_|refine gOff rfl rfl ?_|refine gTup rfl ?_))
      exact ⟨_, h7, st1.trans st7, rfl⟩
  · obtain rfl : q = false := by rw [hq]; simp; omega
    have e := fin (.inl (by omega))
    rw [e] at h1
    (repeat(first|refine pSeq ?_|refine pReg ?_|refine sCons ?_|refine sNil ?_|refine rCons ?_|refine rNil ?_|refine kNo ?_|refine pRow ?_|refine pBlock ?_|refine pSkip ?_|refine pExit ?_|refine pCond ?_|refine gNone ?_|refine gOn rfl ?_|refine gOff rfl rfl ?_|refine gTup rfl ?_))
    refine st_abs (cs' := rCells (A.crashed zs) { R with S := S1, W := none, cw := 0, wl := [] }) rfl rfl h1.obj h1.lt rfl rfl fun s7 hobj7 c7 hn7 => ?_
    obtain ⟨h7, st7⟩ := h1.turn (A' := A.crashed zs) (R' := { R with S := S1, W := none, cw := 0, wl := [] }) (.refl _ _) c7 hobj7 (h1.sure.chg c7 (fun id q1 q2 => a1 id q1 (List.mem_singleton.1 q2).symm)) ⟨rfl, rfl, rfl⟩ (fun w hw => by simp at hw) rfl h1.lsure (Nat.zero_le _) rfl (fun id q => by simp [blkOf] at q) (fun id q => .inl q)
    (repeat(first|refine pSeq ?_|refine pReg ?_|refine sCons ?_|refine sNil ?_|refine rCons ?_|refine rNil ?_|refine kNo ?_|refine pRow ?_|refine pBlock ?_|refine pSkip ?_|refine pExit ?_|refine pCond ?_|refine gNone ?_|refine gOn rfl ?_|refine gOff rfl rfl ?_|refine gTup rfl ?_))
    exact ⟨_, h7, st1.trans st7, rfl⟩

end Go.Vf.S
end

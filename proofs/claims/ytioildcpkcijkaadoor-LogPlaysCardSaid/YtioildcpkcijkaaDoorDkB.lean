import Derived.Test.YtioildcpkcijkaaDoorDkA
/- Bytes laid over bytes. -/
namespace Go.Vf.S
open Go Go.Vf
attribute [local irreducible] wSeq wRow wp wG
set_option linter.unusedVariables false
set_option linter.unusedSimpArgs false
set_option maxRecDepth 10000

/-- What a write leaves. -/
def layF (b : List UInt8) (k : Nat) (w : List UInt8) : List UInt8 :=
  if w = [] then b else (b ++ List.replicate (k + w.length - b.length) 0).take k ++ w ++ (b ++ List.replicate (k + w.length - b.length) 0).drop (k + w.length)

theorem layF_len (b : List UInt8) (k : Nat) (w : List UInt8) : (layF b k w).length = if w = [] then b.length else max b.length (k + w.length) := by
  unfold layF
  split
  · rfl
  · simp
    omega

theorem lay_w {s : SS} {B X : Option Addr} {b l : List UInt8} {cx k : Nat} {many : Int} (ho : Own tB s B b) (hx : Slc pr s X l.length cx l) (hk : k ≤ 1048576) (hb : b.length ≤ 1048576) (hl : l.length ≤ 1048576) (hm : 0 ≤ many) (hsep : ∀ id ∈ blkOf X, id ∉ blkOf B) :
    CallW pr n_disk_lay [.slice B b.length 0, .agg ⟨[.int .i64 k, .slice X l.length cx]⟩, .int .i64 many] s fun v s' => ∃ B', v = .slice B' (layF b k (l.take many.toNat)).length 0 ∧ Own tB s' B' (layF b k (l.take many.toNat)) ∧ Chg s s' (blkOf B) ∧ (∀ id ∈ blkOf B', id ∈ blkOf B ∨ s.next ≤ id) := by
  refine CallW.run good ok_disk_lay (by simp) rfl ?_
  have c1 : Chg s { s with heap := (s.next, some (.cells (flat (.agg ⟨[.int .i64 k, .slice X l.length cx]⟩)) tW false false)) :: s.heap, next := s.next + 1 } [] := .new _
  have hB := ho.lt
  have ho1 := ho.chg c1 (fun _ _ => by simp)
  have hx1 := hx.chg c1 (fun _ _ => by simp)
  (repeat(first|refine pSeq ?_|refine pReg ?_|refine sCons ?_|refine sNil ?_|refine pSkip ?_|refine pRet ?_|refine pCond ?_|refine gNone ?_))
  refine ld1_is rfl lkH rfl ?_
  (repeat(first|refine pSeq ?_|refine pReg ?_|refine sCons ?_|refine sNil ?_|refine pSkip ?_|refine pRet ?_|refine pCond ?_|refine gNone ?_))
  refine ld1_is rfl lkH rfl ?_
  (repeat(first|refine pSeq ?_|refine pReg ?_|refine sCons ?_|refine sNil ?_|refine pSkip ?_|refine pRet ?_|refine pCond ?_|refine gNone ?_))
  intro z hz
  obtain ⟨w, hw⟩ : ∃ w, w = (l.take many.toNat).length := ⟨_, rfl⟩
  have hw' : w = min many.toNat l.length := by rw [hw, List.length_take]
  (repeat(first|refine pSeq ?_|refine pReg ?_|refine sCons ?_|refine sNil ?_|refine pSkip ?_|refine pRet ?_|refine pCond ?_|refine gNone ?_))
  refine slL_same 0 w rfl rfl rfl hx1 rfl (by show z = ((0 + w : Nat) : Int); omega) (by omega) fun X' cx' hx2 hsub => ?_
  have e0 : (l.drop 0).take w = l.take many.toNat := by
    rw [List.drop_zero, hw']
    by_cases q : many.toNat ≤ l.length
    · rw [Nat.min_eq_left q]
    · rw [Nat.min_eq_right (by omega), List.take_of_length_le (Nat.le_refl _), List.take_of_length_le (by omega)]
  rw [e0] at hx2
  generalize l.take many.toNat = f at *
  (repeat(first|refine pSeq ?_|refine pReg ?_|refine sCons ?_|refine sNil ?_|refine pSkip ?_|refine pRet ?_|refine pCond ?_|refine gNone ?_))
  intro q hq
  by_cases h0 : w = 0
  · obtain rfl : q = true := by rw [hq]; simp; omega
    have hf : f = [] := List.eq_nil_of_length_eq_zero (by omega)
    subst hf
    (repeat(first|refine pSeq ?_|refine pReg ?_|refine sCons ?_|refine sNil ?_|refine pSkip ?_|refine pRet ?_|refine pCond ?_|refine gNone ?_))
    exact ⟨B, rfl, ho1, c1.sub (by simp), fun id q => .inl q⟩
  · obtain rfl : q = false := by rw [hq]; simp; omega
    have hf : f ≠ [] := fun e => h0 (by rw [hw, e]; rfl)
    have hlay : layF b k f = (b ++ List.replicate (k + w - b.length) 0).take k ++ f ++ (b ++ List.replicate (k + w - b.length) 0).drop (k + w) := by
      unfold layF
      rw [if_neg hf, hw]
    (repeat(first|refine pSeq ?_|refine pReg ?_|refine sCons ?_|refine sNil ?_|refine pSkip ?_|refine pRet ?_|refine pCond ?_|refine gNone ?_))
    refine ldI_is rfl lkH rfl ?_
    (repeat(first|refine pSeq ?_|refine pReg ?_|refine sCons ?_|refine sNil ?_|refine pSkip ?_|refine pRet ?_|refine pCond ?_|refine gNone ?_))
    intro z1 hz1
    rw [i64_id (by omega)] at hz1
    (repeat(first|refine pSeq ?_|refine pReg ?_|refine sCons ?_|refine sNil ?_|refine pSkip ?_|refine pRet ?_|refine pCond ?_|refine gNone ?_))
    intro z2 hz2
    rw [i64_id (by omega)] at hz2
    (repeat(first|refine pSeq ?_|refine pReg ?_|refine sCons ?_|refine sNil ?_|refine pSkip ?_|refine pRet ?_|refine pCond ?_|refine gNone ?_))
    intro q hq
    by_cases hmore : b.length < k + w
    · obtain rfl : q = true := by rw [hq]; simp; omega
      (repeat(first|refine pSeq ?_|refine pReg ?_|refine sCons ?_|refine sNil ?_|refine pSkip ?_|refine pRet ?_|refine pCond ?_|refine gNone ?_))
      refine appZ_own (n := k + w - b.length) ho1 rfl rfl rfl (by omega) (by omega) (by omega) fun s2 ho2 c2 hn2 => ?_
      (repeat(first|refine pSeq ?_|refine pReg ?_|refine sCons ?_|refine sNil ?_|refine pSkip ?_|refine pRet ?_|refine pCond ?_|refine gNone ?_))
      have hbox := c2.blk s.next _ (Nat.lt_succ_self _) (fun q => by have := hB _ q; omega) lkH
      refine ldI_is rfl hbox rfl ?_
      (repeat(first|refine pSeq ?_|refine pReg ?_|refine sCons ?_|refine sNil ?_|refine pSkip ?_|refine pRet ?_|refine pCond ?_|refine gNone ?_))
      obtain ⟨-, -, h3, g, h4, h5⟩ := ho2
      have ga : g = true := by
        cases g with
        | true => rfl
        | false =>
          have := congrArg List.length (h5 rfl)
          simp at this
          omega
      subst ga
      refine slL_open (vl := some (.int .i64 k)) (vh := none) rfl rfl rfl h4 sz_B ?_
      refine ⟨⟨by omega, by omega⟩, fun m hm o n ho hn => ?_⟩
      obtain rfl : m = k := by omega
      rw [Nat.zero_add, Nat.mul_one] at ho
      subst ho
      (repeat(first|refine pSeq ?_|refine pReg ?_|refine sCons ?_|refine sNil ?_|refine pSkip ?_|refine pRet ?_|refine pCond ?_|refine gNone ?_))
      have hx3 := hx2.chg c2 (fun id q r => hsep id (hsub id q) r)
      refine cpy_own rfl h4 rfl hx3.1 (by omega) (by omega) (by simp; omega) ?_
      rw [← hlay]
      (repeat(first|refine pSeq ?_|refine pReg ?_|refine sCons ?_|refine sNil ?_|refine pSkip ?_|refine pRet ?_|refine pCond ?_|refine gNone ?_))
      have len : b.length + (o + w - b.length) = (layF b o f).length := by rw [layF_len, if_neg hf]; omega
      refine ⟨some ⟨s.next + 1, 0, none⟩, by rw [← len]; rfl, ⟨rfl, rfl, h3, true, lkH, fun q => by cases q⟩, ?_, ?_⟩
      · refine (c1.trans' c2 (by simp) (fun id q _ => q)).trans' (Chg.turn h3) (fun id q _ => q) (fun id q hid => ?_)
        simp at q
        omega
      · intro id q
        simp only [blkOf, List.mem_singleton] at q
        exact .inr (by omega)
    · obtain rfl : q = false := by rw [hq]; simp; omega
      (repeat(first|refine pSeq ?_|refine pReg ?_|refine sCons ?_|refine sNil ?_|refine pSkip ?_|refine pRet ?_|refine pCond ?_|refine gNone ?_))
      refine ldI_is rfl lkH rfl ?_
      (repeat(first|refine pSeq ?_|refine pReg ?_|refine sCons ?_|refine sNil ?_|refine pSkip ?_|refine pRet ?_|refine pCond ?_|refine gNone ?_))
      cases B with
      | none =>
        have : b = [] := ho
        subst this
        simp at hmore
        omega
      | some a =>
        obtain ⟨bb, off, sp⟩ := a
        obtain ⟨rfl, rfl, h3, g, h4, h5⟩ := ho1
        have ga : g = true := by
          cases g with
          | true => rfl
          | false =>
            have := h5 rfl
            subst this
            simp at hmore
            omega
        subst ga
        refine slL_open (vl := some (.int .i64 k)) (vh := none) rfl rfl rfl h4 sz_B ?_
        refine ⟨⟨by omega, by omega⟩, fun m hm o n ho hn => ?_⟩
        obtain rfl : m = k := by omega
        rw [Nat.zero_add, Nat.mul_one] at ho
        subst ho
        (repeat(first|refine pSeq ?_|refine pReg ?_|refine sCons ?_|refine sNil ?_|refine pSkip ?_|refine pRet ?_|refine pCond ?_|refine gNone ?_))
        refine cpy_own rfl h4 rfl hx2.1 (by omega) (by omega) (by omega) ?_
        rw [show o + w - b.length = 0 from by omega, List.replicate_zero, List.append_nil] at hlay
        rw [← hlay]
        (repeat(first|refine pSeq ?_|refine pReg ?_|refine sCons ?_|refine sNil ?_|refine pSkip ?_|refine pRet ?_|refine pCond ?_|refine gNone ?_))
        have len : b.length = (layF b o f).length := by rw [layF_len, if_neg hf]; omega
        refine ⟨some ⟨bb, 0, none⟩, by rw [← len]; rfl, ⟨rfl, rfl, h3, true, lkH, fun q => by cases q⟩, ?_, fun id q => .inl q⟩
        refine c1.trans' (Chg.turn h3) (by simp) (fun id q hid => by simpa [blkOf] using q)
end Go.Vf.S

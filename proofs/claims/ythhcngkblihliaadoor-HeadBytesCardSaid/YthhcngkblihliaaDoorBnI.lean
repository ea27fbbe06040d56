import Derived.Test.YthhcngkblihliaaDoorBnH
import Derived.Test.YthhcngkblihliaaDoorHdC
import Derived.Test.YthhcngkblihliaaDoorBnA
/- HdN -/
section
/- Messages: their text; may they be? -/
namespace Go.Vf.S
open Go Go.Vf Go.Proofs Go.RowKit
attribute [local irreducible] wSeq wRow wp wG
set_option linter.unusedVariables false
set_option linter.unusedSimpArgs false
set_option maxRecDepth 10000

def txtF (fs : List Fld) : List UInt8 := fs.flatMap fun f => f.r
def textM (m : Msg) : List UInt8 := txtF m.fs ++ if m.e = true then [] else 13 :: 10 :: m.b
theorem txt_next {fs : List Fld} {i : Nat} {f : Fld} (h : fs[i]? = some f) : txtF (fs.take (i + 1)) = txtF (fs.take i) ++ f.r := by
  unfold txtF
  rw [take_next h, List.flatMap_append]
  simp
theorem txt_le {fs : List Fld} (i : Nat) : (txtF (fs.take i)).length ≤ (txtF fs).length := by
  have := congrArg (fun x => (txtF x).length) (List.take_append_drop i fs)
  simp only [txtF, List.flatMap_append, List.length_append] at this
  unfold txtF
  omega

structure TxI where
  i : Nat
  W : Option Addr
  s : SS

set_option maxHeartbeats 1000000 in
theorem htext_w {s : SS} {m : Msg} {W : Option Addr} {cw : Nat} (h : FsRd s W m.fs) (hn : m.fs.length ≤ 100000) (hl : (textM m).length ≤ 100000) : CallW pr n_head_Message_Text [msV m W cw] s fun v s' => v = str (textM m) ∧ Chg s s' [] := by
  obtain ⟨fs, bd, ea⟩ := m
  dsimp only at h hn hl
  have hlt : (txtF fs).length ≤ 100000 := by unfold textM at hl; rw [List.length_append] at hl; dsimp only at hl; omega
  refine CallW.run good ok_head_Message_Text (by simp) rfl ?_
  obtain ⟨s1, hs1⟩ : ∃ s1 : SS, s1 = { s with heap := (s.next + 1, some (.cells [.pointer none, .slice none 0 0] tBl false false)) :: (s.next, some (.cells (msC ⟨fs, bd, ea⟩ W cw) tMs false false)) :: s.heap, next := s.next + 1 + 1 } := ⟨_, rfl⟩
  have c1 : Chg s s1 [] := by rw [hs1]; exact (Chg.new (b := .cells (msC ⟨fs, bd, ea⟩ W cw) tMs false false) []).nil (Chg.new [])
  have k1 : lookH s1.heap s.next = some (.cells (msC ⟨fs, bd, ea⟩ W cw) tMs false false) := by rw [hs1]; exact lkT (by omega) lkH
  have j1 : Bld s1 (s.next + 1) none [] := ⟨by rw [hs1]; exact Nat.lt_succ_self _, ⟨_, by rw [hs1]; exact lkH, .inl rfl⟩, rfl, fun _ => rfl⟩
  have n1 : s1.next = s.next + 2 := by rw [hs1]
  (repeat(first|refine pSeq ?_|refine pReg ?_|refine sCons ?_|refine sNil ?_|refine pBlock ?_|refine pSkip ?_|refine pExit ?_|refine pRet ?_|refine pCond ?_|refine gNone ?_))
  refine ld1_is rfl (show lookH _ _ = some (.cells (msC ⟨fs, bd, ea⟩ W cw) tMs false false) from (by subst hs1; exact k1)) rfl ?_
  (repeat(first|refine pSeq ?_|refine pReg ?_|refine sCons ?_|refine sNil ?_|refine pBlock ?_|refine pSkip ?_|refine pExit ?_|refine pRet ?_|refine pCond ?_|refine gNone ?_))
  refine pLoop (MW.head good (fun x : TxI => fs.length - x.i) (fun x => x.i ≤ fs.length ∧ Chg s x.s [] ∧ Bld x.s (s.next + 1) x.W (txtF (fs.take x.i)) ∧ (∀ id ∈ blkOf x.W, s.next ≤ id) ∧ lookH x.s.heap s.next = some (.cells (msC ⟨fs, bd, ea⟩ W cw) tMs false false))
    (fun x => [(1, .pointer (some ⟨s.next, 0, none⟩)), (3, .pointer (some ⟨s.next + 1, 0, none⟩)), (7, .slice W fs.length cw), (8, .int .i64 fs.length), (9, .int .i64 x.i)]) (fun x => x.s) ⟨0, none, s1⟩ ⟨Nat.zero_le _, c1, j1, by simp [blkOf], k1⟩ (by subst hs1; exact Wk.same ⟨rfl, rfl, rfl, rfl, rfl, trivial⟩) ?_)
  clear hs1
  rintro ⟨i, V, s2⟩ ⟨i1, i2, i3, i4, i5⟩
  dsimp only at i1 i2 i3 i4 i5 ⊢
  have h2 := h.chg i2 (by simp)
  have hb1 := i3.lt
  (repeat(first|refine pSeq ?_|refine pReg ?_|refine sCons ?_|refine sNil ?_|refine pBlock ?_|refine pSkip ?_|refine pExit ?_|refine pRet ?_|refine pCond ?_|refine gNone ?_))
  intro q hq
  by_cases hlt2 : i < fs.length
  · obtain rfl : q = true := by rw [hq]; simp; omega
    obtain ⟨f, hf⟩ : ∃ f, fs[i]? = some f := ⟨_, List.getElem?_eq_getElem hlt2⟩
    obtain ⟨b, cs, t, g, r, tl, hW, hb, hcs⟩ := h2.at (fun e => by rw [e] at hlt2; simp at hlt2)
    subst hW
    have hnx := txt_next hf
    have hle := txt_le (fs := fs) (i + 1)
    rw [hnx, List.length_append] at hle
    (repeat(first|refine pSeq ?_|refine pReg ?_|refine sCons ?_|refine sNil ?_|refine pBlock ?_|refine pSkip ?_|refine pExit ?_|refine pRet ?_|refine pCond ?_|refine gNone ?_))
    refine ⟨by omega, ?_⟩
    intro m hm o ho
    obtain rfl : m = i := by omega
    (repeat(first|refine pSeq ?_|refine pReg ?_|refine sCons ?_|refine sNil ?_|refine pBlock ?_|refine pSkip ?_|refine pExit ?_|refine pRet ?_|refine pCond ?_|refine gNone ?_))
    refine ldN_is (new := flC f) rfl hb (by rw [ho, Nat.zero_add]; exact fsC_take hcs hf) ?_
    (repeat(first|refine pSeq ?_|refine pReg ?_|refine sCons ?_|refine sNil ?_|refine pBlock ?_|refine pSkip ?_|refine pExit ?_|refine pRet ?_|refine pCond ?_|refine gNone ?_))
    refine st_abs (cs' := flC f) rfl rfl lkH (Nat.lt_succ_self _) rfl rfl fun s3 e3 c3 n3 => ?_
    have c23 : Chg s2 s3 [] := (Chg.new []).fresh c3 (by simp)
    have e3 : lookH s3.heap s2.next = some (.cells (flC f) tFl false false) := e3
    (repeat(first|refine pSeq ?_|refine pReg ?_|refine sCons ?_|refine sNil ?_|refine pBlock ?_|refine pSkip ?_|refine pExit ?_|refine pRet ?_|refine pCond ?_|refine gNone ?_))
    refine ldS_is (l := f.r) rfl e3 rfl ?_
    (repeat(first|refine pSeq ?_|refine pReg ?_|refine sCons ?_|refine sNil ?_|refine pBlock ?_|refine pSkip ?_|refine pExit ?_|refine pRet ?_|refine pCond ?_|refine gNone ?_))
    have i33 := i3.chg c23 (by simp) (by simp)
    refine (bWrite_w i33 (m := f.r) (by omega)).mono fun v s4 q => ?_
    obtain ⟨W4, rfl, b4, c4, w4⟩ := q
    have k3 := c23.blk _ _ (by omega) (by simp) i5
    have k4 := c4.blk _ _ (by have := c23.next; omega) (fun q => by
      rcases List.mem_cons.1 q with q | q
      · omega
      · obtain ⟨p, hp, -⟩ := i33.cell
        have ho := i33.own
        cases V with
        | none => simp [blkOf] at q
        | some a =>
          obtain ⟨g, off, sp⟩ := a
          obtain ⟨-, -, -, gr, h2, -⟩ := ho
          simp only [blkOf, List.mem_singleton] at q
          subst q
          exact tyNe h2 k3 (by decide) rfl) k3
    (repeat(first|refine pSeq ?_|refine pReg ?_|refine sCons ?_|refine sNil ?_|refine pBlock ?_|refine pSkip ?_|refine pExit ?_|refine pRet ?_|refine pCond ?_|refine gNone ?_))
    intro z hz
    rw [i64_id (by omega)] at hz
    obtain rfl : z = ((m + 1 : Nat) : Int) := by omega
    (repeat(first|refine pSeq ?_|refine pReg ?_|refine sCons ?_|refine sNil ?_|refine pBlock ?_|refine pSkip ?_|refine pExit ?_|refine pRet ?_|refine pCond ?_|refine gNone ?_))
    have c24 : Chg s s4 [] := (i2.nil c23).fresh c4 (by
      intro id q
      rcases List.mem_cons.1 q with rfl | q
      · omega
      · exact i4 id q)
    refine ⟨⟨m + 1, W4, s4⟩, ⟨hlt2, c24, by dsimp only; rw [hnx]; exact b4, fun id hid => ?_, k4⟩, by show fs.length - (m + 1) < fs.length - m; omega, Wk.same ⟨rfl, rfl, rfl, rfl, rfl, trivial⟩⟩
    rcases w4 id hid with q | q
    · exact i4 id q
    · have := (i2.nil c23).next; omega
  · obtain rfl : q = false := by rw [hq]; simp; omega
    have he : fs.take i = fs := List.take_of_length_le (by omega)
    rw [he] at i3
    (repeat(first|refine pSeq ?_|refine pReg ?_|refine sCons ?_|refine sNil ?_|refine pBlock ?_|refine pSkip ?_|refine pExit ?_|refine pRet ?_|refine pCond ?_|refine gNone ?_))
    refine ldB_is rfl i5 rfl ?_
    (repeat(first|refine pSeq ?_|refine pReg ?_|refine sCons ?_|refine sNil ?_|refine pBlock ?_|refine pSkip ?_|refine pExit ?_|refine pRet ?_|refine pCond ?_|refine gNone ?_))
    intro q hq
    cases ea
    obtain rfl : q = true := hq
    (repeat(first|refine pSeq ?_|refine pReg ?_|refine sCons ?_|refine sNil ?_|refine pBlock ?_|refine pSkip ?_|refine pExit ?_|refine pRet ?_|refine pCond ?_|refine gNone ?_))
    refine (bWrite_w (m := [13, 10]) i3 (by simp; omega)).mono fun v s4 q => ?_
    obtain ⟨W4, rfl, b4, c4, w4⟩ := q
    have hWoff : ∀ id ∈ blkOf V, id ≠ s.next := fun id q e => by
      have ho := i3.own
      cases V with
      | none => simp [blkOf] at q
      | some a =>
        obtain ⟨g, off, sp⟩ := a
        obtain ⟨-, -, -, gr, h2, -⟩ := ho
        simp only [blkOf, List.mem_singleton] at q
        subst q
        exact tyNe h2 i5 (by decide) e
    have k4 := c4.blk _ _ (by omega) (fun q => by
      rcases List.mem_cons.1 q with q | q
      · omega
      · exact hWoff _ q rfl) i5
    have c24 : Chg s s4 [] := i2.fresh c4 (by
      intro id q
      rcases List.mem_cons.1 q with rfl | q
      · omega
      · exact i4 id q)
    have l4 : ∀ id ∈ blkOf W4, s.next ≤ id := fun id hid => by
      rcases w4 id hid with q | q
      · exact i4 id q
      · have := i2.next; omega
    have hbd : bd.length ≤ 100000 := by
      unfold textM at hl
      simp at hl
      omega
    (repeat(first|refine pSeq ?_|refine pReg ?_|refine sCons ?_|refine sNil ?_|refine pBlock ?_|refine pSkip ?_|refine pExit ?_|refine pRet ?_|refine pCond ?_|refine gNone ?_))
    refine ldS_is (l := bd) rfl k4 rfl ?_
    (repeat(first|refine pSeq ?_|refine pReg ?_|refine sCons ?_|refine sNil ?_|refine pBlock ?_|refine pSkip ?_|refine pExit ?_|refine pRet ?_|refine pCond ?_|refine gNone ?_))
    refine (bWrite_w (m := bd) b4 (by simp; omega)).mono fun v s5 q => ?_
    obtain ⟨W5, rfl, b5, c5, w5⟩ := q
    have c25 : Chg s s5 [] := c24.fresh c5 (by
      intro id q
      rcases List.mem_cons.1 q with rfl | q
      · omega
      · exact l4 id q)
    have l5 : ∀ id ∈ blkOf W5, s.next ≤ id := fun id hid => by
      rcases w5 id hid with q | q
      · exact l4 id q
      · have := c24.next; omega
    obtain ⟨L, hL⟩ : ∃ L, L = textM ⟨fs, bd, false⟩ := ⟨_, rfl⟩
    have eL : L = txtF fs ++ [13, 10] ++ bd := by rw [hL]; simp [textM]
    rw [← eL] at b5
    (repeat(first|refine pSeq ?_|refine pReg ?_|refine sCons ?_|refine sNil ?_|refine pBlock ?_|refine pSkip ?_|refine pExit ?_|refine pRet ?_|refine pCond ?_|refine gNone ?_))
    rotate_left
    obtain rfl : q = false := hq
    obtain ⟨L, hL⟩ : ∃ L, L = textM ⟨fs, bd, true⟩ := ⟨_, rfl⟩
    have eL : L = txtF fs := by rw [hL]; simp [textM]
    obtain ⟨s5, hs5⟩ : ∃ s5, s5 = s2 := ⟨_, rfl⟩
    obtain ⟨W5, hW5⟩ : ∃ W5, W5 = V := ⟨_, rfl⟩
    have b5 : Bld s5 (s.next + 1) W5 L := by rw [hs5, hW5, eL]; exact i3
    have c25 : Chg s s5 [] := by rw [hs5]; exact i2
    have l5 : ∀ id ∈ blkOf W5, s.next ≤ id := by rw [hW5]; exact i4
    rw [← hs5]
    (repeat(first|refine pSeq ?_|refine pReg ?_|refine sCons ?_|refine sNil ?_|refine pBlock ?_|refine pSkip ?_|refine pExit ?_|refine pRet ?_|refine pCond ?_|refine gNone ?_))
    all_goals
      rw [← hL] at hl ⊢
      (repeat(first|refine pSeq ?_|refine pReg ?_|refine sCons ?_|refine sNil ?_|refine pBlock ?_|refine pSkip ?_|refine pExit ?_|refine pRet ?_|refine pCond ?_|refine gNone ?_))
      refine (bString_w b5 (by omega)).mono fun v s6 q => ?_
      obtain ⟨rfl, c6, n6⟩ := q
      (repeat(first|refine pSeq ?_|refine pReg ?_|refine sCons ?_|refine sNil ?_|refine pBlock ?_|refine pSkip ?_|refine pExit ?_|refine pRet ?_|refine pCond ?_|refine gNone ?_))
      exact ⟨rfl, c25.fresh c6 l5⟩
end Go.Vf.S
end
/- HdO -/
section
/- Messages: the document's text; rows of fields held against one another; may they be? -/
namespace Go.Vf.S
open Go Go.Vf Go.Proofs Go.RowKit
attribute [local irreducible] wSeq wRow wp wG
set_option linter.unusedVariables false
set_option linter.unusedSimpArgs false
set_option maxRecDepth 10000

/-- Rows of fields, held against one another. -/
theorem eqF_w {s : SS} {fa fb : List Fld} {W V : Option Addr} {cw cv : Nat} (ha : FsRd s W fa) (hb : FsRd s V fb) (hn : fa.length ≤ 100000) (hn2 : fb.length ≤ 100000) :
    CallW pr n_slices_Equal_head_Field_head_Field [.slice W fa.length cw, .slice V fb.length cv] s fun v s' => v = .bool (decide (fa = fb)) ∧ s' = s := by
  refine CallW.run good ok_slices_Equal_head_Field_head_Field (by simp) rfl ?_
  (repeat(first|refine pSeq ?_|refine pReg ?_|refine sCons ?_|refine sNil ?_|refine rCons ?_|refine rNil ?_|refine kNo ?_|refine pRow ?_|refine pBlock ?_|refine pSkip ?_|refine pExit ?_|refine pRet ?_|refine pCond ?_|refine gNone ?_))
  intro q hq
  by_cases x1 : fa.length = fb.length
  · obtain rfl : q = false := by rw [hq]; simp; omega
    (repeat(first|refine pSeq ?_|refine pReg ?_|refine sCons ?_|refine sNil ?_|refine rCons ?_|refine rNil ?_|refine kNo ?_|refine pRow ?_|refine pBlock ?_|refine pSkip ?_|refine pExit ?_|refine pRet ?_|refine pCond ?_|refine gNone ?_))
    refine pLoop (MW.head good (fun i : Nat => fa.length - i) (fun i => i ≤ fa.length ∧ fa.take i = fb.take i) (fun i => [(0, .slice W fa.length cw), (1, .slice V fb.length cv), (12, .int .i64 fa.length), (13, .int .i64 i)]) (fun i => s) 0 ⟨Nat.zero_le _, rfl⟩ (Wk.same ⟨rfl, rfl, rfl, rfl, trivial⟩) ?_)
    intro i ⟨h1, h2⟩
    (repeat(first|refine pSeq ?_|refine pReg ?_|refine sCons ?_|refine sNil ?_|refine rCons ?_|refine rNil ?_|refine kNo ?_|refine pRow ?_|refine pBlock ?_|refine pSkip ?_|refine pExit ?_|refine pRet ?_|refine pCond ?_|refine gNone ?_))
    intro q hq
    by_cases hlt : i < fa.length
    · obtain rfl : q = true := by rw [hq]; simp; omega
      obtain ⟨f, hf⟩ : ∃ f, fa[i]? = some f := ⟨_, List.getElem?_eq_getElem hlt⟩
      obtain ⟨g, hg⟩ : ∃ f, fb[i]? = some f := ⟨_, List.getElem?_eq_getElem (by omega)⟩
      obtain ⟨b1, cs1, t1, g1, r1, tl1, hW1, hb1', hcs1⟩ := ha.at (fun e => by rw [e] at hlt; simp at hlt)
      obtain ⟨b2, cs2, t2, g2, r2, tl2, hW2, hb2', hcs2⟩ := hb.at (fun e => by rw [e] at x1; simp at x1; rw [x1] at hlt; simp at hlt)
      subst hW1 hW2
      (repeat(first|refine pSeq ?_|refine pReg ?_|refine sCons ?_|refine sNil ?_|refine rCons ?_|refine rNil ?_|refine kNo ?_|refine pRow ?_|refine pBlock ?_|refine pSkip ?_|refine pExit ?_|refine pRet ?_|refine pCond ?_|refine gNone ?_))
      refine ⟨by omega, ?_⟩
      intro m hm o ho
      obtain rfl : m = i := by omega
      (repeat(first|refine pSeq ?_|refine pReg ?_|refine sCons ?_|refine sNil ?_|refine rCons ?_|refine rNil ?_|refine kNo ?_|refine pRow ?_|refine pBlock ?_|refine pSkip ?_|refine pExit ?_|refine pRet ?_|refine pCond ?_|refine gNone ?_))
      refine ldN_is (new := flC f) rfl hb1' (by rw [ho, Nat.zero_add]; exact fsC_take hcs1 hf) ?_
      (repeat(first|refine pSeq ?_|refine pReg ?_|refine sCons ?_|refine sNil ?_|refine rCons ?_|refine rNil ?_|refine kNo ?_|refine pRow ?_|refine pBlock ?_|refine pSkip ?_|refine pExit ?_|refine pRet ?_|refine pCond ?_|refine gNone ?_))
      refine ⟨by omega, ?_⟩
      intro m2 hm2 o2 ho2
      obtain rfl : m2 = m := by omega
      (repeat(first|refine pSeq ?_|refine pReg ?_|refine sCons ?_|refine sNil ?_|refine rCons ?_|refine rNil ?_|refine kNo ?_|refine pRow ?_|refine pBlock ?_|refine pSkip ?_|refine pExit ?_|refine pRet ?_|refine pCond ?_|refine gNone ?_))
      refine ldN_is (new := flC g) rfl hb2' (by rw [ho2, Nat.zero_add]; exact fsC_take hcs2 hg) ?_
      (repeat(first|refine pSeq ?_|refine pReg ?_|refine sCons ?_|refine sNil ?_|refine rCons ?_|refine rNil ?_|refine kNo ?_|refine pRow ?_|refine pBlock ?_|refine pSkip ?_|refine pExit ?_|refine pRet ?_|refine pCond ?_|refine gNone ?_))
      intro q hq
      rw [fld_dec] at hq
      by_cases x4 : f = g
      · obtain rfl : q = false := by rw [hq, decide_eq_true x4]; rfl
        (repeat(first|refine pSeq ?_|refine pReg ?_|refine sCons ?_|refine sNil ?_|refine rCons ?_|refine rNil ?_|refine kNo ?_|refine pRow ?_|refine pBlock ?_|refine pSkip ?_|refine pExit ?_|refine pRet ?_|refine pCond ?_|refine gNone ?_))
        intro z hz
        rw [i64_id (by omega)] at hz
        obtain rfl : z = ((m2 + 1 : Nat) : Int) := by omega
        (repeat(first|refine pSeq ?_|refine pReg ?_|refine sCons ?_|refine sNil ?_|refine rCons ?_|refine rNil ?_|refine kNo ?_|refine pRow ?_|refine pBlock ?_|refine pSkip ?_|refine pExit ?_|refine pRet ?_|refine pCond ?_|refine gNone ?_))
        exact ⟨m2 + 1, ⟨hlt, by rw [take_next hf, take_next hg, h2, x4]⟩, by show fa.length - (m2 + 1) < fa.length - m2; omega, Wk.same ⟨rfl, rfl, rfl, rfl, trivial⟩⟩
      · obtain rfl : q = true := by rw [hq, decide_eq_false x4]; rfl
        (repeat(first|refine pSeq ?_|refine pReg ?_|refine sCons ?_|refine sNil ?_|refine rCons ?_|refine rNil ?_|refine kNo ?_|refine pRow ?_|refine pBlock ?_|refine pSkip ?_|refine pExit ?_|refine pRet ?_|refine pCond ?_|refine gNone ?_))
        refine ⟨bool_eq (decide_eq_false (fun e => x4 ?_)).symm, rfl⟩
        rw [e, hg] at hf
        exact (Option.some.inj hf).symm
    · obtain rfl : q = false := by rw [hq]; simp; omega
      rw [List.take_of_length_le (by omega), List.take_of_length_le (by omega)] at h2
      (repeat(first|refine pSeq ?_|refine pReg ?_|refine sCons ?_|refine sNil ?_|refine rCons ?_|refine rNil ?_|refine kNo ?_|refine pRow ?_|refine pBlock ?_|refine pSkip ?_|refine pExit ?_|refine pRet ?_|refine pCond ?_|refine gNone ?_))
      exact ⟨bool_eq (decide_eq_true h2).symm, rfl⟩
  · obtain rfl : q = true := by rw [hq]; simp; omega
    (repeat(first|refine pSeq ?_|refine pReg ?_|refine sCons ?_|refine sNil ?_|refine rCons ?_|refine rNil ?_|refine kNo ?_|refine pRow ?_|refine pBlock ?_|refine pSkip ?_|refine pExit ?_|refine pRet ?_|refine pCond ?_|refine gNone ?_))
    exact ⟨bool_eq (decide_eq_false (fun e => x1 (congrArg List.length e))).symm, rfl⟩

open Classical in
/-- May the message be? -/
noncomputable def mayM (m : Msg) : Bool := decide ((parsF (textM m)).2 = 0 ∧ (parsF (textM m)).1 = m)

set_option maxHeartbeats 1000000 in
theorem hmay_w {s : SS} {m : Msg} {W : Option Addr} {cw : Nat} (hM : Gx s) (h : FsRd s W m.fs) (hn : m.fs.length ≤ 100000) (hl : (textM m).length ≤ 100000) : CallW pr n_head_Message_May [msV m W cw] s fun v s' => v = .bool (mayM m) ∧ Chg s s' [] := by
  obtain ⟨fs, bd, ea⟩ := m
  dsimp only at h hn
  refine CallW.run good ok_head_Message_May (by simp) rfl ?_
  have c1 : Chg s ({ s with heap := (s.next, some (.cells (msC ⟨fs, bd, ea⟩ W cw) tMs false false)) :: s.heap, next := s.next + 1 } : SS) [] := .new []
  have k1 : lookH ({ s with heap := (s.next, some (.cells (msC ⟨fs, bd, ea⟩ W cw) tMs false false)) :: s.heap, next := s.next + 1 } : SS).heap s.next = some (.cells (msC ⟨fs, bd, ea⟩ W cw) tMs false false) := lkH
  (repeat(first|refine pSeq ?_|refine pReg ?_|refine sCons ?_|refine sNil ?_|refine pRet ?_|refine gNone ?_|refine gOn rfl ?_|refine gOff rfl rfl ?_|refine gTup rfl ?_))
  refine ldN_is (new := msC ⟨fs, bd, ea⟩ W cw) rfl k1 agm3 ?_
  (repeat(first|refine pSeq ?_|refine pReg ?_|refine sCons ?_|refine sNil ?_|refine pRet ?_|refine gNone ?_|refine gOn rfl ?_|refine gOff rfl rfl ?_|refine gTup rfl ?_))
  refine (htext_w (m := ⟨fs, bd, ea⟩) (h.chg c1 (by simp)) hn hl).mono fun v s2 q => ?_
  obtain ⟨rfl, c2⟩ := q
  have c02 := c1.nil c2
  have k2 := c2.blk _ _ (Nat.lt_succ_self _) (by simp) k1
  have n2 : s.next < s2.next := Nat.lt_of_lt_of_le (Nat.lt_succ_self _) c2.next
  (repeat(first|refine pSeq ?_|refine pReg ?_|refine sCons ?_|refine sNil ?_|refine pRet ?_|refine gNone ?_|refine gOn rfl ?_|refine gOff rfl rfl ?_|refine gTup rfl ?_))
  refine (hparse_w (hM.chg c02) hl).mono fun v s3 q => ?_
  obtain ⟨V, cv, rfl, o3, c3, h3⟩ := q
  have hmm : mayM ⟨fs, bd, ea⟩ = (decide ((parsF (textM ⟨fs, bd, ea⟩)).2 = 0) && (decide ((parsF (textM ⟨fs, bd, ea⟩)).1.fs = fs) && (decide ((parsF (textM ⟨fs, bd, ea⟩)).1.b = bd) && decide ((parsF (textM ⟨fs, bd, ea⟩)).1.e = ea)))) := by
    unfold mayM
    rw [Bool.eq_iff_iff]
    simp only [Bool.and_eq_true, decide_eq_true_eq]
    exact ⟨fun ⟨q1, q2⟩ => ⟨q1, (msg_eq.1 q2)⟩, fun ⟨q1, q2⟩ => ⟨q1, msg_eq.2 q2⟩⟩
  have hlen := pars_many (textM ⟨fs, bd, ea⟩)
  generalize parsF (textM ⟨fs, bd, ea⟩) = R at *
  obtain ⟨⟨gs, be, ee⟩, er⟩ := R
  dsimp only at hmm o3 hlen ⊢
  have c03 := c02.nil c3
  have k3 := c3.blk _ _ n2 (by simp) k2
  have n3 : s.next < s3.next := Nat.lt_of_lt_of_le n2 c3.next
  (repeat(first|refine pSeq ?_|refine pReg ?_|refine sCons ?_|refine sNil ?_|refine pRet ?_|refine gNone ?_|refine gOn rfl ?_|refine gOff rfl rfl ?_|refine gTup rfl ?_))
  refine st_abs (cs' := msC ⟨gs, be, ee⟩ V cv) rfl rfl lkH (Nat.lt_succ_self _) rfl rfl fun s4 e4 c4 n4 => ?_
  have c34 : Chg s3 s4 [] := (Chg.new []).fresh c4 (by simp)
  have e4 : lookH s4.heap s3.next = some (.cells (msC ⟨gs, be, ee⟩ V cv) tMs false false) := e4
  have k4 := c34.blk _ _ n3 (by simp) k3
  have c04 := c03.nil c34
  (repeat(first|refine pSeq ?_|refine pReg ?_|refine sCons ?_|refine sNil ?_|refine pRet ?_|refine gNone ?_|refine gOn rfl ?_|refine gOff rfl rfl ?_|refine gTup rfl ?_))
  intro q hq
  by_cases x1 : er = 0
  · subst x1
    obtain rfl : q = true := by rw [hq]; rfl
    (repeat(first|refine pSeq ?_|refine pReg ?_|refine sCons ?_|refine sNil ?_|refine pRet ?_|refine gNone ?_|refine gOn rfl ?_|refine gOff rfl rfl ?_|refine gTup rfl ?_))
    refine ld1_is rfl e4 rfl ?_
    (repeat(first|refine pSeq ?_|refine pReg ?_|refine sCons ?_|refine sNil ?_|refine pRet ?_|refine gNone ?_|refine gOn rfl ?_|refine gOff rfl rfl ?_|refine gTup rfl ?_))
    refine ld1_is rfl k4 rfl ?_
    (repeat(first|refine pSeq ?_|refine pReg ?_|refine sCons ?_|refine sNil ?_|refine pRet ?_|refine gNone ?_|refine gOn rfl ?_|refine gOff rfl rfl ?_|refine gTup rfl ?_))
    refine (eqF_w (fa := gs) (fb := fs) ((rd_of o3).chg c34 (by simp)) (h.chg c04 (by simp)) (by omega) hn).mono fun v s5 q => ?_
    obtain ⟨rfl, rfl⟩ := q
    by_cases x2 : gs = fs
    · rw [decide_eq_true x2]
      (repeat(first|refine pSeq ?_|refine pReg ?_|refine sCons ?_|refine sNil ?_|refine pRet ?_|refine gNone ?_|refine gOn rfl ?_|refine gOff rfl rfl ?_|refine gTup rfl ?_))
      refine ldS_is (l := be) rfl e4 rfl ?_
      (repeat(first|refine pSeq ?_|refine pReg ?_|refine sCons ?_|refine sNil ?_|refine pRet ?_|refine gNone ?_|refine gOn rfl ?_|refine gOff rfl rfl ?_|refine gTup rfl ?_))
      refine ldS_is (l := bd) rfl k4 rfl ?_
      (repeat(first|refine pSeq ?_|refine pReg ?_|refine sCons ?_|refine sNil ?_|refine pRet ?_|refine gNone ?_|refine gOn rfl ?_|refine gOff rfl rfl ?_|refine gTup rfl ?_))
      intro q hq
      by_cases x3 : be = bd
      · obtain rfl : q = true := by rw [hq, x3]; simp
        (repeat(first|refine pSeq ?_|refine pReg ?_|refine sCons ?_|refine sNil ?_|refine pRet ?_|refine gNone ?_|refine gOn rfl ?_|refine gOff rfl rfl ?_|refine gTup rfl ?_))
        refine ldB_is rfl e4 rfl ?_
        (repeat(first|refine pSeq ?_|refine pReg ?_|refine sCons ?_|refine sNil ?_|refine pRet ?_|refine gNone ?_|refine gOn rfl ?_|refine gOff rfl rfl ?_|refine gTup rfl ?_))
        refine ldB_is rfl k4 rfl ?_
        (repeat(first|refine pSeq ?_|refine pReg ?_|refine sCons ?_|refine sNil ?_|refine pRet ?_|refine gNone ?_|refine gOn rfl ?_|refine gOff rfl rfl ?_|refine gTup rfl ?_))
        intro q hq
        (repeat(first|refine pSeq ?_|refine pReg ?_|refine sCons ?_|refine sNil ?_|refine pRet ?_|refine gNone ?_|refine gOn rfl ?_|refine gOff rfl rfl ?_|refine gTup rfl ?_))
        refine ⟨bool_eq ?_, c04⟩
        rw [hmm, hq, decide_eq_true x2, decide_eq_true x3]
        cases ee <;> cases ea <;> rfl
      · obtain rfl : q = false := by rw [hq]; simp [x3]
        (repeat(first|refine pSeq ?_|refine pReg ?_|refine sCons ?_|refine sNil ?_|refine pRet ?_|refine gNone ?_|refine gOn rfl ?_|refine gOff rfl rfl ?_|refine gTup rfl ?_))
        exact ⟨bool_eq (by rw [hmm, decide_eq_false x3]; simp), c04⟩
    · rw [decide_eq_false x2]
      (repeat(first|refine pSeq ?_|refine pReg ?_|refine sCons ?_|refine sNil ?_|refine pRet ?_|refine gNone ?_|refine gOn rfl ?_|refine gOff rfl rfl ?_|refine gTup rfl ?_))
      exact ⟨bool_eq (by rw [hmm, decide_eq_false x2]; simp), c04⟩
  · obtain rfl : q = false := by rw [hq]; simp; omega
    (repeat(first|refine pSeq ?_|refine pReg ?_|refine sCons ?_|refine sNil ?_|refine pRet ?_|refine gNone ?_|refine gOn rfl ?_|refine gOff rfl rfl ?_|refine gTup rfl ?_))
    exact ⟨bool_eq (by rw [hmm, decide_eq_false x1]; simp), c04⟩

end Go.Vf.S
end
/- HdP -/
section
/- Fields of a name: found, counted. -/
namespace Go.Vf.S
open Go Go.Vf Go.Proofs Go.RowKit
attribute [local irreducible] wSeq wRow wp wG
set_option linter.unusedVariables false
set_option linter.unusedSimpArgs false
set_option maxRecDepth 10000

def isNamed (n : List UInt8) (f : Fld) : Bool := decide (f.n.map lowB = n.map lowB)
def findF (fs : List Fld) (n : List UInt8) : List (List UInt8) := (fs.filter (isNamed n)).map (·.v)

/-- Texts that a slice reads. -/
def StR (s : SS) (W : Option Addr) (ls : List (List UInt8)) : Prop := match W with
  | none => ls = []
  | some ⟨b, off, sp⟩ => off = 0 ∧ sp = none ∧ b < s.next ∧ ∃ cs t g r, lookH s.heap b = some (.cells cs t g r) ∧ ∀ (i : Nat) x, ls[i]? = some x → cs[i]? = some (str x)
theorem st_of {t : TypeId} {s : SS} {W : Option Addr} {cw : Nat} {ls : List (List UInt8)} (h : OwnR t s W cw ls.length (strV ls)) : StR s W ls := by
  cases W with
  | none => exact List.length_eq_zero_iff.1 h.2.1
  | some a =>
    obtain ⟨b, off, sp⟩ := a
    obtain ⟨h1, h2, h3, g, h4, h5⟩ := h
    refine ⟨h1, h2, h3, _, _, _, _, h4, fun i x hx => ?_⟩
    simp only [strV, List.getElem?_map, hx]
    rfl
theorem StR.chg {s s' : SS} {W : Option Addr} {ls : List (List UInt8)} {A : List Nat} (h : StR s W ls) (c : Chg s s' A) (hA : ∀ id ∈ blkOf W, id ∉ A) : StR s' W ls := by
  cases W with
  | none => exact h
  | some a =>
    obtain ⟨b, off, sp⟩ := a
    obtain ⟨h1, h2, h3, cs, t, g, r, h4, h5⟩ := h
    exact ⟨h1, h2, Nat.lt_of_lt_of_le h3 c.next, cs, t, g, r, c.blk _ _ h3 (hA b (by simp [blkOf])) h4, h5⟩
theorem StR.at {s : SS} {W : Option Addr} {ls : List (List UInt8)} (h : StR s W ls) (hn : ls ≠ []) : ∃ b cs t g r, W = some ⟨b, 0, none⟩ ∧ lookH s.heap b = some (.cells cs t g r) ∧ ∀ (i : Nat) x, ls[i]? = some x → cs[i]? = some (str x) := by
  cases W with
  | none => exact absurd h hn
  | some a =>
    obtain ⟨b, off, sp⟩ := a
    obtain ⟨rfl, rfl, h3, cs, t, g, r, h4, h5⟩ := h
    exact ⟨b, cs, t, g, r, rfl, h4, h5⟩

theorem find_next {fs : List Fld} {i : Nat} {f : Fld} {n : List UInt8} (h : fs[i]? = some f) : findF (fs.take (i + 1)) n = findF (fs.take i) n ++ (if isNamed n f = true then [f.v] else []) := by
  unfold findF
  rw [take_next h, List.filter_append, List.map_append]
  congr 1
  cases hn : isNamed n f <;> simp [hn]
theorem find_le (fs : List Fld) (n : List UInt8) : (findF fs n).length ≤ fs.length := by
  unfold findF
  rw [List.length_map]
  exact List.length_filter_le _ _

structure FiI where
  i : Nat
  W : Option Addr
  cw : Nat
  s : SS

end Go.Vf.S
end
/- HdQ -/
section
/- Fields of a name, gone through: Find, Count. -/
namespace Go.Vf.S
open Go Go.Vf Go.Proofs Go.RowKit
attribute [local irreducible] wSeq wRow wp wG
set_option linter.unusedVariables false
set_option linter.unusedSimpArgs false
set_option maxRecDepth 10000

structure NmI where
  i : Nat
  s : SS

abbrev tI8 : TypeId := 3
structure HcI (fs : List Fld) (nm : List UInt8) (lo cl : Nat) (r : ALoop) (s0 : SS) (i : Nat) (s : SS) : Prop where
  chg : Chg s0 s []
  lp : lookH s.heap lo = some (.loop r)
  lt : lo < s.next
  cell : lookH s.heap cl = some (.cells [.int .i64 (findF (fs.take i) nm).length] tI8 false false)

end Go.Vf.S
end
/- HdR -/
section
/- Fields of a name, found. -/
namespace Go.Vf.S
open Go Go.Vf Go.Proofs Go.RowKit
attribute [local irreducible] wSeq wRow wp wG
set_option linter.unusedVariables false
set_option linter.unusedSimpArgs false
set_option maxRecDepth 10000

abbrev tLs : TypeId := 52
structure HiI (fs : List Fld) (nm : List UInt8) (lo cl : Nat) (r : ALoop) (s0 : SS) (i : Nat) (s : SS) : Prop where
  chg : Chg s0 s []
  lp : lookH s.heap lo = some (.loop r)
  lt : lo < s.next
  cell : ∃ V cv, lookH s.heap cl = some (.cells [.slice V (findF (fs.take i) nm).length cv] tLs false false) ∧ OwnR tS s V cv (findF (fs.take i) nm).length (strV (findF (fs.take i) nm)) ∧ ∀ id ∈ blkOf V, lo < id

theorem own_loop {t : TypeId} {s : SS} {V : Option Addr} {cv n lo : Nat} {cs : List Value} {r : ALoop} (h : OwnR t s V cv n cs) (hl : lookH s.heap lo = some (.loop r)) : ∀ id ∈ blkOf V, id ≠ lo := fun id hid e => by
  obtain ⟨g, hg⟩ := h.at id hid
  rw [e, hl] at hg
  cases hg

end Go.Vf.S
end
/- HdS -/
section
/- Few fields, of few bytes. -/
namespace Go.Vf.S
open Go Go.Vf Go.Proofs Go.RowKit
attribute [local irreducible] wSeq wRow wp wG
set_option linter.unusedVariables false
set_option linter.unusedSimpArgs false
set_option maxRecDepth 10000

def fewFl (f : Fld) : Fld := ⟨f.n.take 300, f.v.take 300, f.r.take 300⟩
def fewFs (fs : List Fld) : List Fld := (fs.take 20).map fewFl
def fewM (m : Msg) : Msg := ⟨fewFs m.fs, m.b.take 600, m.e⟩

theorem take_few {l g : List UInt8} {k m : Nat} {n z : Int} (hg : g = (l.drop 0).take (k - 0)) (hn : n = (l.length : Int)) (hz : z = min n (m : Int)) (hk : (k : Int) = z) : g = l.take m := by
  rw [hg, List.drop_zero, Nat.sub_zero]
  by_cases h : l.length ≤ m
  · rw [List.take_of_length_le (by omega), List.take_of_length_le h]
  · rw [show k = m by omega]

theorem few_next {fs : List Fld} {i : Nat} {f : Fld} (h : fs[i]? = some f) : fewFs (fs.take (i + 1)) = if i < 20 then fewFs (fs.take i) ++ [fewFl f] else fewFs (fs.take i) := by
  have hi := lt_of_get h
  unfold fewFs
  by_cases hlt : i < 20
  · have hl : (fs.take i).length = i := by rw [List.length_take]; omega
    rw [if_pos hlt, take_next h, List.take_of_length_le (l := fs.take i ++ [f]) (by rw [List.length_append, hl]; simp; omega), List.map_append, List.take_of_length_le (l := fs.take i) (by omega)]
    rfl
  · rw [if_neg hlt, List.take_take, List.take_take, show min 20 (i + 1) = 20 by omega, show min 20 i = 20 by omega]
theorem few_many (fs : List Fld) : (fewFs fs).length ≤ 20 := by unfold fewFs; rw [List.length_map, List.length_take]; omega

theorem allocR {P : Program} {T : TL} {s : SS} {K : RR → Prop} {e : TypeId} {z : List Value} (h : K (.new (.cells z e false false) fun id => .pointer (some ⟨id, 0, none⟩))) : wN P (.alloc e z) T s K := by
  simp only [wN]
  exact h

end Go.Vf.S
end
/- HdT -/
section
/- The law HeadTells, from any state. -/
namespace Go.Vf.S
open Go Go.Vf Go.Proofs Go.RowKit
attribute [local irreducible] wSeq wRow wp wG
set_option linter.unusedVariables false
set_option linter.unusedSimpArgs false
set_option maxRecDepth 10000

theorem txt_bound {k : Nat} : ∀ (fs : List Fld), (∀ f ∈ fs, f.r.length ≤ k) → (txtF fs).length ≤ fs.length * k
  | [], _ => by simp [txtF]
  | f :: fs, h => by
    have ih := txt_bound fs fun g hg => h g (by simp [hg])
    have := h f (by simp)
    unfold txtF at ih ⊢
    rw [List.flatMap_cons, List.length_append, List.length_cons, Nat.succ_mul]
    omega
theorem few_each {fs : List Fld} : ∀ f ∈ fewFs fs, f.n.length ≤ 300 ∧ f.v.length ≤ 300 ∧ f.r.length ≤ 300 := fun f hf => by
  obtain ⟨g, -, rfl⟩ := List.mem_map.1 hf
  simp only [fewFl, List.length_take]
  omega
theorem few_text (m : Msg) : (textM (fewM m)).length ≤ 10000 := by
  have h1 := txt_bound (k := 300) (fewFs m.fs) fun f hf => (few_each f hf).2.2
  have h2 := few_many m.fs
  have h3 : (fewFs m.fs).length * 300 ≤ 20 * 300 := Nat.mul_le_mul_right _ h2
  show (txtF (fewFs m.fs) ++ if m.e = true then [] else 13 :: 10 :: m.b.take 600).length ≤ 10000
  rw [List.length_append]
  have : (if m.e = true then ([] : List UInt8) else 13 :: 10 :: m.b.take 600).length ≤ 602 := by
    split
    · simp
    · simp only [List.length_cons, List.length_take]; omega
  omega
end Go.Vf.S
end

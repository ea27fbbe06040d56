import Derived.Test.YthhcngkblihliaaDoorBnH
import Derived.Test.YthhcngkblihliaaDoorHdC
import Derived.Test.YthhcngkblihliaaDoorBnA
/- HdN -/
section
/- Messages: their text; may they be? -/
namespace Go.Vf.S
open Go Go.Vf Go.Proofs Go.RowKit
attribute [local irreducible] wSeq wRow wp wG
set_option linter.unusedVariables false
set_option linter.unusedSimpArgs false
set_option maxRecDepth 10000

def txtF (fs : List Fld) : List UInt8 := fs.flatMap fun f => f.r
def textM (m : Msg) : List UInt8 := txtF m.fs ++ if m.e = true then [] else 13 :: 10 :: m.b
theorem txt_next {fs : List Fld} {i : Nat} {f : Fld} (h : fs[i]? = some f) : txtF (fs.take (i + 1)) = txtF (fs.take i) ++ f.r := by
  unfold txtF
  rw [take_next h, List.flatMap_append]
  simp
theorem txt_le {fs : List Fld} (i : Nat) : (txtF (fs.take i)).length ≤ (txtF fs).length := by
  have := congrArg (fun x => (txtF x).length) (List.take_append_drop i fs)
  simp only [txtF, List.flatMap_append, List.length_append] at this
  unfold txtF
  omega

structure TxI where
  i : Nat
  W : Option Addr
  s : SS

set_option maxHeartbeats 1000000 in
theorem htext_w {s : SS} {m : Msg} {W : Option Addr} {cw : Nat} (h : FsRd s W m.fs) (hn : m.fs.length ≤ 100000) (hl : (textM m).length ≤ 100000) : CallW pr n_head_Message_Text [msV m W cw] s fun v s' => v = str (textM m) ∧ Chg s s' [] := by
  obtain ⟨fs, bd, ea⟩ := m
  dsimp only at h hn hl
  have hlt : (txtF fs).length ≤ 100000 := by unfold textM at hl; rw [List.length_append] at hl; dsimp only at hl; omega
  refine CallW.run good ok_head_Message_Text (by simp) rfl ?_
  obtain ⟨s1, hs1⟩ : ∃ s1 : SS, s1 = { s with heap := (s.next + 1, some (.cells [.pointer none, .slice none 0 0] tBl false false)) :: (s.next, some (.cells (msC ⟨fs, bd, ea⟩ W cw) tMs false false)) :: s.heap, next := s.next + 1 + 1 } := ⟨_, rfl⟩
  have c1 : Chg s s1 [] := by rw [hs1]; exact (Chg.new (b := .cells (msC ⟨fs, bd, ea⟩ W cw) tMs false false) []).nil (Chg.new [])
  have k1 : lookH s1.heap s.next = some (.cells (msC ⟨fs, bd, ea⟩ W cw) tMs false false) := by rw [hs1]; exact lkT (by omega) lkH
  have j1 : Bld s1 (s.next + 1) none [] := ⟨by rw [hs1]; exact Nat.lt_succ_self _, ⟨_, by rw [hs1]; exact lkH, .inl rfl⟩, rfl, fun _ => rfl⟩
  have n1 : s1.next = s.next + 2 := by rw [hs1]
  (repeat(first|refine pSeq ?_|refine pReg ?_|refine sCons ?_|refine sNil ?_|refine pBlock ?_|refine pSkip ?_|refine pExit ?_|refine pRet ?_|refine pCond ?_|refine gNone ?_))
  refine ld1_is rfl (show lookH _ _ = some (.cells (msC ⟨fs, bd, ea⟩ W cw) tMs false false) from (by subst hs1; exact k1)) rfl ?_
  (repeat(first|refine pSeq ?_|refine pReg ?_|refine sCons ?_|refine sNil ?_|refine pBlock ?_|refine pSkip ?_|refine pExit ?_|refine pRet ?_|refine pCond ?_|refine gNone ?_))
  refine pLoop (MW.head good (fun x : TxI => fs.length - x.i) (fun x => x.i ≤ fs.length ∧ Chg s x.s [] ∧ Bld x.s (s.next + 1) x.W (txtF (fs.take x.i)) ∧ (∀ id ∈ blkOf x.W, s.next ≤ id) ∧ lookH x.s.heap s.next = some (.cells (msC ⟨fs, bd, ea⟩ W cw) tMs false false))
    (fun x => [(1, .pointer (some ⟨s.next, 0, none⟩)), (3, .pointer (some ⟨s.next + 1, 0, none⟩)), (7, .slice W fs.length cw), (8, .int .i64 fs.length), (9, .int .i64 x.i)]) (fun x => x.s) ⟨0, none, s1⟩ ⟨Nat.zero_le _, c1, j1, by simp [blkOf], k1⟩ (by subst hs1; exact Wk.same ⟨rfl, rfl, rfl, rfl, rfl, trivial⟩) ?_)
  clear hs1
  rintro ⟨i, V, s2⟩ ⟨i1, i2, i3, i4, i5⟩
  dsimp only at i1 i2 i3 i4 i5 ⊢
  have h2 := h.chg i2 (by simp)
  have hb1 := i3.lt
  (repeat(first|refine pSeq ?_|refine pReg ?_|refine sCons ?_|refine sNil ?_|refine pBlock ?_|refine pSkip ?_|refine pExit ?_|refine pRet ?_|refine pCond ?_|refine gNone ?_))
  intro q hq
  by_cases hlt2 : i < fs.length
  · obtain rfl : q = true := by rw [hq]; simp; omega
    obtain ⟨f, hf⟩ : ∃ f, fs[i]? = some f := ⟨_, List.getElem?_eq_getElem hlt2⟩
    obtain ⟨b, cs, t, g, r, tl, hW, hb, hcs⟩ := h2.at (fun e => by rw [e] at hlt2; simp at hlt2)
    subst hW
    have hnx := txt_next hf
    have hle := txt_le (fs := fs) (i + 1)
    rw [hnx, List.length_append] at hle
    (repeat(first|refine pSeq ?_|refine pReg ?_|refine sCons ?_|refine sNil ?_|refine pBlock ?_|refine pSkip ?_|refine pExit ?_|refine pRet ?_|refine pCond ?_|refine gNone ?_))
    refine ⟨by omega, ?_⟩
    intro m hm o ho
    obtain rfl : m = i := by omega
    (repeat(first|refine pSeq ?_|refine pReg ?_|refine sCons ?_|refine sNil ?_|refine pBlock ?_|refine pSkip ?_|refine pExit ?_|refine pRet ?_|refine pCond ?_|refine gNone ?_))
    refine ldN_is (new := flC f) rfl hb (by rw [ho, Nat.zero_add]; exact fsC_take hcs hf) ?_
    (repeat(first|refine pSeq ?_|refine pReg ?_|refine sCons ?_|refine sNil ?_|refine pBlock ?_|refine pSkip ?_|refine pExit ?_|refine pRet ?_|refine pCond ?_|refine gNone ?_))
    refine st_abs (cs' := flC f) rfl rfl lkH (Nat.lt_succ_self _) rfl rfl fun s3 e3 c3 n3 => ?_
    have c23 : Chg s2 s3 [] := (Chg.new []).fresh c3 (by simp)
    have e3 : lookH s3.heap s2.next = some (.cells (flC f) tFl false false) := e3
    (repeat(first|refine pSeq ?_|refine pReg ?_|refine sCons ?_|refine sNil ?_|refine pBlock ?_|refine pSkip ?_|refine pExit ?_|refine pRet ?_|refine pCond ?_|refine gNone ?_))
    refine ldS_is (l := f.r) rfl e3 rfl ?_
    (repeat(first|refine pSeq ?_|refine pReg ?_|refine sCons ?_|refine sNil ?_|refine pBlock ?_|refine pSkip ?_|refine pExit ?_|refine pRet ?_|refine pCond ?_|refine gNone ?_))
    have i33 := i3.chg c23 (by simp) (by simp)
    refine (bWrite_w i33 (m := f.r) (by omega)).mono fun v s4 q => ?_
    obtain ⟨W4, rfl, b4, c4, w4⟩ := q
    have k3 := c23.blk _ _ (by omega) (by simp) i5
    have k4 := c4.blk _ _ (by have := c23.next; omega) (fun q => by
      rcases List.mem_cons.1 q with q | q
      · omega
      · obtain ⟨p, hp, -⟩ := i33.cell
        have ho := i33.own
        cases V with
        | none => simp [blkOf] at q
        | some a =>
          obtain ⟨g, off, sp⟩ := a
          obtain ⟨-, -, -, gr, h2, -⟩ := ho
          simp only [blkOf, List.mem_singleton] at q
          subst q
          exact tyNe h2 k3 (by decide) rfl) k3
    (repeat(first|refine pSeq ?_|refine pReg ?_|refine sCons ?_|refine sNil ?_|refine pBlock ?_|refine pSkip ?_|refine pExit ?_|refine pRet ?_|refine pCond ?_|refine gNone ?_))
    intro z hz
    rw [i64_id (by omega)] at hz
    obtain rfl : z = ((m + 1 : Nat) : Int) := by omega
    (repeat(first|refine pSeq ?_|refine pReg ?_|refine sCons ?_|refine sNil ?_|refine pBlock ?_|refine pSkip ?_|refine pExit ?_|refine pRet ?_|refine pCond ?_|refine gNone ?_))
    have c24 : Chg s s4 [] := (i2.nil c23).fresh c4 (by
      intro id q
      rcases List.mem_cons.1 q with rfl | q
      · omega
      · exact i4 id q)
    refine ⟨⟨m + 1, W4, s4⟩, ⟨hlt2, c24, by dsimp only; rw [hnx]; exact b4, fun id hid => ?_, k4⟩, by show fs.length - (m + 1) < fs.length - m; omega, Wk.same ⟨rfl, rfl, rfl, rfl, rfl, trivial⟩⟩
    rcases w4 id hid with q | q
    · exact i4 id q
    · have := (i2.nil c23).next; omega
  · obtain rfl : q = false := by rw [hq]; simp; omega
    have he : fs.take i = fs := List.take_of_length_le (by omega)
    rw [he] at i3
    (repeat(first|refine pSeq ?_|refine pReg ?_|refine sCons ?_|refine sNil ?_|refine pBlock ?_|refine pSkip ?_|refine pExit ?_|refine pRet ?_|refine pCond ?_|refine gNone ?_))
    refine ldB_is rfl i5 rfl ?_
    (repeat(first|refine pSeq ?_|refine pReg ?_|refine sCons ?_|refine sNil ?_|refine pBlock ?_|refine pSkip ?_|refine pExit ?_|refine pRet ?_|refine pCond ?_|refine gNone ?_))
    intro q hq
    cases ea
    obtain rfl : q = true := hq
    (repeat(first|refine pSeq ?_|refine pReg ?_|refine sCons ?_|refine sNil ?_|refine pBlock ?_|refine pSkip ?_|refine pExit ?_|refine pRet ?_|refine pCond ?_|refine gNone ?_))
    refine (bWrite_w (m := [13, 10]) i3 (by simp; omega)).mono fun v s4 q => ?_
    obtain ⟨W4, rfl, b4, c4, w4⟩ := q
    have hWoff : ∀ id ∈ blkOf V, id ≠ s.next := fun id q e => by
      have ho := i3.own
      cases V with
      | none => simp [blkOf] at q
      | some a =>
        obtain ⟨g, off, sp⟩ := a
        obtain ⟨-, -, -, gr, h2, -⟩ := ho
        simp only [blkOf, List.mem_singleton] at q
        subst q
        exact tyNe h2 i5 (by decide) e
    have k4 := c4.blk _ _ (by omega) (fun q => by
      rcases List.mem_cons.1 q with q | q
      · omega
      · exact hWoff _ q rfl) i5
    have c24 : Chg s s4 [] := i2.fresh c4 (by
      intro id q
      rcases List.mem_cons.1 q with rfl | q
      · omega
      · exact i4 id q)
    have l4 : ∀ id ∈ blkOf W4, s.next ≤ id := fun id hid => by
      rcases w4 id hid with q | q
      · exact i4 id q
      · have := i2.next; omega
    have hbd : bd.length ≤ 100000 := by
      unfold textM at hl
      simp at hl
      omega
    (repeat(first|refine pSeq ?_|refine pReg ?_|refine sCons ?_|refine sNil ?_|refine pBlock ?_|refine pSkip ?_|refine pExit ?_|refine pRet ?_|refine pCond ?_|refine gNone ?_))
    refine ldS_is (l := bd) rfl k4 rfl ?_
    (repeat(first|refine pSeq ?_|refine pReg ?_|refine sCons ?_|refine sNil ?_|refine pBlock ?_|refine pSkip ?_|refine pExit ?_|refine pRet ?_|refine pCond ?_|refine gNone ?_))
    refine (bWrite_w (m := bd) b4 (by simp; omega)).mono fun v s5 q => ?_
    obtain ⟨W5, rfl, b5, c5, w5⟩ := q
    have c25 : Chg s s5 [] := c24.fresh c5 (by
      intro id q
      rcases List.mem_cons.1 q with rfl | q
      · omega
      · exact l4 id q)
    have l5 : ∀ id ∈ blkOf W5, s.next ≤ id := fun id hid => by
      rcases w5 id hid with q | q
      · exact l4 id q
      · have := c24.next; omega
    obtain ⟨L, hL⟩ : ∃ L, L = textM ⟨fs, bd, false⟩ := ⟨_, rfl⟩
    have eL : L = txtF fs ++ [13, 10] ++ bd := by rw [hL]; simp [textM]
    rw [← eL] at b5
    (repeat(first|refine pSeq ?_|refine pReg ?_|refine sCons ?_|refine sNil ?_|refine pBlock ?_|refine pSkip ?_|refine pExit ?_|refine pRet ?_|refine pCond ?_|refine gNone ?_))
    rotate_left
    obtain rfl : q = false := hq
    obtain ⟨L, hL⟩ : ∃ L, L = textM ⟨fs, bd, true⟩ := ⟨_, rfl⟩
    have eL : L = txtF fs := by rw [hL]; simp [textM]
    obtain ⟨s5, hs5⟩ : ∃ s5, s5 = s2 := ⟨_, rfl⟩
    obtain ⟨W5, hW5⟩ : ∃ W5, W5 = V := ⟨_, rfl⟩
    have b5 : Bld s5 (s.next + 1) W5 L := by rw [hs5, hW5, eL]; exact i3
    have c25 : Chg s s5 [] := by rw [hs5]; exact i2
    have l5 : ∀ id ∈ blkOf W5, s.next ≤ id := by rw [hW5]; exact i4
    rw [← hs5]
    (repeat(first|refine pSeq ?_|refine pReg ?_|refine sCons ?_|refine sNil ?_|refine pBlock ?_|refine pSkip ?_|refine pExit ?_|refine pRet ?_|refine pCond ?_|refine gNone ?_))
    all_goals
      rw [← hL] at hl ⊢
      (repeat(first|refine pSeq ?_|refine pReg ?_|refine sCons ?_|refine sNil ?_|refine pBlock ?_|refine pSkip ?_|refine pExit ?_|refine pRet ?_|refine pCond ?_|refine gNone ?_))
      refine (bString_w b5 (by omega)).mono fun v s6 q => ?_
      obtain ⟨rfl, c6, n6⟩ := q
      (repeat(first|refine pSeq ?_|refine pReg ?_|refine sCons ?_|refine sNil ?_|refine pBlock ?_|refine pSkip ?_|refine pExit ?_|refine pRet ?_|refine pCond ?_|refine gNone ?_))
      exact ⟨rfl, c25.fresh c6 l5⟩
end Go.Vf.S
end
/- HdO -/
section
/- Messages: the document's text; rows of fields held against one another; may they be? -/
namespace Go.Vf.S
open Go Go.Vf Go.Proofs Go.RowKit
attribute [local irreducible] wSeq wRow wp wG
set_option linter.unusedVariables false
set_option linter.unusedSimpArgs false
set_option maxRecDepth 10000

set_option maxHeartbeats 1000000 in
theorem rtext7_w {s : SS} {m : Msg} {W : Option Addr} {cw : Nat} (h : FsRd s W m.fs) (hn : m.fs.length ≤ 100000) (hl : (textM m).length ≤ 100000) : CallW pr n_ref07_Text [msV m W cw] s fun v s' => v = str (textM m) ∧ Chg s s' [] := by
  obtain ⟨fs, bd, ea⟩ := m
  dsimp only at h hn hl
  have hlt : (txtF fs).length ≤ 100000 := by unfold textM at hl; rw [List.length_append] at hl; dsimp only at hl; omega
  refine CallW.run good ok_ref07_Text (by simp) rfl ?_
  obtain ⟨s1, hs1⟩ : ∃ s1 : SS, s1 = { s with heap := (s.next, some (.cells (msC ⟨fs, bd, ea⟩ W cw) tRm false false)) :: s.heap, next := s.next + 1 } := ⟨_, rfl⟩
  have c1 : Chg s s1 [] := by rw [hs1]; exact .new []
  have k1 : lookH s1.heap s.next = some (.cells (msC ⟨fs, bd, ea⟩ W cw) tRm false false) := by rw [hs1]; exact lkH
  have h1 := h.chg c1 (by simp)
  (repeat(first|refine pSeq ?_|refine pReg ?_|refine sCons ?_|refine sNil ?_|refine pBlock ?_|refine pSkip ?_|refine pExit ?_|refine pRet ?_|refine pCond ?_|refine gNone ?_))
  refine pLoop (MW.head good (fun i : Nat => fs.length - i) (fun i => i ≤ fs.length) (fun i => [(1, .pointer (some ⟨s.next, 0, none⟩)), (3, str (txtF (fs.take i))), (4, .int .i64 i)]) (fun i => s1) 0 (Nat.zero_le _) (by subst hs1; exact Wk.same ⟨rfl, rfl, rfl, trivial⟩) ?_)
  clear hs1
  intro i i1
  (repeat(first|refine pSeq ?_|refine pReg ?_|refine sCons ?_|refine sNil ?_|refine pBlock ?_|refine pSkip ?_|refine pExit ?_|refine pRet ?_|refine pCond ?_|refine gNone ?_))
  refine ld1_is rfl k1 rfl ?_
  (repeat(first|refine pSeq ?_|refine pReg ?_|refine sCons ?_|refine sNil ?_|refine pBlock ?_|refine pSkip ?_|refine pExit ?_|refine pRet ?_|refine pCond ?_|refine gNone ?_))
  intro q hq
  by_cases hlt2 : i < fs.length
  · obtain rfl : q = true := by rw [hq]; simp; omega
    obtain ⟨f, hf⟩ : ∃ f, fs[i]? = some f := ⟨_, List.getElem?_eq_getElem hlt2⟩
    obtain ⟨b, cs, t, g, r, tl, hW, hb, hcs⟩ := h1.at (fun e => by rw [e] at hlt2; simp at hlt2)
    subst hW
    have hnx := txt_next hf
    have hle := txt_le (fs := fs) (i + 1)
    rw [hnx, List.length_append] at hle
    (repeat(first|refine pSeq ?_|refine pReg ?_|refine sCons ?_|refine sNil ?_|refine pBlock ?_|refine pSkip ?_|refine pExit ?_|refine pRet ?_|refine pCond ?_|refine gNone ?_))
    refine ld1_is rfl k1 rfl ?_
    (repeat(first|refine pSeq ?_|refine pReg ?_|refine sCons ?_|refine sNil ?_|refine pBlock ?_|refine pSkip ?_|refine pExit ?_|refine pRet ?_|refine pCond ?_|refine gNone ?_))
    refine ⟨by dsimp only; omega, ?_⟩
    intro m hm o ho
    obtain rfl : m = i := by omega
    (repeat(first|refine pSeq ?_|refine pReg ?_|refine sCons ?_|refine sNil ?_|refine pBlock ?_|refine pSkip ?_|refine pExit ?_|refine pRet ?_|refine pCond ?_|refine gNone ?_))
    have h3 := fsC_at tl hf
    rw [← hcs] at h3
    refine ldS_is (l := f.r) rfl hb (by
      have h4 : cs[m * 3 + 2]? = (cs.drop (m * 3))[2]? := by rw [List.getElem?_drop]
      rw [ho, Nat.zero_add, h4, h3]; rfl) ?_
    (repeat(first|refine pSeq ?_|refine pReg ?_|refine sCons ?_|refine sNil ?_|refine pBlock ?_|refine pSkip ?_|refine pExit ?_|refine pRet ?_|refine pCond ?_|refine gNone ?_))
    refine ⟨by omega, ?_⟩
    intro w hw
    subst hw
    (repeat(first|refine pSeq ?_|refine pReg ?_|refine sCons ?_|refine sNil ?_|refine pBlock ?_|refine pSkip ?_|refine pExit ?_|refine pRet ?_|refine pCond ?_|refine gNone ?_))
    intro z hz
    rw [i64_id (by omega)] at hz
    obtain rfl : z = ((m + 1 : Nat) : Int) := by omega
    (repeat(first|refine pSeq ?_|refine pReg ?_|refine sCons ?_|refine sNil ?_|refine pBlock ?_|refine pSkip ?_|refine pExit ?_|refine pRet ?_|refine pCond ?_|refine gNone ?_))
    exact ⟨m + 1, hlt2, by show fs.length - (m + 1) < fs.length - m; omega, Wk.same ⟨rfl, by rw [hnx]; rfl, rfl, trivial⟩⟩
  · obtain rfl : q = false := by rw [hq]; simp; omega
    have he : fs.take i = fs := List.take_of_length_le (by omega)
    rw [he]
    (repeat(first|refine pSeq ?_|refine pReg ?_|refine sCons ?_|refine sNil ?_|refine pBlock ?_|refine pSkip ?_|refine pExit ?_|refine pRet ?_|refine pCond ?_|refine gNone ?_))
    refine ldB_is rfl k1 rfl ?_
    cases ea with
    | true =>
      (repeat(first|refine pSeq ?_|refine pReg ?_|refine sCons ?_|refine sNil ?_|refine pBlock ?_|refine pSkip ?_|refine pExit ?_|refine pRet ?_|refine pCond ?_|refine gNone ?_))
      exact ⟨by simp [textM]; rfl, c1⟩
    | false =>
      have hbd : (txtF fs).length + 2 + bd.length ≤ 100000 := by
        unfold textM at hl
        simp at hl
        omega
      (repeat(first|refine pSeq ?_|refine pReg ?_|refine sCons ?_|refine sNil ?_|refine pBlock ?_|refine pSkip ?_|refine pExit ?_|refine pRet ?_|refine pCond ?_|refine gNone ?_))
      refine ⟨by simp; omega, ?_⟩
      intro w hw
      subst hw
      (repeat(first|refine pSeq ?_|refine pReg ?_|refine sCons ?_|refine sNil ?_|refine pBlock ?_|refine pSkip ?_|refine pExit ?_|refine pRet ?_|refine pCond ?_|refine gNone ?_))
      refine ldS_is (l := bd) rfl k1 rfl ?_
      (repeat(first|refine pSeq ?_|refine pReg ?_|refine sCons ?_|refine sNil ?_|refine pBlock ?_|refine pSkip ?_|refine pExit ?_|refine pRet ?_|refine pCond ?_|refine gNone ?_))
      refine ⟨by simp; omega, ?_⟩
      intro w hw
      subst hw
      (repeat(first|refine pSeq ?_|refine pReg ?_|refine sCons ?_|refine sNil ?_|refine pBlock ?_|refine pSkip ?_|refine pExit ?_|refine pRet ?_|refine pCond ?_|refine gNone ?_))
      exact ⟨by simp [textM]; rfl, c1⟩

open Classical in
/-- May the message be? -/
noncomputable def mayM (m : Msg) : Bool := decide ((parsF (textM m)).2 = 0 ∧ (parsF (textM m)).1 = m)

end Go.Vf.S
end
/- HdP -/
section
/- Fields of a name: found, counted. -/
namespace Go.Vf.S
open Go Go.Vf Go.Proofs Go.RowKit
attribute [local irreducible] wSeq wRow wp wG
set_option linter.unusedVariables false
set_option linter.unusedSimpArgs false
set_option maxRecDepth 10000

def isNamed (n : List UInt8) (f : Fld) : Bool := decide (f.n.map lowB = n.map lowB)
def findF (fs : List Fld) (n : List UInt8) : List (List UInt8) := (fs.filter (isNamed n)).map (·.v)

/-- Texts that a slice reads. -/
def StR (s : SS) (W : Option Addr) (ls : List (List UInt8)) : Prop := match W with
  | none => ls = []
  | some ⟨b, off, sp⟩ => off = 0 ∧ sp = none ∧ b < s.next ∧ ∃ cs t g r, lookH s.heap b = some (.cells cs t g r) ∧ ∀ (i : Nat) x, ls[i]? = some x → cs[i]? = some (str x)
theorem st_of {t : TypeId} {s : SS} {W : Option Addr} {cw : Nat} {ls : List (List UInt8)} (h : OwnR t s W cw ls.length (strV ls)) : StR s W ls := by
  cases W with
  | none => exact List.length_eq_zero_iff.1 h.2.1
  | some a =>
    obtain ⟨b, off, sp⟩ := a
    obtain ⟨h1, h2, h3, g, h4, h5⟩ := h
    refine ⟨h1, h2, h3, _, _, _, _, h4, fun i x hx => ?_⟩
    simp only [strV, List.getElem?_map, hx]
    rfl
theorem StR.chg {s s' : SS} {W : Option Addr} {ls : List (List UInt8)} {A : List Nat} (h : StR s W ls) (c : Chg s s' A) (hA : ∀ id ∈ blkOf W, id ∉ A) : StR s' W ls := by
  cases W with
  | none => exact h
  | some a =>
    obtain ⟨b, off, sp⟩ := a
    obtain ⟨h1, h2, h3, cs, t, g, r, h4, h5⟩ := h
    exact ⟨h1, h2, Nat.lt_of_lt_of_le h3 c.next, cs, t, g, r, c.blk _ _ h3 (hA b (by simp [blkOf])) h4, h5⟩
theorem StR.at {s : SS} {W : Option Addr} {ls : List (List UInt8)} (h : StR s W ls) (hn : ls ≠ []) : ∃ b cs t g r, W = some ⟨b, 0, none⟩ ∧ lookH s.heap b = some (.cells cs t g r) ∧ ∀ (i : Nat) x, ls[i]? = some x → cs[i]? = some (str x) := by
  cases W with
  | none => exact absurd h hn
  | some a =>
    obtain ⟨b, off, sp⟩ := a
    obtain ⟨rfl, rfl, h3, cs, t, g, r, h4, h5⟩ := h
    exact ⟨b, cs, t, g, r, rfl, h4, h5⟩

theorem find_next {fs : List Fld} {i : Nat} {f : Fld} {n : List UInt8} (h : fs[i]? = some f) : findF (fs.take (i + 1)) n = findF (fs.take i) n ++ (if isNamed n f = true then [f.v] else []) := by
  unfold findF
  rw [take_next h, List.filter_append, List.map_append]
  congr 1
  cases hn : isNamed n f <;> simp [hn]
theorem find_le (fs : List Fld) (n : List UInt8) : (findF fs n).length ≤ fs.length := by
  unfold findF
  rw [List.length_map]
  exact List.length_filter_le _ _

structure FiI where
  i : Nat
  W : Option Addr
  cw : Nat
  s : SS

end Go.Vf.S
end
/- HdQ -/
section
/- Fields of a name, gone through: Find, Count. -/
namespace Go.Vf.S
open Go Go.Vf Go.Proofs Go.RowKit
attribute [local irreducible] wSeq wRow wp wG
set_option linter.unusedVariables false
set_option linter.unusedSimpArgs false
set_option maxRecDepth 10000

structure NmI where
  i : Nat
  s : SS

abbrev tI8 : TypeId := 3
structure HcI (fs : List Fld) (nm : List UInt8) (lo cl : Nat) (r : ALoop) (s0 : SS) (i : Nat) (s : SS) : Prop where
  chg : Chg s0 s []
  lp : lookH s.heap lo = some (.loop r)
  lt : lo < s.next
  cell : lookH s.heap cl = some (.cells [.int .i64 (findF (fs.take i) nm).length] tI8 false false)

end Go.Vf.S
end
/- HdR -/
section
/- Fields of a name, found. -/
namespace Go.Vf.S
open Go Go.Vf Go.Proofs Go.RowKit
attribute [local irreducible] wSeq wRow wp wG
set_option linter.unusedVariables false
set_option linter.unusedSimpArgs false
set_option maxRecDepth 10000

abbrev tLs : TypeId := 52
structure HiI (fs : List Fld) (nm : List UInt8) (lo cl : Nat) (r : ALoop) (s0 : SS) (i : Nat) (s : SS) : Prop where
  chg : Chg s0 s []
  lp : lookH s.heap lo = some (.loop r)
  lt : lo < s.next
  cell : ∃ V cv, lookH s.heap cl = some (.cells [.slice V (findF (fs.take i) nm).length cv] tLs false false) ∧ OwnR tS s V cv (findF (fs.take i) nm).length (strV (findF (fs.take i) nm)) ∧ ∀ id ∈ blkOf V, lo < id

theorem own_loop {t : TypeId} {s : SS} {V : Option Addr} {cv n lo : Nat} {cs : List Value} {r : ALoop} (h : OwnR t s V cv n cs) (hl : lookH s.heap lo = some (.loop r)) : ∀ id ∈ blkOf V, id ≠ lo := fun id hid e => by
  obtain ⟨g, hg⟩ := h.at id hid
  rw [e, hl] at hg
  cases hg

end Go.Vf.S
end
/- HdS -/
section
/- Few fields, of few bytes. -/
namespace Go.Vf.S
open Go Go.Vf Go.Proofs Go.RowKit
attribute [local irreducible] wSeq wRow wp wG
set_option linter.unusedVariables false
set_option linter.unusedSimpArgs false
set_option maxRecDepth 10000

def fewFl (f : Fld) : Fld := ⟨f.n.take 300, f.v.take 300, f.r.take 300⟩
def fewFs (fs : List Fld) : List Fld := (fs.take 20).map fewFl
def fewM (m : Msg) : Msg := ⟨fewFs m.fs, m.b.take 600, m.e⟩

theorem take_few {l g : List UInt8} {k m : Nat} {n z : Int} (hg : g = (l.drop 0).take (k - 0)) (hn : n = (l.length : Int)) (hz : z = min n (m : Int)) (hk : (k : Int) = z) : g = l.take m := by
  rw [hg, List.drop_zero, Nat.sub_zero]
  by_cases h : l.length ≤ m
  · rw [List.take_of_length_le (by omega), List.take_of_length_le h]
  · rw [show k = m by omega]

theorem few_next {fs : List Fld} {i : Nat} {f : Fld} (h : fs[i]? = some f) : fewFs (fs.take (i + 1)) = if i < 20 then fewFs (fs.take i) ++ [fewFl f] else fewFs (fs.take i) := by
  have hi := lt_of_get h
  unfold fewFs
  by_cases hlt : i < 20
  · have hl : (fs.take i).length = i := by rw [List.length_take]; omega
    rw [if_pos hlt, take_next h, List.take_of_length_le (l := fs.take i ++ [f]) (by rw [List.length_append, hl]; simp; omega), List.map_append, List.take_of_length_le (l := fs.take i) (by omega)]
    rfl
  · rw [if_neg hlt, List.take_take, List.take_take, show min 20 (i + 1) = 20 by omega, show min 20 i = 20 by omega]
theorem few_many (fs : List Fld) : (fewFs fs).length ≤ 20 := by unfold fewFs; rw [List.length_map, List.length_take]; omega

theorem allocR {P : Program} {T : TL} {s : SS} {K : RR → Prop} {e : TypeId} {z : List Value} (h : K (.new (.cells z e false false) fun id => .pointer (some ⟨id, 0, none⟩))) : wN P (.alloc e z) T s K := by
  simp only [wN]
  exact h

set_option maxHeartbeats 2000000 in
theorem few_w {s : SS} {m : Msg} {Wa : Option Addr} {cw : Nat} (hfine : Fine s) (h : FsRd s Wa m.fs) (hn : m.fs.length ≤ 9223372036854775807) :
    CallW pr n_law07_Few [msV m Wa cw] s fun v s' => ∃ V cv, v = msV (fewM m) V cv ∧ FsO s' V cv (fewM m).fs ∧ Chg s s' [] ∧ ∀ id ∈ blkOf V, s.next ≤ id := by
  obtain ⟨fs, bd, ea⟩ := m
  dsimp only at h hn
  have eM : fewM ⟨fs, bd, ea⟩ = ⟨fewFs fs, bd.take 600, ea⟩ := rfl
  rw [eM]
  dsimp only
  refine CallW.run good ok_law07_Few (by simp) rfl ?_
  obtain ⟨s1, hs1⟩ : ∃ s1 : SS, s1 = { s with heap := (s.next + 1, some (.cells (msC msZ none 0) tMs false false)) :: (s.next, some (.cells (msC ⟨fs, bd, ea⟩ Wa cw) tMs false false)) :: s.heap, next := s.next + 1 + 1 } := ⟨_, rfl⟩
  have c1 : Chg s s1 [] := by rw [hs1]; exact (Chg.new (b := .cells (msC ⟨fs, bd, ea⟩ Wa cw) tMs false false) []).nil (Chg.new [])
  have k1 : lookH s1.heap s.next = some (.cells (msC ⟨fs, bd, ea⟩ Wa cw) tMs false false) := by rw [hs1]; exact lkT (by omega) lkH
  have j1 : lookH s1.heap (s.next + 1) = some (.cells (msC msZ none 0) tMs false false) := by rw [hs1]; exact lkH
  have n1 : s1.next = s.next + 2 := by rw [hs1]
  (repeat(first|refine pSeq ?_|refine pReg ?_|refine sCons ?_|refine sNil ?_|refine rCons ?_|refine rNil ?_|refine kNo ?_|refine pRow ?_|refine pBlock ?_|refine pSkip ?_|refine pExit ?_|refine pRet ?_|refine pCond ?_|refine gNone ?_))
  refine ldS_is (l := bd) rfl (show lookH _ _ = some (.cells (msC ⟨fs, bd, ea⟩ Wa cw) tMs false false) from (by subst hs1; exact k1)) rfl ?_
  (repeat(first|refine pSeq ?_|refine pReg ?_|refine sCons ?_|refine sNil ?_|refine rCons ?_|refine rNil ?_|refine kNo ?_|refine pRow ?_|refine pBlock ?_|refine pSkip ?_|refine pExit ?_|refine pRet ?_|refine pCond ?_|refine gNone ?_))
  refine ldS_is (l := bd) rfl (show lookH _ _ = some (.cells (msC ⟨fs, bd, ea⟩ Wa cw) tMs false false) from (by subst hs1; exact k1)) rfl ?_
  (repeat(first|refine pSeq ?_|refine pReg ?_|refine sCons ?_|refine sNil ?_|refine rCons ?_|refine rNil ?_|refine kNo ?_|refine pRow ?_|refine pBlock ?_|refine pSkip ?_|refine pExit ?_|refine pRet ?_|refine pCond ?_|refine gNone ?_))
  intro n hnn
  (repeat(first|refine pSeq ?_|refine pReg ?_|refine sCons ?_|refine sNil ?_|refine rCons ?_|refine rNil ?_|refine kNo ?_|refine pRow ?_|refine pBlock ?_|refine pSkip ?_|refine pExit ?_|refine pRet ?_|refine pCond ?_|refine gNone ?_))
  intro z hz
  (repeat(first|refine pSeq ?_|refine pReg ?_|refine sCons ?_|refine sNil ?_|refine rCons ?_|refine rNil ?_|refine kNo ?_|refine pRow ?_|refine pBlock ?_|refine pSkip ?_|refine pExit ?_|refine pRet ?_|refine pCond ?_|refine gNone ?_))
  refine ⟨by omega, ?_⟩
  intro k hk g hg
  have eg : g = bd.take 600 := take_few hg hnn hz hk
  clear hg hk hz hnn
  subst eg
  (repeat(first|refine pSeq ?_|refine pReg ?_|refine sCons ?_|refine sNil ?_|refine rCons ?_|refine rNil ?_|refine kNo ?_|refine pRow ?_|refine pBlock ?_|refine pSkip ?_|refine pExit ?_|refine pRet ?_|refine pCond ?_|refine gNone ?_))
  refine ldB_is (b := s.next) rfl (show lookH _ _ = some (.cells (msC ⟨fs, bd, ea⟩ Wa cw) tMs false false) from (by subst hs1; exact k1)) rfl ?_
  (repeat(first|refine pSeq ?_|refine pReg ?_|refine sCons ?_|refine sNil ?_|refine rCons ?_|refine rNil ?_|refine kNo ?_|refine pRow ?_|refine pBlock ?_|refine pSkip ?_|refine pExit ?_|refine pRet ?_|refine pCond ?_|refine gNone ?_))
  refine allocR (rNew (by subst hs1; exact (c1.fine hfine).at) ?_)
  (repeat(first|refine pSeq ?_|refine pReg ?_|refine sCons ?_|refine sNil ?_|refine rCons ?_|refine rNil ?_|refine kNo ?_|refine pRow ?_|refine pBlock ?_|refine pSkip ?_|refine pExit ?_|refine pRet ?_|refine pCond ?_|refine gNone ?_))
  refine st_abs (cs' := msC ⟨[], bd.take 600, ea⟩ none 0) rfl rfl lkH (Nat.lt_succ_self _) rfl rfl fun s2 e2 c2 n2 => ?_
  have c12 : Chg s1 s2 [] := by rw [hs1]; exact (Chg.new []).fresh c2 (by simp)
  have e2 : lookH s2.heap (s.next + 2) = some (.cells (msC ⟨[], bd.take 600, ea⟩ none 0) tMs false false) := e2
  have n2 : s2.next = s.next + 3 := n2
  clear c2 hs1
  have k2 := c12.blk _ _ (by omega) (by simp) k1
  have j2 := c12.blk _ _ (by omega) (by simp) j1
  have c02 := c1.nil c12
  (repeat(first|refine pSeq ?_|refine pReg ?_|refine sCons ?_|refine sNil ?_|refine rCons ?_|refine rNil ?_|refine kNo ?_|refine pRow ?_|refine pBlock ?_|refine pSkip ?_|refine pExit ?_|refine pRet ?_|refine pCond ?_|refine gNone ?_))
  refine ld1_is rfl k2 rfl ?_
  (repeat(first|refine pSeq ?_|refine pReg ?_|refine sCons ?_|refine sNil ?_|refine rCons ?_|refine rNil ?_|refine kNo ?_|refine pRow ?_|refine pBlock ?_|refine pSkip ?_|refine pExit ?_|refine pRet ?_|refine pCond ?_|refine gNone ?_))
  refine pLoop (MW.head good (fun x : OfI => fs.length - x.i) (fun x => x.i ≤ fs.length ∧ Chg s x.s [] ∧ FsO x.s x.W x.cw (fewFs (fs.take x.i)) ∧ (∀ id ∈ blkOf x.W, s.next ≤ id) ∧ s.next + 2 < x.s.next ∧
      lookH x.s.heap (s.next + 1) = some (.cells (msC msZ none 0) tMs false false) ∧ lookH x.s.heap (s.next + 2) = some (.cells (msC ⟨fewFs (fs.take x.i), bd.take 600, ea⟩ x.W x.cw) tMs false false))
    (fun x => [(2, .pointer (some ⟨s.next + 1, 0, none⟩)), (3, .pointer (some ⟨s.next + 2, 0, none⟩)), (17, .slice Wa fs.length cw), (18, .int .i64 fs.length), (19, .int .i64 x.i)]) (fun x => x.s) ⟨0, none, 0, s2⟩ ⟨Nat.zero_le _, c02, fs_none, by simp [blkOf], by show s.next + 2 < s2.next; omega, j2, e2⟩ (Wk.same ⟨rfl, rfl, rfl, rfl, rfl, trivial⟩) ?_)
  rintro ⟨i, V, cv, s3⟩ ⟨i1, i2, i3, i4, i5, i7, i8⟩
  dsimp only at i1 i2 i3 i4 i5 i7 i8 ⊢
  (repeat(first|refine pSeq ?_|refine pReg ?_|refine sCons ?_|refine sNil ?_|refine rCons ?_|refine rNil ?_|refine kNo ?_|refine pRow ?_|refine pBlock ?_|refine pSkip ?_|refine pExit ?_|refine pRet ?_|refine pCond ?_|refine gNone ?_))
  intro q hq
  by_cases hlt : i < fs.length
  · obtain rfl : q = true := by rw [hq]; simp; omega
    obtain ⟨f, hf⟩ : ∃ f, fs[i]? = some f := ⟨_, List.getElem?_eq_getElem hlt⟩
    have i6 := h.chg i2 (by simp)
    obtain ⟨b, cs, t, g, r, tl, hW, hb, hcs⟩ := i6.at (fun e => by rw [e] at hlt; simp at hlt)
    subst hW
    have hnx := few_next hf
    have hle := few_many (fs.take i)
    (repeat(first|refine pSeq ?_|refine pReg ?_|refine sCons ?_|refine sNil ?_|refine rCons ?_|refine rNil ?_|refine kNo ?_|refine pRow ?_|refine pBlock ?_|refine pSkip ?_|refine pExit ?_|refine pRet ?_|refine pCond ?_|refine gNone ?_))
    refine ⟨by omega, ?_⟩
    intro m hm o ho
    obtain rfl : m = i := by omega
    (repeat(first|refine pSeq ?_|refine pReg ?_|refine sCons ?_|refine sNil ?_|refine rCons ?_|refine rNil ?_|refine kNo ?_|refine pRow ?_|refine pBlock ?_|refine pSkip ?_|refine pExit ?_|refine pRet ?_|refine pCond ?_|refine gNone ?_))
    refine ldN_is (new := flC f) rfl hb (by rw [ho, Nat.zero_add]; exact fsC_take hcs hf) ?_
    (repeat(first|refine pSeq ?_|refine pReg ?_|refine sCons ?_|refine sNil ?_|refine rCons ?_|refine rNil ?_|refine kNo ?_|refine pRow ?_|refine pBlock ?_|refine pSkip ?_|refine pExit ?_|refine pRet ?_|refine pCond ?_|refine gNone ?_))
    refine st_abs (cs' := flC f) rfl rfl lkH (Nat.lt_succ_self _) rfl rfl fun s4 e4 c4 n4 => ?_
    have c34 : Chg s3 s4 [] := (Chg.new []).fresh c4 (by simp)
    have e4 : lookH s4.heap s3.next = some (.cells (flC f) tFl false false) := e4
    have n4 : s4.next = s3.next + 1 := n4
    have j7 := c34.blk _ _ (by omega) (by simp) i7
    have j8 := c34.blk _ _ (by omega) (by simp) i8
    have j3 := i3.chg c34 (by simp)
    have c04 := i2.nil c34
    (repeat(first|refine pSeq ?_|refine pReg ?_|refine sCons ?_|refine sNil ?_|refine rCons ?_|refine rNil ?_|refine kNo ?_|refine pRow ?_|refine pBlock ?_|refine pSkip ?_|refine pExit ?_|refine pRet ?_|refine pCond ?_|refine gNone ?_))
    intro q hq
    by_cases h20 : m < 20
    · obtain rfl : q = true := by rw [hq]; simp; omega
      rw [if_pos h20] at hnx
      (repeat(first|refine pSeq ?_|refine pReg ?_|refine sCons ?_|refine sNil ?_|refine rCons ?_|refine rNil ?_|refine kNo ?_|refine pRow ?_|refine pBlock ?_|refine pSkip ?_|refine pExit ?_|refine pRet ?_|refine pCond ?_|refine gNone ?_))
      refine ld1_is rfl j8 rfl ?_
      (repeat(first|refine pSeq ?_|refine pReg ?_|refine sCons ?_|refine sNil ?_|refine rCons ?_|refine rNil ?_|refine kNo ?_|refine pRow ?_|refine pBlock ?_|refine pSkip ?_|refine pExit ?_|refine pRet ?_|refine pCond ?_|refine gNone ?_))
      refine ldS_is (l := f.n) rfl e4 rfl ?_
      (repeat(first|refine pSeq ?_|refine pReg ?_|refine sCons ?_|refine sNil ?_|refine rCons ?_|refine rNil ?_|refine kNo ?_|refine pRow ?_|refine pBlock ?_|refine pSkip ?_|refine pExit ?_|refine pRet ?_|refine pCond ?_|refine gNone ?_))
      refine ldS_is (l := f.n) rfl e4 rfl ?_
      (repeat(first|refine pSeq ?_|refine pReg ?_|refine sCons ?_|refine sNil ?_|refine rCons ?_|refine rNil ?_|refine kNo ?_|refine pRow ?_|refine pBlock ?_|refine pSkip ?_|refine pExit ?_|refine pRet ?_|refine pCond ?_|refine gNone ?_))
      intro n hnn
      (repeat(first|refine pSeq ?_|refine pReg ?_|refine sCons ?_|refine sNil ?_|refine rCons ?_|refine rNil ?_|refine kNo ?_|refine pRow ?_|refine pBlock ?_|refine pSkip ?_|refine pExit ?_|refine pRet ?_|refine pCond ?_|refine gNone ?_))
      intro z hz
      (repeat(first|refine pSeq ?_|refine pReg ?_|refine sCons ?_|refine sNil ?_|refine rCons ?_|refine rNil ?_|refine kNo ?_|refine pRow ?_|refine pBlock ?_|refine pSkip ?_|refine pExit ?_|refine pRet ?_|refine pCond ?_|refine gNone ?_))
      refine ⟨by omega, ?_⟩
      intro k hk g1 hg
      have eg : g1 = f.n.take 300 := take_few hg hnn hz hk
      clear hg hk hz hnn
      subst eg
      (repeat(first|refine pSeq ?_|refine pReg ?_|refine sCons ?_|refine sNil ?_|refine rCons ?_|refine rNil ?_|refine kNo ?_|refine pRow ?_|refine pBlock ?_|refine pSkip ?_|refine pExit ?_|refine pRet ?_|refine pCond ?_|refine gNone ?_))
      refine ldS_is (l := f.v) rfl e4 rfl ?_
      (repeat(first|refine pSeq ?_|refine pReg ?_|refine sCons ?_|refine sNil ?_|refine rCons ?_|refine rNil ?_|refine kNo ?_|refine pRow ?_|refine pBlock ?_|refine pSkip ?_|refine pExit ?_|refine pRet ?_|refine pCond ?_|refine gNone ?_))
      refine ldS_is (l := f.v) rfl e4 rfl ?_
      (repeat(first|refine pSeq ?_|refine pReg ?_|refine sCons ?_|refine sNil ?_|refine rCons ?_|refine rNil ?_|refine kNo ?_|refine pRow ?_|refine pBlock ?_|refine pSkip ?_|refine pExit ?_|refine pRet ?_|refine pCond ?_|refine gNone ?_))
      intro n hnn
      (repeat(first|refine pSeq ?_|refine pReg ?_|refine sCons ?_|refine sNil ?_|refine rCons ?_|refine rNil ?_|refine kNo ?_|refine pRow ?_|refine pBlock ?_|refine pSkip ?_|refine pExit ?_|refine pRet ?_|refine pCond ?_|refine gNone ?_))
      intro z hz
      (repeat(first|refine pSeq ?_|refine pReg ?_|refine sCons ?_|refine sNil ?_|refine rCons ?_|refine rNil ?_|refine kNo ?_|refine pRow ?_|refine pBlock ?_|refine pSkip ?_|refine pExit ?_|refine pRet ?_|refine pCond ?_|refine gNone ?_))
      refine ⟨by omega, ?_⟩
      intro k hk g1 hg
      have eg : g1 = f.v.take 300 := take_few hg hnn hz hk
      clear hg hk hz hnn
      subst eg
      (repeat(first|refine pSeq ?_|refine pReg ?_|refine sCons ?_|refine sNil ?_|refine rCons ?_|refine rNil ?_|refine kNo ?_|refine pRow ?_|refine pBlock ?_|refine pSkip ?_|refine pExit ?_|refine pRet ?_|refine pCond ?_|refine gNone ?_))
      refine ldS_is (l := f.r) rfl e4 rfl ?_
      (repeat(first|refine pSeq ?_|refine pReg ?_|refine sCons ?_|refine sNil ?_|refine rCons ?_|refine rNil ?_|refine kNo ?_|refine pRow ?_|refine pBlock ?_|refine pSkip ?_|refine pExit ?_|refine pRet ?_|refine pCond ?_|refine gNone ?_))
      refine ldS_is (l := f.r) rfl e4 rfl ?_
      (repeat(first|refine pSeq ?_|refine pReg ?_|refine sCons ?_|refine sNil ?_|refine rCons ?_|refine rNil ?_|refine kNo ?_|refine pRow ?_|refine pBlock ?_|refine pSkip ?_|refine pExit ?_|refine pRet ?_|refine pCond ?_|refine gNone ?_))
      intro n hnn
      (repeat(first|refine pSeq ?_|refine pReg ?_|refine sCons ?_|refine sNil ?_|refine rCons ?_|refine rNil ?_|refine kNo ?_|refine pRow ?_|refine pBlock ?_|refine pSkip ?_|refine pExit ?_|refine pRet ?_|refine pCond ?_|refine gNone ?_))
      intro z hz
      (repeat(first|refine pSeq ?_|refine pReg ?_|refine sCons ?_|refine sNil ?_|refine rCons ?_|refine rNil ?_|refine kNo ?_|refine pRow ?_|refine pBlock ?_|refine pSkip ?_|refine pExit ?_|refine pRet ?_|refine pCond ?_|refine gNone ?_))
      refine ⟨by omega, ?_⟩
      intro k hk g1 hg
      have eg : g1 = f.r.take 300 := take_few hg hnn hz hk
      clear hg hk hz hnn
      subst eg
      (repeat(first|refine pSeq ?_|refine pReg ?_|refine sCons ?_|refine sNil ?_|refine rCons ?_|refine rNil ?_|refine kNo ?_|refine pRow ?_|refine pBlock ?_|refine pSkip ?_|refine pExit ?_|refine pRet ?_|refine pCond ?_|refine gNone ?_))
      refine mkS_is rfl rfl (rNew (c04.fine hfine).at ?_)
      (repeat(first|refine pSeq ?_|refine pReg ?_|refine sCons ?_|refine sNil ?_|refine rCons ?_|refine rNil ?_|refine kNo ?_|refine pRow ?_|refine pBlock ?_|refine pSkip ?_|refine pExit ?_|refine pRet ?_|refine pCond ?_|refine gNone ?_))
      refine appR (j3.chg (.new []) (by simp)) (fsC_len _) ⟨by omega, by omega⟩ rfl rfl lkH rfl rfl fun s5 r5 c5 n5 => ?_
      have c45 : Chg s4 s5 (blkOf V) := (Chg.new (b := .cells (flC (fewFl f)) tFl false false) []).trans' c5 (fun id q _ => by simp at q) (fun id q _ => q)
      have n5 : s5.next = s4.next + 2 := n5
      have hoff : ∀ id ∈ blkOf V, id ≠ s.next + 1 ∧ id ≠ s.next + 2 := fun id hid => by
        obtain ⟨gr, hg⟩ := i3.at id hid
        exact ⟨tyNe hg i7 (by decide), tyNe hg i8 (by decide)⟩
      have l7 := c45.blk _ _ (by omega) (fun q => (hoff _ q).1 rfl) j7
      have l8 := c45.blk _ _ (by omega) (fun q => (hoff _ q).2 rfl) j8
      have cS := c04.fresh c45 i4
      (repeat(first|refine pSeq ?_|refine pReg ?_|refine sCons ?_|refine sNil ?_|refine rCons ?_|refine rNil ?_|refine kNo ?_|refine pRow ?_|refine pBlock ?_|refine pSkip ?_|refine pExit ?_|refine pRet ?_|refine pCond ?_|refine gNone ?_))
      refine st_abs (cs' := msC ⟨fewFs (fs.take (m + 1)), bd.take 600, ea⟩ (some ⟨s4.next + 1, 0, none⟩) 0) rfl rfl l8 (by omega) rfl (by simp only [msC, hnx, List.length_append]; rfl) fun s6 e6 c6 n6 => ?_
      (repeat(first|refine pSeq ?_|refine pReg ?_|refine sCons ?_|refine sNil ?_|refine rCons ?_|refine rNil ?_|refine kNo ?_|refine pRow ?_|refine pBlock ?_|refine pSkip ?_|refine pExit ?_|refine pRet ?_|refine pCond ?_|refine gNone ?_))
      intro z hz
      rw [i64_id (by omega)] at hz
      obtain rfl : z = ((m + 1 : Nat) : Int) := by omega
      (repeat(first|refine pSeq ?_|refine pReg ?_|refine sCons ?_|refine sNil ?_|refine rCons ?_|refine rNil ?_|refine kNo ?_|refine pRow ?_|refine pBlock ?_|refine pSkip ?_|refine pExit ?_|refine pRet ?_|refine pCond ?_|refine gNone ?_))
      refine ⟨⟨m + 1, some ⟨s4.next + 1, 0, none⟩, 0, s6⟩, ⟨hlt, cS.fresh c6 (by simp <;> omega), ?_, by simp [blkOf] <;> omega, by dsimp only; omega, c6.blk _ _ (by omega) (by simp) l7, e6⟩, by show fs.length - (m + 1) < fs.length - m; omega, Wk.same ⟨rfl, rfl, rfl, rfl, rfl, trivial⟩⟩
      have r8 := r5.chg c6 (fun id q r => by
        simp only [blkOf, List.mem_singleton] at q r
        omega)
      show OwnR tFl s6 _ 0 (fewFs (fs.take (m + 1))).length (fsC (fewFs (fs.take (m + 1))))
      rw [hnx, fsC_app, List.length_append]
      exact r8
    · obtain rfl : q = false := by rw [hq]; simp; omega
      rw [if_neg h20] at hnx
      (repeat(first|refine pSeq ?_|refine pReg ?_|refine sCons ?_|refine sNil ?_|refine rCons ?_|refine rNil ?_|refine kNo ?_|refine pRow ?_|refine pBlock ?_|refine pSkip ?_|refine pExit ?_|refine pRet ?_|refine pCond ?_|refine gNone ?_))
      intro z hz
      rw [i64_id (by omega)] at hz
      obtain rfl : z = ((m + 1 : Nat) : Int) := by omega
      (repeat(first|refine pSeq ?_|refine pReg ?_|refine sCons ?_|refine sNil ?_|refine rCons ?_|refine rNil ?_|refine kNo ?_|refine pRow ?_|refine pBlock ?_|refine pSkip ?_|refine pExit ?_|refine pRet ?_|refine pCond ?_|refine gNone ?_))
      exact ⟨⟨m + 1, V, cv, s4⟩, ⟨hlt, c04, by dsimp only; rw [hnx]; exact j3, i4, by dsimp only; omega, j7, by dsimp only; rw [hnx]; exact j8⟩, by show fs.length - (m + 1) < fs.length - m; omega, Wk.same ⟨rfl, rfl, rfl, rfl, rfl, trivial⟩⟩
  · obtain rfl : q = false := by rw [hq]; simp; omega
    have he : fs.take i = fs := List.take_of_length_le (by omega)
    rw [he] at i3 i8
    (repeat(first|refine pSeq ?_|refine pReg ?_|refine sCons ?_|refine sNil ?_|refine rCons ?_|refine rNil ?_|refine kNo ?_|refine pRow ?_|refine pBlock ?_|refine pSkip ?_|refine pExit ?_|refine pRet ?_|refine pCond ?_|refine gNone ?_))
    refine ldN_is rfl i8 agm3 ?_
    (repeat(first|refine pSeq ?_|refine pReg ?_|refine sCons ?_|refine sNil ?_|refine rCons ?_|refine rNil ?_|refine kNo ?_|refine pRow ?_|refine pBlock ?_|refine pSkip ?_|refine pExit ?_|refine pRet ?_|refine pCond ?_|refine gNone ?_))
    refine st_abs (cs' := msC ⟨fewFs fs, bd.take 600, ea⟩ V cv) rfl rfl i7 (by omega) rfl rfl fun s4 e4 c4 n4 => ?_
    have hoff : ∀ id ∈ blkOf V, id ≠ s.next + 1 := fun id hid => by
      obtain ⟨gr, hg⟩ := i3.at id hid
      exact tyNe hg i7 (by decide)
    (repeat(first|refine pSeq ?_|refine pReg ?_|refine sCons ?_|refine sNil ?_|refine rCons ?_|refine rNil ?_|refine kNo ?_|refine pRow ?_|refine pBlock ?_|refine pSkip ?_|refine pExit ?_|refine pRet ?_|refine pCond ?_|refine gNone ?_))
    (repeat (first | with_reducible refine sqRet ?_ | with_reducible refine bkRet ?_ | with_reducible refine hdRet ?_))
    exact ret_cell1 agg_Ms sz_Ms rfl e4 agm3 ⟨V, cv, rfl, i3.chg c4 (fun id hid q => hoff id hid (by simpa using q)), i2.fresh c4 (by simp), i4⟩
end Go.Vf.S
end
/- HdT -/
section
/- The law HeadTells, from any state. -/
namespace Go.Vf.S
open Go Go.Vf Go.Proofs Go.RowKit
attribute [local irreducible] wSeq wRow wp wG
set_option linter.unusedVariables false
set_option linter.unusedSimpArgs false
set_option maxRecDepth 10000

theorem txt_bound {k : Nat} : ∀ (fs : List Fld), (∀ f ∈ fs, f.r.length ≤ k) → (txtF fs).length ≤ fs.length * k
  | [], _ => by simp [txtF]
  | f :: fs, h => by
    have ih := txt_bound fs fun g hg => h g (by simp [hg])
    have := h f (by simp)
    unfold txtF at ih ⊢
    rw [List.flatMap_cons, List.length_append, List.length_cons, Nat.succ_mul]
    omega
theorem few_each {fs : List Fld} : ∀ f ∈ fewFs fs, f.n.length ≤ 300 ∧ f.v.length ≤ 300 ∧ f.r.length ≤ 300 := fun f hf => by
  obtain ⟨g, -, rfl⟩ := List.mem_map.1 hf
  simp only [fewFl, List.length_take]
  omega
theorem few_text (m : Msg) : (textM (fewM m)).length ≤ 10000 := by
  have h1 := txt_bound (k := 300) (fewFs m.fs) fun f hf => (few_each f hf).2.2
  have h2 := few_many m.fs
  have h3 : (fewFs m.fs).length * 300 ≤ 20 * 300 := Nat.mul_le_mul_right _ h2
  show (txtF (fewFs m.fs) ++ if m.e = true then [] else 13 :: 10 :: m.b.take 600).length ≤ 10000
  rw [List.length_append]
  have : (if m.e = true then ([] : List UInt8) else 13 :: 10 :: m.b.take 600).length ≤ 602 := by
    split
    · simp
    · simp only [List.length_cons, List.length_take]; omega
  omega
end Go.Vf.S
end

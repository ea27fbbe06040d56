import Derived.Test.YthhcngkblihliaaDoorBnH
import Derived.Test.YthhcngkblihliaaDoorHdC
import Derived.Test.YthhcngkblihliaaDoorBnA
import Derived.Test.YthhcngkblihliaaDoorFnHI
import Derived.Test.YthhcngkblihliaaDoorFnHC
import Derived.Test.YthhcngkblihliaaDoorFnHN
/- HdN -/
section
/- Messages: their text; may they be? -/
namespace Go.Vf.S
open Go Go.Vf Go.Proofs Go.RowKit
attribute [local irreducible] wSeq wRow wp wG
set_option linter.unusedVariables false
set_option linter.unusedSimpArgs false
set_option maxRecDepth 10000

def txtF (fs : List Fld) : List UInt8 := fs.flatMap fun f => f.r
def textM (m : Msg) : List UInt8 := txtF m.fs ++ if m.e = true then [] else 13 :: 10 :: m.b
theorem txt_next {fs : List Fld} {i : Nat} {f : Fld} (h : fs[i]? = some f) : txtF (fs.take (i + 1)) = txtF (fs.take i) ++ f.r := by
  unfold txtF
  rw [take_next h, List.flatMap_append]
  simp
theorem txt_le {fs : List Fld} (i : Nat) : (txtF (fs.take i)).length ≤ (txtF fs).length := by
  have := congrArg (fun x => (txtF x).length) (List.take_append_drop i fs)
  simp only [txtF, List.flatMap_append, List.length_append] at this
  unfold txtF
  omega

structure TxI where
  i : Nat
  W : Option Addr
  s : SS

set_option maxHeartbeats 1000000 in
theorem htext_w {s : SS} {m : Msg} {W : Option Addr} {cw : Nat} (h : FsRd s W m.fs) (hn : m.fs.length ≤ 100000) (hl : (textM m).length ≤ 100000) : CallW pr n_head_Message_Text [msV m W cw] s fun v s' => v = str (textM m) ∧ Chg s s' [] := by
  obtain ⟨fs, bd, ea⟩ := m
  dsimp only at h hn hl
  have hlt : (txtF fs).length ≤ 100000 := by unfold textM at hl; rw [List.length_append] at hl; dsimp only at hl; omega
  refine CallW.run good ok_head_Message_Text (by simp) rfl ?_
  obtain ⟨s1, hs1⟩ : ∃ s1 : SS, s1 = { s with heap := (s.next + 1, some (.cells [.pointer none, .slice none 0 0] tBl false false)) :: (s.next, some (.cells (msC ⟨fs, bd, ea⟩ W cw) tMs false false)) :: s.heap, next := s.next + 1 + 1 } := ⟨_, rfl⟩
  have c1 : Chg s s1 [] := by rw [hs1]; exact (Chg.new (b := .cells (msC ⟨fs, bd, ea⟩ W cw) tMs false false) []).nil (Chg.new [])
  have k1 : lookH s1.heap s.next = some (.cells (msC ⟨fs, bd, ea⟩ W cw) tMs false false) := by rw [hs1]; exact lkT (by omega) lkH
  have j1 : Bld s1 (s.next + 1) none [] := ⟨by rw [hs1]; exact Nat.lt_succ_self _, ⟨_, by rw [hs1]; exact lkH, .inl rfl⟩, rfl, fun _ => rfl⟩
  have n1 : s1.next = s.next + 2 := by rw [hs1]
  (repeat(first|refine pSeq ?_|refine pReg ?_|refine sCons ?_|refine sNil ?_|refine pBlock ?_|refine pSkip ?_|refine pExit ?_|refine pRet ?_|refine pCond ?_|refine gNone ?_))
  refine ld1_is rfl (show lookH _ _ = some (.cells (msC ⟨fs, bd, ea⟩ W cw) tMs false false) from (by subst hs1; exact k1)) rfl ?_
  (repeat(first|refine pSeq ?_|refine pReg ?_|refine sCons ?_|refine sNil ?_|refine pBlock ?_|refine pSkip ?_|refine pExit ?_|refine pRet ?_|refine pCond ?_|refine gNone ?_))
  refine pLoop (MW.head good (fun x : TxI => fs.length - x.i) (fun x => x.i ≤ fs.length ∧ Chg s x.s [] ∧ Bld x.s (s.next + 1) x.W (txtF (fs.take x.i)) ∧ (∀ id ∈ blkOf x.W, s.next ≤ id) ∧ lookH x.s.heap s.next = some (.cells (msC ⟨fs, bd, ea⟩ W cw) tMs false false))
    (fun x => [(1, .pointer (some ⟨s.next, 0, none⟩)), (3, .pointer (some ⟨s.next + 1, 0, none⟩)), (7, .slice W fs.length cw), (8, .int .i64 fs.length), (9, .int .i64 x.i)]) (fun x => x.s) ⟨0, none, s1⟩ ⟨Nat.zero_le _, c1, j1, by simp [blkOf], k1⟩ (by subst hs1; exact Wk.same ⟨rfl, rfl, rfl, rfl, rfl, trivial⟩) ?_)
  clear hs1
  rintro ⟨i, V, s2⟩ ⟨i1, i2, i3, i4, i5⟩
  dsimp only at i1 i2 i3 i4 i5 ⊢
  have h2 := h.chg i2 (by simp)
  have hb1 := i3.lt
  (repeat(first|refine pSeq ?_|refine pReg ?_|refine sCons ?_|refine sNil ?_|refine pBlock ?_|refine pSkip ?_|refine pExit ?_|refine pRet ?_|refine pCond ?_|refine gNone ?_))
  intro q hq
  by_cases hlt2 : i < fs.length
  · obtain rfl : q = true := by rw [hq]; simp; omega
    obtain ⟨f, hf⟩ : ∃ f, fs[i]? = some f := ⟨_, List.getElem?_eq_getElem hlt2⟩
    obtain ⟨b, cs, t, g, r, tl, hW, hb, hcs⟩ := h2.at (fun e => by rw [e] at hlt2; simp at hlt2)
    subst hW
    have hnx := txt_next hf
    have hle := txt_le (fs := fs) (i + 1)
    rw [hnx, List.length_append] at hle
    (repeat(first|refine pSeq ?_|refine pReg ?_|refine sCons ?_|refine sNil ?_|refine pBlock ?_|refine pSkip ?_|refine pExit ?_|refine pRet ?_|refine pCond ?_|refine gNone ?_))
    refine ⟨by omega, ?_⟩
    intro m hm o ho
    obtain rfl : m = i := by omega
    (repeat(first|refine pSeq ?_|refine pReg ?_|refine sCons ?_|refine sNil ?_|refine pBlock ?_|refine pSkip ?_|refine pExit ?_|refine pRet ?_|refine pCond ?_|refine gNone ?_))
    refine ldN_is (new := flC f) rfl hb (by rw [ho, Nat.zero_add]; exact fsC_take hcs hf) ?_
    (repeat(first|refine pSeq ?_|refine pReg ?_|refine sCons ?_|refine sNil ?_|refine pBlock ?_|refine pSkip ?_|refine pExit ?_|refine pRet ?_|refine pCond ?_|refine gNone ?_))
    refine st_abs (cs' := flC f) rfl rfl lkH (Nat.lt_succ_self _) rfl rfl fun s3 e3 c3 n3 => ?_
    have c23 : Chg s2 s3 [] := (Chg.new []).fresh c3 (by simp)
    have e3 : lookH s3.heap s2.next = some (.cells (flC f) tFl false false) := e3
    (repeat(first|refine pSeq ?_|refine pReg ?_|refine sCons ?_|refine sNil ?_|refine pBlock ?_|refine pSkip ?_|refine pExit ?_|refine pRet ?_|refine pCond ?_|refine gNone ?_))
    refine ldS_is (l := f.r) rfl e3 rfl ?_
    (repeat(first|refine pSeq ?_|refine pReg ?_|refine sCons ?_|refine sNil ?_|refine pBlock ?_|refine pSkip ?_|refine pExit ?_|refine pRet ?_|refine pCond ?_|refine gNone ?_))
    have i33 := i3.chg c23 (by simp) (by simp)
    refine (bWrite_w i33 (m := f.r) (by omega)).mono fun v s4 q => ?_
    obtain ⟨W4, rfl, b4, c4, w4⟩ := q
    have k3 := c23.blk _ _ (by omega) (by simp) i5
    have k4 := c4.blk _ _ (by have := c23.next; omega) (fun q => by
      rcases List.mem_cons.1 q with q | q
      · omega
      · obtain ⟨p, hp, -⟩ := i33.cell
        have ho := i33.own
        cases V with
        | none => simp [blkOf] at q
        | some a =>
          obtain ⟨g, off, sp⟩ := a
          obtain ⟨-, -, -, gr, h2, -⟩ := ho
          simp only [blkOf, List.mem_singleton] at q
          subst q
          exact tyNe h2 k3 (by decide) rfl) k3
    (repeat(first|refine pSeq ?_|refine pReg ?_|refine sCons ?_|refine sNil ?_|refine pBlock ?_|refine pSkip ?_|refine pExit ?_|refine pRet ?_|refine pCond ?_|refine gNone ?_))
    intro z hz
    rw [i64_id (by omega)] at hz
    obtain rfl : z = ((m + 1 : Nat) : Int) := by omega
    (repeat(first|refine pSeq ?_|refine pReg ?_|refine sCons ?_|refine sNil ?_|refine pBlock ?_|refine pSkip ?_|refine pExit ?_|refine pRet ?_|refine pCond ?_|refine gNone ?_))
    have c24 : Chg s s4 [] := (i2.nil c23).fresh c4 (by
      intro id q
      rcases List.mem_cons.1 q with rfl | q
      · omega
      · exact i4 id q)
    refine ⟨⟨m + 1, W4, s4⟩, ⟨hlt2, c24, by dsimp only; rw [hnx]; exact b4, fun id hid => ?_, k4⟩, by show fs.length - (m + 1) < fs.length - m; omega, Wk.same ⟨rfl, rfl, rfl, rfl, rfl, trivial⟩⟩
    rcases w4 id hid with q | q
    · exact i4 id q
    · have := (i2.nil c23).next; omega
  · obtain rfl : q = false := by rw [hq]; simp; omega
    have he : fs.take i = fs := List.take_of_length_le (by omega)
    rw [he] at i3
    (repeat(first|refine pSeq ?_|refine pReg ?_|refine sCons ?_|refine sNil ?_|refine pBlock ?_|refine pSkip ?_|refine pExit ?_|refine pRet ?_|refine pCond ?_|refine gNone ?_))
    refine ldB_is rfl i5 rfl ?_
    (repeat(first|refine pSeq ?_|refine pReg ?_|refine sCons ?_|refine sNil ?_|refine pBlock ?_|refine pSkip ?_|refine pExit ?_|refine pRet ?_|refine pCond ?_|refine gNone ?_))
    intro q hq
    cases ea
    obtain rfl : q = true := hq
    (repeat(first|refine pSeq ?_|refine pReg ?_|refine sCons ?_|refine sNil ?_|refine pBlock ?_|refine pSkip ?_|refine pExit ?_|refine pRet ?_|refine pCond ?_|refine gNone ?_))
    refine (bWrite_w (m := [13, 10]) i3 (by simp; omega)).mono fun v s4 q => ?_
    obtain ⟨W4, rfl, b4, c4, w4⟩ := q
    have hWoff : ∀ id ∈ blkOf V, id ≠ s.next := fun id q e => by
      have ho := i3.own
      cases V with
      | none => simp [blkOf] at q
      | some a =>
        obtain ⟨g, off, sp⟩ := a
        obtain ⟨-, -, -, gr, h2, -⟩ := ho
        simp only [blkOf, List.mem_singleton] at q
        subst q
        exact tyNe h2 i5 (by decide) e
    have k4 := c4.blk _ _ (by omega) (fun q => by
      rcases List.mem_cons.1 q with q | q
      · omega
      · exact hWoff _ q rfl) i5
    have c24 : Chg s s4 [] := i2.fresh c4 (by
      intro id q
      rcases List.mem_cons.1 q with rfl | q
      · omega
      · exact i4 id q)
    have l4 : ∀ id ∈ blkOf W4, s.next ≤ id := fun id hid => by
      rcases w4 id hid with q | q
      · exact i4 id q
      · have := i2.next; omega
    have hbd : bd.length ≤ 100000 := by
      unfold textM at hl
      simp at hl
      omega
    (repeat(first|refine pSeq ?_|refine pReg ?_|refine sCons ?_|refine sNil ?_|refine pBlock ?_|refine pSkip ?_|refine pExit ?_|refine pRet ?_|refine pCond ?_|refine gNone ?_))
    refine ldS_is (l := bd) rfl k4 rfl ?_
    (repeat(first|refine pSeq ?_|refine pReg ?_|refine sCons ?_|refine sNil ?_|refine pBlock ?_|refine pSkip ?_|refine pExit ?_|refine pRet ?_|refine pCond ?_|refine gNone ?_))
    refine (bWrite_w (m := bd) b4 (by simp; omega)).mono fun v s5 q => ?_
    obtain ⟨W5, rfl, b5, c5, w5⟩ := q
    have c25 : Chg s s5 [] := c24.fresh c5 (by
      intro id q
      rcases List.mem_cons.1 q with rfl | q
      · omega
      · exact l4 id q)
    have l5 : ∀ id ∈ blkOf W5, s.next ≤ id := fun id hid => by
      rcases w5 id hid with q | q
      · exact l4 id q
      · have := c24.next; omega
    obtain ⟨L, hL⟩ : ∃ L, L = textM ⟨fs, bd, false⟩ := ⟨_, rfl⟩
    have eL : L = txtF fs ++ [13, 10] ++ bd := by rw [hL]; simp [textM]
    rw [← eL] at b5
    (repeat(first|refine pSeq ?_|refine pReg ?_|refine sCons ?_|refine sNil ?_|refine pBlock ?_|refine pSkip ?_|refine pExit ?_|refine pRet ?_|refine pCond ?_|refine gNone ?_))
    rotate_left
    obtain rfl : q = false := hq
    obtain ⟨L, hL⟩ : ∃ L, L = textM ⟨fs, bd, true⟩ := ⟨_, rfl⟩
    have eL : L = txtF fs := by rw [hL]; simp [textM]
    obtain ⟨s5, hs5⟩ : ∃ s5, s5 = s2 := ⟨_, rfl⟩
    obtain ⟨W5, hW5⟩ : ∃ W5, W5 = V := ⟨_, rfl⟩
    have b5 : Bld s5 (s.next + 1) W5 L := by rw [hs5, hW5, eL]; exact i3
    have c25 : Chg s s5 [] := by rw [hs5]; exact i2
    have l5 : ∀ id ∈ blkOf W5, s.next ≤ id := by rw [hW5]; exact i4
    rw [← hs5]
    (repeat(first|refine pSeq ?_|refine pReg ?_|refine sCons ?_|refine sNil ?_|refine pBlock ?_|refine pSkip ?_|refine pExit ?_|refine pRet ?_|refine pCond ?_|refine gNone ?_))
    all_goals
      rw [← hL] at hl ⊢
      (repeat(first|refine pSeq ?_|refine pReg ?_|refine sCons ?_|refine sNil ?_|refine pBlock ?_|refine pSkip ?_|refine pExit ?_|refine pRet ?_|refine pCond ?_|refine gNone ?_))
      refine (bString_w b5 (by omega)).mono fun v s6 q => ?_
      obtain ⟨rfl, c6, n6⟩ := q
      (repeat(first|refine pSeq ?_|refine pReg ?_|refine sCons ?_|refine sNil ?_|refine pBlock ?_|refine pSkip ?_|refine pExit ?_|refine pRet ?_|refine pCond ?_|refine gNone ?_))
      exact ⟨rfl, c25.fresh c6 l5⟩
end Go.Vf.S
end
/- HdO -/
section
/- Messages: the document's text; rows of fields held against one another; may they be? -/
namespace Go.Vf.S
open Go Go.Vf Go.Proofs Go.RowKit
attribute [local irreducible] wSeq wRow wp wG
set_option linter.unusedVariables false
set_option linter.unusedSimpArgs false
set_option maxRecDepth 10000

open Classical in
/-- May the message be? -/
noncomputable def mayM (m : Msg) : Bool := decide ((parsF (textM m)).2 = 0 ∧ (parsF (textM m)).1 = m)

end Go.Vf.S
end
/- HdP -/
section
/- Fields of a name: found, counted. -/
namespace Go.Vf.S
open Go Go.Vf Go.Proofs Go.RowKit
attribute [local irreducible] wSeq wRow wp wG
set_option linter.unusedVariables false
set_option linter.unusedSimpArgs false
set_option maxRecDepth 10000

def isNamed (n : List UInt8) (f : Fld) : Bool := decide (f.n.map lowB = n.map lowB)
def findF (fs : List Fld) (n : List UInt8) : List (List UInt8) := (fs.filter (isNamed n)).map (·.v)

/-- Texts that a slice reads. -/
def StR (s : SS) (W : Option Addr) (ls : List (List UInt8)) : Prop := match W with
  | none => ls = []
  | some ⟨b, off, sp⟩ => off = 0 ∧ sp = none ∧ b < s.next ∧ ∃ cs t g r, lookH s.heap b = some (.cells cs t g r) ∧ ∀ (i : Nat) x, ls[i]? = some x → cs[i]? = some (str x)
theorem st_of {t : TypeId} {s : SS} {W : Option Addr} {cw : Nat} {ls : List (List UInt8)} (h : OwnR t s W cw ls.length (strV ls)) : StR s W ls := by
  cases W with
  | none => exact List.length_eq_zero_iff.1 h.2.1
  | some a =>
    obtain ⟨b, off, sp⟩ := a
    obtain ⟨h1, h2, h3, g, h4, h5⟩ := h
    refine ⟨h1, h2, h3, _, _, _, _, h4, fun i x hx => ?_⟩
    simp only [strV, List.getElem?_map, hx]
    rfl
theorem StR.chg {s s' : SS} {W : Option Addr} {ls : List (List UInt8)} {A : List Nat} (h : StR s W ls) (c : Chg s s' A) (hA : ∀ id ∈ blkOf W, id ∉ A) : StR s' W ls := by
  cases W with
  | none => exact h
  | some a =>
    obtain ⟨b, off, sp⟩ := a
    obtain ⟨h1, h2, h3, cs, t, g, r, h4, h5⟩ := h
    exact ⟨h1, h2, Nat.lt_of_lt_of_le h3 c.next, cs, t, g, r, c.blk _ _ h3 (hA b (by simp [blkOf])) h4, h5⟩
theorem StR.at {s : SS} {W : Option Addr} {ls : List (List UInt8)} (h : StR s W ls) (hn : ls ≠ []) : ∃ b cs t g r, W = some ⟨b, 0, none⟩ ∧ lookH s.heap b = some (.cells cs t g r) ∧ ∀ (i : Nat) x, ls[i]? = some x → cs[i]? = some (str x) := by
  cases W with
  | none => exact absurd h hn
  | some a =>
    obtain ⟨b, off, sp⟩ := a
    obtain ⟨rfl, rfl, h3, cs, t, g, r, h4, h5⟩ := h
    exact ⟨b, cs, t, g, r, rfl, h4, h5⟩

/-- Rows of texts, held against one another. -/
theorem eqS_w {s : SS} {fa fb : List (List UInt8)} {W V : Option Addr} {cw cv : Nat} (ha : StR s W fa) (hb : StR s V fb) (hn : fa.length ≤ 100000) (hn2 : fb.length ≤ 100000) :
    CallW pr n_slices_Equal_string_string [.slice W fa.length cw, .slice V fb.length cv] s fun v s' => v = .bool (decide (fa = fb)) ∧ s' = s := by
  refine CallW.run good ok_slices_Equal_string_string (by simp) rfl ?_
  (repeat(first|refine pSeq ?_|refine pReg ?_|refine sCons ?_|refine sNil ?_|refine rCons ?_|refine rNil ?_|refine kNo ?_|refine pRow ?_|refine pBlock ?_|refine pSkip ?_|refine pExit ?_|refine pRet ?_|refine pCond ?_|refine gNone ?_))
  intro q hq
  by_cases x1 : fa.length = fb.length
  · obtain rfl : q = false := by rw [hq]; simp; omega
    (repeat(first|refine pSeq ?_|refine pReg ?_|refine sCons ?_|refine sNil ?_|refine rCons ?_|refine rNil ?_|refine kNo ?_|refine pRow ?_|refine pBlock ?_|refine pSkip ?_|refine pExit ?_|refine pRet ?_|refine pCond ?_|refine gNone ?_))
    refine pLoop (MW.head good (fun i : Nat => fa.length - i) (fun i => i ≤ fa.length ∧ fa.take i = fb.take i) (fun i => [(0, .slice W fa.length cw), (1, .slice V fb.length cv), (12, .int .i64 fa.length), (13, .int .i64 i)]) (fun i => s) 0 ⟨Nat.zero_le _, rfl⟩ (Wk.same ⟨rfl, rfl, rfl, rfl, trivial⟩) ?_)
    intro i ⟨h1, h2⟩
    (repeat(first|refine pSeq ?_|refine pReg ?_|refine sCons ?_|refine sNil ?_|refine rCons ?_|refine rNil ?_|refine kNo ?_|refine pRow ?_|refine pBlock ?_|refine pSkip ?_|refine pExit ?_|refine pRet ?_|refine pCond ?_|refine gNone ?_))
    intro q hq
    by_cases hlt : i < fa.length
    · obtain rfl : q = true := by rw [hq]; simp; omega
      obtain ⟨f, hf⟩ : ∃ f, fa[i]? = some f := ⟨_, List.getElem?_eq_getElem hlt⟩
      obtain ⟨g, hg⟩ : ∃ f, fb[i]? = some f := ⟨_, List.getElem?_eq_getElem (by omega)⟩
      obtain ⟨b1, cs1, t1, g1, r1, hW1, hb1', hcs1⟩ := ha.at (fun e => by rw [e] at hlt; simp at hlt)
      obtain ⟨b2, cs2, t2, g2, r2, hW2, hb2', hcs2⟩ := hb.at (fun e => by rw [e] at x1; simp at x1; rw [x1] at hlt; simp at hlt)
      subst hW1 hW2
      (repeat(first|refine pSeq ?_|refine pReg ?_|refine sCons ?_|refine sNil ?_|refine rCons ?_|refine rNil ?_|refine kNo ?_|refine pRow ?_|refine pBlock ?_|refine pSkip ?_|refine pExit ?_|refine pRet ?_|refine pCond ?_|refine gNone ?_))
      refine ⟨by omega, ?_⟩
      intro m hm o ho
      obtain rfl : m = i := by omega
      (repeat(first|refine pSeq ?_|refine pReg ?_|refine sCons ?_|refine sNil ?_|refine rCons ?_|refine rNil ?_|refine kNo ?_|refine pRow ?_|refine pBlock ?_|refine pSkip ?_|refine pExit ?_|refine pRet ?_|refine pCond ?_|refine gNone ?_))
      refine ldS_is (l := f) rfl hb1' (by rw [ho, Nat.zero_add, Nat.mul_one]; exact hcs1 m f hf) ?_
      (repeat(first|refine pSeq ?_|refine pReg ?_|refine sCons ?_|refine sNil ?_|refine rCons ?_|refine rNil ?_|refine kNo ?_|refine pRow ?_|refine pBlock ?_|refine pSkip ?_|refine pExit ?_|refine pRet ?_|refine pCond ?_|refine gNone ?_))
      refine ⟨by omega, ?_⟩
      intro m2 hm2 o2 ho2
      obtain rfl : m2 = m := by omega
      (repeat(first|refine pSeq ?_|refine pReg ?_|refine sCons ?_|refine sNil ?_|refine rCons ?_|refine rNil ?_|refine kNo ?_|refine pRow ?_|refine pBlock ?_|refine pSkip ?_|refine pExit ?_|refine pRet ?_|refine pCond ?_|refine gNone ?_))
      refine ldS_is (l := g) rfl hb2' (by rw [ho2, Nat.zero_add, Nat.mul_one]; exact hcs2 m2 g hg) ?_
      (repeat(first|refine pSeq ?_|refine pReg ?_|refine sCons ?_|refine sNil ?_|refine rCons ?_|refine rNil ?_|refine kNo ?_|refine pRow ?_|refine pBlock ?_|refine pSkip ?_|refine pExit ?_|refine pRet ?_|refine pCond ?_|refine gNone ?_))
      intro q hq
      by_cases x4 : f = g
      · obtain rfl : q = false := by rw [hq, x4]; simp
        (repeat(first|refine pSeq ?_|refine pReg ?_|refine sCons ?_|refine sNil ?_|refine rCons ?_|refine rNil ?_|refine kNo ?_|refine pRow ?_|refine pBlock ?_|refine pSkip ?_|refine pExit ?_|refine pRet ?_|refine pCond ?_|refine gNone ?_))
        intro z hz
        rw [i64_id (by omega)] at hz
        obtain rfl : z = ((m2 + 1 : Nat) : Int) := by omega
        (repeat(first|refine pSeq ?_|refine pReg ?_|refine sCons ?_|refine sNil ?_|refine rCons ?_|refine rNil ?_|refine kNo ?_|refine pRow ?_|refine pBlock ?_|refine pSkip ?_|refine pExit ?_|refine pRet ?_|refine pCond ?_|refine gNone ?_))
        exact ⟨m2 + 1, ⟨hlt, by rw [take_next hf, take_next hg, h2, x4]⟩, by show fa.length - (m2 + 1) < fa.length - m2; omega, Wk.same ⟨rfl, rfl, rfl, rfl, trivial⟩⟩
      · obtain rfl : q = true := by rw [hq]; simp [x4]
        (repeat(first|refine pSeq ?_|refine pReg ?_|refine sCons ?_|refine sNil ?_|refine rCons ?_|refine rNil ?_|refine kNo ?_|refine pRow ?_|refine pBlock ?_|refine pSkip ?_|refine pExit ?_|refine pRet ?_|refine pCond ?_|refine gNone ?_))
        refine ⟨bool_eq (decide_eq_false (fun e => x4 ?_)).symm, rfl⟩
        rw [e, hg] at hf
        exact (Option.some.inj hf).symm
    · obtain rfl : q = false := by rw [hq]; simp; omega
      rw [List.take_of_length_le (by omega), List.take_of_length_le (by omega)] at h2
      (repeat(first|refine pSeq ?_|refine pReg ?_|refine sCons ?_|refine sNil ?_|refine rCons ?_|refine rNil ?_|refine kNo ?_|refine pRow ?_|refine pBlock ?_|refine pSkip ?_|refine pExit ?_|refine pRet ?_|refine pCond ?_|refine gNone ?_))
      exact ⟨bool_eq (decide_eq_true h2).symm, rfl⟩
  · obtain rfl : q = true := by rw [hq]; simp; omega
    (repeat(first|refine pSeq ?_|refine pReg ?_|refine sCons ?_|refine sNil ?_|refine rCons ?_|refine rNil ?_|refine kNo ?_|refine pRow ?_|refine pBlock ?_|refine pSkip ?_|refine pExit ?_|refine pRet ?_|refine pCond ?_|refine gNone ?_))
    exact ⟨bool_eq (decide_eq_false (fun e => x1 (congrArg List.length e))).symm, rfl⟩

theorem find_next {fs : List Fld} {i : Nat} {f : Fld} {n : List UInt8} (h : fs[i]? = some f) : findF (fs.take (i + 1)) n = findF (fs.take i) n ++ (if isNamed n f = true then [f.v] else []) := by
  unfold findF
  rw [take_next h, List.filter_append, List.map_append]
  congr 1
  cases hn : isNamed n f <;> simp [hn]
theorem find_le (fs : List Fld) (n : List UInt8) : (findF fs n).length ≤ fs.length := by
  unfold findF
  rw [List.length_map]
  exact List.length_filter_le _ _

structure FiI where
  i : Nat
  W : Option Addr
  cw : Nat
  s : SS

end Go.Vf.S
end
/- HdQ -/
section
/- Fields of a name, gone through: Find, Count. -/
namespace Go.Vf.S
open Go Go.Vf Go.Proofs Go.RowKit
attribute [local irreducible] wSeq wRow wp wG
set_option linter.unusedVariables false
set_option linter.unusedSimpArgs false
set_option maxRecDepth 10000

theorem named_w {s : SS} {m : Msg} {W : Option Addr} {cw : Nat} {nm : List UInt8} : CallW pr n_head_Message_named [msV m W cw, str nm] s fun v s' => v = .func (.func n_head_Message_named_1) #[] #[.pointer (some ⟨s.next, 0, none⟩), .pointer (some ⟨s.next + 1, 0, none⟩)] ∧
    lookH s'.heap s.next = some (.cells (msC m W cw) tMs false false) ∧ lookH s'.heap (s.next + 1) = some (.cells [str nm] tS false false) ∧ Chg s s' [] ∧ s'.next = s.next + 2 := by
  refine CallW.run good ok_head_Message_named (by simp) rfl ?_
  (repeat(first|refine pSeq ?_|refine pReg ?_|refine sCons ?_|refine sNil ?_|refine pRet ?_|refine gNone ?_))
  refine ⟨.val (.func (.func n_head_Message_named_1) #[] #[.pointer (some ⟨s.next, 0, none⟩), .pointer (some ⟨s.next + 1, 0, none⟩)]), rfl, ?_⟩
  (repeat(first|refine pSeq ?_|refine pReg ?_|refine sCons ?_|refine sNil ?_|refine pRet ?_|refine gNone ?_))
  exact ⟨rfl, lkT (by show s.next + 1 ≠ s.next; omega) lkH, lkH, (Chg.new []).nil (Chg.new []), rfl⟩

structure NmI where
  i : Nat
  s : SS

set_option maxHeartbeats 1000000 in
theorem fields1_w {Inv : Nat → SS → Prop} {lo bm bn : Nat} {s : SS} {m : Msg} {Wa : Option Addr} {cw : Nat} {nm : List UInt8} (hbm : lookH s.heap bm = some (.cells (msC m Wa cw) tMs false false)) (hbn : lookH s.heap bn = some (.cells [str nm] tS false false)) (hlm : bm < s.next) (hln : bn < s.next)
    (h : FsRd s Wa m.fs) (hn : m.fs.length ≤ 100000) (hl : nm.length ≤ 100000) (hf : ∀ f ∈ m.fs, f.n.length ≤ 100000) (hI : Inv 0 s) (hst : ∀ i s s', Inv i s → Chg s s' [] → Inv i s') (hskip : ∀ i f s, m.fs[i]? = some f → isNamed nm f = false → Inv i s → Inv (i + 1) s)
    (hY : ∀ i f s1, m.fs[i]? = some f → isNamed nm f = true → Inv i s1 → YieldW pr lo [flV f] s1 fun v s' => v = .bool true ∧ Inv (i + 1) s' ∧ ∃ Z, Chg s1 s' Z ∧ bm ∉ Z ∧ bn ∉ Z ∧ ∀ id ∈ blkOf Wa, id ∉ Z) :
    CallW pr n_head_Message_named_1 [.func (.yield lo) #[] #[], .pointer (some ⟨bm, 0, none⟩), .pointer (some ⟨bn, 0, none⟩)] s fun v s' => Inv m.fs.length s' := by
  obtain ⟨fs, bd, ea⟩ := m
  dsimp only at h hn hf hskip hY ⊢
  refine CallW.pieces (nt := 24) (res := []) (c := .seq code_HN_R0 (.block 0 (.loop (.seq code_HN_RA (.seq code_HN_CD (.seq (.block 1 (.seq code_HN_Rl (.seq (.region 3 ops_HN_Y3 false) code_HN_CE))) code_HN_RT)))))) (by kernel_rfl) (by kernel_rfl) (by kernel_rfl) (by kernel_rfl) (by simp) ?_
  refine W.seq (comp_ok good ok_HN_R0 (Box.out (p := wp pr 24 s.next _ _ _ _) ?_))
  (repeat(first|refine pReg ?_|refine sCons ?_|refine sNil ?_|refine pSkip ?_|refine pExit ?_|refine pRet ?_|refine pCond ?_|refine gNone ?_|refine gOn rfl ?_|refine gOff rfl rfl ?_|refine gTup rfl ?_))
  refine ld1_is rfl hbm rfl ?_
  (repeat(first|refine pReg ?_|refine sCons ?_|refine sNil ?_|refine pSkip ?_|refine pExit ?_|refine pRet ?_|refine pCond ?_|refine gNone ?_|refine gOn rfl ?_|refine gOff rfl rfl ?_|refine gTup rfl ?_))
  refine W.block (W.loop (k := s.next) (fun x : NmI => fs.length - x.i) (fun x => x.i ≤ fs.length ∧ Inv x.i x.s ∧ lookH x.s.heap bm = some (.cells (msC ⟨fs, bd, ea⟩ Wa cw) tMs false false) ∧ lookH x.s.heap bn = some (.cells [str nm] tS false false) ∧ bm < x.s.next ∧ bn < x.s.next ∧ FsRd x.s Wa fs)
    (fun x => [(0, .func (.yield lo) #[] #[]), (1, .pointer (some ⟨bm, 0, none⟩)), (2, .pointer (some ⟨bn, 0, none⟩)), (7, .slice Wa fs.length cw), (8, .int .i64 fs.length), (9, .int .i64 x.i)]) (fun x => x.s) ⟨0, s⟩ ⟨Nat.zero_le _, hI, hbm, hbn, hlm, hln, h⟩ (Wk.same ⟨rfl, rfl, rfl, rfl, rfl, rfl, trivial⟩) ?_)
  rintro ⟨i, s1⟩ ⟨i1, i2, i3, i4, i5, i6, i7⟩
  dsimp only at i1 i2 i3 i4 i5 i6 i7 ⊢
  refine W.seq (comp_ok good ok_HN_RA (Box.out (p := wp pr 24 s.next _ _ _ _) ?_))
  (repeat(first|refine pReg ?_|refine sCons ?_|refine sNil ?_|refine pSkip ?_|refine pExit ?_|refine pRet ?_|refine pCond ?_|refine gNone ?_|refine gOn rfl ?_|refine gOff rfl rfl ?_|refine gTup rfl ?_))
  intro q hq
  (repeat(first|refine pReg ?_|refine sCons ?_|refine sNil ?_|refine pSkip ?_|refine pExit ?_|refine pRet ?_|refine pCond ?_|refine gNone ?_|refine gOn rfl ?_|refine gOff rfl rfl ?_|refine gTup rfl ?_))
  refine W.seq (comp_ok good ok_HN_CD (Box.out (p := wp pr 24 s.next _ _ _ _) ?_))
  by_cases hlt : i < fs.length
  · obtain rfl : q = true := by rw [hq]; simp; omega
    obtain ⟨f, hfi⟩ : ∃ f, fs[i]? = some f := ⟨_, List.getElem?_eq_getElem hlt⟩
    obtain ⟨b, cs, t, g, r, tl, hW, hb, hcs⟩ := i7.at (fun e => by rw [e] at hlt; simp at hlt)
    subst hW
    have hfn := hf f (List.mem_of_getElem? hfi)
    (repeat(first|refine pReg ?_|refine sCons ?_|refine sNil ?_|refine pSkip ?_|refine pExit ?_|refine pRet ?_|refine pCond ?_|refine gNone ?_|refine gOn rfl ?_|refine gOff rfl rfl ?_|refine gTup rfl ?_))
    refine W.seq (W.block (W.seq (comp_ok good ok_HN_Rl (Box.out (p := wp pr 24 s.next _ _ _ _) ?_))))
    (repeat(first|refine pReg ?_|refine sCons ?_|refine sNil ?_|refine pSkip ?_|refine pExit ?_|refine pRet ?_|refine pCond ?_|refine gNone ?_|refine gOn rfl ?_|refine gOff rfl rfl ?_|refine gTup rfl ?_))
    refine ⟨by omega, ?_⟩
    intro m hm o ho
    obtain rfl : m = i := by omega
    (repeat(first|refine pReg ?_|refine sCons ?_|refine sNil ?_|refine pSkip ?_|refine pExit ?_|refine pRet ?_|refine pCond ?_|refine gNone ?_|refine gOn rfl ?_|refine gOff rfl rfl ?_|refine gTup rfl ?_))
    refine ldN_is (new := flC f) rfl hb (by rw [ho, Nat.zero_add]; exact fsC_take hcs hfi) ?_
    (repeat(first|refine pReg ?_|refine sCons ?_|refine sNil ?_|refine pSkip ?_|refine pExit ?_|refine pRet ?_|refine pCond ?_|refine gNone ?_|refine gOn rfl ?_|refine gOff rfl rfl ?_|refine gTup rfl ?_))
    refine st_abs (cs' := flC f) rfl rfl lkH (Nat.lt_succ_self _) rfl rfl fun s2 e2 c2 n2 => ?_
    have c12 : Chg s1 s2 [] := (Chg.new []).fresh c2 (by simp)
    have e2 : lookH s2.heap s1.next = some (.cells (flC f) tFl false false) := e2
    have n2 : s2.next = s1.next + 1 := n2
    have j3 := c12.blk _ _ i5 (by simp) i3
    have j4 := c12.blk _ _ i6 (by simp) i4
    have j7 := i7.chg c12 (by simp)
    (repeat(first|refine pReg ?_|refine sCons ?_|refine sNil ?_|refine pSkip ?_|refine pExit ?_|refine pRet ?_|refine pCond ?_|refine gNone ?_|refine gOn rfl ?_|refine gOff rfl rfl ?_|refine gTup rfl ?_))
    refine W.seq (k := s.next) (W.regY2 (z := ⟨7, some (17, true), some 20, 18, [19]⟩) good (by kernel_rfl) ok_HN_Y3a ok_HN_Y3b ?_)
    (repeat(first|refine pReg ?_|refine sCons ?_|refine sNil ?_|refine pSkip ?_|refine pExit ?_|refine pRet ?_|refine pCond ?_|refine gNone ?_|refine gOn rfl ?_|refine gOff rfl rfl ?_|refine gTup rfl ?_))
    refine ldS_is (l := f.n) rfl e2 rfl ?_
    (repeat(first|refine pReg ?_|refine sCons ?_|refine sNil ?_|refine pSkip ?_|refine pExit ?_|refine pRet ?_|refine pCond ?_|refine gNone ?_|refine gOn rfl ?_|refine gOff rfl rfl ?_|refine gTup rfl ?_))
    refine ldS_is (l := nm) rfl j4 rfl ?_
    (repeat(first|refine pReg ?_|refine sCons ?_|refine sNil ?_|refine pSkip ?_|refine pExit ?_|refine pRet ?_|refine pCond ?_|refine gNone ?_|refine gOn rfl ?_|refine gOff rfl rfl ?_|refine gTup rfl ?_))
    refine (same_w (l := f.n) (t := nm) (by omega) (by omega)).mono fun v s3 q => ?_
    obtain ⟨rfl, c3⟩ := q
    have c13 := c12.nil c3
    have k3 := c3.blk _ _ (by omega) (by simp) j3
    have k4 := c3.blk _ _ (by omega) (by simp) j4
    have k7 := j7.chg c3 (by simp)
    have e3 := c3.blk _ _ (by omega) (by simp) e2
    have hI3 := hst _ _ _ i2 c13
    have m3 := c3.next
    have eq : decide (f.n.map lowB = nm.map lowB) = isNamed nm f := rfl
    rw [eq]
    cases hnm : isNamed nm f
    · (repeat(first|refine pReg ?_|refine sCons ?_|refine sNil ?_|refine pSkip ?_|refine pExit ?_|refine pRet ?_|refine pCond ?_|refine gNone ?_|refine gOn rfl ?_|refine gOff rfl rfl ?_|refine gTup rfl ?_))
      refine comp_ok good ok_HN_CE (Box.out (p := wp pr 24 s.next _ _ _ _) ?_)
      (repeat(first|refine pReg ?_|refine sCons ?_|refine sNil ?_|refine pSkip ?_|refine pExit ?_|refine pRet ?_|refine pCond ?_|refine gNone ?_|refine gOn rfl ?_|refine gOff rfl rfl ?_|refine gTup rfl ?_))
      refine comp_ok good ok_HN_RT (Box.out (p := wp pr 24 s.next _ _ _ _) ?_)
      (repeat(first|refine pReg ?_|refine sCons ?_|refine sNil ?_|refine pSkip ?_|refine pExit ?_|refine pRet ?_|refine pCond ?_|refine gNone ?_|refine gOn rfl ?_|refine gOff rfl rfl ?_|refine gTup rfl ?_))
      intro z hz
      rw [i64_id (by omega)] at hz
      obtain rfl : z = ((m + 1 : Nat) : Int) := by omega
      (repeat(first|refine pReg ?_|refine sCons ?_|refine sNil ?_|refine pSkip ?_|refine pExit ?_|refine pRet ?_|refine pCond ?_|refine gNone ?_|refine gOn rfl ?_|refine gOff rfl rfl ?_|refine gTup rfl ?_))
      exact ⟨⟨m + 1, s3⟩, ⟨hlt, hskip _ f _ hfi hnm hI3, k3, k4, by dsimp only; omega, by dsimp only; omega, k7⟩, by show fs.length - (m + 1) < fs.length - m; omega, Wk.same ⟨rfl, rfl, rfl, rfl, rfl, rfl, trivial⟩⟩
    · (repeat(first|refine pReg ?_|refine sCons ?_|refine sNil ?_|refine pSkip ?_|refine pExit ?_|refine pRet ?_|refine pCond ?_|refine gNone ?_|refine gOn rfl ?_|refine gOff rfl rfl ?_|refine gTup rfl ?_))
      refine ldN_is (new := flC f) rfl e3 agg3 ?_
      (repeat(first|refine pReg ?_|refine sCons ?_|refine sNil ?_|refine pSkip ?_|refine pExit ?_|refine pRet ?_|refine pCond ?_|refine gNone ?_|refine gOn rfl ?_|refine gOff rfl rfl ?_|refine gTup rfl ?_))
      refine ⟨lo, _, rfl, rfl, ?_⟩
      refine (hY m f s3 hfi hnm hI3).mono fun v s4 q => ?_
      obtain ⟨rfl, hI4, Z, c4, z1, z2, z3⟩ := q
      (repeat(first|refine pReg ?_|refine sCons ?_|refine sNil ?_|refine pSkip ?_|refine pExit ?_|refine pRet ?_|refine pCond ?_|refine gNone ?_|refine gOn rfl ?_|refine gOff rfl rfl ?_|refine gTup rfl ?_))
      intro q hq
      obtain rfl : q = false := hq
      (repeat(first|refine pReg ?_|refine sCons ?_|refine sNil ?_|refine pSkip ?_|refine pExit ?_|refine pRet ?_|refine pCond ?_|refine gNone ?_|refine gOn rfl ?_|refine gOff rfl rfl ?_|refine gTup rfl ?_))
      refine comp_ok good ok_HN_CE (Box.out (p := wp pr 24 s.next _ _ _ _) ?_)
      (repeat(first|refine pReg ?_|refine sCons ?_|refine sNil ?_|refine pSkip ?_|refine pExit ?_|refine pRet ?_|refine pCond ?_|refine gNone ?_|refine gOn rfl ?_|refine gOff rfl rfl ?_|refine gTup rfl ?_))
      refine comp_ok good ok_HN_RT (Box.out (p := wp pr 24 s.next _ _ _ _) ?_)
      (repeat(first|refine pReg ?_|refine sCons ?_|refine sNil ?_|refine pSkip ?_|refine pExit ?_|refine pRet ?_|refine pCond ?_|refine gNone ?_|refine gOn rfl ?_|refine gOff rfl rfl ?_|refine gTup rfl ?_))
      intro z hz
      rw [i64_id (by omega)] at hz
      obtain rfl : z = ((m + 1 : Nat) : Int) := by omega
      (repeat(first|refine pReg ?_|refine sCons ?_|refine sNil ?_|refine pSkip ?_|refine pExit ?_|refine pRet ?_|refine pCond ?_|refine gNone ?_|refine gOn rfl ?_|refine gOff rfl rfl ?_|refine gTup rfl ?_))
      have m4 := c4.next
      exact ⟨⟨m + 1, s4⟩, ⟨hlt, hI4, c4.blk _ _ (by omega) z1 k3, c4.blk _ _ (by omega) z2 k4, by dsimp only; omega, by dsimp only; omega, k7.chg c4 z3⟩, by show fs.length - (m + 1) < fs.length - m; omega, Wk.same ⟨rfl, rfl, rfl, rfl, rfl, rfl, trivial⟩⟩
  · obtain rfl : q = false := by rw [hq]; simp; omega
    obtain rfl : i = fs.length := by omega
    (repeat(first|refine pReg ?_|refine sCons ?_|refine sNil ?_|refine pSkip ?_|refine pExit ?_|refine pRet ?_|refine pCond ?_|refine gNone ?_|refine gOn rfl ?_|refine gOff rfl rfl ?_|refine gTup rfl ?_))
    exact i2

/-! ### Count -/

abbrev tI8 : TypeId := 3
noncomputable abbrev hcR (T : TL) : ALoop := loop0 13 T #[9] code_HC_A3 code_HC_BD
structure HcI (fs : List Fld) (nm : List UInt8) (lo cl : Nat) (r : ALoop) (s0 : SS) (i : Nat) (s : SS) : Prop where
  chg : Chg s0 s []
  lp : lookH s.heap lo = some (.loop r)
  lt : lo < s.next
  cell : lookH s.heap cl = some (.cells [.int .i64 (findF (fs.take i) nm).length] tI8 false false)

theorem hcRound_w {fs : List Fld} {nm : List UInt8} {lo cl : Nat} {T : TL} {s0 s1 : SS} {i : Nat} {f : Fld} (hT : look T 5 = some (.pointer (some ⟨cl, 0, none⟩))) (hI : HcI fs nm lo cl (hcR T) s0 i s1) (hfi : fs[i]? = some f) (hnm : isNamed nm f = true) (hn : fs.length ≤ 100000)
    (h0 : s0.next ≤ lo) (h1 : s0.next ≤ cl) (hc : cl < lo) : YieldW pr lo [flV f] s1 fun v s' => v = .bool true ∧ HcI fs nm lo cl (hcR T) s0 (i + 1) s' ∧ Chg s1 s' [lo, cl] := by
  have hlt := hI.lt
  have hnx := find_next (n := nm) hfi
  rw [hnm, if_pos rfl] at hnx
  have hle := find_le (fs.take i) nm
  rw [List.length_take] at hle
  refine YieldW.round (k := s1.next) hI.lp rfl rfl rfl (by simp [loop0]) ?_
  refine comp_ok good ok_HC_A3 (Box.out (p := wp pr 13 s1.next _ _ _ _) ?_)
  (repeat(first|refine pReg ?_|refine sCons ?_|refine sNil ?_|refine pBlock ?_|refine pSkip ?_|refine gNone ?_))
  refine ⟨rfl, hI.lp, ?_⟩
  have c1 := turn_chg (r := { hcR T with state := .busy }) hI.lt
  have lp1 : lookH (s1.loop lo { hcR T with state := .busy }).heap lo = some (.loop { hcR T with state := .busy }) := lkH
  have cl1 := c1.blk _ _ (by omega) (by simp; omega) hI.cell
  have n1 : (s1.loop lo { hcR T with state := .busy }).next = s1.next := rfl
  show W pr 13 s1.next code_HC_BD _ (s1.loop lo { hcR T with state := .busy }) _
  generalize s1.loop lo { hcR T with state := .busy } = s2 at c1 lp1 cl1 n1 ⊢
  refine comp_ok good ok_HC_BD (Box.out (p := wp pr 13 s1.next _ _ _ _) ?_)
  (repeat(first|refine pReg ?_|refine sCons ?_|refine sNil ?_|refine pBlock ?_|refine pSkip ?_|refine gNone ?_))
  refine ldI_is hT cl1 rfl ?_
  (repeat(first|refine pReg ?_|refine sCons ?_|refine sNil ?_|refine pBlock ?_|refine pSkip ?_|refine gNone ?_))
  intro z hz
  rw [i64_id (by omega)] at hz
  (repeat(first|refine pReg ?_|refine sCons ?_|refine sNil ?_|refine pBlock ?_|refine pSkip ?_|refine gNone ?_))
  refine st_abs (cs' := [.int .i64 (findF (fs.take (i + 1)) nm).length]) hT rfl cl1 (by omega) rfl (by rw [hz, hnx, List.length_append]; rfl) fun s3 e3 c3 n3 => ?_
  have lp3 := c3.blk _ _ (by omega) (by simp; omega) lp1
  (repeat(first|refine pReg ?_|refine sCons ?_|refine sNil ?_|refine pBlock ?_|refine pSkip ?_|refine gNone ?_))
  have c4 := turn_chg (s := s3) (l := lo) (r := hcR T) (by omega)
  have c14 : Chg s1 (s3.loop lo (hcR T)) [lo, cl] := (c1.trans' c3 (C := [lo, cl]) (fun id q _ => by simp at q; simp [q]) (fun id q _ => by simp at q; simp [q])).trans' c4 (fun id q _ => q) (fun id q _ => by simp at q; simp [q])
  exact ⟨lp3, rfl, ⟨hI.chg.fresh c14 (by simp; omega), lkH, by show lo < s3.next; omega, c4.blk _ _ (by omega) (by simp; omega) e3⟩, c14⟩

set_option maxHeartbeats 1000000 in
theorem count7_w {s : SS} {m : Msg} {Wa : Option Addr} {cw : Nat} {nm : List UInt8} (h : FsRd s Wa m.fs) (hn : m.fs.length ≤ 100000) (hl : nm.length ≤ 100000) (hf : ∀ f ∈ m.fs, f.n.length ≤ 100000) (hW : ∀ id ∈ blkOf Wa, id < s.next) :
    CallW pr n_head_Message_Count [msV m Wa cw, str nm] s fun v s' => v = .int .i64 (findF m.fs nm).length ∧ Chg s s' [] := by
  refine CallW.pieces0 (nt := 13) (res := [.tmp 4]) (c := .seq code_HC_R0 (.seq code_HC_R1 (.seq (.seq code_HC_R2 (.block 0 (.rangeFunc (.tmp 8) #[9] code_HC_A3 code_HC_BD))) code_HC_TL))) (by kernel_rfl) (by kernel_rfl) (by kernel_rfl) (by kernel_rfl) (by simp) ?_
  refine W0.seq (W0.of (comp_ok good ok_HC_R0 (Box.out (p := wp pr 13 s.next _ _ _ _) ?_)))
  have c1 : Chg s ({ s with heap := (s.next, some (.cells (msC m Wa cw) tMs false false)) :: s.heap, next := s.next + 1 } : SS) [] := .new []
  have k1 : lookH ({ s with heap := (s.next, some (.cells (msC m Wa cw) tMs false false)) :: s.heap, next := s.next + 1 } : SS).heap s.next = some (.cells (msC m Wa cw) tMs false false) := lkH
  (repeat(first|refine pSeq ?_|refine pReg ?_|refine sCons ?_|refine sNil ?_|refine pRet ?_|refine gNone ?_))
  refine W0.seq (W0.of (comp_ok good ok_HC_R1 (Box.out (p := wp pr 13 s.next _ _ _ _) ?_)))
  (repeat(first|refine pSeq ?_|refine pReg ?_|refine sCons ?_|refine sNil ?_|refine pRet ?_|refine gNone ?_))
  refine st_abs (cs' := [.int .i64 0]) rfl rfl lkH (Nat.lt_succ_self _) rfl rfl fun s2 e2 c2 n2 => ?_
  have c02 : Chg s s2 [] := c1.nil ((Chg.new (b := .cells [.int .i64 0] tI8 false false) []).fresh c2 (by simp))
  have k2 : lookH s2.heap s.next = some (.cells (msC m Wa cw) tMs false false) := ((Chg.new (b := .cells [.int .i64 0] tI8 false false) []).fresh c2 (by simp)).blk _ _ (Nat.lt_succ_self _) (by simp) k1
  have e2 : lookH s2.heap (s.next + 1) = some (.cells [.int .i64 0] tI8 false false) := e2
  have n2 : s2.next = s.next + 2 := n2
  (repeat(first|refine pSeq ?_|refine pReg ?_|refine sCons ?_|refine sNil ?_|refine pRet ?_|refine gNone ?_))
  refine W0.seq (W0.seq (W0.of (comp_ok good ok_HC_R2 (Box.out (p := wp pr 13 s.next _ _ _ _) ?_))))
  (repeat(first|refine pSeq ?_|refine pReg ?_|refine sCons ?_|refine sNil ?_|refine pRet ?_|refine gNone ?_))
  refine ldN_is (new := msC m Wa cw) rfl k2 agm3 ?_
  (repeat(first|refine pSeq ?_|refine pReg ?_|refine sCons ?_|refine sNil ?_|refine pRet ?_|refine gNone ?_))
  refine (named_w (m := m)).mono fun v s3 q => ?_
  obtain ⟨rfl, b3, bn3, c3, n3⟩ := q
  have e3 := c3.blk _ _ (by omega) (by simp) e2
  (repeat(first|refine pSeq ?_|refine pReg ?_|refine sCons ?_|refine sNil ?_|refine pRet ?_|refine gNone ?_))
  refine W0.block (W0.weak (k := s.next) (T' := [(5, .pointer (some ⟨s.next + 1, 0, none⟩)), (8, .func (.func n_head_Message_named_1) #[] #[.pointer (some ⟨s2.next, 0, none⟩), .pointer (some ⟨s2.next + 1, 0, none⟩)])]) (s' := s3) (Wk.same ⟨rfl, rfl, trivial⟩) (W0.range good (f := n_head_Message_named_1) (first := #[]) (captured := #[.pointer (some ⟨s2.next, 0, none⟩), .pointer (some ⟨s2.next + 1, 0, none⟩)]) rfl (by kernel_rfl) ?_))
  generalize hTT : [(5, Value.pointer (some ⟨s.next + 1, 0, none⟩)), (8, Value.func (.func n_head_Message_named_1) #[] #[.pointer (some ⟨s2.next, 0, none⟩), .pointer (some ⟨s2.next + 1, 0, none⟩)])] = TT at *
  have c4 : Chg s3 ({ s3 with heap := (s3.next, some (.loop (hcR TT))) :: s3.heap, next := s3.next + 1 } : SS) [] := .new []
  have e4 : lookH ({ s3 with heap := (s3.next, some (.loop (hcR TT))) :: s3.heap, next := s3.next + 1 } : SS).heap s3.next = some (.loop (hcR TT)) := lkH
  have n4 : ({ s3 with heap := (s3.next, some (.loop (hcR TT))) :: s3.heap, next := s3.next + 1 } : SS).next = s3.next + 1 := rfl
  generalize ({ s3 with heap := (s3.next, some (.loop (hcR TT))) :: s3.heap, next := s3.next + 1 } : SS) = s4 at c4 e4 n4 ⊢
  have c04 : Chg s s4 [] := (c02.nil c3).nil c4
  refine (fields1_w (Inv := HcI m.fs nm s3.next (s.next + 1) (hcR TT) s) (lo := s3.next) (bm := s2.next) (bn := s2.next + 1) (s := s4) (m := m) (Wa := Wa) (cw := cw) (nm := nm) (c4.blk _ _ (by omega) (by simp) b3) (c4.blk _ _ (by omega) (by simp) bn3) (by omega) (by omega) (h.chg c04 (by simp)) hn hl hf
    ⟨c04, e4, by omega, c4.blk _ _ (by omega) (by simp) e3⟩ ?_ ?_ ?_).mono fun v s5 hI => ?_
  · rintro i a b ⟨h1, h2, h3, h4⟩ c
    exact ⟨h1.nil c, c.blk _ _ h3 (by simp) h2, Nat.lt_of_lt_of_le h3 c.next, c.blk _ _ (by omega) (by simp) h4⟩
  · rintro i f a hfi hnm ⟨h1, h2, h3, h4⟩
    refine ⟨h1, h2, h3, ?_⟩
    rw [find_next hfi, hnm, if_neg (by simp), List.append_nil]
    exact h4
  · intro i f sx hfi hnm hI
    refine (hcRound_w (by rw [← hTT]; rfl) hI hfi hnm hn (by omega) (by omega) (by omega)).mono fun v sy q => ?_
    obtain ⟨rfl, q1, q2⟩ := q
    exact ⟨rfl, q1, _, q2, by simp; omega, by simp; omega, fun id hid q => by
      have := hW id hid
      simp at q
      omega⟩
  · refine ⟨_, .normal, hI.lp, by simp [loop0], rfl, ?_⟩
    have c5 := turn_chg (r := { hcR TT with state := .exhausted }) hI.lt
    have k5 := c5.blk _ _ (by have := hI.lt; omega) (by simp; omega) hI.cell
    have c05 := hI.chg.fresh c5 (by simp; omega)
    rw [List.take_length] at k5
    show W0 pr 13 code_HC_TL _ (s5.loop s3.next { hcR TT with state := .exhausted }) _
    generalize s5.loop s3.next { hcR TT with state := .exhausted } = s6 at c5 k5 c05 ⊢
    refine W0.of (comp_ok good ok_HC_TL (Box.out (p := wp pr 13 s.next _ _ _ _) ?_))
    subst hTT
    (repeat(first|refine pSeq ?_|refine pReg ?_|refine sCons ?_|refine sNil ?_|refine pRet ?_|refine gNone ?_))
    refine ldI_is rfl k5 rfl ?_
    (repeat(first|refine pSeq ?_|refine pReg ?_|refine sCons ?_|refine sNil ?_|refine pRet ?_|refine gNone ?_))
    exact ⟨rfl, c05⟩
end Go.Vf.S
end
/- HdR -/
section
/- Fields of a name, found. -/
namespace Go.Vf.S
open Go Go.Vf Go.Proofs Go.RowKit
attribute [local irreducible] wSeq wRow wp wG
set_option linter.unusedVariables false
set_option linter.unusedSimpArgs false
set_option maxRecDepth 10000

abbrev tLs : TypeId := 52
noncomputable abbrev hiR (T : TL) : ALoop := loop0 17 T #[10] code_HI_A3 code_HI_BD
structure HiI (fs : List Fld) (nm : List UInt8) (lo cl : Nat) (r : ALoop) (s0 : SS) (i : Nat) (s : SS) : Prop where
  chg : Chg s0 s []
  lp : lookH s.heap lo = some (.loop r)
  lt : lo < s.next
  cell : ∃ V cv, lookH s.heap cl = some (.cells [.slice V (findF (fs.take i) nm).length cv] tLs false false) ∧ OwnR tS s V cv (findF (fs.take i) nm).length (strV (findF (fs.take i) nm)) ∧ ∀ id ∈ blkOf V, lo < id

theorem own_loop {t : TypeId} {s : SS} {V : Option Addr} {cv n lo : Nat} {cs : List Value} {r : ALoop} (h : OwnR t s V cv n cs) (hl : lookH s.heap lo = some (.loop r)) : ∀ id ∈ blkOf V, id ≠ lo := fun id hid e => by
  obtain ⟨g, hg⟩ := h.at id hid
  rw [e, hl] at hg
  cases hg

set_option maxHeartbeats 1000000 in
theorem hiRound_w {fs : List Fld} {nm : List UInt8} {lo cl : Nat} {T : TL} {s0 s1 : SS} {i : Nat} {f : Fld} (hT : look T 5 = some (.pointer (some ⟨cl, 0, none⟩))) (hI : HiI fs nm lo cl (hiR T) s0 i s1) (hfi : fs[i]? = some f) (hnm : isNamed nm f = true) (hn : fs.length ≤ 100000)
    (h0 : s0.next ≤ lo) (h1 : s0.next ≤ cl) (hc : cl < lo) : YieldW pr lo [flV f] s1 fun v s' => v = .bool true ∧ HiI fs nm lo cl (hiR T) s0 (i + 1) s' ∧ ∃ Z, Chg s1 s' Z ∧ ∀ id ∈ Z, id = cl ∨ lo ≤ id := by
  have hlt := hI.lt
  have hnx := find_next (n := nm) hfi
  rw [hnm, if_pos rfl] at hnx
  have hle := find_le (fs.take i) nm
  rw [List.length_take] at hle
  obtain ⟨V, cv, k1, o1, v1⟩ := hI.cell
  have hVlo := own_loop o1 hI.lp
  have hVcl : ∀ id ∈ blkOf V, id ≠ cl := fun id hid => by
    obtain ⟨g, hg⟩ := o1.at id hid
    exact tyNe hg k1 (by decide)
  refine YieldW.round (k := s1.next) hI.lp rfl rfl rfl (by simp [loop0]) ?_
  refine comp_ok good ok_HI_A3 (Box.out (p := wp pr 17 s1.next _ _ _ _) ?_)
  (repeat(first|refine pReg ?_|refine sCons ?_|refine sNil ?_|refine pBlock ?_|refine gNone ?_))
  refine st_abs (cs' := flC f) rfl rfl lkH (Nat.lt_succ_self _) rfl rfl fun s2 e2 c2 n2 => ?_
  have c12 : Chg s1 s2 [] := (Chg.new []).fresh c2 (by simp)
  have e2 : lookH s2.heap s1.next = some (.cells (flC f) tFl false false) := e2
  have n2 : s2.next = s1.next + 1 := n2
  have lp2 := c12.blk _ _ hlt (by simp) hI.lp
  have k2 := c12.blk _ _ (by omega) (by simp) k1
  have o2 := o1.chg c12 (by simp)
  (repeat(first|refine pReg ?_|refine sCons ?_|refine sNil ?_|refine pBlock ?_|refine gNone ?_))
  refine ⟨rfl, lp2, ?_⟩
  have c3 := turn_chg (s := s2) (l := lo) (r := { hiR T with state := .busy }) (by omega)
  have lp3 : lookH (s2.loop lo { hiR T with state := .busy }).heap lo = some (.loop { hiR T with state := .busy }) := lkH
  have k3 := c3.blk _ _ (by omega) (by simp; omega) k2
  have e3 := c3.blk _ _ (by omega) (by simp; omega) e2
  have o3 := o2.chg c3 (fun id hid q => hVlo id hid (by simpa using q))
  have n3 : (s2.loop lo { hiR T with state := .busy }).next = s2.next := rfl
  show W pr 17 s1.next code_HI_BD _ (s2.loop lo { hiR T with state := .busy }) _
  generalize s2.loop lo { hiR T with state := .busy } = s3 at c3 lp3 k3 e3 o3 n3 ⊢
  refine comp_ok good ok_HI_BD (Box.out (p := wp pr 17 s1.next _ _ _ _) ?_)
  (repeat(first|refine pReg ?_|refine sCons ?_|refine sNil ?_|refine pBlock ?_|refine gNone ?_))
  refine ld1_is hT k3 rfl ?_
  (repeat(first|refine pReg ?_|refine sCons ?_|refine sNil ?_|refine pBlock ?_|refine gNone ?_))
  refine ldS_is (l := f.v) rfl e3 rfl ?_
  (repeat(first|refine pReg ?_|refine sCons ?_|refine sNil ?_|refine pBlock ?_|refine gNone ?_))
  refine appR (o3.chg (.new []) (by simp)) (by rw [strV_len, Nat.mul_one]) ⟨by omega, by omega⟩ rfl rfl lkH rfl rfl fun s4 r4 c4 n4 => ?_
  have c34 : Chg s3 s4 (blkOf V) := (Chg.new (b := .cells [str f.v] tS false false) []).trans' c4 (fun id q _ => by simp at q) (fun id q _ => q)
  have n4 : s4.next = s3.next + 2 := n4
  have k4 := c34.blk _ _ (by omega) (fun q => hVcl _ q rfl) k3
  have lp4 := c34.blk _ _ (by omega) (fun q => hVlo _ q rfl) lp3
  (repeat(first|refine pReg ?_|refine sCons ?_|refine sNil ?_|refine pBlock ?_|refine gNone ?_))
  refine st_abs (cs' := [.slice (some ⟨s3.next + 1, 0, none⟩) ((findF (fs.take i) nm).length + 1) 0]) hT rfl k4 (by omega) rfl rfl fun s5 e5 c5 n5 => ?_
  have lp5 := c5.blk _ _ (by omega) (by simp; omega) lp4
  (repeat(first|refine pReg ?_|refine sCons ?_|refine sNil ?_|refine pBlock ?_|refine gNone ?_))
  have c6 := turn_chg (s := s5) (l := lo) (r := hiR T) (by omega)
  have cA : Chg s1 (s5.loop lo (hiR T)) (lo :: cl :: blkOf V) := ((((c12.trans c3).trans c34).trans c5).trans c6).sub (fun id q _ => by
    simp only [List.mem_append, List.mem_cons, List.not_mem_nil, or_false, false_or] at q ⊢
    rcases q with ((rfl | q) | rfl) | rfl <;> simp_all)
  refine ⟨lp5, rfl, ⟨hI.chg.fresh cA (fun id q => ?_), lkH, by show lo < s5.next; omega, some ⟨s3.next + 1, 0, none⟩, 0, ?_, ?_, by simp [blkOf]; omega⟩, _, cA, fun id q => ?_⟩
  · simp only [List.mem_cons] at q
    rcases q with rfl | rfl | q
    · exact h0
    · exact h1
    · have := v1 id q; omega
  · have := c6.blk _ _ (by omega) (by simp; omega) e5
    rw [hnx, List.length_append]
    exact this
  · rw [hnx, List.length_append]
    have := (r4.chg c5 (fun id q r => by simp only [blkOf, List.mem_singleton] at q r; omega)).chg c6 (fun id q r => by simp only [blkOf, List.mem_singleton] at q r; omega)
    simp only [strV, List.map_append]
    exact this
  · simp only [List.mem_cons] at q
    rcases q with rfl | rfl | q
    · exact .inr (Nat.le_refl _)
    · exact .inl rfl
    · exact .inr (Nat.le_of_lt (v1 id q))

set_option maxHeartbeats 1000000 in
theorem hfind_w {s : SS} {m : Msg} {Wa : Option Addr} {cw : Nat} {nm : List UInt8} (h : FsRd s Wa m.fs) (hn : m.fs.length ≤ 100000) (hl : nm.length ≤ 100000) (hf : ∀ f ∈ m.fs, f.n.length ≤ 100000) (hW : ∀ id ∈ blkOf Wa, id < s.next) :
    CallW pr n_head_Message_Find [msV m Wa cw, str nm] s fun v s' => ∃ V cv, v = .slice V (findF m.fs nm).length cv ∧ OwnR tS s' V cv (findF m.fs nm).length (strV (findF m.fs nm)) ∧ Chg s s' [] ∧ ∀ id ∈ blkOf V, s.next ≤ id := by
  refine CallW.pieces0 (nt := 17) (res := [.tmp 4]) (c := .seq code_HI_R0 (.seq code_HI_R1 (.seq (.seq code_HI_R2 (.block 0 (.rangeFunc (.tmp 9) #[10] code_HI_A3 code_HI_BD))) code_HI_TL))) (by kernel_rfl) (by kernel_rfl) (by kernel_rfl) (by kernel_rfl) (by simp) ?_
  refine W0.seq (W0.of (comp_ok good ok_HI_R0 (Box.out (p := wp pr 17 s.next _ _ _ _) ?_)))
  have c1 : Chg s ({ s with heap := (s.next, some (.cells (msC m Wa cw) tMs false false)) :: s.heap, next := s.next + 1 } : SS) [] := .new []
  have k1 : lookH ({ s with heap := (s.next, some (.cells (msC m Wa cw) tMs false false)) :: s.heap, next := s.next + 1 } : SS).heap s.next = some (.cells (msC m Wa cw) tMs false false) := lkH
  (repeat(first|refine pSeq ?_|refine pReg ?_|refine sCons ?_|refine sNil ?_|refine pRet ?_|refine gNone ?_))
  refine W0.seq (W0.of (comp_ok good ok_HI_R1 (Box.out (p := wp pr 17 s.next _ _ _ _) ?_)))
  (repeat(first|refine pSeq ?_|refine pReg ?_|refine sCons ?_|refine sNil ?_|refine pRet ?_|refine gNone ?_))
  obtain ⟨s2, hs2⟩ : ∃ s2 : SS, s2 = { s with heap := (s.next + 1, some (.cells [.slice none 0 0] tLs false false)) :: (s.next, some (.cells (msC m Wa cw) tMs false false)) :: s.heap, next := s.next + 1 + 1 } := ⟨_, rfl⟩
  have c02 : Chg s s2 [] := by rw [hs2]; exact c1.nil (Chg.new [])
  have k2 : lookH s2.heap s.next = some (.cells (msC m Wa cw) tMs false false) := by rw [hs2]; exact lkT (by omega) lkH
  have e2 : lookH s2.heap (s.next + 1) = some (.cells [.slice none 0 0] tLs false false) := by rw [hs2]; exact lkH
  have n2 : s2.next = s.next + 2 := by rw [hs2]
  refine W0.weak (k := s.next) (T' := [(1, str nm), (2, .pointer (some ⟨s.next, 0, none⟩)), (5, .pointer (some ⟨s.next + 1, 0, none⟩))]) (s' := s2) (by subst hs2; exact Wk.same ⟨rfl, rfl, rfl, trivial⟩) ?_
  clear hs2 c1 k1
  refine W0.seq (W0.seq (W0.of (comp_ok good ok_HI_R2 (Box.out (p := wp pr 17 s.next _ _ _ _) ?_))))
  (repeat(first|refine pSeq ?_|refine pReg ?_|refine sCons ?_|refine sNil ?_|refine pRet ?_|refine gNone ?_))
  refine ldN_is (new := msC m Wa cw) rfl k2 agm3 ?_
  (repeat(first|refine pSeq ?_|refine pReg ?_|refine sCons ?_|refine sNil ?_|refine pRet ?_|refine gNone ?_))
  refine (named_w (m := m)).mono fun v s3 q => ?_
  obtain ⟨rfl, b3, bn3, c3, n3⟩ := q
  have e3 := c3.blk _ _ (by omega) (by simp) e2
  (repeat(first|refine pSeq ?_|refine pReg ?_|refine sCons ?_|refine sNil ?_|refine pRet ?_|refine gNone ?_))
  refine W0.block (W0.weak (k := s.next) (T' := [(5, .pointer (some ⟨s.next + 1, 0, none⟩)), (9, .func (.func n_head_Message_named_1) #[] #[.pointer (some ⟨s2.next, 0, none⟩), .pointer (some ⟨s2.next + 1, 0, none⟩)])]) (s' := s3) (Wk.same ⟨rfl, rfl, trivial⟩) (W0.range good (f := n_head_Message_named_1) (first := #[]) (captured := #[.pointer (some ⟨s2.next, 0, none⟩), .pointer (some ⟨s2.next + 1, 0, none⟩)]) rfl (by kernel_rfl) ?_))
  generalize hTT : [(5, Value.pointer (some ⟨s.next + 1, 0, none⟩)), (9, Value.func (.func n_head_Message_named_1) #[] #[.pointer (some ⟨s2.next, 0, none⟩), .pointer (some ⟨s2.next + 1, 0, none⟩)])] = TT at *
  have c4 : Chg s3 ({ s3 with heap := (s3.next, some (.loop (hiR TT))) :: s3.heap, next := s3.next + 1 } : SS) [] := .new []
  have e4 : lookH ({ s3 with heap := (s3.next, some (.loop (hiR TT))) :: s3.heap, next := s3.next + 1 } : SS).heap s3.next = some (.loop (hiR TT)) := lkH
  have n4 : ({ s3 with heap := (s3.next, some (.loop (hiR TT))) :: s3.heap, next := s3.next + 1 } : SS).next = s3.next + 1 := rfl
  generalize ({ s3 with heap := (s3.next, some (.loop (hiR TT))) :: s3.heap, next := s3.next + 1 } : SS) = s4 at c4 e4 n4 ⊢
  have c04 : Chg s s4 [] := (c02.nil c3).nil c4
  refine (fields1_w (Inv := HiI m.fs nm s3.next (s.next + 1) (hiR TT) s) (lo := s3.next) (bm := s2.next) (bn := s2.next + 1) (s := s4) (m := m) (Wa := Wa) (cw := cw) (nm := nm) (c4.blk _ _ (by omega) (by simp) b3) (c4.blk _ _ (by omega) (by simp) bn3) (by omega) (by omega) (h.chg c04 (by simp)) hn hl hf
    ⟨c04, e4, by omega, none, 0, c4.blk _ _ (by omega) (by simp) e3, ⟨rfl, rfl, rfl⟩, by simp [blkOf]⟩ ?_ ?_ ?_).mono fun v s5 hI => ?_
  · rintro i a b ⟨h1, h2, h3, V, cv, h4, h5, h6⟩ c
    exact ⟨h1.nil c, c.blk _ _ h3 (by simp) h2, Nat.lt_of_lt_of_le h3 c.next, V, cv, c.blk _ _ (by omega) (by simp) h4, h5.chg c (by simp), h6⟩
  · rintro i f a hfi hnm ⟨h1, h2, h3, V, cv, h4⟩
    refine ⟨h1, h2, h3, V, cv, ?_⟩
    rw [find_next hfi, hnm, if_neg (by simp), List.append_nil]
    exact h4
  · intro i f sx hfi hnm hI
    refine (hiRound_w (by rw [← hTT]; rfl) hI hfi hnm hn (by omega) (by omega) (by omega)).mono fun v sy q => ?_
    obtain ⟨rfl, q1, Z, q2, q3⟩ := q
    exact ⟨rfl, q1, Z, q2, fun q => by have := q3 _ q; omega, fun q => by have := q3 _ q; omega, fun id hid q => by
      have := hW id hid
      have := q3 _ q
      omega⟩
  · refine ⟨_, .normal, hI.lp, by simp [loop0], rfl, ?_⟩
    obtain ⟨V, cv, k5, o5, v5⟩ := hI.cell
    have c5 := turn_chg (r := { hiR TT with state := .exhausted }) hI.lt
    have k6 := c5.blk _ _ (by have := hI.lt; omega) (by simp; omega) k5
    have o6 := o5.chg c5 (fun id hid q => own_loop o5 hI.lp id hid (by simpa using q))
    have c05 := hI.chg.fresh c5 (by simp; omega)
    rw [List.take_length] at k6 o6
    show W0 pr 17 code_HI_TL _ (s5.loop s3.next { hiR TT with state := .exhausted }) _
    generalize s5.loop s3.next { hiR TT with state := .exhausted } = s6 at c5 k6 o6 c05 ⊢
    refine W0.of (comp_ok good ok_HI_TL (Box.out (p := wp pr 17 s.next _ _ _ _) ?_))
    subst hTT
    (repeat(first|refine pSeq ?_|refine pReg ?_|refine sCons ?_|refine sNil ?_|refine pRet ?_|refine gNone ?_))
    refine ld1_is rfl k6 rfl ?_
    (repeat(first|refine pSeq ?_|refine pReg ?_|refine sCons ?_|refine sNil ?_|refine pRet ?_|refine gNone ?_))
    exact ⟨V, cv, rfl, o6, c05, fun id hid => by have := v5 id hid; omega⟩
end Go.Vf.S
end
/- HdS -/
section
/- Few fields, of few bytes. -/
namespace Go.Vf.S
open Go Go.Vf Go.Proofs Go.RowKit
attribute [local irreducible] wSeq wRow wp wG
set_option linter.unusedVariables false
set_option linter.unusedSimpArgs false
set_option maxRecDepth 10000

def fewFl (f : Fld) : Fld := ⟨f.n.take 300, f.v.take 300, f.r.take 300⟩
def fewFs (fs : List Fld) : List Fld := (fs.take 20).map fewFl
def fewM (m : Msg) : Msg := ⟨fewFs m.fs, m.b.take 600, m.e⟩

theorem take_few {l g : List UInt8} {k m : Nat} {n z : Int} (hg : g = (l.drop 0).take (k - 0)) (hn : n = (l.length : Int)) (hz : z = min n (m : Int)) (hk : (k : Int) = z) : g = l.take m := by
  rw [hg, List.drop_zero, Nat.sub_zero]
  by_cases h : l.length ≤ m
  · rw [List.take_of_length_le (by omega), List.take_of_length_le h]
  · rw [show k = m by omega]

theorem few_next {fs : List Fld} {i : Nat} {f : Fld} (h : fs[i]? = some f) : fewFs (fs.take (i + 1)) = if i < 20 then fewFs (fs.take i) ++ [fewFl f] else fewFs (fs.take i) := by
  have hi := lt_of_get h
  unfold fewFs
  by_cases hlt : i < 20
  · have hl : (fs.take i).length = i := by rw [List.length_take]; omega
    rw [if_pos hlt, take_next h, List.take_of_length_le (l := fs.take i ++ [f]) (by rw [List.length_append, hl]; simp; omega), List.map_append, List.take_of_length_le (l := fs.take i) (by omega)]
    rfl
  · rw [if_neg hlt, List.take_take, List.take_take, show min 20 (i + 1) = 20 by omega, show min 20 i = 20 by omega]
theorem few_many (fs : List Fld) : (fewFs fs).length ≤ 20 := by unfold fewFs; rw [List.length_map, List.length_take]; omega

theorem allocR {P : Program} {T : TL} {s : SS} {K : RR → Prop} {e : TypeId} {z : List Value} (h : K (.new (.cells z e false false) fun id => .pointer (some ⟨id, 0, none⟩))) : wN P (.alloc e z) T s K := by
  simp only [wN]
  exact h

end Go.Vf.S
end
/- HdT -/
section
/- The law HeadTells, from any state. -/
namespace Go.Vf.S
open Go Go.Vf Go.Proofs Go.RowKit
attribute [local irreducible] wSeq wRow wp wG
set_option linter.unusedVariables false
set_option linter.unusedSimpArgs false
set_option maxRecDepth 10000

theorem txt_bound {k : Nat} : ∀ (fs : List Fld), (∀ f ∈ fs, f.r.length ≤ k) → (txtF fs).length ≤ fs.length * k
  | [], _ => by simp [txtF]
  | f :: fs, h => by
    have ih := txt_bound fs fun g hg => h g (by simp [hg])
    have := h f (by simp)
    unfold txtF at ih ⊢
    rw [List.flatMap_cons, List.length_append, List.length_cons, Nat.succ_mul]
    omega
theorem few_each {fs : List Fld} : ∀ f ∈ fewFs fs, f.n.length ≤ 300 ∧ f.v.length ≤ 300 ∧ f.r.length ≤ 300 := fun f hf => by
  obtain ⟨g, -, rfl⟩ := List.mem_map.1 hf
  simp only [fewFl, List.length_take]
  omega
theorem few_text (m : Msg) : (textM (fewM m)).length ≤ 10000 := by
  have h1 := txt_bound (k := 300) (fewFs m.fs) fun f hf => (few_each f hf).2.2
  have h2 := few_many m.fs
  have h3 : (fewFs m.fs).length * 300 ≤ 20 * 300 := Nat.mul_le_mul_right _ h2
  show (txtF (fewFs m.fs) ++ if m.e = true then [] else 13 :: 10 :: m.b.take 600).length ≤ 10000
  rw [List.length_append]
  have : (if m.e = true then ([] : List UInt8) else 13 :: 10 :: m.b.take 600).length ≤ 602 := by
    split
    · simp
    · simp only [List.length_cons, List.length_take]; omega
  omega
end Go.Vf.S
end

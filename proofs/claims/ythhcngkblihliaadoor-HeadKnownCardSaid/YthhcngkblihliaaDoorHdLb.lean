import Derived.Test.YthhcngkblihliaaDoorHdLa
import Derived.Test.YthhcngkblihliaaDoorBnI
/- Fields put together: slices.Grow, slices.Concat of rows of fields. -/
namespace Go.Vf.S
open Go Go.Vf Go.Proofs Go.RowKit
attribute [local irreducible] wSeq wRow wp wG
set_option linter.unusedVariables false
set_option linter.unusedSimpArgs false
set_option maxRecDepth 10000

/-- Fields that a slice reads, wherever it begins. -/
def FsP (s : SS) (W : Option Addr) (fs : List Fld) : Prop := match W with
  | none => fs = []
  | some ⟨b, off, sp⟩ => sp = none ∧ b < s.next ∧ ∃ cs t g r, lookH s.heap b = some (.cells cs t g r) ∧ takeN (fs.length * 3) (cs.drop off) = some (fsC fs)
theorem FsP.chg {s s' : SS} {W : Option Addr} {fs : List Fld} {A : List Nat} (h : FsP s W fs) (c : Chg s s' A) (hA : ∀ id ∈ blkOf W, id ∉ A) : FsP s' W fs := by
  cases W with
  | none => exact h
  | some a =>
    obtain ⟨b, off, sp⟩ := a
    obtain ⟨h2, h3, cs, t, g, r, h4, h5⟩ := h
    exact ⟨h2, Nat.lt_of_lt_of_le h3 c.next, cs, t, g, r, c.blk _ _ h3 (hA b (by simp [blkOf])) h4, h5⟩
theorem FsP.lt {s : SS} {W : Option Addr} {fs : List Fld} (h : FsP s W fs) : ∀ id ∈ blkOf W, id < s.next := by
  cases W with
  | none => simp [blkOf]
  | some a =>
    obtain ⟨b, off, sp⟩ := a
    intro id hid
    simp only [blkOf, List.mem_singleton] at hid
    subst hid
    exact h.2.1
/-- A row that grows, with room laid behind it. -/
def FsC (s : SS) (W : Option Addr) (fs : List Fld) : Prop := ∃ b tl, W = some ⟨b, 0, none⟩ ∧ b < s.next ∧ lookH s.heap b = some (.cells (fsC fs ++ tl) tFl true false) ∧ (fs ≠ [] → tl = [])
theorem FsC.own {s : SS} {W : Option Addr} {fs : List Fld} (h : FsC s W fs) (hn : fs ≠ []) : FsO s W 0 fs := by
  obtain ⟨b, tl, rfl, h2, h3, h4⟩ := h
  have := h4 hn
  subst this
  exact ⟨rfl, rfl, h2, true, by rw [List.append_nil] at h3; exact h3, fun q => by cases q⟩
theorem FsC.chg {s s' : SS} {W : Option Addr} {fs : List Fld} {A : List Nat} (h : FsC s W fs) (c : Chg s s' A) (hA : ∀ id ∈ blkOf W, id ∉ A) : FsC s' W fs := by
  obtain ⟨b, tl, rfl, h2, h3, h4⟩ := h
  exact ⟨b, tl, rfl, Nat.lt_of_lt_of_le h2 c.next, c.blk _ _ h2 (hA b (by simp [blkOf])) h3, h4⟩
theorem all1_fsC : ∀ fs : List Fld, all1 (fsC fs) = true
  | [] => rfl
  | f :: fs => by
    have ih := all1_fsC fs
    unfold fsC at ih ⊢
    rw [List.flatMap_cons]
    show all1 (_ :: _ :: _ :: _) = true
    exact ih
theorem appP {T : TL} {s : SS} {x y : Operand} {K : RR → Prop} {W V : Option Addr} {c n k : Nat} {fs gs : List Fld} (h : FsC s W fs) (hg : FsP s V gs) (hl : fs.length + gs.length ≤ 1000000) (hx : opd T s.gl x = some (.slice W n 0)) (hn : n = fs.length) (hy : opd T s.gl y = some (.slice V k c)) (hk : k = gs.length)
    (h0 : gs = [] → K (.val (.slice W n 0))) (h1 : gs ≠ [] → ∀ s' : SS, FsC s' (some ⟨s.next, 0, none⟩) (fs ++ gs) → Chg s s' (blkOf W) → s'.next = s.next + 1 → K (.eff (.slice (some ⟨s.next, 0, none⟩) (n + k) 0) s')) : wN pr (.app tFl 3 48 x y) T s K := by
  obtain ⟨b, tl, rfl, h2, h3, h4⟩ := h
  subst hn hk
  have old : takeN (fs.length * 3) ((fsC fs ++ tl).drop 0) = some (fsC fs) := by
    rw [List.drop_zero, takeN_take _ _ (by rw [List.length_append, fsC_len]; omega), List.take_left' (fsC_len fs)]
  have main : ∀ new : List Value, new = fsC gs → wAppB s tFl 3 48 (some ⟨b, 0, none⟩) fs.length 0 gs.length new K := by
    intro new hnew
    subst hnew
    refine ⟨⟨by omega, by omega, fsC_len gs, all1_fsC gs⟩, ?_⟩
    simp only [h3]
    refine ⟨fun q => h0 (List.length_eq_zero_iff.1 q), fun q => ⟨trivial, trivial, _, old, fun m l' hm' hl' => ?_⟩⟩
    subst hm'; subst hl'
    refine h1 (fun e => by rw [e] at q; simp at q) _ ⟨s.next, [], rfl, Nat.lt_succ_self _, ?_, fun _ => rfl⟩ .new2 rfl
    rw [List.append_nil, fsC_app]
    exact lkH
  cases V with
  | none =>
    obtain rfl : gs = [] := hg
    simp only [wN, hx, hy, wSrc]
    exact main [] rfl
  | some a =>
    obtain ⟨b2, off, sp⟩ := a
    obtain ⟨rfl, g2, cs, t, g, r, g4, g5⟩ := hg
    simp only [wN, hx, hy, wSrc, g4]
    exact ⟨_, g5, main _ rfl⟩

theorem repeat_flZ : ∀ n : Nat, repeatL n (flC flZ) = fsC (List.replicate n flZ)
  | 0 => rfl
  | n + 1 => by
    show flC flZ ++ repeatL n (flC flZ) = _
    rw [repeat_flZ n, List.replicate_succ]
    rfl

set_option maxHeartbeats 1000000 in
theorem grow_w {s : SS} {k : Nat} (h1 : 1 ≤ k) (hk : k ≤ 1000000) : CallW pr n_slices_Grow_head_Field_head_Field [.slice none 0 0, .int .i64 k] s fun u s' => ∃ W, u = .slice W 0 0 ∧ FsC s' W [] ∧ Chg s s' [] ∧ ∀ id ∈ blkOf W, s.next ≤ id := by
  refine CallW.run good ok_slices_Grow_head_Field_head_Field (by simp) rfl ?_
  (repeat(first|refine pSeq ?_|refine pReg ?_|refine sCons ?_|refine sNil ?_|refine pSkip ?_|refine pRet ?_|refine pCond ?_|refine gNone ?_))
  intro q hq
  obtain rfl : q = false := by rw [hq]; simp
  (repeat(first|refine pSeq ?_|refine pReg ?_|refine sCons ?_|refine sNil ?_|refine pSkip ?_|refine pRet ?_|refine pCond ?_|refine gNone ?_))
  refine ⟨.val (.int .i64 0), rfl, ?_⟩
  (repeat(first|refine pSeq ?_|refine pReg ?_|refine sCons ?_|refine sNil ?_|refine pSkip ?_|refine pRet ?_|refine pCond ?_|refine gNone ?_))
  intro z hz
  rw [i64_id (by simp)] at hz
  obtain rfl : z = 0 := by rw [hz]; rfl
  (repeat(first|refine pSeq ?_|refine pReg ?_|refine sCons ?_|refine sNil ?_|refine pSkip ?_|refine pRet ?_|refine pCond ?_|refine gNone ?_))
  intro z hz
  rw [i64_id (by omega)] at hz
  obtain rfl : z = (k : Int) := by omega
  (repeat(first|refine pSeq ?_|refine pReg ?_|refine sCons ?_|refine sNil ?_|refine pSkip ?_|refine pRet ?_|refine pCond ?_|refine gNone ?_))
  intro q hq
  obtain rfl : q = true := by rw [hq]; simp; omega
  (repeat(first|refine pSeq ?_|refine pReg ?_|refine sCons ?_|refine sNil ?_|refine pSkip ?_|refine pRet ?_|refine pCond ?_|refine gNone ?_))
  refine ⟨.val (.int .i64 0), rfl, ?_⟩
  (repeat(first|refine pSeq ?_|refine pReg ?_|refine sCons ?_|refine sNil ?_|refine pSkip ?_|refine pRet ?_|refine pCond ?_|refine gNone ?_))
  refine slL_front (n := 0) (m := 0) rfl rfl rfl (Nat.le_refl _) (fun _ => rfl) (fun a q => by cases q) ?_
  (repeat(first|refine pSeq ?_|refine pReg ?_|refine sCons ?_|refine sNil ?_|refine pSkip ?_|refine pRet ?_|refine pCond ?_|refine gNone ?_))
  refine ⟨by omega, ?_⟩
  intro n hn new hnew
  obtain rfl : n = k := by omega
  have en : new = fsC (List.replicate n flZ) := hnew.trans (repeat_flZ n)
  refine ⟨⟨by omega, by omega, by rw [en, fsC_len, List.length_replicate], by rw [en]; exact all1_fsC _⟩, fun q => by omega, fun _ => ⟨rfl, fun m hm => ?_⟩⟩
  subst hm
  (repeat(first|refine pSeq ?_|refine pReg ?_|refine sCons ?_|refine sNil ?_|refine pSkip ?_|refine pRet ?_|refine pCond ?_|refine gNone ?_))
  refine slL_front (m := 0) rfl rfl rfl (Nat.zero_le _) (fun q => by cases q) (fun a q => by cases q; exact ⟨rfl, _, _, _, lkH, sz_Fl⟩) ?_
  (repeat(first|refine pSeq ?_|refine pReg ?_|refine sCons ?_|refine sNil ?_|refine pSkip ?_|refine pRet ?_|refine pCond ?_|refine gNone ?_))
  exact ⟨_, rfl, ⟨s.next, new, rfl, Nat.lt_succ_self _, lkH, fun q => absurd rfl q⟩, .new _, by simp [blkOf]⟩

structure CcI where
  i : Nat
  W : Option Addr
  s : SS
abbrev Prt := Option Addr × Nat × List Fld
def prC (ps : List Prt) : List Value := ps.map fun p => .slice p.1 p.2.2.length p.2.1
def prF (ps : List Prt) : List Fld := ps.flatMap fun p => p.2.2
theorem prF_next {ps : List Prt} {i : Nat} {p : Prt} (h : ps[i]? = some p) : prF (ps.take (i + 1)) = prF (ps.take i) ++ p.2.2 := by
  unfold prF
  rw [take_next h, List.flatMap_append]
  simp
theorem prF_le (ps : List Prt) (i : Nat) : (prF (ps.take i)).length ≤ (prF ps).length := by
  have := congrArg (fun x => (prF x).length) (List.take_append_drop i ps)
  simp only [prF, List.flatMap_append, List.length_append] at this
  unfold prF
  omega
theorem prC_len (ps : List Prt) : (prC ps).length = ps.length := by simp [prC]
theorem prC_at {ps : List Prt} {i : Nat} {p : Prt} (h : ps[i]? = some p) : (prC ps)[i]? = some (.slice p.1 p.2.2.length p.2.1) := by
  unfold prC
  rw [List.getElem?_map, h]
  rfl

set_option maxHeartbeats 2000000 in
theorem concat_w {s : SS} {b cw : Nat} {t : TypeId} {g r : Bool} {ps : List Prt} (hb : lookH s.heap b = some (.cells (prC ps) t g r)) (hlt : b < s.next) (hp : ∀ p ∈ ps, FsP s p.1 p.2.2) (h1 : prF ps ≠ []) (hk : (prF ps).length ≤ 1000000) (hm : ps.length ≤ 1000) :
    CallW pr n_slices_Concat_head_Field_head_Field [.slice (some ⟨b, 0, none⟩) ps.length cw] s fun u s' => ∃ W, u = .slice W (prF ps).length 0 ∧ FsO s' W 0 (prF ps) ∧ Chg s s' [] ∧ ∀ id ∈ blkOf W, s.next ≤ id := by
  refine CallW.run good ok_slices_Concat_head_Field_head_Field (by simp) rfl ?_
  (repeat(first|refine pSeq ?_|refine pReg ?_|refine sCons ?_|refine sNil ?_|refine pBlock ?_|refine pSkip ?_|refine pExit ?_|refine pRet ?_|refine pCond ?_|refine gNone ?_))
  refine pLoop (MW.head good (fun i : Nat => ps.length - i) (fun i => i ≤ ps.length) (fun i => [(0, .slice (some ⟨b, 0, none⟩) ps.length cw), (3, .int .i64 (prF (ps.take i)).length), (9, .slice (some ⟨b, 0, none⟩) ps.length cw), (10, .int .i64 ps.length), (11, .int .i64 i)]) (fun i => s) 0 (Nat.zero_le _) (Wk.same ⟨rfl, rfl, rfl, rfl, rfl, trivial⟩) ?_)
  intro i hi
  (repeat(first|refine pSeq ?_|refine pReg ?_|refine sCons ?_|refine sNil ?_|refine pBlock ?_|refine pSkip ?_|refine pExit ?_|refine pRet ?_|refine pCond ?_|refine gNone ?_))
  intro q hq
  by_cases hlt1 : i < ps.length
  · obtain rfl : q = true := by rw [hq]; simp; omega
    obtain ⟨p, hpi⟩ : ∃ p, ps[i]? = some p := ⟨_, List.getElem?_eq_getElem hlt1⟩
    have hnx := prF_next hpi
    have hle := prF_le ps (i + 1)
    rw [hnx, List.length_append] at hle
    (repeat(first|refine pSeq ?_|refine pReg ?_|refine sCons ?_|refine sNil ?_|refine pBlock ?_|refine pSkip ?_|refine pExit ?_|refine pRet ?_|refine pCond ?_|refine gNone ?_))
    refine ⟨by omega, ?_⟩
    intro m hm o ho
    obtain rfl : m = i := by omega
    (repeat(first|refine pSeq ?_|refine pReg ?_|refine sCons ?_|refine sNil ?_|refine pBlock ?_|refine pSkip ?_|refine pExit ?_|refine pRet ?_|refine pCond ?_|refine gNone ?_))
    refine ld1_is rfl hb (by rw [ho, Nat.zero_add, Nat.mul_one]; exact prC_at hpi) ?_
    (repeat(first|refine pSeq ?_|refine pReg ?_|refine sCons ?_|refine sNil ?_|refine pBlock ?_|refine pSkip ?_|refine pExit ?_|refine pRet ?_|refine pCond ?_|refine gNone ?_))
    intro z hz
    rw [i64_id (by omega)] at hz
    obtain rfl : z = ((prF (ps.take (m + 1))).length : Int) := by rw [hnx, List.length_append]; omega
    (repeat(first|refine pSeq ?_|refine pReg ?_|refine sCons ?_|refine sNil ?_|refine pBlock ?_|refine pSkip ?_|refine pExit ?_|refine pRet ?_|refine pCond ?_|refine gNone ?_))
    intro q hq
    obtain rfl : q = false := by rw [hq]; simp
    (repeat(first|refine pSeq ?_|refine pReg ?_|refine sCons ?_|refine sNil ?_|refine pBlock ?_|refine pSkip ?_|refine pExit ?_|refine pRet ?_|refine pCond ?_|refine gNone ?_))
    intro z hz
    rw [i64_id (by omega)] at hz
    obtain rfl : z = ((m + 1 : Nat) : Int) := by omega
    (repeat(first|refine pSeq ?_|refine pReg ?_|refine sCons ?_|refine sNil ?_|refine pBlock ?_|refine pSkip ?_|refine pExit ?_|refine pRet ?_|refine pCond ?_|refine gNone ?_))
    exact ⟨m + 1, hlt1, by show ps.length - (m + 1) < ps.length - m; omega, Wk.same ⟨rfl, rfl, rfl, rfl, rfl, trivial⟩⟩
  · obtain rfl : q = false := by rw [hq]; simp; omega
    have hall : ps.take i = ps := List.take_of_length_le (by omega)
    rw [hall]
    have hpos : 1 ≤ (prF ps).length := List.length_pos_iff.2 h1
    (repeat(first|refine pSeq ?_|refine pReg ?_|refine sCons ?_|refine sNil ?_|refine pBlock ?_|refine pSkip ?_|refine pExit ?_|refine pRet ?_|refine pCond ?_|refine gNone ?_))
    refine (grow_w hpos hk).mono fun u s1 q => ?_
    obtain ⟨W1, rfl, c1, d1, e1⟩ := q
    (repeat(first|refine pSeq ?_|refine pReg ?_|refine sCons ?_|refine sNil ?_|refine pBlock ?_|refine pSkip ?_|refine pExit ?_|refine pRet ?_|refine pCond ?_|refine gNone ?_))
    refine pLoop (MW.head good (fun x : CcI => ps.length - x.i) (fun x => x.i ≤ ps.length ∧ FsC x.s x.W (prF (ps.take x.i)) ∧ Chg s x.s [] ∧ (∀ id ∈ blkOf x.W, s.next ≤ id))
      (fun x => [(6, .slice x.W (prF (ps.take x.i)).length 0), (25, .slice (some ⟨b, 0, none⟩) ps.length cw), (26, .int .i64 ps.length), (27, .int .i64 x.i)]) (fun x => x.s) ⟨0, W1, s1⟩ ⟨Nat.zero_le _, c1, d1, e1⟩ (Wk.same ⟨rfl, rfl, rfl, rfl, trivial⟩) ?_)
    rintro ⟨i, V, s2⟩ ⟨i1, i2, i3, i4⟩
    dsimp only at i1 i2 i3 i4 ⊢
    (repeat(first|refine pSeq ?_|refine pReg ?_|refine sCons ?_|refine sNil ?_|refine pBlock ?_|refine pSkip ?_|refine pExit ?_|refine pRet ?_|refine pCond ?_|refine gNone ?_))
    intro q hq
    by_cases hlt2 : i < ps.length
    · obtain rfl : q = true := by rw [hq]; simp; omega
      obtain ⟨p, hpi⟩ : ∃ p, ps[i]? = some p := ⟨_, List.getElem?_eq_getElem hlt2⟩
      have hnx := prF_next hpi
      have hle := prF_le ps (i + 1)
      rw [hnx, List.length_append] at hle
      have hb2 := i3.blk _ _ hlt (by simp) hb
      have hp2 := (hp p (List.mem_of_getElem? hpi)).chg i3 (by simp)
      (repeat(first|refine pSeq ?_|refine pReg ?_|refine sCons ?_|refine sNil ?_|refine pBlock ?_|refine pSkip ?_|refine pExit ?_|refine pRet ?_|refine pCond ?_|refine gNone ?_))
      refine ⟨by omega, ?_⟩
      intro m hm o ho
      obtain rfl : m = i := by omega
      (repeat(first|refine pSeq ?_|refine pReg ?_|refine sCons ?_|refine sNil ?_|refine pBlock ?_|refine pSkip ?_|refine pExit ?_|refine pRet ?_|refine pCond ?_|refine gNone ?_))
      refine ld1_is rfl hb2 (by rw [ho, Nat.zero_add, Nat.mul_one]; exact prC_at hpi) ?_
      (repeat(first|refine pSeq ?_|refine pReg ?_|refine sCons ?_|refine sNil ?_|refine pBlock ?_|refine pSkip ?_|refine pExit ?_|refine pRet ?_|refine pCond ?_|refine gNone ?_))
      refine appP i2 hp2 (by omega) rfl rfl rfl rfl (fun e => ?_) fun ne s3 c3 d3 n3 => ?_
      · rw [e, List.append_nil] at hnx
        rw [← hnx] at i2
        (repeat(first|refine pSeq ?_|refine pReg ?_|refine sCons ?_|refine sNil ?_|refine pBlock ?_|refine pSkip ?_|refine pExit ?_|refine pRet ?_|refine pCond ?_|refine gNone ?_))
        intro z hz
        rw [i64_id (by omega)] at hz
        obtain rfl : z = ((m + 1 : Nat) : Int) := by omega
        (repeat(first|refine pSeq ?_|refine pReg ?_|refine sCons ?_|refine sNil ?_|refine pBlock ?_|refine pSkip ?_|refine pExit ?_|refine pRet ?_|refine pCond ?_|refine gNone ?_))
        exact ⟨⟨m + 1, V, s2⟩, ⟨hlt2, i2, i3, i4⟩, by show ps.length - (m + 1) < ps.length - m; omega, Wk.same ⟨by rw [hnx]; rfl, rfl, rfl, rfl, trivial⟩⟩
      · rw [← hnx] at c3
        (repeat(first|refine pSeq ?_|refine pReg ?_|refine sCons ?_|refine sNil ?_|refine pBlock ?_|refine pSkip ?_|refine pExit ?_|refine pRet ?_|refine pCond ?_|refine gNone ?_))
        intro z hz
        rw [i64_id (by omega)] at hz
        obtain rfl : z = ((m + 1 : Nat) : Int) := by omega
        (repeat(first|refine pSeq ?_|refine pReg ?_|refine sCons ?_|refine sNil ?_|refine pBlock ?_|refine pSkip ?_|refine pExit ?_|refine pRet ?_|refine pCond ?_|refine gNone ?_))
        refine ⟨⟨m + 1, some ⟨s2.next, 0, none⟩, s3⟩, ⟨hlt2, c3, i3.fresh d3 i4, ?_⟩, by show ps.length - (m + 1) < ps.length - m; omega, Wk.same ⟨by rw [hnx, List.length_append]; rfl, rfl, rfl, rfl, trivial⟩⟩
        intro id hid
        simp only [blkOf, List.mem_singleton] at hid
        have := i3.next
        omega
    · obtain rfl : q = false := by rw [hq]; simp; omega
      have hall : ps.take i = ps := List.take_of_length_le (by omega)
      rw [hall] at i2 ⊢
      (repeat(first|refine pSeq ?_|refine pReg ?_|refine sCons ?_|refine sNil ?_|refine pBlock ?_|refine pSkip ?_|refine pExit ?_|refine pRet ?_|refine pCond ?_|refine gNone ?_))
      exact ⟨V, rfl, i2.own h1, i3, i4⟩
end Go.Vf.S

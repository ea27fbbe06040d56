import Derived.Test.YthhcngkblihliaaDoorHdLa
import Derived.Test.YthhcngkblihliaaDoorBnI
/- Fields put together: slices.Grow, slices.Concat of rows of fields. -/
namespace Go.Vf.S
open Go Go.Vf Go.Proofs Go.RowKit
attribute [local irreducible] wSeq wRow wp wG
set_option linter.unusedVariables false
set_option linter.unusedSimpArgs false
set_option maxRecDepth 10000

/-- Fields that a slice reads, wherever it begins. -/
def FsP (s : SS) (W : Option Addr) (fs : List Fld) : Prop := match W with
  | none => fs = []
  | some ⟨b, off, sp⟩ => sp = none ∧ b < s.next ∧ ∃ cs t g r, lookH s.heap b = some (.cells cs t g r) ∧ takeN (fs.length * 3) (cs.drop off) = some (fsC fs)
theorem FsP.chg {s s' : SS} {W : Option Addr} {fs : List Fld} {A : List Nat} (h : FsP s W fs) (c : Chg s s' A) (hA : ∀ id ∈ blkOf W, id ∉ A) : FsP s' W fs := by
  cases W with
  | none => exact h
  | some a =>
    obtain ⟨b, off, sp⟩ := a
    obtain ⟨h2, h3, cs, t, g, r, h4, h5⟩ := h
    exact ⟨h2, Nat.lt_of_lt_of_le h3 c.next, cs, t, g, r, c.blk _ _ h3 (hA b (by simp [blkOf])) h4, h5⟩
theorem FsP.lt {s : SS} {W : Option Addr} {fs : List Fld} (h : FsP s W fs) : ∀ id ∈ blkOf W, id < s.next := by
  cases W with
  | none => simp [blkOf]
  | some a =>
    obtain ⟨b, off, sp⟩ := a
    intro id hid
    simp only [blkOf, List.mem_singleton] at hid
    subst hid
    exact h.2.1
/-- A row that grows, with room laid behind it. -/
def FsC (s : SS) (W : Option Addr) (fs : List Fld) : Prop := ∃ b tl, W = some ⟨b, 0, none⟩ ∧ b < s.next ∧ lookH s.heap b = some (.cells (fsC fs ++ tl) tFl true false) ∧ (fs ≠ [] → tl = [])
theorem FsC.own {s : SS} {W : Option Addr} {fs : List Fld} (h : FsC s W fs) (hn : fs ≠ []) : FsO s W 0 fs := by
  obtain ⟨b, tl, rfl, h2, h3, h4⟩ := h
  have := h4 hn
  subst this
  exact ⟨rfl, rfl, h2, true, by rw [List.append_nil] at h3; exact h3, fun q => by cases q⟩
theorem FsC.chg {s s' : SS} {W : Option Addr} {fs : List Fld} {A : List Nat} (h : FsC s W fs) (c : Chg s s' A) (hA : ∀ id ∈ blkOf W, id ∉ A) : FsC s' W fs := by
  obtain ⟨b, tl, rfl, h2, h3, h4⟩ := h
  exact ⟨b, tl, rfl, Nat.lt_of_lt_of_le h2 c.next, c.blk _ _ h2 (hA b (by simp [blkOf])) h3, h4⟩
theorem all1_fsC : ∀ fs : List Fld, all1 (fsC fs) = true
  | [] => rfl
  | f :: fs => by
    have ih := all1_fsC fs
    unfold fsC at ih ⊢
    rw [List.flatMap_cons]
    show all1 (_ :: _ :: _ :: _) = true
    exact ih
theorem appP {T : TL} {s : SS} {x y : Operand} {K : RR → Prop} {W V : Option Addr} {c n k : Nat} {fs gs : List Fld} (h : FsC s W fs) (hg : FsP s V gs) (hl : fs.length + gs.length ≤ 1000000) (hx : opd T s.gl x = some (.slice W n 0)) (hn : n = fs.length) (hy : opd T s.gl y = some (.slice V k c)) (hk : k = gs.length)
    (h0 : gs = [] → K (.val (.slice W n 0))) (h1 : gs ≠ [] → ∀ s' : SS, FsC s' (some ⟨s.next, 0, none⟩) (fs ++ gs) → Chg s s' (blkOf W) → s'.next = s.next + 1 → K (.eff (.slice (some ⟨s.next, 0, none⟩) (n + k) 0) s')) : wN pr (.app tFl 3 48 x y) T s K := by
  obtain ⟨b, tl, rfl, h2, h3, h4⟩ := h
  subst hn hk
  have old : takeN (fs.length * 3) ((fsC fs ++ tl).drop 0) = some (fsC fs) := by
    rw [List.drop_zero, takeN_take _ _ (by rw [List.length_append, fsC_len]; omega), List.take_left' (fsC_len fs)]
  have main : ∀ new : List Value, new = fsC gs → wAppB s tFl 3 48 (some ⟨b, 0, none⟩) fs.length 0 gs.length new K := by
    intro new hnew
    subst hnew
    refine ⟨⟨by omega, by omega, fsC_len gs, all1_fsC gs⟩, ?_⟩
    simp only [h3]
    refine ⟨fun q => h0 (List.length_eq_zero_iff.1 q), fun q => ⟨trivial, trivial, _, old, fun m l' hm' hl' => ?_⟩⟩
    subst hm'; subst hl'
    refine h1 (fun e => by rw [e] at q; simp at q) _ ⟨s.next, [], rfl, Nat.lt_succ_self _, ?_, fun _ => rfl⟩ .new2 rfl
    rw [List.append_nil, fsC_app]
    exact lkH
  cases V with
  | none =>
    obtain rfl : gs = [] := hg
    simp only [wN, hx, hy, wSrc]
    exact main [] rfl
  | some a =>
    obtain ⟨b2, off, sp⟩ := a
    obtain ⟨rfl, g2, cs, t, g, r, g4, g5⟩ := hg
    simp only [wN, hx, hy, wSrc, g4]
    exact ⟨_, g5, main _ rfl⟩

theorem repeat_flZ : ∀ n : Nat, repeatL n (flC flZ) = fsC (List.replicate n flZ)
  | 0 => rfl
  | n + 1 => by
    show flC flZ ++ repeatL n (flC flZ) = _
    rw [repeat_flZ n, List.replicate_succ]
    rfl

structure CcI where
  i : Nat
  W : Option Addr
  s : SS
abbrev Prt := Option Addr × Nat × List Fld
def prC (ps : List Prt) : List Value := ps.map fun p => .slice p.1 p.2.2.length p.2.1
def prF (ps : List Prt) : List Fld := ps.flatMap fun p => p.2.2
theorem prF_next {ps : List Prt} {i : Nat} {p : Prt} (h : ps[i]? = some p) : prF (ps.take (i + 1)) = prF (ps.take i) ++ p.2.2 := by
  unfold prF
  rw [take_next h, List.flatMap_append]
  simp
theorem prF_le (ps : List Prt) (i : Nat) : (prF (ps.take i)).length ≤ (prF ps).length := by
  have := congrArg (fun x => (prF x).length) (List.take_append_drop i ps)
  simp only [prF, List.flatMap_append, List.length_append] at this
  unfold prF
  omega
theorem prC_len (ps : List Prt) : (prC ps).length = ps.length := by simp [prC]
theorem prC_at {ps : List Prt} {i : Nat} {p : Prt} (h : ps[i]? = some p) : (prC ps)[i]? = some (.slice p.1 p.2.2.length p.2.1) := by
  unfold prC
  rw [List.getElem?_map, h]
  rfl

end Go.Vf.S

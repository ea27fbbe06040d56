import Derived.Test.YthhcngkblihliaaDoorHdMa
import Derived.Test.YthhcngkblihliaaDoorHdLb
import Derived.Test.YthhcngkblihliaaDoorBnI
/- The document's own: a message with a field laid anew. -/
namespace Go.Vf.S
open Go Go.Vf Go.Proofs Go.RowKit
attribute [local irreducible] wSeq wRow wp wG
set_option linter.unusedVariables false
set_option linter.unusedSimpArgs false
set_option maxRecDepth 10000

theorem setRow_fs : ∀ (fs : List Fld) (k : Nat) (f : Fld), k < fs.length → setRow (fsC fs) (k * 3) (flC f) = some (fsC (fs.set k f))
  | [], k, f, h => by simp at h
  | g :: fs, 0, f, _ => by
    have e : setRow (fsC fs) 0 [] = some (fsC fs) := by cases fsC fs <;> simp [setRow]
    show setRow (str g.n :: str g.v :: str g.r :: fsC fs) 0 [str f.n, str f.v, str f.r] = _
    rw [setRow, setRow, setRow, e]
    rfl
  | g :: fs, k + 1, f, h => by
    have ih := setRow_fs fs k f (by simpa using h)
    show setRow (str g.n :: str g.v :: str g.r :: fsC fs) ((k + 1) * 3) _ = _
    rw [show (k + 1) * 3 = k * 3 + 1 + 1 + 1 by omega]
    simp only [setRow, ih]
    rfl
/-- A row of one's own with open room, or none. -/
def OwnG (t : TypeId) (s : SS) (W : Option Addr) (fs : List Fld) : Prop := match W with
  | none => fs = []
  | some ⟨b, off, sp⟩ => off = 0 ∧ sp = none ∧ b < s.next ∧ lookH s.heap b = some (.cells (fsC fs) t true false)
theorem OwnG.own {t : TypeId} {s : SS} {W : Option Addr} {fs : List Fld} (h : OwnG t s W fs) : OwnR t s W 0 fs.length (fsC fs) := by
  cases W with
  | none =>
    have h : fs = [] := h
    subst h
    exact ⟨rfl, rfl, rfl⟩
  | some a =>
    obtain ⟨b, off, sp⟩ := a
    obtain ⟨h1, h2, h3, h4⟩ := h
    exact ⟨h1, h2, h3, true, h4, fun q => by cases q⟩
theorem OwnG.chg {t : TypeId} {s s' : SS} {W : Option Addr} {fs : List Fld} {A : List Nat} (h : OwnG t s W fs) (c : Chg s s' A) (hA : ∀ id ∈ blkOf W, id ∉ A) : OwnG t s' W fs := by
  cases W with
  | none => exact h
  | some a =>
    obtain ⟨b, off, sp⟩ := a
    obtain ⟨h1, h2, h3, h4⟩ := h
    exact ⟨h1, h2, Nat.lt_of_lt_of_le h3 c.next, c.blk _ _ h3 (hA b (by simp [blkOf])) h4⟩
theorem fsp_of {s : SS} {W : Option Addr} {fs : List Fld} (h : FsRd s W fs) : FsP s W fs := by
  cases W with
  | none => exact h
  | some a =>
    obtain ⟨b, off, sp⟩ := a
    obtain ⟨rfl, h2, h3, cs, t, g, r, tl, h4, h5⟩ := h
    refine ⟨h2, h3, cs, t, g, r, h4, ?_⟩
    rw [List.drop_zero, takeN_take _ _ (by rw [h5, List.length_append, fsC_len]; omega), h5, List.take_left' (fsC_len fs)]
theorem appQ {e : TypeId} {T : TL} {s : SS} {x y : Operand} {K : RR → Prop} {W V : Option Addr} {c n k : Nat} {fs gs : List Fld} (h : OwnG e s W fs) (hg : FsP s V gs) (hl : fs.length + gs.length ≤ 1000000) (hx : opd T s.gl x = some (.slice W n 0)) (hn : n = fs.length) (hy : opd T s.gl y = some (.slice V k c)) (hk : k = gs.length)
    (h0 : gs = [] → K (.val (.slice W n 0))) (h1 : gs ≠ [] → ∀ s' : SS, OwnG e s' (some ⟨s.next, 0, none⟩) (fs ++ gs) → Chg s s' (blkOf W) → s'.next = s.next + 1 → K (.eff (.slice (some ⟨s.next, 0, none⟩) (n + k) 0) s')) : wN pr (.app e 3 48 x y) T s K := by
  subst hn hk
  have main : ∀ new : List Value, new = fsC gs → wAppB s e 3 48 W fs.length 0 gs.length new K := by
    intro new hnew
    subst hnew
    refine ⟨⟨by omega, by omega, fsC_len gs, all1_fsC gs⟩, ?_⟩
    cases W with
    | none =>
      have h : fs = [] := h
      subst h
      refine ⟨fun q => ?_, fun q => ⟨rfl, fun m hm => ?_⟩⟩
      · have : gs.length = 0 := by simp at q; simp [q]
        exact ⟨this, h0 (List.length_eq_zero_iff.1 this)⟩
      · subst hm
        have := h1 (fun e => by rw [e] at q; simp at q) _ ⟨rfl, rfl, Nat.lt_succ_self _, lkH⟩ (.new _) rfl
        simpa using this
    | some a =>
      obtain ⟨b, off, sp⟩ := a
      obtain ⟨rfl, rfl, h3, h4⟩ := h
      simp only [h4]
      have old : takeN (fs.length * 3) ((fsC fs).drop 0) = some (fsC fs) := by
        rw [List.drop_zero, takeN_take _ _ (by rw [fsC_len]; omega), List.take_of_length_le (by rw [fsC_len]; omega)]
      refine ⟨fun q => h0 (List.length_eq_zero_iff.1 q), fun q => ⟨trivial, trivial, _, old, fun m l' hm' hl' => ?_⟩⟩
      subst hm'; subst hl'
      refine h1 (fun e => by rw [e] at q; simp at q) _ ⟨rfl, rfl, Nat.lt_succ_self _, ?_⟩ .new2 rfl
      rw [fsC_app]
      exact lkH
  cases V with
  | none =>
    obtain rfl : gs = [] := hg
    simp only [wN, hx, hy, wSrc]
    exact main [] rfl
  | some a =>
    obtain ⟨b2, off, sp⟩ := a
    obtain ⟨rfl, g2, cs, t, g, r, g4, g5⟩ := hg
    simp only [wN, hx, hy, wSrc, g4]
    exact ⟨_, g5, main _ rfl⟩

def withR (m : Msg) (fs : List Fld) : Msg × Nat := if 8192 < (textM ⟨fs, m.b, m.e⟩).length then (msZ, 3) else (⟨fs, m.b, m.e⟩, 0)
def aheadR (m : Msg) (nm v : List UInt8) : Msg × Nat := match layR nm v with
  | none => (msZ, 5)
  | some f => withR m (f :: m.fs)
def putR (m : Msg) (k : Int) (v : List UInt8) : Msg × Nat := if k < 0 then (msZ, 1) else match m.fs[k.toNat]? with
  | none => (msZ, 1)
  | some g => match layR g.n v with
    | none => (msZ, 5)
    | some f => withR m (m.fs.set k.toNat f)
/-- What a call of the document's tells that answers a message. -/
def TellR (s : SS) (r : Msg × Nat) (Z : Option Addr) (u : Value) (s' : SS) : Prop := ∃ W cw, u = .tuple ⟨[msV r.1 W cw, .int .i64 r.2]⟩ ∧ FsR s' W cw r.1.fs ∧ Chg s s' [] ∧ ∀ id ∈ blkOf W, s.next ≤ id ∨ id ∈ blkOf Z

end Go.Vf.S

import Derived.Test.YthhcngkblihliaaDoorHdMa
import Derived.Test.YthhcngkblihliaaDoorHdLb
import Derived.Test.YthhcngkblihliaaDoorBnI
/- The document's own: a message with a field laid anew. -/
namespace Go.Vf.S
open Go Go.Vf Go.Proofs Go.RowKit
attribute [local irreducible] wSeq wRow wp wG
set_option linter.unusedVariables false
set_option linter.unusedSimpArgs false
set_option maxRecDepth 10000

theorem setRow_fs : ∀ (fs : List Fld) (k : Nat) (f : Fld), k < fs.length → setRow (fsC fs) (k * 3) (flC f) = some (fsC (fs.set k f))
  | [], k, f, h => by simp at h
  | g :: fs, 0, f, _ => by
    have e : setRow (fsC fs) 0 [] = some (fsC fs) := by cases fsC fs <;> simp [setRow]
    show setRow (str g.n :: str g.v :: str g.r :: fsC fs) 0 [str f.n, str f.v, str f.r] = _
    rw [setRow, setRow, setRow, e]
    rfl
  | g :: fs, k + 1, f, h => by
    have ih := setRow_fs fs k f (by simpa using h)
    show setRow (str g.n :: str g.v :: str g.r :: fsC fs) ((k + 1) * 3) _ = _
    rw [show (k + 1) * 3 = k * 3 + 1 + 1 + 1 by omega]
    simp only [setRow, ih]
    rfl
/-- A row of one's own with open room, or none. -/
def OwnG (t : TypeId) (s : SS) (W : Option Addr) (fs : List Fld) : Prop := match W with
  | none => fs = []
  | some ⟨b, off, sp⟩ => off = 0 ∧ sp = none ∧ b < s.next ∧ lookH s.heap b = some (.cells (fsC fs) t true false)
theorem OwnG.own {t : TypeId} {s : SS} {W : Option Addr} {fs : List Fld} (h : OwnG t s W fs) : OwnR t s W 0 fs.length (fsC fs) := by
  cases W with
  | none =>
    have h : fs = [] := h
    subst h
    exact ⟨rfl, rfl, rfl⟩
  | some a =>
    obtain ⟨b, off, sp⟩ := a
    obtain ⟨h1, h2, h3, h4⟩ := h
    exact ⟨h1, h2, h3, true, h4, fun q => by cases q⟩
theorem OwnG.chg {t : TypeId} {s s' : SS} {W : Option Addr} {fs : List Fld} {A : List Nat} (h : OwnG t s W fs) (c : Chg s s' A) (hA : ∀ id ∈ blkOf W, id ∉ A) : OwnG t s' W fs := by
  cases W with
  | none => exact h
  | some a =>
    obtain ⟨b, off, sp⟩ := a
    obtain ⟨h1, h2, h3, h4⟩ := h
    exact ⟨h1, h2, Nat.lt_of_lt_of_le h3 c.next, c.blk _ _ h3 (hA b (by simp [blkOf])) h4⟩
theorem fsp_of {s : SS} {W : Option Addr} {fs : List Fld} (h : FsRd s W fs) : FsP s W fs := by
  cases W with
  | none => exact h
  | some a =>
    obtain ⟨b, off, sp⟩ := a
    obtain ⟨rfl, h2, h3, cs, t, g, r, tl, h4, h5⟩ := h
    refine ⟨h2, h3, cs, t, g, r, h4, ?_⟩
    rw [List.drop_zero, takeN_take _ _ (by rw [h5, List.length_append, fsC_len]; omega), h5, List.take_left' (fsC_len fs)]
theorem appQ {e : TypeId} {T : TL} {s : SS} {x y : Operand} {K : RR → Prop} {W V : Option Addr} {c n k : Nat} {fs gs : List Fld} (h : OwnG e s W fs) (hg : FsP s V gs) (hl : fs.length + gs.length ≤ 1000000) (hx : opd T s.gl x = some (.slice W n 0)) (hn : n = fs.length) (hy : opd T s.gl y = some (.slice V k c)) (hk : k = gs.length)
    (h0 : gs = [] → K (.val (.slice W n 0))) (h1 : gs ≠ [] → ∀ s' : SS, OwnG e s' (some ⟨s.next, 0, none⟩) (fs ++ gs) → Chg s s' (blkOf W) → s'.next = s.next + 1 → K (.eff (.slice (some ⟨s.next, 0, none⟩) (n + k) 0) s')) : wN pr (.app e 3 48 x y) T s K := by
  subst hn hk
  have main : ∀ new : List Value, new = fsC gs → wAppB s e 3 48 W fs.length 0 gs.length new K := by
    intro new hnew
    subst hnew
    refine ⟨⟨by omega, by omega, fsC_len gs, all1_fsC gs⟩, ?_⟩
    cases W with
    | none =>
      have h : fs = [] := h
      subst h
      refine ⟨fun q => ?_, fun q => ⟨rfl, fun m hm => ?_⟩⟩
      · have : gs.length = 0 := by simp at q; simp [q]
        exact ⟨this, h0 (List.length_eq_zero_iff.1 this)⟩
      · subst hm
        have := h1 (fun e => by rw [e] at q; simp at q) _ ⟨rfl, rfl, Nat.lt_succ_self _, lkH⟩ (.new _) rfl
        simpa using this
    | some a =>
      obtain ⟨b, off, sp⟩ := a
      obtain ⟨rfl, rfl, h3, h4⟩ := h
      simp only [h4]
      have old : takeN (fs.length * 3) ((fsC fs).drop 0) = some (fsC fs) := by
        rw [List.drop_zero, takeN_take _ _ (by rw [fsC_len]; omega), List.take_of_length_le (by rw [fsC_len]; omega)]
      refine ⟨fun q => h0 (List.length_eq_zero_iff.1 q), fun q => ⟨trivial, trivial, _, old, fun m l' hm' hl' => ?_⟩⟩
      subst hm'; subst hl'
      refine h1 (fun e => by rw [e] at q; simp at q) _ ⟨rfl, rfl, Nat.lt_succ_self _, ?_⟩ .new2 rfl
      rw [fsC_app]
      exact lkH
  cases V with
  | none =>
    obtain rfl : gs = [] := hg
    simp only [wN, hx, hy, wSrc]
    exact main [] rfl
  | some a =>
    obtain ⟨b2, off, sp⟩ := a
    obtain ⟨rfl, g2, cs, t, g, r, g4, g5⟩ := hg
    simp only [wN, hx, hy, wSrc, g4]
    exact ⟨_, g5, main _ rfl⟩

def withR (m : Msg) (fs : List Fld) : Msg × Nat := if 8192 < (textM ⟨fs, m.b, m.e⟩).length then (msZ, 3) else (⟨fs, m.b, m.e⟩, 0)
def aheadR (m : Msg) (nm v : List UInt8) : Msg × Nat := match layR nm v with
  | none => (msZ, 5)
  | some f => withR m (f :: m.fs)
def putR (m : Msg) (k : Int) (v : List UInt8) : Msg × Nat := if k < 0 then (msZ, 1) else match m.fs[k.toNat]? with
  | none => (msZ, 1)
  | some g => match layR g.n v with
    | none => (msZ, 5)
    | some f => withR m (m.fs.set k.toNat f)
/-- What a call of the document's tells that answers a message. -/
def TellR (s : SS) (r : Msg × Nat) (Z : Option Addr) (u : Value) (s' : SS) : Prop := ∃ W cw, u = .tuple ⟨[msV r.1 W cw, .int .i64 r.2]⟩ ∧ FsR s' W cw r.1.fs ∧ Chg s s' [] ∧ ∀ id ∈ blkOf W, s.next ≤ id ∨ id ∈ blkOf Z

set_option maxHeartbeats 1000000 in
theorem rwith_w {s : SS} {m : Msg} {W V : Option Addr} {cw n : Nat} {fs : List Fld} (h : OwnG tRf s V fs) (hV : ∀ id ∈ blkOf V, id < s.next) (hn0 : n = fs.length) (hn : fs.length ≤ 100000) (hl : (textM ⟨fs, m.b, m.e⟩).length ≤ 100000) :
    CallW pr n_ref07_with [msV m W cw, .slice V n 0] s (TellR s (withR m fs) V) := by
  subst hn0
  refine CallW.run good ok_ref07_with (by simp) rfl ?_
  obtain ⟨s1, hs1⟩ : ∃ s1 : SS, s1 = { s with heap := (s.next + 1, some (.cells (msC msZ none 0) tRm false false)) :: (s.next, some (.cells (msC m W cw) tRm false false)) :: s.heap, next := s.next + 1 + 1 } := ⟨_, rfl⟩
  have c1 : Chg s s1 [] := by rw [hs1]; exact (Chg.new (b := .cells (msC m W cw) tRm false false) []).nil (Chg.new [])
  have k1 : lookH s1.heap s.next = some (.cells (msC m W cw) tRm false false) := by rw [hs1]; exact lkT (by omega) lkH
  have j1 : lookH s1.heap (s.next + 1) = some (.cells (msC msZ none 0) tRm false false) := by rw [hs1]; exact lkH
  have n1 : s1.next = s.next + 2 := by rw [hs1]
  (repeat(first|refine pSeq ?_|refine pReg ?_|refine sCons ?_|refine sNil ?_|refine pSkip ?_|refine pRet ?_|refine pCond ?_|refine gNone ?_))
  obtain ⟨m2, hm2⟩ : ∃ m2 : Msg, m2 = ⟨fs, m.b, m.e⟩ := ⟨_, rfl⟩
  refine st_abs (cs' := msC m2 V 0) rfl rfl (show lookH _ s.next = some (.cells (msC m W cw) tRm false false) from (by subst hs1; exact k1)) (show s.next < s.next + 1 + 1 by omega) rfl (by rw [hm2]; rfl) fun s2 e2 c2 n2 => ?_
  replace c2 : Chg s1 s2 [s.next] := by subst hs1; exact c2
  replace n2 : s2.next = s1.next := by subst hs1; exact n2
  clear hs1
  have c02 : Chg s s2 [] := c1.fresh c2 (by simp)
  have h2 := h.chg c02 (by simp)
  have j2 := c2.blk _ _ (show s.next + 1 < s1.next by omega) (by simp) j1
  have eR : withR m fs = if 8192 < (textM m2).length then (msZ, 3) else (m2, 0) := by rw [hm2]; rfl
  have ef : m2.fs = fs := by rw [hm2]
  rw [eR]
  rw [← hm2] at hl
  rw [← ef] at h2 hn
  (repeat(first|refine pSeq ?_|refine pReg ?_|refine sCons ?_|refine sNil ?_|refine pSkip ?_|refine pRet ?_|refine pCond ?_|refine gNone ?_))
  refine ldN_is rfl e2 agm3 ?_
  (repeat(first|refine pSeq ?_|refine pReg ?_|refine sCons ?_|refine sNil ?_|refine pSkip ?_|refine pRet ?_|refine pCond ?_|refine gNone ?_))
  refine (rtext7_w (rd_of h2.own) (by omega) hl).mono fun u s3 q => ?_
  obtain ⟨rfl, c3⟩ := q
  have c03 := c02.nil c3
  have e3 := c3.blk _ _ (show s.next < s2.next by omega) (by simp) e2
  have j3 := c3.blk _ _ (show s.next + 1 < s2.next by omega) (by simp) j2
  have h3 := h2.chg c3 (by simp)
  have n3 := c3.next
  (repeat(first|refine pSeq ?_|refine pReg ?_|refine sCons ?_|refine sNil ?_|refine pSkip ?_|refine pRet ?_|refine pCond ?_|refine gNone ?_))
  intro n hnn
  subst hnn
  (repeat(first|refine pSeq ?_|refine pReg ?_|refine sCons ?_|refine sNil ?_|refine pSkip ?_|refine pRet ?_|refine pCond ?_|refine gNone ?_))
  intro q hq
  by_cases hlong : 8192 < (textM m2).length
  · obtain rfl : q = true := by rw [hq]; simp; omega
    rw [if_pos hlong]
    (repeat(first|refine pSeq ?_|refine pReg ?_|refine sCons ?_|refine sNil ?_|refine pSkip ?_|refine pRet ?_|refine pCond ?_|refine gNone ?_))
    refine st_abs (cs' := msC msZ none 0) rfl rfl j3 (show s.next + 1 < s3.next by omega) rfl rfl fun s4 e4 c4 n4 => ?_
    (repeat(first|refine pSeq ?_|refine pReg ?_|refine sCons ?_|refine sNil ?_|refine pSkip ?_|refine pRet ?_|refine pCond ?_|refine gNone ?_))
    (repeat (first | with_reducible refine sqRet ?_ | with_reducible refine bkRet ?_ | with_reducible refine hdRet ?_))
    exact ret_cell agg_Rm sz_Rm rfl e4 agm3 rfl ⟨none, 0, rfl, fr_none, c03.fresh c4 (by simp), by simp [blkOf]⟩
  · obtain rfl : q = false := by rw [hq]; simp; omega
    rw [if_neg hlong]
    (repeat(first|refine pSeq ?_|refine pReg ?_|refine sCons ?_|refine sNil ?_|refine pSkip ?_|refine pRet ?_|refine pCond ?_|refine gNone ?_))
    refine ldN_is rfl e3 agm3 ?_
    (repeat(first|refine pSeq ?_|refine pReg ?_|refine sCons ?_|refine sNil ?_|refine pSkip ?_|refine pRet ?_|refine pCond ?_|refine gNone ?_))
    refine st_abs (cs' := msC m2 V 0) rfl rfl j3 (show s.next + 1 < s3.next by omega) rfl rfl fun s4 e4 c4 n4 => ?_
    (repeat(first|refine pSeq ?_|refine pReg ?_|refine sCons ?_|refine sNil ?_|refine pSkip ?_|refine pRet ?_|refine pCond ?_|refine gNone ?_))
    (repeat (first | with_reducible refine sqRet ?_ | with_reducible refine bkRet ?_ | with_reducible refine hdRet ?_))
    refine ret_cell agg_Rm sz_Rm rfl e4 agm3 rfl ⟨V, 0, rfl, (h3.chg c4 (fun id hid q => ?_)).own, c03.fresh c4 (by simp), fun id hid => .inr hid⟩
    have := hV id hid
    simp only [List.mem_singleton] at q
    omega
end Go.Vf.S

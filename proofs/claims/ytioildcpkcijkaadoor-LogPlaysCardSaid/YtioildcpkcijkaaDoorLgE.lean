import Derived.Test.YtioildcpkcijkaaDoorLgD
import Derived.Test.YtioildcpkcijkaaDoorFnK03
import Derived.Test.YtioildcpkcijkaaDoorEngYl
/- A log: its frames, gone through one by one. -/
namespace Go.Vf.S
open Go Go.Vf Go.Vf.Fr
attribute [local irreducible] wSeq wRow wp wG
set_option linter.unusedVariables false
set_option linter.unusedSimpArgs false
set_option maxRecDepth 10000

/-- A frame as it was opened: its payload, how many bytes it has, its sum. -/
structure Fm where
  p : List UInt8
  n : Nat
  x : BitVec 32

def opF (a k : BitVec 32) (l : List UInt8) : Fm := ⟨oP a k l, oN a k l, oS a k l⟩
/-- The frames at the front. -/
def frs : Nat → BitVec 32 → BitVec 32 → List UInt8 → List Fm
  | 0, _, _, _ => []
  | m + 1, a, k, l => if openE a k l = 0 then opF a k l :: frs m (oS a k l) (k + 1#32) (l.drop (oN a k l)) else []

theorem open_short {a k : BitVec 32} {l : List UInt8} (h : openE a k l = 0) : 10 ≤ l.length ∧ oN a k l = 10 + sz l ∧ 10 + sz l ≤ l.length ∧ sz l ≤ 16384 := by
  have h0 := h
  unfold openE at h0
  split at h0
  · omega
  · split at h0
    · omega
    · split at h0
      · omega
      · exact ⟨by omega, by unfold oN; rw [if_pos h], by omega, by omega⟩

theorem frs_stop {a k : BitVec 32} {l : List UInt8} (h : openE a k l ≠ 0) : ∀ m, frs m a k l = []
  | 0 => rfl
  | m + 1 => by rw [frs, if_neg h]
theorem frs_more {a k : BitVec 32} {l : List UInt8} (h : openE a k l = 0) (m : Nat) : frs (m + 1) a k l = opF a k l :: frs m (oS a k l) (k + 1#32) (l.drop (oN a k l)) := by
  rw [frs, if_pos h]

abbrev tSl : TypeId := 37
abbrev tYd : TypeId := 125

def fmV (b : Option Addr) (c : Nat) (f : Fm) : Value := .agg ⟨[.slice b f.p.length c, .int .i64 f.n, .int .u32 f.x.toNat]⟩

/-- What is gone through: a slice in a cell of its own. -/
structure FS (s : SS) (bx : Nat) (base : Option Addr) (n c : Nat) (l : List UInt8) : Prop where
  gl : s.gl = 1
  steps : lookH s.heap 0 = some gB
  next : 1 ≤ s.next
  lt : bx < s.next
  cell : lookH s.heap bx = some (.cells [.slice base n c] tSl false false)
  slc : Slc pr s base n c l

theorem FS.pre {s : SS} {bx : Nat} {base : Option Addr} {n c : Nat} {l : List UInt8} (h : FS s bx base n c l) : Pre s base n l := ⟨h.gl, h.steps, h.next, h.slc.1⟩
theorem FS.chg {s s' : SS} {bx : Nat} {base : Option Addr} {n c : Nat} {l : List UInt8} {Z : List Nat} (h : FS s bx base n c l) (k : Chg s s' Z) (h0 : 0 ∉ Z) (h1 : bx ∉ Z) (h2 : ∀ id ∈ blkOf base, id ∉ Z) : FS s' bx base n c l :=
  ⟨k.gl.trans h.gl, k.blk _ _ h.next h0 h.steps, Nat.le_trans h.next k.next, Nat.lt_of_lt_of_le h.lt k.next, k.blk _ _ h.lt h1 h.cell, h.slc.chg k h2⟩

structure Fi where
  m : Nat
  dn : List Fm
  a : BitVec 32
  k : BitVec 32
  l : List UInt8
  base : Option Addr
  n : Nat
  c : Nat
  s : SS

theorem sl_bx {s : SS} {bx : Nat} {base : Option Addr} {n c : Nat} {l : List UInt8} (h : FS s bx base n c l) (hp : ∀ id ∈ blkOf base, ∃ l g r, lookH s.heap id = some (.cells (bytesV l) tB g r)) : ∀ id ∈ blkOf base, id ≠ bx := by
  intro id hid e
  subst e
  obtain ⟨l, g, r, h1⟩ := hp id hid
  exact type_ne h1 h.cell (by decide) rfl

/-- All frames are gone through, each by a call of yield. -/
theorem frames1_w {Inv : List Fm → SS → Prop} {lo bx : Nat} {l0 : List UInt8} {s : SS} {base : Option Addr} {n c : Nat} (h : FS s bx base n c l0) (hn : n ≤ 1048576) (hbx : ∀ id ∈ blkOf base, id ≠ bx) (hI : Inv [] s)
    (hst : ∀ dn s s', Inv dn s → Chg s s' [bx] → Inv dn s')
    (hY : ∀ dn f s s1 b c, Inv dn s → bx < s.next → Chg s s1 [] → Rdb s1 b f.p.length f.p → New s b → (∃ r, dn ++ f :: r = frs l0.length 0#32 1#32 l0) → YieldW pr lo [fmV b c f] s1 fun v s' => v = .bool true ∧ Inv (dn ++ [f]) s' ∧ ∃ Z, Chg s1 s' Z ∧ 0 ∉ Z ∧ bx ∉ Z ∧ ∀ id ∈ blkOf base, id ∉ Z) :
    CallW pr n_log_frames_1 [.func (.yield lo) #[] #[], .pointer (some ⟨bx, 0, none⟩)] s fun v s' => Inv (frs l0.length 0#32 1#32 l0) s' := by
  refine CallW.pieces (nt := 35) (res := []) (c := .seq code_K03_R0 (.seq code_K03_R1 (.block 0 (.loop (.seq (.block 1 (.seq code_K03_R3 (.seq (.seq (.region 4 ops_K03_Y4 false) code_K03_C4) code_K03_R5))) code_K03_R2))))) (by kernel_rfl) (by kernel_rfl) (by kernel_rfl) (by kernel_rfl) (by simp) ?_
  refine W.seq (comp_ok good ok_K03_R0 (Box.out (p := wp pr 35 s.next _ _ _ _) ?_))
  (repeat(first|refine pReg ?_|refine sCons ?_|refine sNil ?_|refine pSkip ?_|refine pRet ?_|refine pCond ?_|refine gNone ?_|refine gOn rfl ?_|refine gOff rfl rfl ?_|refine gTup rfl ?_))
  refine W.seq (comp_ok good ok_K03_R1 (Box.out (p := wp pr 35 s.next _ _ _ _) ?_))
  (repeat(first|refine pReg ?_|refine sCons ?_|refine sNil ?_|refine pSkip ?_|refine pRet ?_|refine pCond ?_|refine gNone ?_|refine gOn rfl ?_|refine gOff rfl rfl ?_|refine gTup rfl ?_))
  refine W.block (W.loop (k := s.next) (fun i : Fi => i.m) (fun i => FS i.s bx i.base i.n i.c i.l ∧ Inv i.dn i.s ∧ i.dn ++ frs i.m i.a i.k i.l = frs l0.length 0#32 1#32 l0 ∧ i.l.length ≤ i.m ∧ (∀ id ∈ blkOf i.base, id ∈ blkOf base) ∧ i.n ≤ 1048576)
    (fun i => [(0, .func (.yield lo) #[] #[]), (1, .pointer (some ⟨bx, 0, none⟩)), (3, .int .u32 i.a.toNat), (4, .int .u32 i.k.toNat)]) (fun i => i.s) ⟨l0.length, [], 0#32, 1#32, l0, base, n, c, s⟩ ⟨h, hI, rfl, Nat.le_refl _, fun _ q => q, hn⟩ (Wk.same ⟨rfl, rfl, rfl, rfl, trivial⟩) ?_)
  rintro ⟨m, dn, a, k, l, b0, n0, c0, s0⟩ ⟨hF, hV, hall, hm, hsub, hn0⟩
  dsimp only at hF hV hall hm hsub hn0 ⊢
  have hnl : n0 = l.length := hF.slc.1.1
  have g0 : bx ≠ 0 := (type_ne hF.steps hF.cell (by decide)).symm
  refine W.seq (W.block (W.seq (comp_ok good ok_K03_R3 (Box.out (p := wp pr 35 s.next _ _ _ _) ?_))))
  (repeat(first|refine pReg ?_|refine sCons ?_|refine sNil ?_|refine pSkip ?_|refine pRet ?_|refine pCond ?_|refine gNone ?_|refine gOn rfl ?_|refine gOff rfl rfl ?_|refine gTup rfl ?_))
  refine ld1_is rfl hF.cell rfl ?_
  (repeat(first|refine pReg ?_|refine sCons ?_|refine sNil ?_|refine pSkip ?_|refine pRet ?_|refine pCond ?_|refine gNone ?_|refine gOn rfl ?_|refine gOff rfl rfl ?_|refine gTup rfl ?_))
  refine (open_w hF.pre hF.slc (by omega) a k).mono fun v s1 q => ?_
  obtain ⟨b1, c1, ⟨rfl, hR, o1⟩, hNew⟩ := q
  have hF1 := hF.chg o1.chg (by simp) (by simp) (by simp)
  (repeat(first|refine pReg ?_|refine sCons ?_|refine sNil ?_|refine pSkip ?_|refine pRet ?_|refine pCond ?_|refine gNone ?_|refine gOn rfl ?_|refine gOff rfl rfl ?_|refine gTup rfl ?_))
  refine W.seq (k := s.next) (W.seq (k := s.next) (W.regY2 (z := ⟨8, some (22, false), some 28, 23, [27]⟩) good (by kernel_rfl) ok_K03_Y4a ok_K03_Y4b ?_))
  (repeat(first|refine pReg ?_|refine sCons ?_|refine sNil ?_|refine pSkip ?_|refine pRet ?_|refine pCond ?_|refine gNone ?_|refine gOn rfl ?_|refine gOff rfl rfl ?_|refine gTup rfl ?_))
  intro q hq
  by_cases he : openE a k l = 0
  · obtain rfl : q = false := by rw [hq, he]; rfl
    (repeat(first|refine pReg ?_|refine sCons ?_|refine sNil ?_|refine pSkip ?_|refine pRet ?_|refine pCond ?_|refine gNone ?_|refine gOn rfl ?_|refine gOff rfl rfl ?_|refine gTup rfl ?_))
    have hex : ∃ m', m = m' + 1 := ⟨m - 1, by have := (open_short he).1; omega⟩
    obtain ⟨m, rfl⟩ := hex
    rw [frs_more he] at hall
    refine ⟨lo, _, rfl, rfl, ?_⟩
    refine (hY dn (opF a k l) s0 s1 b1 c1 hV hF.lt o1.chg hR hNew ⟨_, hall⟩).mono fun v s2 q => ?_
    obtain ⟨rfl, hV2, Z, hZ, z0, zb, zs⟩ := q
    have hF2 := hF1.chg hZ z0 zb (fun id q => zs id (hsub id q))
    (repeat(first|refine pReg ?_|refine sCons ?_|refine sNil ?_|refine pSkip ?_|refine pRet ?_|refine pCond ?_|refine gNone ?_|refine gOn rfl ?_|refine gOff rfl rfl ?_|refine gTup rfl ?_))
    intro q hq
    obtain rfl : q = false := by simpa using hq
    (repeat(first|refine pReg ?_|refine sCons ?_|refine sNil ?_|refine pSkip ?_|refine pRet ?_|refine pCond ?_|refine gNone ?_|refine gOn rfl ?_|refine gOff rfl rfl ?_|refine gTup rfl ?_))
    refine comp_ok good ok_K03_C4 (Box.out (p := wp pr 35 s.next _ _ _ _) ?_)
    (repeat(first|refine pReg ?_|refine sCons ?_|refine sNil ?_|refine pSkip ?_|refine pRet ?_|refine pCond ?_|refine gNone ?_|refine gOn rfl ?_|refine gOff rfl rfl ?_|refine gTup rfl ?_))
    refine comp_ok good ok_K03_R5 (Box.out (p := wp pr 35 s.next _ _ _ _) ?_)
    (repeat(first|refine pReg ?_|refine sCons ?_|refine sNil ?_|refine pSkip ?_|refine pRet ?_|refine pCond ?_|refine gNone ?_|refine gOn rfl ?_|refine gOff rfl rfl ?_|refine gTup rfl ?_))
    refine ld1_is rfl hF2.cell rfl ?_
    (repeat(first|refine pReg ?_|refine sCons ?_|refine sNil ?_|refine pSkip ?_|refine pRet ?_|refine pCond ?_|refine gNone ?_|refine gOn rfl ?_|refine gOff rfl rfl ?_|refine gTup rfl ?_))
    obtain ⟨q1, q2, q3, q4⟩ := open_short he
    refine slL_same (oN a k l) (n0 - oN a k l) rfl rfl rfl hF2.slc rfl (show oN a k l + (n0 - oN a k l) = n0 by omega) (by omega) fun b2 c2 hc2 hb2 => ?_
    (repeat(first|refine pReg ?_|refine sCons ?_|refine sNil ?_|refine pSkip ?_|refine pRet ?_|refine pCond ?_|refine gNone ?_|refine gOn rfl ?_|refine gOff rfl rfl ?_|refine gTup rfl ?_))
    refine st_abs rfl rfl hF2.cell hF2.lt rfl rfl fun s3 e3 c3 n3 => ?_
    (repeat(first|refine pReg ?_|refine sCons ?_|refine sNil ?_|refine pSkip ?_|refine pRet ?_|refine pCond ?_|refine gNone ?_|refine gOn rfl ?_|refine gOff rfl rfl ?_|refine gTup rfl ?_))
    refine comp_ok good ok_K03_R2 (Box.out (p := wp pr 35 s.next _ _ _ _) ?_)
    (repeat(first|refine pReg ?_|refine sCons ?_|refine sNil ?_|refine pSkip ?_|refine pRet ?_|refine pCond ?_|refine gNone ?_|refine gOn rfl ?_|refine gOff rfl rfl ?_|refine gTup rfl ?_))
    intro z hz
    rw [add1_u32] at hz
    subst hz
    (repeat(first|refine pReg ?_|refine sCons ?_|refine sNil ?_|refine pSkip ?_|refine pRet ?_|refine pCond ?_|refine gNone ?_|refine gOn rfl ?_|refine gOff rfl rfl ?_|refine gTup rfl ?_))
    have b2b : ∀ id ∈ blkOf b2, id ∈ blkOf base := fun id q => hsub id (hb2 id q)
    refine ⟨⟨m, dn ++ [opF a k l], oS a k l, k + 1#32, l.drop (oN a k l), b2, n0 - oN a k l, c2, s3⟩, ⟨⟨c3.gl.trans hF2.gl, c3.blk _ _ hF2.next (by simp; omega) hF2.steps, by rw [n3]; exact hF2.next, by rw [n3]; exact hF2.lt, e3, ?_⟩, hst _ _ _ hV2 c3, ?_, ?_, b2b, by dsimp only; omega⟩, Nat.lt_succ_self _, Wk.same ⟨rfl, rfl, rfl, rfl, trivial⟩⟩
    · have := hc2.chg c3 (fun id q => by
        have := hbx id (b2b id q)
        simpa using this)
      rw [List.take_of_length_le (by rw [List.length_drop]; omega)] at this
      exact this
    · dsimp only
      rw [← hall, List.append_assoc]; rfl
    · dsimp only
      rw [List.length_drop]; omega
  · obtain rfl : q = true := by rw [hq]; simp; omega
    (repeat(first|refine pReg ?_|refine sCons ?_|refine sNil ?_|refine pSkip ?_|refine pRet ?_|refine pCond ?_|refine gNone ?_|refine gOn rfl ?_|refine gOff rfl rfl ?_|refine gTup rfl ?_))
    refine comp_ok good ok_K03_C4 (Box.out (p := wp pr 35 s.next _ _ _ _) ?_)
    (repeat(first|refine pReg ?_|refine sCons ?_|refine sNil ?_|refine pSkip ?_|refine pRet ?_|refine pCond ?_|refine gNone ?_|refine gOn rfl ?_|refine gOff rfl rfl ?_|refine gTup rfl ?_))
    rw [frs_stop he, List.append_nil] at hall
    show Inv (frs l0.length 0#32 1#32 l0) s1
    rw [← hall]
    exact hst _ _ _ hV (o1.chg.sub (by simp))
end Go.Vf.S

import Derived.Test.YthhcngkblihliaaDoorHdMp
import Derived.Test.YthhcngkblihliaaDoorHdLd
/- Fields laid anew, one by one: what the law HeadKnown says, from any state. -/
namespace Go.Vf.S
open Go Go.Vf Go.Proofs Go.RowKit
attribute [local irreducible] wSeq wRow wp wG
set_option linter.unusedVariables false
set_option linter.unusedSimpArgs false
set_option maxRecDepth 10000

def L70 : List UInt8 := Lib.repeatL [120] 70
def Y74 : List UInt8 := Lib.repeatL [121] 74
def Y73 : List UInt8 := Lib.repeatL [121] 73
theorem L70_len : L70.length = 70 := Lib.repeatL_length [120] 70
theorem Y74_len : Y74.length = 74 := Lib.repeatL_length [121] 74
theorem Y73_len : Y73.length = 73 := Lib.repeatL_length [121] 73
def va1 : List UInt8 := ((L70 ++ [44, 32]) ++ L70) ++ [44, 32, 121, 44, 32, 122]
def ra1 : List UInt8 := ((([84, 111, 58, 32] ++ L70) ++ [44, 13, 10, 32]) ++ L70) ++ [44, 32, 121, 44, 32, 122, 13, 10]
def va2 : List UInt8 := ([44, 32] ++ L70) ++ L70
def ra2 : List UInt8 := (([84, 111, 58, 32, 44, 13, 10, 32] ++ L70) ++ L70) ++ [13, 10]
def va3 : List UInt8 := Y74 ++ [44, 32, 122]
def ra3 : List UInt8 := ([84, 111, 58, 32] ++ Y74) ++ [44, 13, 10, 32, 122, 13, 10]
def va4 : List UInt8 := Y73 ++ [44, 32, 122]
def ra4 : List UInt8 := ([84, 111, 58, 32] ++ Y73) ++ [44, 13, 10, 32, 122, 13, 10]
theorem lay1 : layF [84, 111] va1 = some ⟨[84, 111], trimF va1, ra1⟩ := by kernel_rfl
theorem lay2 : layF [84, 111] va2 = some ⟨[84, 111], trimF va2, ra2⟩ := by kernel_rfl
theorem lay3 : layF [84, 111] va3 = some ⟨[84, 111], trimF va3, ra3⟩ := by kernel_rfl
theorem lay4 : layF [84, 111] va4 = some ⟨[84, 111], trimF va4, ra4⟩ := by kernel_rfl
theorem lay5 : layF [84, 32, 111] [] = none := by kernel_rfl
theorem lay6 : layF [] [120] = none := by kernel_rfl
theorem lay7 : layF [120] [97, 10, 98] = none := by kernel_rfl
theorem put3 : putF kM 3 [] = (msZ, 1) := by kernel_rfl
theorem putM : putF kM (-1) [] = (msZ, 1) := by kernel_rfl
/-- A value of more than 8192 bytes is too long for any message. -/
theorem ahead_big {m : Msg} {nm v : List UInt8} (h1 : isNm nm = true) (h2 : v.all okB = true) (hv : 8192 ≤ v.length) : aheadF m nm v = (msZ, 3) := by
  have hl : layF nm v = some ⟨nm, trimF v, jn (foldF 1 (nm ++ 58 :: 32 :: v).length (nm.length + 2 + 1) (nm ++ 58 :: 32 :: v))⟩ := by unfold layF; rw [if_pos ⟨h1, h2⟩]
  have hj := jn_len (foldF 1 (nm ++ 58 :: 32 :: v).length (nm.length + 2 + 1) (nm ++ 58 :: 32 :: v))
  rw [fold_flat] at hj
  simp only [List.length_append, List.length_cons] at hj
  show withF m 0 0 nm v = _
  unfold withF
  rw [hl]
  dsimp only
  rw [if_pos]
  unfold textM txtF
  simp only [List.take_zero, List.nil_append, List.flatMap_cons, List.length_append]
  simp only [List.length_append, List.length_cons] 
  omega
theorem rep_oky : ∀ n : Nat, (Lib.repeatL [121] n).all okB = true
  | 0 => rfl
  | n + 1 => by
    rw [Lib.repeatL, List.all_append, rep_oky n]
    rfl
theorem ahead8 : aheadF kM [120] (Lib.repeatL [121] 8192) = (msZ, 3) := ahead_big rfl (rep_oky 8192) (by rw [Lib.repeatL_length]; decide)

theorem alloc_new {P : Program} {T : TL} {s : SS} {K : RR → Prop} {e : TypeId} {z : List Value} (h : K (.new (.cells z e false false) fun id => .pointer (some ⟨id, 0, none⟩))) : wN P (.alloc e z) T s K := h
set_option maxHeartbeats 8000000 in
theorem ktail_w {s : SS} (hG : Gx s) (hF : Fine s) {k b p cw : Nat} (e0 : lookH s.heap p = some (.cells (msC kM (some ⟨b, 0, none⟩) cw) tMs false false)) (hp : p < s.next) (o0 : FsO s (some ⟨b, 0, none⟩) cw kM.fs) :
    W pr 236 k code_K07_TL [(0, .bool false), (5, .pointer (some ⟨p, 0, none⟩))] s (runQ pr [.tmp 0] fun v s' => v = .bool true) := by
  refine comp_ok good ok_K07_TL (Box.out (p := wp pr 236 k _ _ _ _) ?_)
  have C0 : Chg s s [] := .refl _ _
  (repeat(first|refine pSeq ?_|refine pReg ?_|refine sCons ?_|refine sNil ?_|refine rCons ?_|refine rNil ?_|refine kNo ?_|refine pRow ?_|refine pRet ?_|refine gNone ?_|refine gOn rfl ?_|refine gOff rfl rfl ?_|refine gTup rfl ?_))
  refine (repeat_w (l := [120]) (n := 70) (by decide) (by decide)).mono fun v s' q => ?_
  obtain ⟨rfl, e'⟩ := q
  subst e'
  rw [show Lib.repeatL [120] 70 = L70 from rfl]
  (repeat(first|refine pSeq ?_|refine pReg ?_|refine sCons ?_|refine sNil ?_|refine rCons ?_|refine rNil ?_|refine kNo ?_|refine pRow ?_|refine pRet ?_|refine gNone ?_|refine gOn rfl ?_|refine gOff rfl rfl ?_|refine gTup rfl ?_))
  refine ⟨by simp [L70_len, Y74_len, Y73_len], ?_⟩
  intro w hw
  subst hw
  (repeat(first|refine pSeq ?_|refine pReg ?_|refine sCons ?_|refine sNil ?_|refine rCons ?_|refine rNil ?_|refine kNo ?_|refine pRow ?_|refine pRet ?_|refine gNone ?_|refine gOn rfl ?_|refine gOff rfl rfl ?_|refine gTup rfl ?_))
  refine ⟨by simp [L70_len, Y74_len, Y73_len], ?_⟩
  intro w hw
  subst hw
  (repeat(first|refine pSeq ?_|refine pReg ?_|refine sCons ?_|refine sNil ?_|refine rCons ?_|refine rNil ?_|refine kNo ?_|refine pRow ?_|refine pRet ?_|refine gNone ?_|refine gOn rfl ?_|refine gOff rfl rfl ?_|refine gTup rfl ?_))
  refine ⟨by simp [L70_len, Y74_len, Y73_len], ?_⟩
  intro w hw
  subst hw
  (repeat(first|refine pSeq ?_|refine pReg ?_|refine sCons ?_|refine sNil ?_|refine rCons ?_|refine rNil ?_|refine kNo ?_|refine pRow ?_|refine pRet ?_|refine gNone ?_|refine gOn rfl ?_|refine gOff rfl rfl ?_|refine gTup rfl ?_))
  refine (hlay_w (nm := [84, 111]) (v := va1) (by simp) (by simp [L70_len, Y74_len, Y73_len, va1, va2, va3, va4])).mono fun u s1a q => ?_
  rw [lay1] at q
  obtain ⟨rfl, c1⟩ := q
  replace e0 := c1.blk _ _ hp (by simp) e0
  replace o0 := o0.chg c1 (by simp)
  have hq := c1.next
  replace hp : p < s1a.next := by omega
  replace C0 := C0.nil c1
  clear c1 hq
  (repeat(first|refine pSeq ?_|refine pReg ?_|refine sCons ?_|refine sNil ?_|refine rCons ?_|refine rNil ?_|refine kNo ?_|refine pRow ?_|refine pRet ?_|refine gNone ?_|refine gOn rfl ?_|refine gOff rfl rfl ?_|refine gTup rfl ?_))
  refine st_abs (cs' := flC ⟨[84, 111], trimF va1, ra1⟩) rfl rfl lkH (Nat.lt_succ_self _) rfl rfl fun s1b x2 f2 m2 => ?_
  have c2 : Chg s1a s1b [] := (Chg.new []).fresh f2 (by simp)
  have m2 : s1b.next = s1a.next + 1 := m2
  replace e0 := c2.blk _ _ hp (by simp) e0
  replace o0 := o0.chg c2 (by simp)
  have hq := c2.next
  replace hp : p < s1b.next := by omega
  replace C0 := C0.nil c2
  clear c2 hq
  have a1 : lookH s1b.heap s1a.next = some (.cells (flC ⟨[84, 111], trimF va1, ra1⟩) tFl false false) := x2
  have l1 : s1a.next < s1b.next := by omega
  generalize s1a.next = p1 at *
  clear x2 f2 m2
  (repeat(first|refine pSeq ?_|refine pReg ?_|refine sCons ?_|refine sNil ?_|refine rCons ?_|refine rNil ?_|refine kNo ?_|refine pRow ?_|refine pRet ?_|refine gNone ?_|refine gOn rfl ?_|refine gOff rfl rfl ?_|refine gTup rfl ?_))
  refine ⟨by simp [L70_len, Y74_len, Y73_len], ?_⟩
  intro w hw
  subst hw
  (repeat(first|refine pSeq ?_|refine pReg ?_|refine sCons ?_|refine sNil ?_|refine rCons ?_|refine rNil ?_|refine kNo ?_|refine pRow ?_|refine pRet ?_|refine gNone ?_|refine gOn rfl ?_|refine gOff rfl rfl ?_|refine gTup rfl ?_))
  refine ⟨by simp [L70_len, Y74_len, Y73_len], ?_⟩
  intro w hw
  subst hw
  (repeat(first|refine pSeq ?_|refine pReg ?_|refine sCons ?_|refine sNil ?_|refine rCons ?_|refine rNil ?_|refine kNo ?_|refine pRow ?_|refine pRet ?_|refine gNone ?_|refine gOn rfl ?_|refine gOff rfl rfl ?_|refine gTup rfl ?_))
  refine (hlay_w (nm := [84, 111]) (v := va2) (by simp) (by simp [L70_len, Y74_len, Y73_len, va1, va2, va3, va4])).mono fun u s2a q => ?_
  rw [lay2] at q
  obtain ⟨rfl, c1⟩ := q
  replace e0 := c1.blk _ _ hp (by simp) e0
  replace o0 := o0.chg c1 (by simp)
  replace a1 := c1.blk _ _ l1 (by simp) a1
  have hq := c1.next
  replace hp : p < s2a.next := by omega
  replace l1 : p1 < s2a.next := by omega
  replace C0 := C0.nil c1
  clear c1 hq
  (repeat(first|refine pSeq ?_|refine pReg ?_|refine sCons ?_|refine sNil ?_|refine rCons ?_|refine rNil ?_|refine kNo ?_|refine pRow ?_|refine pRet ?_|refine gNone ?_|refine gOn rfl ?_|refine gOff rfl rfl ?_|refine gTup rfl ?_))
  refine st_abs (cs' := flC ⟨[84, 111], trimF va2, ra2⟩) rfl rfl lkH (Nat.lt_succ_self _) rfl rfl fun s2b x2 f2 m2 => ?_
  have c2 : Chg s2a s2b [] := (Chg.new []).fresh f2 (by simp)
  have m2 : s2b.next = s2a.next + 1 := m2
  replace e0 := c2.blk _ _ hp (by simp) e0
  replace o0 := o0.chg c2 (by simp)
  replace a1 := c2.blk _ _ l1 (by simp) a1
  have hq := c2.next
  replace hp : p < s2b.next := by omega
  replace l1 : p1 < s2b.next := by omega
  replace C0 := C0.nil c2
  clear c2 hq
  have a2 : lookH s2b.heap s2a.next = some (.cells (flC ⟨[84, 111], trimF va2, ra2⟩) tFl false false) := x2
  have l2 : s2a.next < s2b.next := by omega
  generalize s2a.next = p2 at *
  clear x2 f2 m2
  (repeat(first|refine pSeq ?_|refine pReg ?_|refine sCons ?_|refine sNil ?_|refine rCons ?_|refine rNil ?_|refine kNo ?_|refine pRow ?_|refine pRet ?_|refine gNone ?_|refine gOn rfl ?_|refine gOff rfl rfl ?_|refine gTup rfl ?_))
  refine (repeat_w (l := [121]) (n := 74) (by decide) (by decide)).mono fun v s' q => ?_
  obtain ⟨rfl, e'⟩ := q
  subst e'
  rw [show Lib.repeatL [121] 74 = Y74 from rfl]
  (repeat(first|refine pSeq ?_|refine pReg ?_|refine sCons ?_|refine sNil ?_|refine rCons ?_|refine rNil ?_|refine kNo ?_|refine pRow ?_|refine pRet ?_|refine gNone ?_|refine gOn rfl ?_|refine gOff rfl rfl ?_|refine gTup rfl ?_))
  refine ⟨by simp [L70_len, Y74_len, Y73_len], ?_⟩
  intro w hw
  subst hw
  (repeat(first|refine pSeq ?_|refine pReg ?_|refine sCons ?_|refine sNil ?_|refine rCons ?_|refine rNil ?_|refine kNo ?_|refine pRow ?_|refine pRet ?_|refine gNone ?_|refine gOn rfl ?_|refine gOff rfl rfl ?_|refine gTup rfl ?_))
  refine (hlay_w (nm := [84, 111]) (v := va3) (by simp) (by simp [L70_len, Y74_len, Y73_len, va1, va2, va3, va4])).mono fun u s3a q => ?_
  rw [lay3] at q
  obtain ⟨rfl, c1⟩ := q
  replace e0 := c1.blk _ _ hp (by simp) e0
  replace o0 := o0.chg c1 (by simp)
  replace a1 := c1.blk _ _ l1 (by simp) a1
  replace a2 := c1.blk _ _ l2 (by simp) a2
  have hq := c1.next
  replace hp : p < s3a.next := by omega
  replace l1 : p1 < s3a.next := by omega
  replace l2 : p2 < s3a.next := by omega
  replace C0 := C0.nil c1
  clear c1 hq
  (repeat(first|refine pSeq ?_|refine pReg ?_|refine sCons ?_|refine sNil ?_|refine rCons ?_|refine rNil ?_|refine kNo ?_|refine pRow ?_|refine pRet ?_|refine gNone ?_|refine gOn rfl ?_|refine gOff rfl rfl ?_|refine gTup rfl ?_))
  refine st_abs (cs' := flC ⟨[84, 111], trimF va3, ra3⟩) rfl rfl lkH (Nat.lt_succ_self _) rfl rfl fun s3b x2 f2 m2 => ?_
  have c2 : Chg s3a s3b [] := (Chg.new []).fresh f2 (by simp)
  have m2 : s3b.next = s3a.next + 1 := m2
  replace e0 := c2.blk _ _ hp (by simp) e0
  replace o0 := o0.chg c2 (by simp)
  replace a1 := c2.blk _ _ l1 (by simp) a1
  replace a2 := c2.blk _ _ l2 (by simp) a2
  have hq := c2.next
  replace hp : p < s3b.next := by omega
  replace l1 : p1 < s3b.next := by omega
  replace l2 : p2 < s3b.next := by omega
  replace C0 := C0.nil c2
  clear c2 hq
  have a3 : lookH s3b.heap s3a.next = some (.cells (flC ⟨[84, 111], trimF va3, ra3⟩) tFl false false) := x2
  have l3 : s3a.next < s3b.next := by omega
  generalize s3a.next = p3 at *
  clear x2 f2 m2
  (repeat(first|refine pSeq ?_|refine pReg ?_|refine sCons ?_|refine sNil ?_|refine rCons ?_|refine rNil ?_|refine kNo ?_|refine pRow ?_|refine pRet ?_|refine gNone ?_|refine gOn rfl ?_|refine gOff rfl rfl ?_|refine gTup rfl ?_))
  refine (repeat_w (l := [121]) (n := 73) (by decide) (by decide)).mono fun v s' q => ?_
  obtain ⟨rfl, e'⟩ := q
  subst e'
  rw [show Lib.repeatL [121] 73 = Y73 from rfl]
  (repeat(first|refine pSeq ?_|refine pReg ?_|refine sCons ?_|refine sNil ?_|refine rCons ?_|refine rNil ?_|refine kNo ?_|refine pRow ?_|refine pRet ?_|refine gNone ?_|refine gOn rfl ?_|refine gOff rfl rfl ?_|refine gTup rfl ?_))
  refine ⟨by simp [L70_len, Y74_len, Y73_len], ?_⟩
  intro w hw
  subst hw
  (repeat(first|refine pSeq ?_|refine pReg ?_|refine sCons ?_|refine sNil ?_|refine rCons ?_|refine rNil ?_|refine kNo ?_|refine pRow ?_|refine pRet ?_|refine gNone ?_|refine gOn rfl ?_|refine gOff rfl rfl ?_|refine gTup rfl ?_))
  refine (hlay_w (nm := [84, 111]) (v := va4) (by simp) (by simp [L70_len, Y74_len, Y73_len, va1, va2, va3, va4])).mono fun u s4a q => ?_
  rw [lay4] at q
  obtain ⟨rfl, c1⟩ := q
  replace e0 := c1.blk _ _ hp (by simp) e0
  replace o0 := o0.chg c1 (by simp)
  replace a1 := c1.blk _ _ l1 (by simp) a1
  replace a2 := c1.blk _ _ l2 (by simp) a2
  replace a3 := c1.blk _ _ l3 (by simp) a3
  have hq := c1.next
  replace hp : p < s4a.next := by omega
  replace l1 : p1 < s4a.next := by omega
  replace l2 : p2 < s4a.next := by omega
  replace l3 : p3 < s4a.next := by omega
  replace C0 := C0.nil c1
  clear c1 hq
  (repeat(first|refine pSeq ?_|refine pReg ?_|refine sCons ?_|refine sNil ?_|refine rCons ?_|refine rNil ?_|refine kNo ?_|refine pRow ?_|refine pRet ?_|refine gNone ?_|refine gOn rfl ?_|refine gOff rfl rfl ?_|refine gTup rfl ?_))
  refine st_abs (cs' := flC ⟨[84, 111], trimF va4, ra4⟩) rfl rfl lkH (Nat.lt_succ_self _) rfl rfl fun s4b x2 f2 m2 => ?_
  have c2 : Chg s4a s4b [] := (Chg.new []).fresh f2 (by simp)
  have m2 : s4b.next = s4a.next + 1 := m2
  replace e0 := c2.blk _ _ hp (by simp) e0
  replace o0 := o0.chg c2 (by simp)
  replace a1 := c2.blk _ _ l1 (by simp) a1
  replace a2 := c2.blk _ _ l2 (by simp) a2
  replace a3 := c2.blk _ _ l3 (by simp) a3
  have hq := c2.next
  replace hp : p < s4b.next := by omega
  replace l1 : p1 < s4b.next := by omega
  replace l2 : p2 < s4b.next := by omega
  replace l3 : p3 < s4b.next := by omega
  replace C0 := C0.nil c2
  clear c2 hq
  have a4 : lookH s4b.heap s4a.next = some (.cells (flC ⟨[84, 111], trimF va4, ra4⟩) tFl false false) := x2
  have l4 : s4a.next < s4b.next := by omega
  generalize s4a.next = p4 at *
  clear x2 f2 m2
  (repeat(first|refine pSeq ?_|refine pReg ?_|refine sCons ?_|refine sNil ?_|refine rCons ?_|refine rNil ?_|refine kNo ?_|refine pRow ?_|refine pRet ?_|refine gNone ?_|refine gOn rfl ?_|refine gOff rfl rfl ?_|refine gTup rfl ?_))
  refine (hlay_w (nm := [84, 32, 111]) (v := []) (by simp) (by simp [L70_len, Y74_len, Y73_len, va1, va2, va3, va4])).mono fun u s5a q => ?_
  rw [lay5] at q
  obtain ⟨rfl, c1⟩ := q
  replace e0 := c1.blk _ _ hp (by simp) e0
  replace o0 := o0.chg c1 (by simp)
  replace a1 := c1.blk _ _ l1 (by simp) a1
  replace a2 := c1.blk _ _ l2 (by simp) a2
  replace a3 := c1.blk _ _ l3 (by simp) a3
  replace a4 := c1.blk _ _ l4 (by simp) a4
  have hq := c1.next
  replace hp : p < s5a.next := by omega
  replace l1 : p1 < s5a.next := by omega
  replace l2 : p2 < s5a.next := by omega
  replace l3 : p3 < s5a.next := by omega
  replace l4 : p4 < s5a.next := by omega
  replace C0 := C0.nil c1
  clear c1 hq
  (repeat(first|refine pSeq ?_|refine pReg ?_|refine sCons ?_|refine sNil ?_|refine rCons ?_|refine rNil ?_|refine kNo ?_|refine pRow ?_|refine pRet ?_|refine gNone ?_|refine gOn rfl ?_|refine gOff rfl rfl ?_|refine gTup rfl ?_))
  refine st_abs (cs' := flC flZ) rfl rfl lkH (Nat.lt_succ_self _) rfl rfl fun s5b x2 f2 m2 => ?_
  have c2 : Chg s5a s5b [] := (Chg.new []).fresh f2 (by simp)
  have m2 : s5b.next = s5a.next + 1 := m2
  replace e0 := c2.blk _ _ hp (by simp) e0
  replace o0 := o0.chg c2 (by simp)
  replace a1 := c2.blk _ _ l1 (by simp) a1
  replace a2 := c2.blk _ _ l2 (by simp) a2
  replace a3 := c2.blk _ _ l3 (by simp) a3
  replace a4 := c2.blk _ _ l4 (by simp) a4
  have hq := c2.next
  replace hp : p < s5b.next := by omega
  replace l1 : p1 < s5b.next := by omega
  replace l2 : p2 < s5b.next := by omega
  replace l3 : p3 < s5b.next := by omega
  replace l4 : p4 < s5b.next := by omega
  replace C0 := C0.nil c2
  clear c2 hq
  clear x2 f2 m2
  (repeat(first|refine pSeq ?_|refine pReg ?_|refine sCons ?_|refine sNil ?_|refine rCons ?_|refine rNil ?_|refine kNo ?_|refine pRow ?_|refine pRet ?_|refine gNone ?_|refine gOn rfl ?_|refine gOff rfl rfl ?_|refine gTup rfl ?_))
  refine (hlay_w (nm := []) (v := [120]) (by simp) (by simp [L70_len, Y74_len, Y73_len, va1, va2, va3, va4])).mono fun u s6a q => ?_
  rw [lay6] at q
  obtain ⟨rfl, c1⟩ := q
  replace e0 := c1.blk _ _ hp (by simp) e0
  replace o0 := o0.chg c1 (by simp)
  replace a1 := c1.blk _ _ l1 (by simp) a1
  replace a2 := c1.blk _ _ l2 (by simp) a2
  replace a3 := c1.blk _ _ l3 (by simp) a3
  replace a4 := c1.blk _ _ l4 (by simp) a4
  have hq := c1.next
  replace hp : p < s6a.next := by omega
  replace l1 : p1 < s6a.next := by omega
  replace l2 : p2 < s6a.next := by omega
  replace l3 : p3 < s6a.next := by omega
  replace l4 : p4 < s6a.next := by omega
  replace C0 := C0.nil c1
  clear c1 hq
  (repeat(first|refine pSeq ?_|refine pReg ?_|refine sCons ?_|refine sNil ?_|refine rCons ?_|refine rNil ?_|refine kNo ?_|refine pRow ?_|refine pRet ?_|refine gNone ?_|refine gOn rfl ?_|refine gOff rfl rfl ?_|refine gTup rfl ?_))
  refine st_abs (cs' := flC flZ) rfl rfl lkH (Nat.lt_succ_self _) rfl rfl fun s6b x2 f2 m2 => ?_
  have c2 : Chg s6a s6b [] := (Chg.new []).fresh f2 (by simp)
  have m2 : s6b.next = s6a.next + 1 := m2
  replace e0 := c2.blk _ _ hp (by simp) e0
  replace o0 := o0.chg c2 (by simp)
  replace a1 := c2.blk _ _ l1 (by simp) a1
  replace a2 := c2.blk _ _ l2 (by simp) a2
  replace a3 := c2.blk _ _ l3 (by simp) a3
  replace a4 := c2.blk _ _ l4 (by simp) a4
  have hq := c2.next
  replace hp : p < s6b.next := by omega
  replace l1 : p1 < s6b.next := by omega
  replace l2 : p2 < s6b.next := by omega
  replace l3 : p3 < s6b.next := by omega
  replace l4 : p4 < s6b.next := by omega
  replace C0 := C0.nil c2
  clear c2 hq
  clear x2 f2 m2
  (repeat(first|refine pSeq ?_|refine pReg ?_|refine sCons ?_|refine sNil ?_|refine rCons ?_|refine rNil ?_|refine kNo ?_|refine pRow ?_|refine pRet ?_|refine gNone ?_|refine gOn rfl ?_|refine gOff rfl rfl ?_|refine gTup rfl ?_))
  refine (hlay_w (nm := [120]) (v := [97, 10, 98]) (by simp) (by simp [L70_len, Y74_len, Y73_len, va1, va2, va3, va4])).mono fun u s7a q => ?_
  rw [lay7] at q
  obtain ⟨rfl, c1⟩ := q
  replace e0 := c1.blk _ _ hp (by simp) e0
  replace o0 := o0.chg c1 (by simp)
  replace a1 := c1.blk _ _ l1 (by simp) a1
  replace a2 := c1.blk _ _ l2 (by simp) a2
  replace a3 := c1.blk _ _ l3 (by simp) a3
  replace a4 := c1.blk _ _ l4 (by simp) a4
  have hq := c1.next
  replace hp : p < s7a.next := by omega
  replace l1 : p1 < s7a.next := by omega
  replace l2 : p2 < s7a.next := by omega
  replace l3 : p3 < s7a.next := by omega
  replace l4 : p4 < s7a.next := by omega
  replace C0 := C0.nil c1
  clear c1 hq
  (repeat(first|refine pSeq ?_|refine pReg ?_|refine sCons ?_|refine sNil ?_|refine rCons ?_|refine rNil ?_|refine kNo ?_|refine pRow ?_|refine pRet ?_|refine gNone ?_|refine gOn rfl ?_|refine gOff rfl rfl ?_|refine gTup rfl ?_))
  refine st_abs (cs' := flC flZ) rfl rfl lkH (Nat.lt_succ_self _) rfl rfl fun s7b x2 f2 m2 => ?_
  have c2 : Chg s7a s7b [] := (Chg.new []).fresh f2 (by simp)
  have m2 : s7b.next = s7a.next + 1 := m2
  replace e0 := c2.blk _ _ hp (by simp) e0
  replace o0 := o0.chg c2 (by simp)
  replace a1 := c2.blk _ _ l1 (by simp) a1
  replace a2 := c2.blk _ _ l2 (by simp) a2
  replace a3 := c2.blk _ _ l3 (by simp) a3
  replace a4 := c2.blk _ _ l4 (by simp) a4
  have hq := c2.next
  replace hp : p < s7b.next := by omega
  replace l1 : p1 < s7b.next := by omega
  replace l2 : p2 < s7b.next := by omega
  replace l3 : p3 < s7b.next := by omega
  replace l4 : p4 < s7b.next := by omega
  replace C0 := C0.nil c2
  clear c2 hq
  clear x2 f2 m2
  (repeat(first|refine pSeq ?_|refine pReg ?_|refine sCons ?_|refine sNil ?_|refine rCons ?_|refine rNil ?_|refine kNo ?_|refine pRow ?_|refine pRet ?_|refine gNone ?_|refine gOn rfl ?_|refine gOff rfl rfl ?_|refine gTup rfl ?_))
  refine ldN_is (new := msC kM (some ⟨b, 0, none⟩) cw) rfl e0 agm3 ?_
  (repeat(first|refine pSeq ?_|refine pReg ?_|refine sCons ?_|refine sNil ?_|refine rCons ?_|refine rNil ?_|refine kNo ?_|refine pRow ?_|refine pRet ?_|refine gNone ?_|refine gOn rfl ?_|refine gOff rfl rfl ?_|refine gTup rfl ?_))
  refine alloc_new (rNew (C0.fine hF).at ?_)
  have cA : Chg s7b ({ s7b with heap := (s7b.next, some (.cells (msC msZ none 0) tMs false false)) :: s7b.heap, next := s7b.next + 1 } : SS) [] := Chg.new []
  have kA : lookH ({ s7b with heap := (s7b.next, some (.cells (msC msZ none 0) tMs false false)) :: s7b.heap, next := s7b.next + 1 } : SS).heap s7b.next = some (.cells (msC msZ none 0) tMs false false) := lkH
  have nA : ({ s7b with heap := (s7b.next, some (.cells (msC msZ none 0) tMs false false)) :: s7b.heap, next := s7b.next + 1 } : SS).next = s7b.next + 1 := rfl
  (repeat(first|refine pSeq ?_|refine pReg ?_|refine sCons ?_|refine sNil ?_|refine rCons ?_|refine rNil ?_|refine kNo ?_|refine pRow ?_|refine pRet ?_|refine gNone ?_|refine gOn rfl ?_|refine gOff rfl rfl ?_|refine gTup rfl ?_))
  refine (repeat_w (l := [121]) (n := 8192) (by decide) (by decide)).mono fun v s' q => ?_
  obtain ⟨rfl, e'⟩ := q
  subst e'
  refine kAll .refl ?_
  (repeat(first|refine pSeq ?_|refine pReg ?_|refine sCons ?_|refine sNil ?_|refine rCons ?_|refine rNil ?_|refine kNo ?_|refine pRow ?_|refine pRet ?_|refine gNone ?_|refine gOn rfl ?_|refine gOff rfl rfl ?_|refine gTup rfl ?_))
  refine (ahead_w (m := kM) (cw := cw) (nm := [120]) (v := Lib.repeatL [121] 8192) ((C0.nil cA).fine hF) (o0.chg cA (by simp)) (by decide) (by simp) (by rw [Lib.repeatL_length]; decide) (Nat.le_of_ble_eq_true (by kernel_rfl))).mono fun u s8 q => ?_
  rw [ahead8] at q
  obtain ⟨W8, cw8, rfl, -, c8, -⟩ := q
  refine kAll (c8.keep ((C0.nil cA).fine hF)) ?_
  have kB := c8.blk _ _ (by omega) (by simp) kA
  have nB := c8.next
  have cB : Chg s7b s8 [] := cA.nil c8
  (repeat(first|refine pSeq ?_|refine pReg ?_|refine sCons ?_|refine sNil ?_|refine rCons ?_|refine rNil ?_|refine kNo ?_|refine pRow ?_|refine pRet ?_|refine gNone ?_|refine gOn rfl ?_|refine gOff rfl rfl ?_|refine gTup rfl ?_))
  refine st_abs (cs' := msC msZ W8 cw8) rfl rfl kB (by omega) rfl rfl fun s9 x9 f9 m9 => ?_
  have c9 : Chg s7b s9 [] := cB.fresh f9 (by simp)
  clear x9 f9 kA kB nA nB c8 cA cB
  replace e0 := c9.blk _ _ hp (by simp) e0
  replace o0 := o0.chg c9 (by simp)
  replace a1 := c9.blk _ _ l1 (by simp) a1
  replace a2 := c9.blk _ _ l2 (by simp) a2
  replace a3 := c9.blk _ _ l3 (by simp) a3
  replace a4 := c9.blk _ _ l4 (by simp) a4
  have hq := c9.next
  replace hp : p < s9.next := by omega
  replace l1 : p1 < s9.next := by omega
  replace l2 : p2 < s9.next := by omega
  replace l3 : p3 < s9.next := by omega
  replace l4 : p4 < s9.next := by omega
  replace C0 := C0.nil c9
  clear c9 hq
  clear m9
  (repeat(first|refine pSeq ?_|refine pReg ?_|refine sCons ?_|refine sNil ?_|refine rCons ?_|refine rNil ?_|refine kNo ?_|refine pRow ?_|refine pRet ?_|refine gNone ?_|refine gOn rfl ?_|refine gOff rfl rfl ?_|refine gTup rfl ?_))
  refine ldN_is (new := msC kM (some ⟨b, 0, none⟩) cw) rfl e0 agm3 ?_
  (repeat(first|refine pSeq ?_|refine pReg ?_|refine sCons ?_|refine sNil ?_|refine rCons ?_|refine rNil ?_|refine kNo ?_|refine pRow ?_|refine pRet ?_|refine gNone ?_|refine gOn rfl ?_|refine gOff rfl rfl ?_|refine gTup rfl ?_))
  refine (put_w (m := kM) (cw := cw) (k := 3) (v := []) (C0.fine hF) o0 (by decide) (by decide) (by simp) (Nat.le_of_ble_eq_true (by kernel_rfl))).mono fun u s10a q => ?_
  rw [put3] at q
  obtain ⟨W8, cw8, rfl, -, c1, -⟩ := q
  replace e0 := c1.blk _ _ hp (by simp) e0
  replace o0 := o0.chg c1 (by simp)
  replace a1 := c1.blk _ _ l1 (by simp) a1
  replace a2 := c1.blk _ _ l2 (by simp) a2
  replace a3 := c1.blk _ _ l3 (by simp) a3
  replace a4 := c1.blk _ _ l4 (by simp) a4
  have hq := c1.next
  replace hp : p < s10a.next := by omega
  replace l1 : p1 < s10a.next := by omega
  replace l2 : p2 < s10a.next := by omega
  replace l3 : p3 < s10a.next := by omega
  replace l4 : p4 < s10a.next := by omega
  replace C0 := C0.nil c1
  clear c1 hq
  (repeat(first|refine pSeq ?_|refine pReg ?_|refine sCons ?_|refine sNil ?_|refine rCons ?_|refine rNil ?_|refine kNo ?_|refine pRow ?_|refine pRet ?_|refine gNone ?_|refine gOn rfl ?_|refine gOff rfl rfl ?_|refine gTup rfl ?_))
  refine st_abs (cs' := msC msZ W8 cw8) rfl rfl lkH (Nat.lt_succ_self _) rfl rfl fun s10b x2 f2 m2 => ?_
  have c2 : Chg s10a s10b [] := (Chg.new []).fresh f2 (by simp)
  replace e0 := c2.blk _ _ hp (by simp) e0
  replace o0 := o0.chg c2 (by simp)
  replace a1 := c2.blk _ _ l1 (by simp) a1
  replace a2 := c2.blk _ _ l2 (by simp) a2
  replace a3 := c2.blk _ _ l3 (by simp) a3
  replace a4 := c2.blk _ _ l4 (by simp) a4
  have hq := c2.next
  replace hp : p < s10b.next := by omega
  replace l1 : p1 < s10b.next := by omega
  replace l2 : p2 < s10b.next := by omega
  replace l3 : p3 < s10b.next := by omega
  replace l4 : p4 < s10b.next := by omega
  replace C0 := C0.nil c2
  clear c2 hq
  clear x2 f2 m2
  (repeat(first|refine pSeq ?_|refine pReg ?_|refine sCons ?_|refine sNil ?_|refine rCons ?_|refine rNil ?_|refine kNo ?_|refine pRow ?_|refine pRet ?_|refine gNone ?_|refine gOn rfl ?_|refine gOff rfl rfl ?_|refine gTup rfl ?_))
  refine ldN_is (new := msC kM (some ⟨b, 0, none⟩) cw) rfl e0 agm3 ?_
  (repeat(first|refine pSeq ?_|refine pReg ?_|refine sCons ?_|refine sNil ?_|refine rCons ?_|refine rNil ?_|refine kNo ?_|refine pRow ?_|refine pRet ?_|refine gNone ?_|refine gOn rfl ?_|refine gOff rfl rfl ?_|refine gTup rfl ?_))
  refine (put_w (m := kM) (cw := cw) (k := -1) (v := []) (C0.fine hF) o0 (by decide) (by decide) (by simp) (Nat.le_of_ble_eq_true (by kernel_rfl))).mono fun u s11a q => ?_
  rw [putM] at q
  obtain ⟨W8, cw8, rfl, -, c1, -⟩ := q
  replace e0 := c1.blk _ _ hp (by simp) e0
  replace o0 := o0.chg c1 (by simp)
  replace a1 := c1.blk _ _ l1 (by simp) a1
  replace a2 := c1.blk _ _ l2 (by simp) a2
  replace a3 := c1.blk _ _ l3 (by simp) a3
  replace a4 := c1.blk _ _ l4 (by simp) a4
  have hq := c1.next
  replace hp : p < s11a.next := by omega
  replace l1 : p1 < s11a.next := by omega
  replace l2 : p2 < s11a.next := by omega
  replace l3 : p3 < s11a.next := by omega
  replace l4 : p4 < s11a.next := by omega
  replace C0 := C0.nil c1
  clear c1 hq
  (repeat(first|refine pSeq ?_|refine pReg ?_|refine sCons ?_|refine sNil ?_|refine rCons ?_|refine rNil ?_|refine kNo ?_|refine pRow ?_|refine pRet ?_|refine gNone ?_|refine gOn rfl ?_|refine gOff rfl rfl ?_|refine gTup rfl ?_))
  refine st_abs (cs' := msC msZ W8 cw8) rfl rfl lkH (Nat.lt_succ_self _) rfl rfl fun s11b x2 f2 m2 => ?_
  have c2 : Chg s11a s11b [] := (Chg.new []).fresh f2 (by simp)
  replace e0 := c2.blk _ _ hp (by simp) e0
  replace o0 := o0.chg c2 (by simp)
  replace a1 := c2.blk _ _ l1 (by simp) a1
  replace a2 := c2.blk _ _ l2 (by simp) a2
  replace a3 := c2.blk _ _ l3 (by simp) a3
  replace a4 := c2.blk _ _ l4 (by simp) a4
  have hq := c2.next
  replace hp : p < s11b.next := by omega
  replace l1 : p1 < s11b.next := by omega
  replace l2 : p2 < s11b.next := by omega
  replace l3 : p3 < s11b.next := by omega
  replace l4 : p4 < s11b.next := by omega
  replace C0 := C0.nil c2
  clear c2 hq
  clear x2 f2 m2
  (repeat(first|refine pSeq ?_|refine pReg ?_|refine sCons ?_|refine sNil ?_|refine rCons ?_|refine rNil ?_|refine kNo ?_|refine pRow ?_|refine pRet ?_|refine gNone ?_|refine gOn rfl ?_|refine gOff rfl rfl ?_|refine gTup rfl ?_))
  intro q hq
  obtain rfl : q = true := by rw [hq]; rfl
  (repeat(first|refine pSeq ?_|refine pReg ?_|refine sCons ?_|refine sNil ?_|refine rCons ?_|refine rNil ?_|refine kNo ?_|refine pRow ?_|refine pRet ?_|refine gNone ?_|refine gOn rfl ?_|refine gOff rfl rfl ?_|refine gTup rfl ?_))
  refine ldS_is (l := ra1) rfl a1 rfl ?_
  (repeat(first|refine pSeq ?_|refine pReg ?_|refine sCons ?_|refine sNil ?_|refine rCons ?_|refine rNil ?_|refine kNo ?_|refine pRow ?_|refine pRet ?_|refine gNone ?_|refine gOn rfl ?_|refine gOff rfl rfl ?_|refine gTup rfl ?_))
  refine ⟨by simp [L70_len, Y74_len, Y73_len], ?_⟩
  intro w hw
  subst hw
  (repeat(first|refine pSeq ?_|refine pReg ?_|refine sCons ?_|refine sNil ?_|refine rCons ?_|refine rNil ?_|refine kNo ?_|refine pRow ?_|refine pRet ?_|refine gNone ?_|refine gOn rfl ?_|refine gOff rfl rfl ?_|refine gTup rfl ?_))
  refine ⟨by simp [L70_len, Y74_len, Y73_len], ?_⟩
  intro w hw
  subst hw
  (repeat(first|refine pSeq ?_|refine pReg ?_|refine sCons ?_|refine sNil ?_|refine rCons ?_|refine rNil ?_|refine kNo ?_|refine pRow ?_|refine pRet ?_|refine gNone ?_|refine gOn rfl ?_|refine gOff rfl rfl ?_|refine gTup rfl ?_))
  refine ⟨by simp [L70_len, Y74_len, Y73_len], ?_⟩
  intro w hw
  subst hw
  (repeat(first|refine pSeq ?_|refine pReg ?_|refine sCons ?_|refine sNil ?_|refine rCons ?_|refine rNil ?_|refine kNo ?_|refine pRow ?_|refine pRet ?_|refine gNone ?_|refine gOn rfl ?_|refine gOff rfl rfl ?_|refine gTup rfl ?_))
  refine ⟨by simp [L70_len, Y74_len, Y73_len], ?_⟩
  intro w hw
  subst hw
  (repeat(first|refine pSeq ?_|refine pReg ?_|refine sCons ?_|refine sNil ?_|refine rCons ?_|refine rNil ?_|refine kNo ?_|refine pRow ?_|refine pRet ?_|refine gNone ?_|refine gOn rfl ?_|refine gOff rfl rfl ?_|refine gTup rfl ?_))
  intro q hq
  obtain rfl : q = true := by rw [hq]; exact decide_eq_true rfl
  (repeat(first|refine pSeq ?_|refine pReg ?_|refine sCons ?_|refine sNil ?_|refine rCons ?_|refine rNil ?_|refine kNo ?_|refine pRow ?_|refine pRet ?_|refine gNone ?_|refine gOn rfl ?_|refine gOff rfl rfl ?_|refine gTup rfl ?_))
  intro q hq
  obtain rfl : q = true := by rw [hq]; rfl
  (repeat(first|refine pSeq ?_|refine pReg ?_|refine sCons ?_|refine sNil ?_|refine rCons ?_|refine rNil ?_|refine kNo ?_|refine pRow ?_|refine pRet ?_|refine gNone ?_|refine gOn rfl ?_|refine gOff rfl rfl ?_|refine gTup rfl ?_))
  refine ldS_is (l := ra2) rfl a2 rfl ?_
  (repeat(first|refine pSeq ?_|refine pReg ?_|refine sCons ?_|refine sNil ?_|refine rCons ?_|refine rNil ?_|refine kNo ?_|refine pRow ?_|refine pRet ?_|refine gNone ?_|refine gOn rfl ?_|refine gOff rfl rfl ?_|refine gTup rfl ?_))
  refine ⟨by simp [L70_len, Y74_len, Y73_len], ?_⟩
  intro w hw
  subst hw
  (repeat(first|refine pSeq ?_|refine pReg ?_|refine sCons ?_|refine sNil ?_|refine rCons ?_|refine rNil ?_|refine kNo ?_|refine pRow ?_|refine pRet ?_|refine gNone ?_|refine gOn rfl ?_|refine gOff rfl rfl ?_|refine gTup rfl ?_))
  refine ⟨by simp [L70_len, Y74_len, Y73_len], ?_⟩
  intro w hw
  subst hw
  (repeat(first|refine pSeq ?_|refine pReg ?_|refine sCons ?_|refine sNil ?_|refine rCons ?_|refine rNil ?_|refine kNo ?_|refine pRow ?_|refine pRet ?_|refine gNone ?_|refine gOn rfl ?_|refine gOff rfl rfl ?_|refine gTup rfl ?_))
  refine ⟨by simp [L70_len, Y74_len, Y73_len], ?_⟩
  intro w hw
  subst hw
  (repeat(first|refine pSeq ?_|refine pReg ?_|refine sCons ?_|refine sNil ?_|refine rCons ?_|refine rNil ?_|refine kNo ?_|refine pRow ?_|refine pRet ?_|refine gNone ?_|refine gOn rfl ?_|refine gOff rfl rfl ?_|refine gTup rfl ?_))
  intro q hq
  obtain rfl : q = true := by rw [hq]; exact decide_eq_true rfl
  (repeat(first|refine pSeq ?_|refine pReg ?_|refine sCons ?_|refine sNil ?_|refine rCons ?_|refine rNil ?_|refine kNo ?_|refine pRow ?_|refine pRet ?_|refine gNone ?_|refine gOn rfl ?_|refine gOff rfl rfl ?_|refine gTup rfl ?_))
  intro q hq
  obtain rfl : q = true := by rw [hq]; rfl
  (repeat(first|refine pSeq ?_|refine pReg ?_|refine sCons ?_|refine sNil ?_|refine rCons ?_|refine rNil ?_|refine kNo ?_|refine pRow ?_|refine pRet ?_|refine gNone ?_|refine gOn rfl ?_|refine gOff rfl rfl ?_|refine gTup rfl ?_))
  refine ldS_is (l := ra3) rfl a3 rfl ?_
  (repeat(first|refine pSeq ?_|refine pReg ?_|refine sCons ?_|refine sNil ?_|refine rCons ?_|refine rNil ?_|refine kNo ?_|refine pRow ?_|refine pRet ?_|refine gNone ?_|refine gOn rfl ?_|refine gOff rfl rfl ?_|refine gTup rfl ?_))
  refine (repeat_w (l := [121]) (n := 74) (by decide) (by decide)).mono fun v s' q => ?_
  obtain ⟨rfl, e'⟩ := q
  subst e'
  rw [show Lib.repeatL [121] 74 = Y74 from rfl]
  refine kAll .refl ?_
  (repeat(first|refine pSeq ?_|refine pReg ?_|refine sCons ?_|refine sNil ?_|refine rCons ?_|refine rNil ?_|refine kNo ?_|refine pRow ?_|refine pRet ?_|refine gNone ?_|refine gOn rfl ?_|refine gOff rfl rfl ?_|refine gTup rfl ?_))
  refine ⟨by simp [L70_len, Y74_len, Y73_len], ?_⟩
  intro w hw
  subst hw
  (repeat(first|refine pSeq ?_|refine pReg ?_|refine sCons ?_|refine sNil ?_|refine rCons ?_|refine rNil ?_|refine kNo ?_|refine pRow ?_|refine pRet ?_|refine gNone ?_|refine gOn rfl ?_|refine gOff rfl rfl ?_|refine gTup rfl ?_))
  refine ⟨by simp [L70_len, Y74_len, Y73_len], ?_⟩
  intro w hw
  subst hw
  (repeat(first|refine pSeq ?_|refine pReg ?_|refine sCons ?_|refine sNil ?_|refine rCons ?_|refine rNil ?_|refine kNo ?_|refine pRow ?_|refine pRet ?_|refine gNone ?_|refine gOn rfl ?_|refine gOff rfl rfl ?_|refine gTup rfl ?_))
  intro q hq
  obtain rfl : q = true := by rw [hq]; exact decide_eq_true rfl
  (repeat(first|refine pSeq ?_|refine pReg ?_|refine sCons ?_|refine sNil ?_|refine rCons ?_|refine rNil ?_|refine kNo ?_|refine pRow ?_|refine pRet ?_|refine gNone ?_|refine gOn rfl ?_|refine gOff rfl rfl ?_|refine gTup rfl ?_))
  intro q hq
  obtain rfl : q = true := by rw [hq]; rfl
  (repeat(first|refine pSeq ?_|refine pReg ?_|refine sCons ?_|refine sNil ?_|refine rCons ?_|refine rNil ?_|refine kNo ?_|refine pRow ?_|refine pRet ?_|refine gNone ?_|refine gOn rfl ?_|refine gOff rfl rfl ?_|refine gTup rfl ?_))
  refine ldS_is (l := ra4) rfl a4 rfl ?_
  (repeat(first|refine pSeq ?_|refine pReg ?_|refine sCons ?_|refine sNil ?_|refine rCons ?_|refine rNil ?_|refine kNo ?_|refine pRow ?_|refine pRet ?_|refine gNone ?_|refine gOn rfl ?_|refine gOff rfl rfl ?_|refine gTup rfl ?_))
  refine (repeat_w (l := [121]) (n := 73) (by decide) (by decide)).mono fun v s' q => ?_
  obtain ⟨rfl, e'⟩ := q
  subst e'
  rw [show Lib.repeatL [121] 73 = Y73 from rfl]
  refine kAll .refl ?_
  (repeat(first|refine pSeq ?_|refine pReg ?_|refine sCons ?_|refine sNil ?_|refine rCons ?_|refine rNil ?_|refine kNo ?_|refine pRow ?_|refine pRet ?_|refine gNone ?_|refine gOn rfl ?_|refine gOff rfl rfl ?_|refine gTup rfl ?_))
  refine ⟨by simp [L70_len, Y74_len, Y73_len], ?_⟩
  intro w hw
  subst hw
  (repeat(first|refine pSeq ?_|refine pReg ?_|refine sCons ?_|refine sNil ?_|refine rCons ?_|refine rNil ?_|refine kNo ?_|refine pRow ?_|refine pRet ?_|refine gNone ?_|refine gOn rfl ?_|refine gOff rfl rfl ?_|refine gTup rfl ?_))
  refine ⟨by simp [L70_len, Y74_len, Y73_len], ?_⟩
  intro w hw
  subst hw
  (repeat(first|refine pSeq ?_|refine pReg ?_|refine sCons ?_|refine sNil ?_|refine rCons ?_|refine rNil ?_|refine kNo ?_|refine pRow ?_|refine pRet ?_|refine gNone ?_|refine gOn rfl ?_|refine gOff rfl rfl ?_|refine gTup rfl ?_))
  intro q hq
  obtain rfl : q = true := by rw [hq]; exact decide_eq_true rfl
  (repeat(first|refine pSeq ?_|refine pReg ?_|refine sCons ?_|refine sNil ?_|refine rCons ?_|refine rNil ?_|refine kNo ?_|refine pRow ?_|refine pRet ?_|refine gNone ?_|refine gOn rfl ?_|refine gOff rfl rfl ?_|refine gTup rfl ?_))
  intro q hq
  obtain rfl : q = true := by rw [hq]; rfl
  (repeat(first|refine pSeq ?_|refine pReg ?_|refine sCons ?_|refine sNil ?_|refine rCons ?_|refine rNil ?_|refine kNo ?_|refine pRow ?_|refine pRet ?_|refine gNone ?_|refine gOn rfl ?_|refine gOff rfl rfl ?_|refine gTup rfl ?_))
  intro q hq
  obtain rfl : q = true := by rw [hq]; rfl
  (repeat(first|refine pSeq ?_|refine pReg ?_|refine sCons ?_|refine sNil ?_|refine rCons ?_|refine rNil ?_|refine kNo ?_|refine pRow ?_|refine pRet ?_|refine gNone ?_|refine gOn rfl ?_|refine gOff rfl rfl ?_|refine gTup rfl ?_))
  intro q hq
  obtain rfl : q = true := by rw [hq]; rfl
  (repeat(first|refine pSeq ?_|refine pReg ?_|refine sCons ?_|refine sNil ?_|refine rCons ?_|refine rNil ?_|refine kNo ?_|refine pRow ?_|refine pRet ?_|refine gNone ?_|refine gOn rfl ?_|refine gOff rfl rfl ?_|refine gTup rfl ?_))
  intro q hq
  obtain rfl : q = true := by rw [hq]; rfl
  (repeat(first|refine pSeq ?_|refine pReg ?_|refine sCons ?_|refine sNil ?_|refine rCons ?_|refine rNil ?_|refine kNo ?_|refine pRow ?_|refine pRet ?_|refine gNone ?_|refine gOn rfl ?_|refine gOff rfl rfl ?_|refine gTup rfl ?_))
  intro q hq
  obtain rfl : q = true := by rw [hq]; rfl
  (repeat(first|refine pSeq ?_|refine pReg ?_|refine sCons ?_|refine sNil ?_|refine rCons ?_|refine rNil ?_|refine kNo ?_|refine pRow ?_|refine pRet ?_|refine gNone ?_|refine gOn rfl ?_|refine gOff rfl rfl ?_|refine gTup rfl ?_))
  intro q hq
  obtain rfl : q = true := by rw [hq]; rfl
  (repeat(first|refine pSeq ?_|refine pReg ?_|refine sCons ?_|refine sNil ?_|refine rCons ?_|refine rNil ?_|refine kNo ?_|refine pRow ?_|refine pRet ?_|refine gNone ?_|refine gOn rfl ?_|refine gOff rfl rfl ?_|refine gTup rfl ?_))
  refine (hwakes_w (hG.chg C0)).mono fun v sz q => ?_
  obtain ⟨rfl, cz⟩ := q
  (repeat(first|refine pSeq ?_|refine pReg ?_|refine sCons ?_|refine sNil ?_|refine rCons ?_|refine rNil ?_|refine kNo ?_|refine pRow ?_|refine pRet ?_|refine gNone ?_|refine gOn rfl ?_|refine gOff rfl rfl ?_|refine gTup rfl ?_))
  rfl

set_option maxHeartbeats 4000000 in
theorem kknown_w {s : SS} (hG : Gx s) (hF : Fine s) : CallW pr 6 [] s fun v s' => v = .bool true := by
  refine CallW.pieces (nt := 236) (res := [.tmp 0]) (c := .seq code_K07_R0 (.seq (.seq (.region 1 ops_K07_O1 true) code_K07_B1) (.seq code_K07_R7 (.seq code_K07_R8 code_K07_TL)))) (by kernel_rfl) (by kernel_rfl) (by kernel_rfl) (by kernel_rfl) (by simp) ?_
  refine W.seq (comp_ok good ok_K07_R0 (Box.out (p := wp pr 236 s.next _ _ _ _) ?_))
  (repeat(first|refine pReg ?_|refine sCons ?_|refine sNil ?_|refine gNone ?_))
  show W pr 236 s.next _ _ _ _
  refine W.weak (k := s.next) (T' := [(0, .bool false)]) (s' := s) (Wk.same ⟨rfl, trivial⟩) ?_
  refine W.seq (k := s.next) (W.lit (z := z1) (g := s) (T' := [(0, .bool false)]) (ex := .normal) good (by kernel_rfl) z1_ok um_er un_S pure1 rfl (fun π hπ => loopA_w hG hF hπ) fun n hn => ?_)
  have g1 : Gx (s.upto n) := ⟨hG.1, Nat.lt_of_lt_of_le hG.2.1 hn, hG.2.2⟩
  have f1 : Fine (s.upto n) := fun id hid => hF id (Nat.le_trans hn hid)
  show W pr 236 s.next (.seq code_K07_R7 (.seq code_K07_R8 code_K07_TL)) [(0, .bool false)] (s.upto n) (runQ pr [.tmp 0] fun v s' => v = .bool true)
  exact kmes_w g1 f1 fun s' b p cw c e hp o => ktail_w (g1.chg c) (c.fine f1) e hp o
end Go.Vf.S

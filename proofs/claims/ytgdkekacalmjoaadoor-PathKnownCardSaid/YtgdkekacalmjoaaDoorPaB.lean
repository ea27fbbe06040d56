import Derived.Test.YtgdkekacalmjoaaDoorPaA
import Derived.Test.YtgdkekacalmjoaaDoorAdF
import Derived.Test.YtgdkekacalmjoaaDoorTxL
/- Paths: what a known parameter's value says. -/
namespace Go.Vf.S
open Go Go.Vf
attribute [local irreducible] wSeq wRow wp wG
set_option linter.unusedVariables false
set_option linter.unusedSimpArgs false
set_option maxRecDepth 10000

abbrev tPm : TypeId := 53
abbrev tPp : TypeId := 110
abbrev tI : TypeId := 3
theorem pm_ne {s : SS} {a b : Nat} {c c' : List Value} {t t' : TypeId} {g r g' r' : Bool} (h : lookH s.heap a = some (.cells c t g r)) (k : lookH s.heap b = some (.cells c' t' g' r')) (ht : t ≠ t') : a ≠ b := by
  rintro rfl
  rw [h] at k
  cases k
  exact ht rfl
/-- Parameters as they lie. -/
structure Pv where
  has : Bool
  eight : Bool
  size : Nat
def pvCells (p : Pv) : List Value := [.bool p.has, .bool p.eight, .int .i64 p.size]

/-- Where they lie, and the cell that the closures share. -/
structure PvAt (s : SS) (pc pb : Nat) (p : Pv) : Prop where
  cell : lookH s.heap pc = some (.cells [.pointer (some ⟨pb, 0, none⟩)] tPp false false)
  blk : lookH s.heap pb = some (.cells (pvCells p) tPm false false)
  lt : pb < s.next
  ltc : pc < s.next
theorem PvAt.chg {s s' : SS} {pc pb : Nat} {p : Pv} {Z : List Nat} (h : PvAt s pc pb p) (c : Chg s s' Z) (h1 : pc ∉ Z) (h2 : pb ∉ Z) : PvAt s' pc pb p :=
  ⟨c.blk _ _ h.ltc h1 h.cell, c.blk _ _ h.lt h2 h.blk, Nat.lt_of_lt_of_le h.lt c.next, Nat.lt_of_lt_of_le h.ltc c.next⟩
theorem PvAt.ne {s : SS} {pc pb : Nat} {p : Pv} (h : PvAt s pc pb p) : pc ≠ pb := pm_ne h.cell h.blk (by decide)

def sizeE (p : Pv) (l : List UInt8) : Int := if (numberF l 9).2 = 0 then (if p.has then 1 else 0) else 5

theorem known1_w {s : SS} {pc pb : Nat} {p : Pv} {l : List UInt8} (h : PvAt s pc pb p) (hl : l.length ≤ 1000000) :
    CallW pr n_path_Params_known_1 [str l, .pointer (some ⟨pc, 0, none⟩)] s fun v s' => v = .int .i64 (sizeE p l) ∧ PvAt s' pc pb ⟨true, p.eight, (numberF l 9).1⟩ ∧ Chg s s' [pb] := by
  have hne := h.ne
  refine CallW.run good ok_path_Params_known_1 (by simp) rfl ?_
  (repeat(first|refine pSeq ?_|refine pReg ?_|refine sCons ?_|refine sNil ?_|refine rCons ?_|refine rNil ?_|refine kNo ?_|refine pRow ?_|refine pSkip ?_|refine pRet ?_|refine pCond ?_|refine gNone ?_|refine gOn rfl ?_|refine gOff rfl rfl ?_|refine gTup rfl ?_))
  refine (number_w (d := 9) hl).mono fun v s1 q => ?_
  obtain ⟨rfl, c1⟩ := q
  have h1 := h.chg c1 (by simp) (by simp)
  unfold sizeE
  have h05 : (numberF l 9).2 = 0 ∨ (numberF l 9).2 = 5 := by unfold numberF; split <;> simp
  generalize hN : numberF l 9 = N at *
  obtain ⟨a, b⟩ := N
  dsimp only [nRes] at *
  (repeat(first|refine pSeq ?_|refine pReg ?_|refine sCons ?_|refine sNil ?_|refine rCons ?_|refine rNil ?_|refine kNo ?_|refine pRow ?_|refine pSkip ?_|refine pRet ?_|refine pCond ?_|refine gNone ?_|refine gOn rfl ?_|refine gOff rfl rfl ?_|refine gTup rfl ?_))
  intro q hq
  by_cases hb : b = 0
  · subst hb
    obtain rfl : q = true := by rw [hq]; rfl
    (repeat(first|refine pSeq ?_|refine pReg ?_|refine sCons ?_|refine sNil ?_|refine rCons ?_|refine rNil ?_|refine kNo ?_|refine pRow ?_|refine pSkip ?_|refine pRet ?_|refine pCond ?_|refine gNone ?_|refine gOn rfl ?_|refine gOff rfl rfl ?_|refine gTup rfl ?_))
    refine ld1_is rfl h1.cell rfl ?_
    (repeat(first|refine pSeq ?_|refine pReg ?_|refine sCons ?_|refine sNil ?_|refine rCons ?_|refine rNil ?_|refine kNo ?_|refine pRow ?_|refine pSkip ?_|refine pRet ?_|refine pCond ?_|refine gNone ?_|refine gOn rfl ?_|refine gOff rfl rfl ?_|refine gTup rfl ?_))
    refine ldB_is rfl h1.blk rfl ?_
    cases hh : p.has with
    | true =>
      (repeat(first|refine pSeq ?_|refine pReg ?_|refine sCons ?_|refine sNil ?_|refine rCons ?_|refine rNil ?_|refine kNo ?_|refine pRow ?_|refine pSkip ?_|refine pRet ?_|refine pCond ?_|refine gNone ?_|refine gOn rfl ?_|refine gOff rfl rfl ?_|refine gTup rfl ?_))
      refine ld1_is rfl h1.cell rfl ?_
      (repeat(first|refine pSeq ?_|refine pReg ?_|refine sCons ?_|refine sNil ?_|refine rCons ?_|refine rNil ?_|refine kNo ?_|refine pRow ?_|refine pSkip ?_|refine pRet ?_|refine pCond ?_|refine gNone ?_|refine gOn rfl ?_|refine gOff rfl rfl ?_|refine gTup rfl ?_))
      refine ld1_is rfl h1.cell rfl ?_
      (repeat(first|refine pSeq ?_|refine pReg ?_|refine sCons ?_|refine sNil ?_|refine rCons ?_|refine rNil ?_|refine kNo ?_|refine pRow ?_|refine pSkip ?_|refine pRet ?_|refine pCond ?_|refine gNone ?_|refine gOn rfl ?_|refine gOff rfl rfl ?_|refine gTup rfl ?_))
      refine st_abs rfl rfl h1.blk h1.lt rfl rfl fun s2 e2 c2 n2 => ?_
      have cell2 := c2.blk _ _ h1.ltc (by simpa using hne) h1.cell
      refine kEach ⟨fun _ => ld1_is rfl cell2 rfl rfl, trivial⟩ ?_
      (repeat(first|refine pSeq ?_|refine pReg ?_|refine sCons ?_|refine sNil ?_|refine rCons ?_|refine rNil ?_|refine kNo ?_|refine pRow ?_|refine pSkip ?_|refine pRet ?_|refine pCond ?_|refine gNone ?_|refine gOn rfl ?_|refine gOff rfl rfl ?_|refine gTup rfl ?_))
      refine st_abs rfl rfl e2 (by rw [n2]; exact h1.lt) rfl rfl fun s3 e3 c3 n3 => ?_
      (repeat(first|refine pSeq ?_|refine pReg ?_|refine sCons ?_|refine sNil ?_|refine rCons ?_|refine rNil ?_|refine kNo ?_|refine pRow ?_|refine pSkip ?_|refine pRet ?_|refine pCond ?_|refine gNone ?_|refine gOn rfl ?_|refine gOff rfl rfl ?_|refine gTup rfl ?_))
      exact ⟨rfl, ⟨c3.blk _ _ (by rw [n2]; exact h1.ltc) (by simpa using hne) cell2, e3, by rw [n3, n2]; exact h1.lt, by rw [n3, n2]; exact h1.ltc⟩, (c1.nil c2).trans' c3 (fun _ q _ => q) (fun _ q _ => q)⟩
    | false =>
      (repeat(first|refine pSeq ?_|refine pReg ?_|refine sCons ?_|refine sNil ?_|refine rCons ?_|refine rNil ?_|refine kNo ?_|refine pRow ?_|refine pSkip ?_|refine pRet ?_|refine pCond ?_|refine gNone ?_|refine gOn rfl ?_|refine gOff rfl rfl ?_|refine gTup rfl ?_))
      refine ld1_is rfl h1.cell rfl ?_
      (repeat(first|refine pSeq ?_|refine pReg ?_|refine sCons ?_|refine sNil ?_|refine rCons ?_|refine rNil ?_|refine kNo ?_|refine pRow ?_|refine pSkip ?_|refine pRet ?_|refine pCond ?_|refine gNone ?_|refine gOn rfl ?_|refine gOff rfl rfl ?_|refine gTup rfl ?_))
      refine ld1_is rfl h1.cell rfl ?_
      (repeat(first|refine pSeq ?_|refine pReg ?_|refine sCons ?_|refine sNil ?_|refine rCons ?_|refine rNil ?_|refine kNo ?_|refine pRow ?_|refine pSkip ?_|refine pRet ?_|refine pCond ?_|refine gNone ?_|refine gOn rfl ?_|refine gOff rfl rfl ?_|refine gTup rfl ?_))
      refine st_abs rfl rfl h1.blk h1.lt rfl rfl fun s2 e2 c2 n2 => ?_
      have cell2 := c2.blk _ _ h1.ltc (by simpa using hne) h1.cell
      refine kEach ⟨fun _ => ld1_is rfl cell2 rfl rfl, trivial⟩ ?_
      (repeat(first|refine pSeq ?_|refine pReg ?_|refine sCons ?_|refine sNil ?_|refine rCons ?_|refine rNil ?_|refine kNo ?_|refine pRow ?_|refine pSkip ?_|refine pRet ?_|refine pCond ?_|refine gNone ?_|refine gOn rfl ?_|refine gOff rfl rfl ?_|refine gTup rfl ?_))
      refine st_abs rfl rfl e2 (by rw [n2]; exact h1.lt) rfl rfl fun s3 e3 c3 n3 => ?_
      (repeat(first|refine pSeq ?_|refine pReg ?_|refine sCons ?_|refine sNil ?_|refine rCons ?_|refine rNil ?_|refine kNo ?_|refine pRow ?_|refine pSkip ?_|refine pRet ?_|refine pCond ?_|refine gNone ?_|refine gOn rfl ?_|refine gOff rfl rfl ?_|refine gTup rfl ?_))
      exact ⟨rfl, ⟨c3.blk _ _ (by rw [n2]; exact h1.ltc) (by simpa using hne) cell2, e3, by rw [n3, n2]; exact h1.lt, by rw [n3, n2]; exact h1.ltc⟩, (c1.nil c2).trans' c3 (fun _ q _ => q) (fun _ q _ => q)⟩
  · obtain rfl : b = 5 := h05.resolve_left hb
    obtain rfl : q = false := by rw [hq]; rfl
    (repeat(first|refine pSeq ?_|refine pReg ?_|refine sCons ?_|refine sNil ?_|refine rCons ?_|refine rNil ?_|refine kNo ?_|refine pRow ?_|refine pSkip ?_|refine pRet ?_|refine pCond ?_|refine gNone ?_|refine gOn rfl ?_|refine gOff rfl rfl ?_|refine gTup rfl ?_))
    refine ld1_is rfl h1.cell rfl ?_
    (repeat(first|refine pSeq ?_|refine pReg ?_|refine sCons ?_|refine sNil ?_|refine rCons ?_|refine rNil ?_|refine kNo ?_|refine pRow ?_|refine pSkip ?_|refine pRet ?_|refine pCond ?_|refine gNone ?_|refine gOn rfl ?_|refine gOff rfl rfl ?_|refine gTup rfl ?_))
    refine ld1_is rfl h1.cell rfl ?_
    (repeat(first|refine pSeq ?_|refine pReg ?_|refine sCons ?_|refine sNil ?_|refine rCons ?_|refine rNil ?_|refine kNo ?_|refine pRow ?_|refine pSkip ?_|refine pRet ?_|refine pCond ?_|refine gNone ?_|refine gOn rfl ?_|refine gOff rfl rfl ?_|refine gTup rfl ?_))
    refine st_abs rfl rfl h1.blk h1.lt rfl rfl fun s2 e2 c2 n2 => ?_
    have cell2 := c2.blk _ _ h1.ltc (by simpa using hne) h1.cell
    refine kEach ⟨fun _ => ld1_is rfl cell2 rfl rfl, trivial⟩ ?_
    (repeat(first|refine pSeq ?_|refine pReg ?_|refine sCons ?_|refine sNil ?_|refine rCons ?_|refine rNil ?_|refine kNo ?_|refine pRow ?_|refine pSkip ?_|refine pRet ?_|refine pCond ?_|refine gNone ?_|refine gOn rfl ?_|refine gOff rfl rfl ?_|refine gTup rfl ?_))
    refine st_abs rfl rfl e2 (by rw [n2]; exact h1.lt) rfl rfl fun s3 e3 c3 n3 => ?_
    (repeat(first|refine pSeq ?_|refine pReg ?_|refine sCons ?_|refine sNil ?_|refine rCons ?_|refine rNil ?_|refine kNo ?_|refine pRow ?_|refine pSkip ?_|refine pRet ?_|refine pCond ?_|refine gNone ?_|refine gOn rfl ?_|refine gOff rfl rfl ?_|refine gTup rfl ?_))
    exact ⟨rfl, ⟨c3.blk _ _ (by rw [n2]; exact h1.ltc) (by simpa using hne) cell2, e3, by rw [n3, n2]; exact h1.lt, by rw [n3, n2]; exact h1.ltc⟩, (c1.nil c2).trans' c3 (fun _ q _ => q) (fun _ q _ => q)⟩

def eightB (l : List UInt8) : Bool := decide (l.map lowB = [56, 98, 105, 116, 109, 105, 109, 101])
def sevenB (l : List UInt8) : Bool := decide (l.map lowB = [55, 98, 105, 116])
def bodyE (k : Nat) (l : List UInt8) : Int := if 1 ≤ k ∨ (eightB l = false ∧ sevenB l = false) then 1 else 0

theorem known2_w {s : SS} {pc pb bc k : Nat} {p : Pv} {l : List UInt8} (h : PvAt s pc pb p) (hb : lookH s.heap bc = some (.cells [.int .i64 k] tI false false)) (hbl : bc < s.next) (hf : Fine s) (hk : k < 1000000) (hl : l.length ≤ 1000000) :
    CallW pr n_path_Params_known_2 [str l, .pointer (some ⟨bc, 0, none⟩), .pointer (some ⟨pc, 0, none⟩)] s fun v s' => v = .int .i64 (bodyE k l) ∧ PvAt s' pc pb ⟨p.has, eightB l, p.size⟩ ∧ lookH s'.heap bc = some (.cells [.int .i64 (k + 1 : Nat)] tI false false) ∧ Chg s s' [pb, bc] := by
  have hne := h.ne
  have n1 : pc ≠ bc := pm_ne h.cell hb (by decide)
  have n2 : pb ≠ bc := pm_ne h.blk hb (by decide)
  refine CallW.run good ok_path_Params_known_2 (by simp) rfl ?_
  (repeat(first|refine pSeq ?_|refine pReg ?_|refine sCons ?_|refine sNil ?_|refine rCons ?_|refine rNil ?_|refine kNo ?_|refine pRow ?_|refine pSkip ?_|refine pRet ?_|refine pCond ?_|refine gNone ?_|refine gOn rfl ?_|refine gOff rfl rfl ?_|refine gTup rfl ?_))
  refine ldI_is rfl hb rfl ?_
  (repeat(first|refine pSeq ?_|refine pReg ?_|refine sCons ?_|refine sNil ?_|refine rCons ?_|refine rNil ?_|refine kNo ?_|refine pRow ?_|refine pSkip ?_|refine pRet ?_|refine pCond ?_|refine gNone ?_|refine gOn rfl ?_|refine gOff rfl rfl ?_|refine gTup rfl ?_))
  intro z hz
  obtain rfl : z = ((k + 1 : Nat) : Int) := by rw [hz, i64_id (by omega)]; omega
  (repeat(first|refine pSeq ?_|refine pReg ?_|refine sCons ?_|refine sNil ?_|refine rCons ?_|refine rNil ?_|refine kNo ?_|refine pRow ?_|refine pSkip ?_|refine pRet ?_|refine pCond ?_|refine gNone ?_|refine gOn rfl ?_|refine gOff rfl rfl ?_|refine gTup rfl ?_))
  refine st_abs rfl rfl hb hbl rfl rfl fun s1 e1 c1 m1 => ?_
  have h1 := h.chg c1 (by simpa using n1) (by simpa using n2)
  (repeat(first|refine pSeq ?_|refine pReg ?_|refine sCons ?_|refine sNil ?_|refine rCons ?_|refine rNil ?_|refine kNo ?_|refine pRow ?_|refine pSkip ?_|refine pRet ?_|refine pCond ?_|refine gNone ?_|refine gOn rfl ?_|refine gOff rfl rfl ?_|refine gTup rfl ?_))
  refine ld1_is rfl h1.cell rfl ?_
  (repeat(first|refine pSeq ?_|refine pReg ?_|refine sCons ?_|refine sNil ?_|refine rCons ?_|refine rNil ?_|refine kNo ?_|refine pRow ?_|refine pSkip ?_|refine pRet ?_|refine pCond ?_|refine gNone ?_|refine gOn rfl ?_|refine gOff rfl rfl ?_|refine gTup rfl ?_))
  refine (same_w (t := [56, 66, 73, 84, 77, 73, 77, 69]) hl (by simp)).mono fun v s2 q => ?_
  obtain ⟨rfl, c2⟩ := q
  have h2 := h1.chg c2 (by simp) (by simp)
  have e2 := c2.blk _ _ (by rw [m1]; exact hbl) (by simp) e1
  refine kAll (c2.keep (c1.fine hf)) ?_
  (repeat(first|refine pSeq ?_|refine pReg ?_|refine sCons ?_|refine sNil ?_|refine rCons ?_|refine rNil ?_|refine kNo ?_|refine pRow ?_|refine pSkip ?_|refine pRet ?_|refine pCond ?_|refine gNone ?_|refine gOn rfl ?_|refine gOff rfl rfl ?_|refine gTup rfl ?_))
  refine st_abs (cs' := pvCells ⟨p.has, eightB l, p.size⟩) rfl rfl h2.blk h2.lt rfl rfl fun s3 e3 c3 m3 => ?_
  have h3 : PvAt s3 pc pb ⟨p.has, eightB l, p.size⟩ := ⟨c3.blk _ _ h2.ltc (by simpa using hne) h2.cell, e3, by rw [m3]; exact h2.lt, by rw [m3]; exact h2.ltc⟩
  have b3 := c3.blk _ _ (Nat.lt_of_lt_of_le (by rw [m1]; exact hbl) c2.next) (by simpa using n2.symm) e2
  have c03 : Chg s s3 [pb, bc] := (c1.trans' c2 (fun id q _ => q) (fun id q _ => by simp at q)).trans' c3 (fun id q _ => by simp at q; simp [q]) (fun id q _ => by simp at q; simp [q])
  (repeat(first|refine pSeq ?_|refine pReg ?_|refine sCons ?_|refine sNil ?_|refine rCons ?_|refine rNil ?_|refine kNo ?_|refine pRow ?_|refine pSkip ?_|refine pRet ?_|refine pCond ?_|refine gNone ?_|refine gOn rfl ?_|refine gOff rfl rfl ?_|refine gTup rfl ?_))
  refine ldI_is rfl b3 rfl ?_
  (repeat(first|refine pSeq ?_|refine pReg ?_|refine sCons ?_|refine sNil ?_|refine rCons ?_|refine rNil ?_|refine kNo ?_|refine pRow ?_|refine pSkip ?_|refine pRet ?_|refine pCond ?_|refine gNone ?_|refine gOn rfl ?_|refine gOff rfl rfl ?_|refine gTup rfl ?_))
  intro q hq
  by_cases hk1 : 1 ≤ k
  · obtain rfl : q = true := by rw [hq]; simp; omega
    (repeat(first|refine pSeq ?_|refine pReg ?_|refine sCons ?_|refine sNil ?_|refine rCons ?_|refine rNil ?_|refine kNo ?_|refine pRow ?_|refine pSkip ?_|refine pRet ?_|refine pCond ?_|refine gNone ?_|refine gOn rfl ?_|refine gOff rfl rfl ?_|refine gTup rfl ?_))
    exact ⟨by unfold bodyE; rw [if_pos (.inl hk1)]; rfl, h3, b3, c03⟩
  · obtain rfl : q = false := by rw [hq]; simp; omega
    (repeat(first|refine pSeq ?_|refine pReg ?_|refine sCons ?_|refine sNil ?_|refine rCons ?_|refine rNil ?_|refine kNo ?_|refine pRow ?_|refine pSkip ?_|refine pRet ?_|refine pCond ?_|refine gNone ?_|refine gOn rfl ?_|refine gOff rfl rfl ?_|refine gTup rfl ?_))
    refine ld1_is rfl h3.cell rfl ?_
    (repeat(first|refine pSeq ?_|refine pReg ?_|refine sCons ?_|refine sNil ?_|refine rCons ?_|refine rNil ?_|refine kNo ?_|refine pRow ?_|refine pSkip ?_|refine pRet ?_|refine pCond ?_|refine gNone ?_|refine gOn rfl ?_|refine gOff rfl rfl ?_|refine gTup rfl ?_))
    refine ldB_is rfl h3.blk rfl ?_
    cases h8 : eightB l with
    | true =>
      rw [h8] at h3
      (repeat(first|refine pSeq ?_|refine pReg ?_|refine sCons ?_|refine sNil ?_|refine rCons ?_|refine rNil ?_|refine kNo ?_|refine pRow ?_|refine pSkip ?_|refine pRet ?_|refine pCond ?_|refine gNone ?_|refine gOn rfl ?_|refine gOff rfl rfl ?_|refine gTup rfl ?_))
      intro q hq
      obtain rfl : q = false := hq
      (repeat(first|refine pSeq ?_|refine pReg ?_|refine sCons ?_|refine sNil ?_|refine rCons ?_|refine rNil ?_|refine kNo ?_|refine pRow ?_|refine pSkip ?_|refine pRet ?_|refine pCond ?_|refine gNone ?_|refine gOn rfl ?_|refine gOff rfl rfl ?_|refine gTup rfl ?_))
      exact ⟨by unfold bodyE; rw [if_neg (by simp [h8, hk1])]; rfl, h3, b3, c03⟩
    | false =>
      rw [h8] at h3
      (repeat(first|refine pSeq ?_|refine pReg ?_|refine sCons ?_|refine sNil ?_|refine rCons ?_|refine rNil ?_|refine kNo ?_|refine pRow ?_|refine pSkip ?_|refine pRet ?_|refine pCond ?_|refine gNone ?_|refine gOn rfl ?_|refine gOff rfl rfl ?_|refine gTup rfl ?_))
      intro q hq
      obtain rfl : q = true := hq
      (repeat(first|refine pSeq ?_|refine pReg ?_|refine sCons ?_|refine sNil ?_|refine rCons ?_|refine rNil ?_|refine kNo ?_|refine pRow ?_|refine pSkip ?_|refine pRet ?_|refine pCond ?_|refine gNone ?_|refine gOn rfl ?_|refine gOff rfl rfl ?_|refine gTup rfl ?_))
      refine (same_w (t := [55, 66, 73, 84]) hl (by simp)).mono fun v s4 q => ?_
      obtain ⟨rfl, c4⟩ := q
      have h4 := h3.chg c4 (by simp) (by simp)
      have b4 := c4.blk _ _ (Nat.lt_of_lt_of_le (Nat.lt_of_lt_of_le (by rw [m1]; exact hbl) c2.next) c3.next) (by simp) b3
      have c04 : Chg s s4 [pb, bc] := c03.trans' c4 (fun _ q _ => q) (fun id q _ => by simp at q)
      have e7 : decide (l.map lowB = [55, 66, 73, 84].map lowB) = sevenB l := rfl
      rw [e7]
      cases h7 : sevenB l with
      | true =>
        (repeat(first|refine pSeq ?_|refine pReg ?_|refine sCons ?_|refine sNil ?_|refine rCons ?_|refine rNil ?_|refine kNo ?_|refine pRow ?_|refine pSkip ?_|refine pRet ?_|refine pCond ?_|refine gNone ?_|refine gOn rfl ?_|refine gOff rfl rfl ?_|refine gTup rfl ?_))
        intro q hq
        obtain rfl : q = false := hq
        (repeat(first|refine pSeq ?_|refine pReg ?_|refine sCons ?_|refine sNil ?_|refine rCons ?_|refine rNil ?_|refine kNo ?_|refine pRow ?_|refine pSkip ?_|refine pRet ?_|refine pCond ?_|refine gNone ?_|refine gOn rfl ?_|refine gOff rfl rfl ?_|refine gTup rfl ?_))
        exact ⟨by unfold bodyE; rw [if_neg (by simp [h7, hk1])]; rfl, h4, b4, c04⟩
      | false =>
        (repeat(first|refine pSeq ?_|refine pReg ?_|refine sCons ?_|refine sNil ?_|refine rCons ?_|refine rNil ?_|refine kNo ?_|refine pRow ?_|refine pSkip ?_|refine pRet ?_|refine pCond ?_|refine gNone ?_|refine gOn rfl ?_|refine gOff rfl rfl ?_|refine gTup rfl ?_))
        intro q hq
        obtain rfl : q = true := hq
        (repeat(first|refine pSeq ?_|refine pReg ?_|refine sCons ?_|refine sNil ?_|refine rCons ?_|refine rNil ?_|refine kNo ?_|refine pRow ?_|refine pSkip ?_|refine pRet ?_|refine pCond ?_|refine gNone ?_|refine gOn rfl ?_|refine gOff rfl rfl ?_|refine gTup rfl ?_))
        exact ⟨by unfold bodyE; rw [if_pos (by simp [h8, h7])]; rfl, h4, b4, c04⟩
end Go.Vf.S

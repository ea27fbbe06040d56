import Derived.Test.YtioildcpkcijkaaDoorFrH
import Derived.Test.YtioildcpkcijkaaDoorEngBd
/- Frames opened. -/
namespace Go.Vf.S
open Go Go.Vf Go.Vf.Fr
attribute [local irreducible] wSeq wRow wp wG
set_option linter.unusedVariables false
set_option linter.unusedSimpArgs false
set_option maxRecDepth 10000

theorem Slc_old {s s' : SS} {base : Option Addr} {n c : Nat} {l : List UInt8} (h : Slc pr s base n c l) (o : Old s s') : Slc pr s' base n c l := by
  refine ⟨Rdb_old h.1 o, ?_⟩
  cases base with
  | none => trivial
  | some q =>
    obtain ⟨b, off, sp⟩ := q
    obtain ⟨h1, cc, t, g, r, h2, h3, h4⟩ := h
    obtain ⟨_, _, h5, _⟩ := h1
    exact ⟨cc, t, g, r, o.blk _ _ h5 h2, h3, h4⟩

def by4 (l : List UInt8) (i : Nat) : BitVec 32 := (l.getD i 0).toBitVec.setWidth 32
/-- The number that stands in four bytes. -/
def rd4 (l : List UInt8) (i : Nat) : BitVec 32 := by4 l i <<< 24 ||| by4 l (i + 1) <<< 16 ||| by4 l (i + 2) <<< 8 ||| by4 l (i + 3)

theorem wordAt_w {s : SS} {base : Option Addr} {n c : Nat} {l : List UInt8} (i : Nat) (h : Rdb s base n l) (hi : i + 4 ≤ n) (hb : n < 2 ^ 40) :
    CallW pr n_frame_wordAt [.slice base n c, .int .i64 i] s fun v s' => v = .int .u32 (rd4 l i).toNat := by
  have hnl := h.1
  cases base with
  | none => exact absurd hnl (by have := h.2; simp only at this; subst this; simp; omega)
  | some a =>
    obtain ⟨b, off, sp⟩ := a
    obtain ⟨rfl, cc, t, g, rr, hb1, hat⟩ := h.at
    refine CallW.run good ok_frame_wordAt (by simp) rfl ?_
    (repeat(first|refine pSeq ?_|refine pReg ?_|refine sCons ?_|refine sNil ?_|refine rCons ?_|refine rNil ?_|refine kNo ?_|refine pRow ?_|refine pRet ?_|refine gNone ?_))
    refine ⟨by omega, ?_⟩
    intro m hm o ho
    obtain rfl : m = i := by omega
    (repeat(first|refine pSeq ?_|refine pReg ?_|refine sCons ?_|refine sNil ?_|refine rCons ?_|refine rNil ?_|refine kNo ?_|refine pRow ?_|refine pRet ?_|refine gNone ?_))
    refine ldI_at rfl hb1 (by rw [ho, Nat.mul_one]; exact hat _ (by omega)) ?_
    (repeat(first|refine pSeq ?_|refine pReg ?_|refine sCons ?_|refine sNil ?_|refine rCons ?_|refine rNil ?_|refine kNo ?_|refine pRow ?_|refine pRet ?_|refine gNone ?_))
    intro z hz; rw [u8_u32] at hz; subst hz
    (repeat(first|refine pSeq ?_|refine pReg ?_|refine sCons ?_|refine sNil ?_|refine rCons ?_|refine rNil ?_|refine kNo ?_|refine pRow ?_|refine pRet ?_|refine gNone ?_))
    intro z hz; rw [shl_u32] at hz; subst hz
    (repeat(first|refine pSeq ?_|refine pReg ?_|refine sCons ?_|refine sNil ?_|refine rCons ?_|refine rNil ?_|refine kNo ?_|refine pRow ?_|refine pRet ?_|refine gNone ?_))
    intro z1 hz1
    rw [i64_id (by omega)] at hz1
    (repeat(first|refine pSeq ?_|refine pReg ?_|refine sCons ?_|refine sNil ?_|refine rCons ?_|refine rNil ?_|refine kNo ?_|refine pRow ?_|refine pRet ?_|refine gNone ?_))
    refine ⟨by omega, ?_⟩
    intro m1 hm1 o1 ho1
    obtain rfl : m1 = m + 1 := by omega
    (repeat(first|refine pSeq ?_|refine pReg ?_|refine sCons ?_|refine sNil ?_|refine rCons ?_|refine rNil ?_|refine kNo ?_|refine pRow ?_|refine pRet ?_|refine gNone ?_))
    refine ldI_at rfl hb1 (by rw [ho1, Nat.mul_one]; exact hat _ (by omega)) ?_
    (repeat(first|refine pSeq ?_|refine pReg ?_|refine sCons ?_|refine sNil ?_|refine rCons ?_|refine rNil ?_|refine kNo ?_|refine pRow ?_|refine pRet ?_|refine gNone ?_))
    intro z hz; rw [u8_u32] at hz; subst hz
    (repeat(first|refine pSeq ?_|refine pReg ?_|refine sCons ?_|refine sNil ?_|refine rCons ?_|refine rNil ?_|refine kNo ?_|refine pRow ?_|refine pRet ?_|refine gNone ?_))
    intro z hz; rw [shl_u32] at hz; subst hz
    (repeat(first|refine pSeq ?_|refine pReg ?_|refine sCons ?_|refine sNil ?_|refine rCons ?_|refine rNil ?_|refine kNo ?_|refine pRow ?_|refine pRet ?_|refine gNone ?_))
    intro z hz; rw [or_u32] at hz; subst hz
    (repeat(first|refine pSeq ?_|refine pReg ?_|refine sCons ?_|refine sNil ?_|refine rCons ?_|refine rNil ?_|refine kNo ?_|refine pRow ?_|refine pRet ?_|refine gNone ?_))
    intro z2 hz2
    rw [i64_id (by omega)] at hz2
    (repeat(first|refine pSeq ?_|refine pReg ?_|refine sCons ?_|refine sNil ?_|refine rCons ?_|refine rNil ?_|refine kNo ?_|refine pRow ?_|refine pRet ?_|refine gNone ?_))
    refine ⟨by omega, ?_⟩
    intro m2 hm2 o2 ho2
    obtain rfl : m2 = m + 2 := by omega
    (repeat(first|refine pSeq ?_|refine pReg ?_|refine sCons ?_|refine sNil ?_|refine rCons ?_|refine rNil ?_|refine kNo ?_|refine pRow ?_|refine pRet ?_|refine gNone ?_))
    refine ldI_at rfl hb1 (by rw [ho2, Nat.mul_one]; exact hat _ (by omega)) ?_
    (repeat(first|refine pSeq ?_|refine pReg ?_|refine sCons ?_|refine sNil ?_|refine rCons ?_|refine rNil ?_|refine kNo ?_|refine pRow ?_|refine pRet ?_|refine gNone ?_))
    intro z hz; rw [u8_u32] at hz; subst hz
    (repeat(first|refine pSeq ?_|refine pReg ?_|refine sCons ?_|refine sNil ?_|refine rCons ?_|refine rNil ?_|refine kNo ?_|refine pRow ?_|refine pRet ?_|refine gNone ?_))
    intro z hz; rw [shl_u32] at hz; subst hz
    (repeat(first|refine pSeq ?_|refine pReg ?_|refine sCons ?_|refine sNil ?_|refine rCons ?_|refine rNil ?_|refine kNo ?_|refine pRow ?_|refine pRet ?_|refine gNone ?_))
    intro z hz; rw [or_u32] at hz; subst hz
    (repeat(first|refine pSeq ?_|refine pReg ?_|refine sCons ?_|refine sNil ?_|refine rCons ?_|refine rNil ?_|refine kNo ?_|refine pRow ?_|refine pRet ?_|refine gNone ?_))
    intro z3 hz3
    rw [i64_id (by omega)] at hz3
    (repeat(first|refine pSeq ?_|refine pReg ?_|refine sCons ?_|refine sNil ?_|refine rCons ?_|refine rNil ?_|refine kNo ?_|refine pRow ?_|refine pRet ?_|refine gNone ?_))
    refine ⟨by omega, ?_⟩
    intro m3 hm3 o3 ho3
    obtain rfl : m3 = m + 3 := by omega
    (repeat(first|refine pSeq ?_|refine pReg ?_|refine sCons ?_|refine sNil ?_|refine rCons ?_|refine rNil ?_|refine kNo ?_|refine pRow ?_|refine pRet ?_|refine gNone ?_))
    refine ldI_at rfl hb1 (by rw [ho3, Nat.mul_one]; exact hat _ (by omega)) ?_
    (repeat(first|refine pSeq ?_|refine pReg ?_|refine sCons ?_|refine sNil ?_|refine rCons ?_|refine rNil ?_|refine kNo ?_|refine pRow ?_|refine pRet ?_|refine gNone ?_))
    intro z hz; rw [u8_u32] at hz; subst hz
    (repeat(first|refine pSeq ?_|refine pReg ?_|refine sCons ?_|refine sNil ?_|refine rCons ?_|refine rNil ?_|refine kNo ?_|refine pRow ?_|refine pRet ?_|refine gNone ?_))
    intro z hz; rw [or_u32] at hz; subst hz
    (repeat(first|refine pSeq ?_|refine pReg ?_|refine sCons ?_|refine sNil ?_|refine rCons ?_|refine rNil ?_|refine kNo ?_|refine pRow ?_|refine pRet ?_|refine gNone ?_))
    rfl

theorem wordAt_ok {s : SS} {base : Option Addr} {n c : Nat} {l : List UInt8} (i : Nat) (h : Pre s base n l) (hi : i + 4 ≤ n) (hb : n < 2 ^ 40) :
    CallOk pr n_frame_wordAt [.slice base n c, .int .i64 i] s.st (.int .u32 (rd4 l i).toNat) s.st := by
  obtain ⟨h1, h2⟩ := h.part
  refine CallOk.reads (needOf base) h2 ?_ (by have := h.next; have := h.gl; omega) rfl (wordAt_w i h1.rd hi hb)
  simp only [rnL, rn_base h.rd]
  rfl

/-- Nothing older. -/
def New (s : SS) (base : Option Addr) : Prop :=
  match base with
  | none => True
  | some ⟨b, _, _⟩ => s.next ≤ b

theorem fclone_w {s : SS} {base : Option Addr} {n c : Nat} {l : List UInt8} (h : Rdb s base n l) (hb : n ≤ 4294967296) :
    CallW pr n_bytes_Clone [.slice base n c] s fun v s' => ∃ b' c', v = .slice b' n c' ∧ Rdb s' b' n l ∧ New s b' ∧ Old s s' := by
  have hnl := h.1
  refine CallW.run good ok_bytes_Clone (by simp) rfl ?_
  cases base with
  | none =>
    have hl : l = [] := h.2
    subst hl
    obtain rfl : n = 0 := hnl
    (repeat(first|refine pSeq ?_|refine pReg ?_|refine sCons ?_|refine sNil ?_|refine pSkip ?_|refine pRet ?_|refine pCond ?_|refine gNone ?_))
    intro q hq
    obtain rfl : q = true := hq
    (repeat(first|refine pSeq ?_|refine pReg ?_|refine sCons ?_|refine sNil ?_|refine pSkip ?_|refine pRet ?_|refine pCond ?_|refine gNone ?_))
    exact ⟨none, 0, rfl, ⟨rfl, rfl⟩, trivial, .refl s⟩
  | some a =>
    obtain ⟨b, off, sp⟩ := a
    obtain ⟨heap, next, gl⟩ := s
    (repeat(first|refine pSeq ?_|refine pReg ?_|refine sCons ?_|refine sNil ?_|refine pSkip ?_|refine pRet ?_|refine pCond ?_|refine gNone ?_))
    intro q hq
    obtain rfl : q = false := hq
    (repeat(first|refine pSeq ?_|refine pReg ?_|refine sCons ?_|refine sNil ?_|refine pSkip ?_|refine pRet ?_|refine pCond ?_|refine gNone ?_))
    have h' : Rdb ⟨(next, some (.cells [] 5 false false)) :: heap, next + 1, gl⟩ (some ⟨b, off, sp⟩) n l :=
      Rdb.step h (Nat.le_succ _) fun id x hid hx => look_tail' (by have : id < next := hid; omega) hx
    have o' : Old ⟨heap, next, gl⟩ ⟨(next, some (.cells [] 5 false false)) :: heap, next + 1, gl⟩ := ⟨rfl, Nat.le_succ _, fun id x hid hx => look_tail' (by have : id < next := hid; omega) hx, fun f id hid => by
      have hid' : next + 1 ≤ id := hid
      exact lkN (by omega) (f id (by show next ≤ id; omega))⟩
    by_cases h0 : n = 0
    · subst h0
      have hl : l = [] := List.eq_nil_of_length_eq_zero hnl.symm
      subst hl
      refine appB_room (a := []) (n := 0) (m := 0) (l := []) (cap := 0) rfl look_head rfl rfl h' (Nat.le_refl _) (by omega) ?_
      (repeat(first|refine pSeq ?_|refine pReg ?_|refine sCons ?_|refine sNil ?_|refine pSkip ?_|refine pRet ?_|refine pCond ?_|refine gNone ?_))
      exact ⟨_, _, rfl, ⟨rfl, rfl, Nat.lt_succ_self _, _, _, _, _, look_head, rfl, rfl⟩, Nat.le_refl _, ⟨rfl, Nat.le_succ _, fun id x hid hx => look_tail' (by have : id < next := hid; omega) (o'.blk id x hid hx), fun f id hid => by
        have hid' : next + 1 ≤ id := hid
        exact lkN (show next ≠ id by omega) (o'.fine f id hid')⟩⟩
    · refine appB_new (a := []) (m := 0) (cap := 0) rfl look_head rfl rfl h' (by omega) (by omega) ?_
      (repeat(first|refine pSeq ?_|refine pReg ?_|refine sCons ?_|refine sNil ?_|refine pSkip ?_|refine pRet ?_|refine pCond ?_|refine gNone ?_))
      refine ⟨some ⟨next + 1, 0, none⟩, 0, by rw [Nat.zero_add]; rfl, ⟨hnl, rfl, Nat.lt_succ_self _, _, _, _, _, look_head, ?_, bytesV_plain _⟩, Nat.le_succ _, ⟨rfl, Nat.le_succ_of_le (Nat.le_succ _), fun id x hid hx => look_tail' (by have : id < next := hid; show next + 1 ≠ id; omega) (o'.blk id x hid hx), fun f id hid => by
        have hid' : next + 1 + 1 ≤ id := hid
        exact lkN (show next + 1 ≠ id by omega) (o'.fine f id (by show next + 1 ≤ id; omega))⟩⟩
      rw [takeN_bytes (by simp; omega), List.drop_zero, List.nil_append, List.take_of_length_le (by omega)]

/-! ### The document's number -/

def numB (l : List UInt8) : BitVec 32 := l.foldl (fun r b => BitVec.ofNat 32 256 * r + b.toBitVec.setWidth 32) 0#32

theorem numB_take {l : List UInt8} {i : Nat} (h : i < l.length) : numB (l.take (i + 1)) = BitVec.ofNat 32 256 * numB (l.take i) + (l.getD i 0).toBitVec.setWidth 32 := by
  unfold numB
  rw [List.take_add_one, List.foldl_append, List.getD, List.getElem?_eq_getElem h]
  rfl

theorem number_w (s : SS) (base : Option Addr) (n c : Nat) (l : List UInt8) (h : Rdb s base n l) (hb : n < 2 ^ 40) :
    CallW pr n_ref02_number [.slice base n c] s fun v s' => v = .int .u32 (numB l).toNat ∧ s' = s := by
  have hnl := h.1
  refine CallW.run good ok_ref02_number (by simp) rfl ?_
  (repeat(first|refine pSeq ?_|refine pReg ?_|refine sCons ?_|refine sNil ?_|refine pBlock ?_|refine pSkip ?_|refine pExit ?_|refine pRet ?_|refine pCond ?_|refine gNone ?_))
  refine pLoop (MW.head good (fun i => n - i) (fun i => i ≤ n) (fun i => [(0, .slice base n c), (3, .int .u32 (numB (l.take i)).toNat), (4, .int .i64 i)]) (fun _ => s) 0 (Nat.zero_le _) ?_ ?_)
  · exact Wk.same ⟨rfl, rfl, rfl, trivial⟩
  intro i hi
  (repeat(first|refine pSeq ?_|refine pReg ?_|refine sCons ?_|refine sNil ?_|refine pBlock ?_|refine pSkip ?_|refine pExit ?_|refine pRet ?_|refine pCond ?_|refine gNone ?_))
  intro q hq
  by_cases hlt : i < n
  · obtain rfl : q = true := by rw [hq]; simpa using hlt
    (repeat(first|refine pSeq ?_|refine pReg ?_|refine sCons ?_|refine sNil ?_|refine pBlock ?_|refine pSkip ?_|refine pExit ?_|refine pRet ?_|refine pCond ?_|refine gNone ?_))
    intro z hz
    rw [show IntKind.wrap .u32 (256 * ((numB (l.take i)).toNat : Int)) = _ from mulC_u32 256 _] at hz
    subst hz
    (repeat(first|refine pSeq ?_|refine pReg ?_|refine sCons ?_|refine sNil ?_|refine pBlock ?_|refine pSkip ?_|refine pExit ?_|refine pRet ?_|refine pCond ?_|refine gNone ?_))
    cases base with
    | none => exact absurd hnl (by have := h.2; simp only at this; subst this; simp; omega)
    | some a =>
      obtain ⟨b, off, sp⟩ := a
      obtain ⟨rfl, cc, t, g, rr, hb1, hat⟩ := h.at
      refine ⟨by omega, ?_⟩
      intro m hm o ho
      obtain rfl : m = i := by omega
      (repeat(first|refine pSeq ?_|refine pReg ?_|refine sCons ?_|refine sNil ?_|refine pBlock ?_|refine pSkip ?_|refine pExit ?_|refine pRet ?_|refine pCond ?_|refine gNone ?_))
      refine ldI_at rfl hb1 (by rw [ho, Nat.mul_one]; exact hat _ hlt) ?_
      (repeat(first|refine pSeq ?_|refine pReg ?_|refine sCons ?_|refine sNil ?_|refine pBlock ?_|refine pSkip ?_|refine pExit ?_|refine pRet ?_|refine pCond ?_|refine gNone ?_))
      intro z hz; rw [u8_u32] at hz; subst hz
      (repeat(first|refine pSeq ?_|refine pReg ?_|refine sCons ?_|refine sNil ?_|refine pBlock ?_|refine pSkip ?_|refine pExit ?_|refine pRet ?_|refine pCond ?_|refine gNone ?_))
      intro z hz; rw [add_u32] at hz
      (repeat(first|refine pSeq ?_|refine pReg ?_|refine sCons ?_|refine sNil ?_|refine pBlock ?_|refine pSkip ?_|refine pExit ?_|refine pRet ?_|refine pCond ?_|refine gNone ?_))
      intro z4 hz4
      (repeat(first|refine pSeq ?_|refine pReg ?_|refine sCons ?_|refine sNil ?_|refine pBlock ?_|refine pSkip ?_|refine pExit ?_|refine pRet ?_|refine pCond ?_|refine gNone ?_))
      refine ⟨m + 1, by dsimp only; omega, by dsimp only; omega, Wk.same ⟨rfl, ?_, ?_, trivial⟩⟩
      · rw [numB_take (by omega), hz]
        rfl
      · rw [hz4, i64_id (by omega)]
        rfl
  · obtain rfl : q = false := by rw [hq]; simpa using hlt
    obtain rfl : i = n := by omega
    (repeat(first|refine pSeq ?_|refine pReg ?_|refine sCons ?_|refine sNil ?_|refine pBlock ?_|refine pSkip ?_|refine pExit ?_|refine pRet ?_|refine pCond ?_|refine gNone ?_))
    rw [List.take_of_length_le (by omega)]
    exact ⟨rfl, rfl⟩

theorem by4_nat (b : UInt8) : (b.toBitVec.setWidth 32).toNat = b.toNat := by
  have := b.toNat_lt
  simp

theorem num2 (a b : UInt8) : (numB [a, b]).toNat = a.toNat * 256 + b.toNat := by
  have h1 := a.toNat_lt
  have h2 := b.toNat_lt
  simp only [numB, List.foldl, BitVec.toNat_add, BitVec.toNat_mul, by4_nat, BitVec.toNat_ofNat]
  omega

theorem or_sh {x y i : Nat} (h : y < 2 ^ i) : x <<< i ||| y = x * 2 ^ i + y := by rw [← Nat.shiftLeft_add_eq_or_of_lt h, Nat.shiftLeft_eq]

theorem rd4_nat (l : List UInt8) (i : Nat) : (rd4 l i).toNat = (((l.getD i 0).toNat * 256 + (l.getD (i + 1) 0).toNat) * 256 + (l.getD (i + 2) 0).toNat) * 256 + (l.getD (i + 3) 0).toNat := by
  have h0 := (l.getD i 0).toNat_lt
  have h1 := (l.getD (i + 1) 0).toNat_lt
  have h2 := (l.getD (i + 2) 0).toNat_lt
  have h3 := (l.getD (i + 3) 0).toNat_lt
  simp only [rd4, by4, BitVec.toNat_or, BitVec.toNat_shiftLeft, by4_nat]
  generalize (l.getD i 0).toNat = a at *
  generalize (l.getD (i + 1) 0).toNat = b at *
  generalize (l.getD (i + 2) 0).toNat = c at *
  generalize (l.getD (i + 3) 0).toNat = d at *
  rw [Nat.mod_eq_of_lt (by rw [Nat.shiftLeft_eq]; omega), Nat.mod_eq_of_lt (by rw [Nat.shiftLeft_eq]; omega), Nat.mod_eq_of_lt (by rw [Nat.shiftLeft_eq]; omega)]
  rw [Nat.or_assoc, or_sh (x := c) (i := 8) (by omega), or_sh (i := 24) (by rw [Nat.shiftLeft_eq]; omega)]
  rw [show a * 2 ^ 24 + b <<< 16 = (a * 256 + b) <<< 16 from by rw [Nat.shiftLeft_eq, Nat.shiftLeft_eq]; omega, or_sh (i := 16) (by omega)]
  omega

theorem num4 {l : List UInt8} {i : Nat} (h : i + 4 ≤ l.length) : numB ((l.drop i).take 4) = rd4 l i := by
  have e : (l.drop i).take 4 = [l.getD i 0, l.getD (i + 1) 0, l.getD (i + 2) 0, l.getD (i + 3) 0] := by
    refine List.ext_getElem? fun j => ?_
    match j with
    | 0 => simp [List.getElem?_take, List.getElem?_drop, List.getD, List.getElem?_eq_getElem (show i < l.length by omega)]
    | 1 => simp [List.getElem?_take, List.getElem?_drop, List.getD, List.getElem?_eq_getElem (show i + 1 < l.length by omega)]
    | 2 => simp [List.getElem?_take, List.getElem?_drop, List.getD, List.getElem?_eq_getElem (show i + 2 < l.length by omega)]
    | 3 => simp [List.getElem?_take, List.getElem?_drop, List.getD, List.getElem?_eq_getElem (show i + 3 < l.length by omega)]
    | j + 4 => simp [List.getElem?_take]; intro h; omega
  rw [e]
  apply BitVec.eq_of_toNat_eq
  rw [rd4_nat]
  have h0 := (l.getD i 0).toNat_lt
  have h1 := (l.getD (i + 1) 0).toNat_lt
  have h2 := (l.getD (i + 2) 0).toNat_lt
  have h3 := (l.getD (i + 3) 0).toNat_lt
  simp only [numB, List.foldl, BitVec.toNat_add, BitVec.toNat_mul, by4_nat, BitVec.toNat_ofNat]
  omega
end Go.Vf.S

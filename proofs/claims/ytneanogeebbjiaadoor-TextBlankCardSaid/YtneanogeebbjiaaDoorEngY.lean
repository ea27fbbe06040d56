import Derived.Test.YtneanogeebbjiaaDoorEngX
/- Numbers as bits. -/
namespace Go.Vf
set_option linter.unusedVariables false
set_option linter.unusedSimpArgs false

theorem toInt32 (x : BitVec 32) : BitVec.ofInt 32 (x.toNat : Int) = x := by
  apply BitVec.eq_of_toNat_eq
  have := x.isLt
  simp
theorem wrapBV32 (x : BitVec 32) : IntKind.wrap .u32 (x.toNat : Int) = (x.toNat : Int) := by
  have := x.isLt
  rw [wrap_u32]; omega
theorem xor_u32 (x y : BitVec 32) : IntKind.wrap .u32 ((BitVec.ofInt IntKind.u32.bits (x.toNat : Int) ^^^ BitVec.ofInt IntKind.u32.bits (y.toNat : Int)).toNat : Int) = ((x ^^^ y).toNat : Int) := by
  show IntKind.wrap .u32 ((BitVec.ofInt 32 (x.toNat : Int) ^^^ BitVec.ofInt 32 (y.toNat : Int)).toNat : Int) = _
  rw [toInt32, toInt32, wrapBV32]
theorem or_u32 (x y : BitVec 32) : IntKind.wrap .u32 ((BitVec.ofInt IntKind.u32.bits (x.toNat : Int) ||| BitVec.ofInt IntKind.u32.bits (y.toNat : Int)).toNat : Int) = ((x ||| y).toNat : Int) := by
  show IntKind.wrap .u32 ((BitVec.ofInt 32 (x.toNat : Int) ||| BitVec.ofInt 32 (y.toNat : Int)).toNat : Int) = _
  rw [toInt32, toInt32, wrapBV32]
theorem and_u32 (x y : BitVec 32) : IntKind.wrap .u32 ((BitVec.ofInt IntKind.u32.bits (x.toNat : Int) &&& BitVec.ofInt IntKind.u32.bits (y.toNat : Int)).toNat : Int) = ((x &&& y).toNat : Int) := by
  show IntKind.wrap .u32 ((BitVec.ofInt 32 (x.toNat : Int) &&& BitVec.ofInt 32 (y.toNat : Int)).toNat : Int) = _
  rw [toInt32, toInt32, wrapBV32]
theorem andC_u32 (x : BitVec 32) (n : Int) : IntKind.wrap .u32 ((BitVec.ofInt IntKind.u32.bits (x.toNat : Int) &&& BitVec.ofInt IntKind.u32.bits n).toNat : Int) = ((x &&& BitVec.ofInt 32 n).toNat : Int) := by
  show IntKind.wrap .u32 ((BitVec.ofInt 32 (x.toNat : Int) &&& BitVec.ofInt 32 n).toNat : Int) = _
  rw [toInt32, wrapBV32]
theorem xorC_u32 (x : BitVec 32) (n : Int) : IntKind.wrap .u32 ((BitVec.ofInt IntKind.u32.bits (x.toNat : Int) ^^^ BitVec.ofInt IntKind.u32.bits n).toNat : Int) = ((x ^^^ BitVec.ofInt 32 n).toNat : Int) := by
  show IntKind.wrap .u32 ((BitVec.ofInt 32 (x.toNat : Int) ^^^ BitVec.ofInt 32 n).toNat : Int) = _
  rw [toInt32, wrapBV32]
theorem notC_u32 (x : BitVec 32) : IntKind.wrap .u32 ((BitVec.ofInt IntKind.u32.bits (if IntKind.u32.signed then -1 else IntKind.u32.max) ^^^ BitVec.ofInt IntKind.u32.bits (x.toNat : Int)).toNat : Int) = ((~~~ x).toNat : Int) := by
  show IntKind.wrap .u32 ((BitVec.ofInt 32 IntKind.u32.max ^^^ BitVec.ofInt 32 (x.toNat : Int)).toNat : Int) = _
  rw [toInt32, wrapBV32, show BitVec.ofInt 32 IntKind.u32.max = BitVec.allOnes 32 from by decide, BitVec.allOnes_xor]
theorem shr_u32 (x : BitVec 32) (n : Nat) : (x.toNat : Int).fdiv (2 ^ n) = ((x >>> n).toNat : Int) := by
  rw [BitVec.toNat_ushiftRight, Nat.shiftRight_eq_div_pow]
  rw [Int.fdiv_eq_ediv_of_nonneg _ (by exact_mod_cast Nat.zero_le _)]
  simp
theorem shl_u32 (x : BitVec 32) (n : Nat) : IntKind.wrap .u32 ((x.toNat : Int) * 2 ^ n) = ((x <<< n).toNat : Int) := by
  rw [BitVec.toNat_shiftLeft, Nat.shiftLeft_eq, wrap_u32]
  have : ((x.toNat * 2 ^ n : Nat) : Int) = (x.toNat : Int) * 2 ^ n := by simp
  rw [← this]
  omega
theorem u8_u32 (b : UInt8) : IntKind.wrap .u32 (b.toNat : Int) = ((b.toBitVec.setWidth 32).toNat : Int) := by
  have := b.toNat_lt
  rw [wrap_u32]
  simp
  omega
/-- A number of 32 bits is one. -/
theorem bv32_of {x : Int} (h : 0 ≤ x ∧ x ≤ 4294967295) : ∃ y : BitVec 32, x = (y.toNat : Int) :=
  ⟨BitVec.ofInt 32 x, by simp; omega⟩

/-- A byte of a number. -/
def byteOf (x : BitVec 32) : UInt8 := UInt8.ofNat x.toNat
theorem u32_u8 (x : BitVec 32) : IntKind.wrap .u8 (x.toNat : Int) = ((byteOf x).toNat : Int) := by
  rw [wrap_u8]
  simp [byteOf]

/-! ### Bytes laid behind bytes -/

section
variable {P : Program} {T : TL} {s : SS} {K : RR → Prop} {x y : Operand} {e : TypeId} {a l : List UInt8} {base : Option Addr} {n m c cap b : Nat}

theorem wSrc_Rdb {KK : Nat → List Value → Prop} (h : Rdb s base n l) (hk : KK n (bytesV l)) : wSrc s 1 (.slice base n c) KK := by
  cases base with
  | none =>
    obtain ⟨h1, h2⟩ := h
    simp only at h2
    subst h2
    exact hk
  | some a =>
    obtain ⟨b, off, sp⟩ := a
    obtain ⟨h1, rfl, -, cc, t, g, r, h2, h3, -⟩ := h
    simp only [wSrc, h2, Nat.mul_one]
    exact ⟨_, h3, hk⟩

theorem appB_nil (hx : opd T s.gl x = some (.slice none 0 0)) (hy : opd T s.gl y = some (.slice base n c)) (hr : Rdb s base n l) (hn : 0 < n) (hb : n ≤ 4294967296)
    (h : K (.eff (.slice (some ⟨s.next, 0, none⟩) n 0) { s with heap := (s.next, some (.cells (bytesV l) e true false)) :: s.heap, next := s.next + 1 })) : wN P (.app e 1 1 x y) T s K := by
  simp only [wN, wAppB, hx, hy]
  refine wSrc_Rdb hr ⟨⟨by omega, by omega, by rw [bytesV_len, hr.1, Nat.mul_one], all1_bytesV l⟩, ⟨fun q => by omega, fun _ => ⟨trivial, fun m hm => ?_⟩⟩⟩
  subst hm; exact h

theorem appB_grow (hx : opd T s.gl x = some (.slice (some ⟨b, 0, none⟩) m cap)) (hbk : lookH s.heap b = some (.cells (bytesV a) e true false)) (hm : m = a.length) (hy : opd T s.gl y = some (.slice base n c)) (hr : Rdb s base n l) (hn : 0 < n) (hb : m + n ≤ 4294967296)
    (h : K (.eff (.slice (some ⟨s.next, 0, none⟩) (m + n) 0) { s with heap := (s.next, some (.cells (bytesV (a ++ l)) e true false)) :: (b, none) :: s.heap, next := s.next + 1 })) : wN P (.app e 1 1 x y) T s K := by
  simp only [wN, wAppB, hx, hy]
  refine wSrc_Rdb hr ⟨⟨by omega, by omega, by rw [bytesV_len, hr.1, Nat.mul_one], all1_bytesV l⟩, ?_⟩
  simp only [hbk]
  refine ⟨fun q => by omega, fun _ => ⟨trivial, trivial, bytesV a, ?_, fun m' l' hm' hl' => ?_⟩⟩
  · rw [Nat.mul_one, List.drop_zero, takeN_take _ _ (by rw [bytesV_len]; omega), List.take_of_length_le (by rw [bytesV_len]; omega)]
  · subst hm'; subst hl'; rw [bytesV_append]; exact h

theorem setRow_bytes : ∀ (a l : List UInt8) (o : Nat), o + l.length ≤ a.length → setRow (bytesV a) o (bytesV l) = some (bytesV (a.take o ++ l ++ a.drop (o + l.length)))
  | a, [], 0, _ => by cases a <;> simp [bytesV, setRow]
  | [], x :: l, 0, h => by simp at h
  | [], l, o + 1, h => by simp at h
  | y :: a, x :: l, 0, h => by
    have := setRow_bytes a l 0 (by simp at h ⊢; omega)
    simp only [bytesV, List.map_cons, setRow] at this ⊢
    rw [this]
    simp
  | y :: a, l, o + 1, h => by
    have := setRow_bytes a l o (by simp at h; omega)
    simp only [bytesV, List.map_cons, setRow] at this ⊢
    rw [this]
    simp [show o + 1 + l.length = (o + l.length) + 1 from by omega]

theorem appB_room (hx : opd T s.gl x = some (.slice (some ⟨b, 0, none⟩) m cap)) (hbk : lookH s.heap b = some (.cells (bytesV a) e false false)) (hcap : a.length = cap) (hy : opd T s.gl y = some (.slice base n c)) (hr : Rdb s base n l) (hmn : m + n ≤ cap) (hb : cap ≤ 4294967296)
    (h : K (.eff (.slice (some ⟨b, 0, none⟩) (m + n) cap) { s with heap := (b, some (.cells (bytesV (a.take m ++ l ++ a.drop (m + n))) e false false)) :: s.heap })) : wN P (.app e 1 1 x y) T s K := by
  simp only [wN, wAppB, hx, hy]
  refine wSrc_Rdb hr ⟨⟨by omega, by omega, by rw [bytesV_len, hr.1, Nat.mul_one], all1_bytesV l⟩, ?_⟩
  simp only [hbk]
  refine ⟨fun _ => ⟨trivial, _, (by rw [Nat.mul_one, Nat.zero_add]; exact setRow_bytes a l m (by have := hr.1; omega)), fun m' hm' => ?_⟩, fun q => by omega⟩
  subst hm'
  have := hr.1
  rw [← this]; exact h

theorem toStr_Rdb (hx : opd T s.gl x = some (.slice base n c)) (hr : Rdb s base n l) (h : K (.val (.string ⟨⟨l⟩⟩))) : wN P (.toStr x) T s K := by
  cases base with
  | none =>
    obtain ⟨_, h2⟩ := hr
    simp only at h2
    subst h2
    simp only [wN, hx]
    exact h
  | some a =>
    obtain ⟨b, off, sp⟩ := a
    obtain ⟨h1, rfl, -, cc, t, g, r, h2, h3, -⟩ := hr
    exact toStr_at hx h2 h3 h

/-- A slice that was handed in: its room is open. -/
def Arg (P : Program) (s : SS) (base : Option Addr) (n : Nat) (l : List UInt8) : Prop :=
  Rdb s base n l ∧ match base with
  | none => True
  | some ⟨b, _, _⟩ => ∃ c t r, lookH s.heap b = some (.cells c t true r) ∧ sizeB P t = some 1

theorem sl_arg {hi : Operand} {z : Int} (hx : opd T s.gl x = some (.slice base n 0)) (hh : opd T s.gl hi = some (.int .i64 z)) (hr : Arg P s base n l) (hz : 0 ≤ z ∧ z ≤ n)
    (h : ∀ (base' : Option Addr) (m : Nat), (m : Int) = z → Arg P s base' m (l.take m) → K (.val (.slice base' m 0))) : wN P (.slL 1 x none (some hi)) T s K := by
  obtain ⟨hr, hg⟩ := hr
  have hn := hr.1
  cases base with
  | none =>
    have hl : l = [] := hr.2
    subst hl
    simp only [wN, hx, opdO, hh, wBnd]
    refine ⟨⟨hz.1, by simp at hn; omega⟩, fun m hm => ?_⟩
    have : m = 0 := by simp at hn; omega
    subst this
    exact h none 0 hm ⟨⟨rfl, rfl⟩, trivial⟩
  | some a =>
    obtain ⟨b, off, sp⟩ := a
    obtain ⟨h1, rfl, h0, cc, t, g, r, h2, h3, h4⟩ := hr
    obtain ⟨c', t', r', g1, g2⟩ := hg
    rw [g1] at h2
    cases h2
    refine slL_open (vh := some (.int .i64 z)) hx rfl (by simp only [opdO, hh]) g1 g2 ?_
    simp only [wBnd]
    refine ⟨⟨hz.1, hz.2⟩, fun m hm o n' ho hn' => ?_⟩
    simp only [Nat.zero_mul, Nat.add_zero, Nat.sub_zero] at ho hn'
    subst ho; subst hn'
    refine h _ n' hm ⟨⟨by simp; omega, rfl, h0, _, _, _, _, g1, ?_, h4⟩, _, _, _, g1, g2⟩
    obtain ⟨e1, e2⟩ := takeN_inv h3
    rw [takeN_take _ _ (by omega)]
    have := congrArg (List.take n') e1
    rw [bytesV_take, List.take_take, Nat.min_eq_left (by omega)] at this
    rw [this]
end
end Go.Vf

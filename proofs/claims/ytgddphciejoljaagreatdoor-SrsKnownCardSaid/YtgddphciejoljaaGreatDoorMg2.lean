import Derived.Test.YtgddphciejoljaaGreatDoorMg1
import Derived.Test.YtgddphciejoljaaGreatDoorEngBg
import Derived.Test.YtgddphciejoljaaGreatDoorEngBd
import Derived.Test.YtgddphciejoljaaGreatDoorAdS
import Derived.Test.YtgddphciejoljaaGreatDoorEngBe
section
/- What texts of several layers lean on: blocks laid, rows with room, appends, numbers of 64 bits, bytes handed in. -/
namespace Go.Vf.S
open Go Go.Vf Go.Proofs Go.RowKit
attribute [local irreducible] wSeq wRow wp wG
set_option linter.unusedVariables false
set_option linter.unusedSimpArgs false
set_option maxRecDepth 10000

theorem bytes_take {l : List UInt8} {n : Nat} (h : l.length = n) : takeN n ((bytesV l).drop 0) = some (bytesV l) := by
  rw [List.drop_zero, takeN_take _ _ (by rw [bytesV_len]; omega), List.take_of_length_le (by rw [bytesV_len]; omega)]
theorem cell_slc {s : SS} {b : Nat} {t : TypeId} {l : List UInt8} {n : Nat} (h : lookH s.heap b = some (.cells (bytesV l) t false false)) (hb : b < s.next) (hl : l.length = n) : Slc pr s (some ⟨b, 0, none⟩) n n l :=
  by
    subst hl
    exact ⟨⟨rfl, rfl, hb, _, _, _, _, h, bytes_take rfl, bytesV_plain _⟩, _, _, _, _, h, fun q => (by cases q), fun _ => Nat.le_refl _⟩
/-- A block of one's own as it stands: nothing else is told of it. -/
abbrev ptrV (b : Nat) : Value := .pointer (some ⟨b, 0, none⟩)
/-- Blocks that are laid one after another. -/
theorem new1_at {s : SS} (f : Fine s) (b0 : ABlk) : lookH ((s.next, some b0) :: s.heap) s.next = some b0 ∧ Chg s { s with heap := (s.next, some b0) :: s.heap, next := s.next + 1 } [] ∧ Fine { s with heap := (s.next, some b0) :: s.heap, next := s.next + 1 } :=
  ⟨lkH, .new [], (Chg.new []).fine f⟩
theorem new2_at {s : SS} (f : Fine s) (b0 b1 : ABlk) : lookH ((s.next + 1, some b1) :: (s.next, some b0) :: s.heap) s.next = some b0 ∧ lookH ((s.next + 1, some b1) :: (s.next, some b0) :: s.heap) (s.next + 1) = some b1
    ∧ Chg s { s with heap := (s.next + 1, some b1) :: (s.next, some b0) :: s.heap, next := s.next + 1 + 1 } [] ∧ Fine { s with heap := (s.next + 1, some b1) :: (s.next, some b0) :: s.heap, next := s.next + 1 + 1 } := by
  obtain ⟨h1, h2, h3⟩ := new1_at f b0
  obtain ⟨k1, k2, k3⟩ := new1_at h3 b1
  exact ⟨lkT (by omega) lkH, lkH, h2.nil k2, k3⟩
theorem new3_at {s : SS} (f : Fine s) (b0 b1 b2 : ABlk) : lookH ((s.next + 1 + 1, some b2) :: (s.next + 1, some b1) :: (s.next, some b0) :: s.heap) s.next = some b0 ∧ lookH ((s.next + 1 + 1, some b2) :: (s.next + 1, some b1) :: (s.next, some b0) :: s.heap) (s.next + 1) = some b1
    ∧ lookH ((s.next + 1 + 1, some b2) :: (s.next + 1, some b1) :: (s.next, some b0) :: s.heap) (s.next + 1 + 1) = some b2
    ∧ Chg s { s with heap := (s.next + 1 + 1, some b2) :: (s.next + 1, some b1) :: (s.next, some b0) :: s.heap, next := s.next + 1 + 1 + 1 } [] ∧ Fine { s with heap := (s.next + 1 + 1, some b2) :: (s.next + 1, some b1) :: (s.next, some b0) :: s.heap, next := s.next + 1 + 1 + 1 } := by
  obtain ⟨h0, h1, h2, h3⟩ := new2_at f b0 b1
  obtain ⟨k1, k2, k3⟩ := new1_at h3 b2
  exact ⟨lkT (by omega) h0, lkT (by omega) h1, lkH, h2.nil k2, k3⟩
theorem new4_at {s : SS} (f : Fine s) (b0 b1 b2 b3 : ABlk) : lookH ((s.next + 1 + 1 + 1, some b3) :: (s.next + 1 + 1, some b2) :: (s.next + 1, some b1) :: (s.next, some b0) :: s.heap) s.next = some b0 ∧ lookH ((s.next + 1 + 1 + 1, some b3) :: (s.next + 1 + 1, some b2) :: (s.next + 1, some b1) :: (s.next, some b0) :: s.heap) (s.next + 1) = some b1
    ∧ lookH ((s.next + 1 + 1 + 1, some b3) :: (s.next + 1 + 1, some b2) :: (s.next + 1, some b1) :: (s.next, some b0) :: s.heap) (s.next + 1 + 1) = some b2 ∧ lookH ((s.next + 1 + 1 + 1, some b3) :: (s.next + 1 + 1, some b2) :: (s.next + 1, some b1) :: (s.next, some b0) :: s.heap) (s.next + 1 + 1 + 1) = some b3
    ∧ Chg s { s with heap := (s.next + 1 + 1 + 1, some b3) :: (s.next + 1 + 1, some b2) :: (s.next + 1, some b1) :: (s.next, some b0) :: s.heap, next := s.next + 1 + 1 + 1 + 1 } [] ∧ Fine { s with heap := (s.next + 1 + 1 + 1, some b3) :: (s.next + 1 + 1, some b2) :: (s.next + 1, some b1) :: (s.next, some b0) :: s.heap, next := s.next + 1 + 1 + 1 + 1 } := by
  obtain ⟨h0, h1, h2, h3, h4⟩ := new3_at f b0 b1 b2
  obtain ⟨k1, k2, k3⟩ := new1_at h4 b3
  exact ⟨lkT (by omega) h0, lkT (by omega) h1, lkT (by omega) h2, lkH, h3.nil k2, k3⟩
/-- Bytes of one's own in a block that has room for more. -/
def Room (s : SS) (b cap : Nat) (d : List UInt8) : Prop := b < s.next ∧ d.length ≤ cap ∧ lookH s.heap b = some (.cells (bytesV (d ++ List.replicate (cap - d.length) 0)) tB false false)
theorem Room.chg {s s' : SS} {b cap : Nat} {d : List UInt8} {A : List Nat} (h : Room s b cap d) (c : Chg s s' A) (hA : b ∉ A) : Room s' b cap d := ⟨Nat.lt_of_lt_of_le h.1 c.next, h.2.1, c.blk _ _ h.1 hA h.2.2⟩
theorem Room.rdb {s : SS} {b cap : Nat} {d : List UInt8} (h : Room s b cap d) : Rdb s (some ⟨b, 0, none⟩) d.length d := by
  refine ⟨rfl, rfl, h.1, _, _, _, _, h.2.2, ?_, bytesV_plain _⟩
  rw [takeN_bytes (by rw [List.length_append]; omega), List.drop_zero, List.take_append_of_le_length (Nat.le_refl _), List.take_length]
theorem Room.slc {s : SS} {b cap : Nat} {d : List UInt8} (h : Room s b cap d) : Slc pr s (some ⟨b, 0, none⟩) d.length cap d := by
  exact ⟨h.rdb, _, _, _, _, h.2.2, fun q => (by cases q), fun _ => h.2.1⟩
theorem app_room {T : TL} {s : SS} {K : RR → Prop} {x y : Operand} {b cap m n c : Nat} {d l : List UInt8} {base : Option Addr} (ho : Room s b cap d) (hx : opd T s.gl x = some (.slice (some ⟨b, 0, none⟩) m cap)) (hm : m = d.length)
    (hy : opd T s.gl y = some (.slice base n c)) (hr : Rdb s base n l) (hmn : m + n ≤ cap) (hb : cap ≤ 4294967296)
    (h : ∀ s' : SS, Room s' b cap (d ++ l) → Chg s s' [b] → s'.next = s.next → K (.eff (.slice (some ⟨b, 0, none⟩) (m + n) cap) s')) : wN pr (.app tB 1 1 x y) T s K := by
  have hn := hr.1
  have h1 := ho.2.1
  refine appB_room hx ho.2.2 (by rw [List.length_append, List.length_replicate]; omega) hy hr hmn hb ?_
  have e : (d ++ List.replicate (cap - d.length) 0).take m ++ l ++ (d ++ List.replicate (cap - d.length) 0).drop (m + n) = (d ++ l) ++ List.replicate (cap - (d ++ l).length) 0 := by
    subst hm; subst hn
    rw [List.take_append_of_le_length (Nat.le_refl _), List.take_length, List.drop_append, List.drop_of_length_le (by omega), List.nil_append, List.drop_replicate, List.length_append]
    congr 2
    omega
  rw [e]
  exact h _ ⟨ho.1, by rw [List.length_append]; omega, lkH⟩ (.turn ho.1) rfl
/-- One byte in a block of its own. -/
theorem byte_rdb {s : SS} {b : Nat} {c : UInt8} {t : TypeId} {g : Bool} (h : lookH s.heap b = some (.cells (bytesV [c]) t g false)) (hb : b < s.next) : Rdb s (some ⟨b, 0, none⟩) 1 [c] :=
  ⟨rfl, rfl, hb, _, _, _, _, h, rfl, bytesV_plain _⟩
/-- One byte behind. -/
theorem app_byte {T : TL} {s : SS} {K : RR → Prop} {x y : Operand} {b cap m : Nat} {d : List UInt8} {c : UInt8} {z : Int} (ho : Room s b cap d) (hz : z = (c.toNat : Int)) (hx : opd T s.gl x = some (.slice (some ⟨b, 0, none⟩) m cap)) (hm : m = d.length)
    (hy : opd T s.gl y = some (.slice (some ⟨s.next, 0, none⟩) 1 1)) (hmn : m + 1 ≤ cap) (hb : cap ≤ 4294967296)
    (h : ∀ s' : SS, Room s' b cap (d ++ [c]) → Chg s s' [b] → s'.next = s.next + 1 → K (.eff (.slice (some ⟨b, 0, none⟩) (m + 1) cap) s')) :
    wN pr (.app tB 1 1 x y) T { s with heap := (s.next, some (.cells [.int .u8 z] tB false false)) :: s.heap, next := s.next + 1 } K := by
  subst hz
  have c0 : Chg s { s with heap := (s.next, some (.cells [.int .u8 (c.toNat : Int)] tB false false)) :: s.heap, next := s.next + 1 } [] := .new []
  refine app_room (ho.chg c0 (by simp)) hx hm hy (byte_rdb (c := c) lkH (Nat.lt_succ_self _)) hmn hb fun s' r c1 n1 => h s' r (c0.nil c1) n1
theorem rep_bytes (n : Nat) : repeatL n [.int .u8 0] = bytesV (List.replicate n 0) := repeat_bytes n
theorem fdiv_pow (n k : Nat) : (n : Int).fdiv (2 ^ k) = ((n / 2 ^ k : Nat) : Int) := by
  rw [Int.fdiv_eq_ediv_of_nonneg _ (by exact Int.le_of_lt (Int.pow_pos (by decide)))]
  rw [Int.natCast_ediv]
  simp
theorem mark_is10 {T : TL} {s : SS} {K : RR → Prop} {x : Operand} {b off n c : Nat} {cs : List Value} {t : TypeId} (hx : opd T s.gl x = some (.slice (some ⟨b, off, none⟩) n c)) (hb : lookH s.heap b = some (.cells cs t false false))
    (h : K (.eff (.slice (some ⟨b, off, none⟩) n c) s)) : wN pr (.mark x) T s K := by
  simp only [wN, hx, hb]
  exact h
abbrev fnV (n : Nat) : Value := .func (.func n) #[] #[]
/-- A thing of an array that is a value. -/
theorem gen_ix {T : TL} {s : SS} {K : RR → Prop} {t elem : TypeId} {len : Nat} {x i : Tmp} {cs : List Value} {k : IntKind} {n : Nat} {v : Value} (hu : pr.underlying t = some (.array len elem)) (hz : sizeB pr elem = some 1) (ha : aggB pr elem = some false)
    (hx : look T x = some (.agg ⟨cs⟩)) (hi : look T i = some (.int k (n : Int))) (hn : n < len) (hv : cs[n]? = some v) (h : K (.val v)) : wN pr (.gen (.index t (.tmp x) (.tmp i))) T s K := by
  refine ⟨.val v, ?_, h⟩
  have e : idx (.int k (n : Int)) len = some n := by
    show (bif Nat.blt n len then some n else none) = _
    rw [show Nat.blt n len = true from by rw [Nat.blt_eq]; exact hn]; rfl
  simp only [aOp, operand, toTr_get, hx, hi, hu, e, hz, partB, ha, Nat.mul_one, hv]
  rfl
theorem u64_id {x : Int} (h : 0 ≤ x ∧ x ≤ 18446744073709551615) : IntKind.wrap .u64 x = x := by rw [wrap_u64]; omega
end Go.Vf.S
end
section
/- Numbers in digits, by the library: below 65536. -/
namespace Go.Vf.S
open Go Go.Vf
attribute [local irreducible] wSeq wRow wp wG
set_option linter.unusedVariables false
set_option linter.unusedSimpArgs false
set_option maxRecDepth 10000

theorem fdiv_nat (a n : Nat) : ((a : Int)).fdiv (2 ^ n) = ((a / 2 ^ n : Nat) : Int) := by
  rw [Int.fdiv_eq_ediv_of_nonneg _ (by exact Int.le_of_lt (Int.pow_pos (by decide)))]
  simp

end Go.Vf.S
end
section
/- Numbers in digits, by the library: digit by digit. -/
namespace Go.Vf.S
open Go Go.Vf
attribute [local irreducible] wSeq wRow wp wG
set_option linter.unusedVariables false
set_option linter.unusedSimpArgs false
set_option maxRecDepth 10000

end Go.Vf.S
end
section
/- Numbers in so many digits. -/
namespace Go.Vf.S
open Go Go.Vf Go.Proofs Go.RowKit
attribute [local irreducible] wSeq wRow wp wG
set_option linter.unusedVariables false
set_option linter.unusedSimpArgs false
set_option maxRecDepth 10000

theorem srepeat_w {s : SS} {l : List UInt8} {n : Nat} (hn : n ≤ 1000) (hl : l.length ≤ 1000) : CallW pr n_strings_Repeat [str l, .int .i64 n] s fun v s' => v = str (Lib.repeatL l n) ∧ s' = s := by
  refine CallW.kit rfl fun B w0 ρ args' w H hr => ?_
  obtain ⟨v1, v2, rfl, q1, q2⟩ := lrel_2 hr
  obtain rfl := str_inv q1
  obtain rfl := int_inv q2
  exact Any.strings_Repeat Tryz.lays105 Tryz.Builder_Extra_105 ⟨⟨l⟩⟩ n w (by omega) (by
    show l.length * n ≤ _
    have : l.length * n ≤ 1000 * 1000 := Nat.mul_le_mul hl hn
    omega)
theorem toStr_is {P : Program} {T : TL} {s : SS} {K : RR → Prop} {b off n c : Nat} {x : Operand} {l l' : List UInt8} {t : TypeId} {g r : Bool} (hx : opd T s.gl x = some (.slice (some ⟨b, off, none⟩) n c)) (hb : lookH s.heap b = some (.cells (bytesV l) t g r)) (hn : off + n ≤ l.length) (he : (l.drop off).take n = l') (h : K (.val (str l'))) : wN P (.toStr x) T s K := by
  simp only [wN, hx, hb]
  refine ⟨l', ?_, h⟩
  rw [bytesV_drop, takeN_take _ _ (by rw [bytesV_len, List.length_drop]; omega), bytesV_take, he]

end Go.Vf.S
end
section
/- Dates of ticks: the program. -/
namespace Go.Vf.S
open Go Go.Vf
attribute [local irreducible] wSeq wRow wp wG
set_option linter.unusedVariables false
set_option linter.unusedSimpArgs false
set_option maxRecDepth 10000

end Go.Vf.S
end
section
/- Dates of ticks: the document. -/
namespace Go.Vf.S
open Go Go.Vf
attribute [local irreducible] wSeq wRow wp wG
set_option linter.unusedVariables false
set_option linter.unusedSimpArgs false
set_option maxRecDepth 10000

/-- Digits so far. -/
structure Dx where
  n : Nat
  k : Int
  l : List UInt8
  s : SS
end Go.Vf.S
end
section
/- Stamps: told, read, their ages. -/
namespace Go.Vf.S
open Go Go.Vf Go.Proofs
attribute [local irreducible] wSeq wRow wp wG
set_option linter.unusedVariables false
set_option linter.unusedSimpArgs false
set_option maxRecDepth 10000

def leL : List UInt8 := [65, 66, 67, 68, 69, 70, 71, 72, 73, 74, 75, 76, 77, 78, 79, 80, 81, 82, 83, 84, 85, 86, 87, 88, 89, 90, 50, 51, 52, 53, 54, 55]
theorem le_len : leL.length = 32 := rfl
/-- A letter's byte. -/
def leB (n : Nat) : UInt8 := leL.getD n 0
theorem le_get {n : Nat} (h : n < 32) : leL[n]? = some (leB n) := by
  unfold leB
  rw [List.getD_eq_getElem?_getD, List.getElem?_eq_getElem (show n < leL.length from h)]
  rfl
/-- A day's number among 1024. -/
def sn (d : Int) : Nat := (max d 0).toNat % 1024
theorem sn_lt (d : Int) : sn d < 1024 := Nat.mod_lt _ (by omega)
def stT (n : Nat) : List UInt8 := [leB (n / 32), leB (n % 32)]
/-- What a letter stands for. -/
def vaB (c : UInt8) : Int := if 65 ≤ c.toNat ∧ c.toNat ≤ 90 then c.toNat - 65 else if 97 ≤ c.toNat ∧ c.toNat ≤ 122 then c.toNat - 97 else if 50 ≤ c.toNat ∧ c.toNat ≤ 55 then c.toNat - 24 else -1
theorem va_lt (c : UInt8) : -1 ≤ vaB c ∧ vaB c < 32 := by
  unfold vaB
  (repeat' split) <;> omega
/-- What is read of a stamp's text. -/
def pstF : List UInt8 → Nat × Nat
  | [a, b] => if vaB a < 0 ∨ vaB b < 0 then (0, 5) else ((32 * vaB a + vaB b).toNat, 0)
  | _ => (0, 5)
theorem pst_no {l : List UInt8} (h : l.length ≠ 2) : pstF l = (0, 5) := by
  unfold pstF
  split
  · simp at h
  · rfl
theorem pst_lt (l : List UInt8) : (pstF l).1 < 1024 := by
  unfold pstF
  split
  · rename_i a b
    have := va_lt a
    have := va_lt b
    split
    · decide
    · dsimp only; omega
  · decide
def agF (k d : Int) : Nat := (sn d + 1024 - sn k) % 1024

theorem tmod_nn {a : Int} {b : Nat} (h : 0 ≤ a) : a.tmod (b : Int) = ((a.toNat % b : Nat) : Int) := by
  obtain ⟨n, rfl⟩ := Int.eq_ofNat_of_zero_le h
  rw [tmod_nat, Int.toNat_natCast]
theorem stampOf_w {s : SS} {d : Int} (hd : d ≤ 9223372036854775807) : CallW pr n_stamp_stampOf [.int .i64 d] s fun v s' => v = .int .i64 (sn d) ∧ s' = s := by
  refine CallW.run good ok_stamp_stampOf (by simp) rfl ?_
  (try refine pSeq ?_); (repeat refine sb ?_)
  intro z1 h1
  (repeat refine sb ?_)
  refine ⟨by decide, ?_⟩
  intro z2 h2
  rw [show (1024 : Int) = ((1024 : Nat) : Int) from rfl, tmod_nn (by omega)] at h2
  (repeat refine sb ?_)
  refine ⟨?_, rfl⟩
  rw [h2, h1]
  rfl
theorem and31 {n : Nat} (h : n < 1024) : IntKind.wrap .i64 ((BitVec.ofInt IntKind.i64.bits (n : Int) &&& BitVec.ofInt IntKind.i64.bits 31).toNat : Int) = ((n % 32 : Nat) : Int) := by
  have : (List.range 1024).all (fun n => decide (IntKind.wrap .i64 ((BitVec.ofInt IntKind.i64.bits (n : Int) &&& BitVec.ofInt IntKind.i64.bits 31).toNat : Int) = ((n % 32 : Nat) : Int))) = true := by decide +kernel
  simpa using List.all_eq_true.1 this n (List.mem_range.2 h)
theorem or32 {n : Nat} (h : n < 1024) : IntKind.wrap .i64 ((BitVec.ofInt IntKind.i64.bits ((n / 32 : Nat) * 2 ^ 5) ||| BitVec.ofInt IntKind.i64.bits ((n % 32 : Nat) : Int)).toNat : Int) = (n : Int) := by
  have : (List.range 1024).all (fun n => decide (IntKind.wrap .i64 ((BitVec.ofInt IntKind.i64.bits ((n / 32 : Nat) * 2 ^ 5) ||| BitVec.ofInt IntKind.i64.bits ((n % 32 : Nat) : Int)).toNat : Int) = (n : Int))) = true := by decide +kernel
  simpa using List.all_eq_true.1 this n (List.mem_range.2 h)
theorem stext_w {s : SS} {d : Int} (hF : Fine s) (hd : d ≤ 9223372036854775807) : CallW pr n_stamp_Text [.int .i64 d] s fun v s' => v = str (stT (sn d)) ∧ Chg s s' [] := by
  refine CallW.run good ok_stamp_Text (by simp) rfl ?_
  have hn := sn_lt d
  (try refine pSeq ?_); (repeat(first|refine sb ?_|refine kNo ?_))
  refine (stampOf_w hd).mono fun v s q => ?_
  obtain ⟨rfl, rfl⟩ := q
  generalize sn d = n at *
  (repeat(first|refine sb ?_|refine kNo ?_))
  intro z1 h1
  rw [fdiv_nat] at h1
  subst h1
  (repeat(first|refine sb ?_|refine kNo ?_))
  refine ⟨by show 0 ≤ _ ∧ _ < ((leL.length : Nat) : Int); rw [le_len]; omega, ?_⟩
  intro m hm
  obtain rfl : m = n / 32 := by omega
  refine ⟨_, le_get (by omega), ?_⟩
  (repeat(first|refine sb ?_|refine kNo ?_))
  intro z2 h2
  rw [and31 hn] at h2
  subst h2
  (repeat(first|refine sb ?_|refine kNo ?_))
  refine ⟨by show 0 ≤ _ ∧ _ < ((leL.length : Nat) : Int); rw [le_len]; omega, ?_⟩
  intro m hm
  obtain rfl : m = n % 32 := by omega
  refine ⟨_, le_get (by omega), ?_⟩
  (repeat(first|refine sb ?_|refine kNo ?_))
  refine mkS_is rfl rfl (rNew hF.at ?_)
  (repeat(first|refine sb ?_|refine kNo ?_))
  refine toStr_is (l := stT n) rfl lkH (Nat.le_refl _) rfl ?_
  (repeat(first|refine sb ?_|refine kNo ?_))
  exact ⟨rfl, .new _⟩
theorem age_w {s : SS} {k d : Int} (hk : k ≤ 9223372036854775807) (hd : d ≤ 9223372036854775807) : CallW pr n_stamp_Age [.int .i64 k, .int .i64 d] s fun v s' => v = .int .i64 (agF k d) ∧ s' = s := by
  refine CallW.run good ok_stamp_Age (by simp) rfl ?_
  have h1 := sn_lt k
  have h2 := sn_lt d
  (try refine pSeq ?_); (repeat refine sb ?_)
  refine (stampOf_w hd).mono fun v s q => ?_
  obtain ⟨rfl, rfl⟩ := q
  (repeat refine sb ?_)
  refine (stampOf_w hk).mono fun v s q => ?_
  obtain ⟨rfl, rfl⟩ := q
  (repeat refine sb ?_)
  intro z1 g1
  rw [i64_id (by omega)] at g1
  (repeat refine sb ?_)
  intro z2 g2
  rw [i64_id (by omega)] at g2
  obtain rfl : z2 = ((sn d + 1024 - sn k : Nat) : Int) := by omega
  (repeat refine sb ?_)
  refine ⟨by decide, ?_⟩
  intro z3 g3
  rw [show (1024 : Int) = ((1024 : Nat) : Int) from rfl, tmod_nat] at g3
  subst g3
  (repeat refine sb ?_)
  exact ⟨rfl, rfl⟩
def upSt (c : UInt8) : UInt8 := if 97 ≤ c.toNat ∧ c.toNat ≤ 122 then UInt8.ofNat (c.toNat - 32) else c
theorem up_is (c : UInt8) : Lib.indexByte leL (upSt c) = vaB c := by
  have : (List.range 256).all (fun n => Lib.indexByte leL (upSt (UInt8.ofNat n)) == vaB (UInt8.ofNat n)) = true := by decide +kernel
  have h := List.all_eq_true.1 this c.toNat (List.mem_range.2 c.toNat_lt)
  rw [UInt8.ofNat_toNat] at h
  simpa using h
theorem place_w {s : SS} {c : UInt8} : CallW pr n_stamp_place [.int .u8 c.toNat] s fun v s' => v = .int .i64 (vaB c) ∧ s' = s := by
  refine CallW.run good ok_stamp_place (by simp) rfl ?_
  have hc := c.toNat_lt
  have hu := up_is c
  (try refine pSeq ?_); (repeat(first|refine sb ?_|refine gOn rfl ?_|refine gOff rfl rfl ?_|refine gTup rfl ?_))
  intro q hq
  by_cases h1 : 97 ≤ c.toNat
  · obtain rfl : q = true := by rw [hq]; simp <;> omega
    (repeat(first|refine sb ?_|refine gOn rfl ?_|refine gOff rfl rfl ?_|refine gTup rfl ?_))
    intro q hq
    by_cases h2 : c.toNat ≤ 122
    · obtain rfl : q = true := by rw [hq]; simp <;> omega
      have e : upSt c = UInt8.ofNat (c.toNat - 32) := by unfold upSt; rw [if_pos ⟨h1, h2⟩]
      have e2 : (UInt8.ofNat (c.toNat - 32)).toNat = c.toNat - 32 := by rw [UInt8.toNat_ofNat']; omega
      rw [e] at hu
      (repeat(first|refine sb ?_|refine gOn rfl ?_|refine gOff rfl rfl ?_|refine gTup rfl ?_))
      intro z1 g1
      rw [u8_id (by omega)] at g1
      obtain rfl : z1 = ((UInt8.ofNat (c.toNat - 32)).toNat : Int) := by omega
      (repeat(first|refine sb ?_|refine gOn rfl ?_|refine gOff rfl rfl ?_|refine gTup rfl ?_))
      refine IndexByte_w.mono fun v s q => ?_
      obtain ⟨rfl, rfl⟩ := q
      (repeat(first|refine sb ?_|refine gOn rfl ?_|refine gOff rfl rfl ?_|refine gTup rfl ?_))
      exact ⟨by rw [← hu]; rfl, rfl⟩
    · obtain rfl : q = false := by rw [hq]; simp <;> omega
      have e : upSt c = c := by unfold upSt; rw [if_neg (by omega)]
      rw [e] at hu
      (repeat(first|refine sb ?_|refine gOn rfl ?_|refine gOff rfl rfl ?_|refine gTup rfl ?_))
      refine IndexByte_w.mono fun v s q => ?_
      obtain ⟨rfl, rfl⟩ := q
      (repeat(first|refine sb ?_|refine gOn rfl ?_|refine gOff rfl rfl ?_|refine gTup rfl ?_))
      exact ⟨by rw [← hu]; rfl, rfl⟩
  · obtain rfl : q = false := by rw [hq]; simp <;> omega
    have e : upSt c = c := by unfold upSt; rw [if_neg (by omega)]
    rw [e] at hu
    (repeat(first|refine sb ?_|refine gOn rfl ?_|refine gOff rfl rfl ?_|refine gTup rfl ?_))
    refine IndexByte_w.mono fun v s q => ?_
    obtain ⟨rfl, rfl⟩ := q
    (repeat(first|refine sb ?_|refine gOn rfl ?_|refine gOff rfl rfl ?_|refine gTup rfl ?_))
    exact ⟨by rw [← hu]; rfl, rfl⟩
abbrev pRes (q : Nat × Nat) : Value := .tuple ⟨[.int .i64 q.1, .int .i64 q.2]⟩
theorem pst_two {a b : UInt8} (h : ¬(vaB a < 0 ∨ vaB b < 0)) : pstF [a, b] = ((32 * vaB a + vaB b).toNat, 0) := by
  show (if vaB a < 0 ∨ vaB b < 0 then _ else _) = _
  rw [if_neg h]
theorem pst_bad {a b : UInt8} (h : vaB a < 0 ∨ vaB b < 0) : pstF [a, b] = (0, 5) := by
  show (if vaB a < 0 ∨ vaB b < 0 then _ else _) = _
  rw [if_pos h]
theorem len_two {l : List UInt8} (h : l.length = 2) : ∃ a b, l = [a, b] := by
  match l, h with
  | [a, b], _ => exact ⟨a, b, rfl⟩
theorem pst_w {s : SS} {l : List UInt8} (hF : Fine s) (hl : l.length ≤ 1000000) : CallW pr n_stamp_Parse [str l] s fun v s' => v = pRes (pstF l) ∧ s' = s := by
  refine CallW.run good ok_stamp_Parse (by simp) rfl ?_
  (try refine pSeq ?_); (repeat(first|refine sb ?_|refine kNo ?_|refine gOn rfl ?_|refine gOff rfl rfl ?_|refine gTup rfl ?_))
  intro n hn
  (repeat(first|refine sb ?_|refine kNo ?_|refine gOn rfl ?_|refine gOff rfl rfl ?_|refine gTup rfl ?_))
  intro q hq
  by_cases h2 : l.length = 2
  · obtain ⟨a, b, rfl⟩ := len_two h2
    have va := va_lt a
    have vb := va_lt b
    obtain rfl : n = 2 := hn
    obtain rfl : q = false := by rw [hq]; simp <;> omega
    (repeat(first|refine sb ?_|refine kNo ?_|refine gOn rfl ?_|refine gOff rfl rfl ?_|refine gTup rfl ?_))
    refine ⟨by simp, ?_⟩
    intro m hm
    obtain rfl : m = 0 := by omega
    refine ⟨a, rfl, ?_⟩
    (repeat(first|refine sb ?_|refine kNo ?_|refine gOn rfl ?_|refine gOff rfl rfl ?_|refine gTup rfl ?_))
    refine ⟨by simp, ?_⟩
    intro m hm
    obtain rfl : m = 1 := by omega
    refine ⟨b, rfl, ?_⟩
    (repeat(first|refine sb ?_|refine kNo ?_|refine gOn rfl ?_|refine gOff rfl rfl ?_|refine gTup rfl ?_))
    refine place_w.mono fun v s q => ?_
    obtain ⟨rfl, rfl⟩ := q
    (repeat(first|refine sb ?_|refine kNo ?_|refine gOn rfl ?_|refine gOff rfl rfl ?_|refine gTup rfl ?_))
    refine place_w.mono fun v s q => ?_
    obtain ⟨rfl, rfl⟩ := q
    (repeat(first|refine sb ?_|refine kNo ?_|refine gOn rfl ?_|refine gOff rfl rfl ?_|refine gTup rfl ?_))
    intro q hq
    by_cases ha : vaB a < 0
    · obtain rfl : q = true := by rw [hq]; simp <;> omega
      (repeat(first|refine sb ?_|refine kNo ?_|refine gOn rfl ?_|refine gOff rfl rfl ?_|refine gTup rfl ?_))
      rw [pst_bad (.inl ha)]
      exact ⟨rfl, rfl⟩
    · obtain rfl : q = false := by rw [hq]; simp <;> omega
      (repeat(first|refine sb ?_|refine kNo ?_|refine gOn rfl ?_|refine gOff rfl rfl ?_|refine gTup rfl ?_))
      intro q hq
      by_cases hb : vaB b < 0
      · obtain rfl : q = true := by rw [hq]; simp <;> omega
        (repeat(first|refine sb ?_|refine kNo ?_|refine gOn rfl ?_|refine gOff rfl rfl ?_|refine gTup rfl ?_))
        rw [pst_bad (.inr hb)]
        exact ⟨rfl, rfl⟩
      · obtain rfl : q = false := by rw [hq]; simp <;> omega
        (repeat(first|refine sb ?_|refine kNo ?_|refine gOn rfl ?_|refine gOff rfl rfl ?_|refine gTup rfl ?_))
        rw [pst_two (fun q => by omega)]
        intro z1 g1
        rw [i64_id (by omega)] at g1
        (repeat(first|refine sb ?_|refine kNo ?_|refine gOn rfl ?_|refine gOff rfl rfl ?_|refine gTup rfl ?_))
        intro z2 g2
        have e := or32 (n := (32 * vaB a + vaB b).toNat) (by omega)
        rw [show (((32 * vaB a + vaB b).toNat / 32 : Nat) : Int) = vaB a by omega, show (((32 * vaB a + vaB b).toNat % 32 : Nat) : Int) = vaB b by omega] at e
        rw [g1, e] at g2
        (repeat(first|refine sb ?_|refine kNo ?_|refine gOn rfl ?_|refine gOff rfl rfl ?_|refine gTup rfl ?_))
        exact ⟨by rw [g2]; rfl, rfl⟩
  · obtain rfl : q = true := by rw [hq]; simp <;> omega
    (repeat(first|refine sb ?_|refine kNo ?_|refine gOn rfl ?_|refine gOff rfl rfl ?_|refine gTup rfl ?_))
    rw [pst_no h2]
    exact ⟨rfl, rfl⟩
end Go.Vf.S
end
section
/- SHA-1 and HMAC, pure. -/
namespace Go.Vf.S
open Go Go.Vf
set_option linter.unusedVariables false
set_option linter.unusedSimpArgs false
set_option maxRecDepth 10000

abbrev Wd := BitVec 32
/-- A word turned left. -/
def rl (x : Wd) (n : Nat) : Wd := x <<< n ||| x >>> (32 - n)
theorem rl_nat (x : Wd) (n : Nat) (hn : n ≤ 31) : (rl x n).toNat = x.toNat * 2 ^ n % 4294967296 + x.toNat / 2 ^ (32 - n) := by
  unfold rl
  have h1 : x >>> (32 - n) = BitVec.ofNat 32 (x.toNat / 2 ^ (32 - n)) := by
    apply BitVec.eq_of_toNat_eq
    have := Nat.div_le_self x.toNat (2 ^ (32 - n))
    have := x.isLt
    rw [BitVec.toNat_ushiftRight, BitVec.toNat_ofNat, Nat.mod_eq_of_lt (by omega), Nat.shiftRight_eq_div_pow]
  have hd : x.toNat / 2 ^ (32 - n) < 2 ^ n := by
    refine (Nat.div_lt_iff_lt_mul (Nat.pos_of_ne_zero (by simp))).2 ?_
    rw [← Nat.pow_add, show n + (32 - n) = 32 from by omega]
    exact x.isLt
  have h2 : x.toNat * 2 ^ n % 4294967296 = 2 ^ n * (x.toNat % 2 ^ (32 - n)) := by
    rw [Nat.mul_comm, show 4294967296 = 2 ^ n * 2 ^ (32 - n) from by rw [← Nat.pow_add, show n + (32 - n) = 32 from by omega], Nat.mul_mod_mul_left]
  rw [BitVec.toNat_or, BitVec.toNat_shiftLeft, BitVec.toNat_ushiftRight, Nat.shiftLeft_eq, Nat.shiftRight_eq_div_pow, h2, Nat.two_pow_add_eq_or_of_lt hd]
/-- Five words. -/
structure W5 where
  a : Wd
  b : Wd
  c : Wd
  d : Wd
  e : Wd
def W5.add (x y : W5) : W5 := ⟨x.a + y.a, x.b + y.b, x.c + y.c, x.d + y.d, x.e + y.e⟩
def W5.l (x : W5) : List Wd := [x.a, x.b, x.c, x.d, x.e]
def ini5 : W5 := ⟨0x67452301, 0xefcdab89, 0x98badcfe, 0x10325476, 0xc3d2e1f0⟩
def choF (b c d : Wd) : Wd := b &&& c ||| ~~~ b &&& d
def oddF (b c d : Wd) : Wd := b ^^^ c ^^^ d
def majF (b c d : Wd) : Wd := b &&& c ||| b &&& d ||| c &&& d
def fT (t : Nat) (b c d : Wd) : Wd := if t < 20 then choF b c d else if t < 40 then oddF b c d else if t < 60 then majF b c d else oddF b c d
def kT (t : Nat) : Wd := if t < 20 then 0x5a827999 else if t < 40 then 0x6ed9eba1 else if t < 60 then 0x8f1bbcdc else 0xca62c1d6
def rnd (t : Nat) (w : Wd) (s : W5) : W5 := ⟨rl s.a 5 + fT t s.b s.c s.d + s.e + kT t + w, s.a, rl s.b 30, s.c, s.d⟩
def rnds (ws : List Wd) : Nat → W5 → W5
  | 0, s => s
  | t + 1, s => rnd t (ws.getD t 0) (rnds ws t s)

/-- The words of a block. -/
def wOf (l : List UInt8) (t : Nat) : Wd := ((l.drop (4 * t)).take 4).foldl (fun w c => w <<< 8 ||| c.toBitVec.setWidth 32) 0
def nxt (w : List Wd) (t : Nat) : Wd := rl (w.getD (t - 3) 0 ^^^ w.getD (t - 8) 0 ^^^ w.getD (t - 14) 0 ^^^ w.getD (t - 16) 0) 1
def schd (l : List UInt8) : Nat → List Wd
  | 0 => []
  | t + 1 => schd l t ++ [if t < 16 then wOf l t else nxt (schd l t) t]
theorem schd_len (l : List UInt8) : ∀ t, (schd l t).length = t
  | 0 => rfl
  | t + 1 => by rw [schd, List.length_append, schd_len l t]; rfl

/-- What five words become of a block; of so many blocks. -/
def blk5 (s : W5) (l : List UInt8) : W5 := s.add (rnds (schd l 80) 80 s)
def blks : Nat → W5 → List UInt8 → W5
  | 0, s, _ => s
  | n + 1, s, l => blks n (blk5 s (l.take 64)) (l.drop 64)
theorem blks_next (n : Nat) (s : W5) (l : List UInt8) : blks (n + 1) s l = blks n (blk5 s (l.take 64)) (l.drop 64) := rfl
theorem blks_0 (s : W5) (l : List UInt8) : blks 0 s l = s := rfl
theorem blks_app : ∀ (m n : Nat) (s : W5) (x y : List UInt8), x.length = 64 * m → blks (m + n) s (x ++ y) = blks n (blks m s x) y
  | 0, n, s, x, y, h => by
    obtain rfl : x = [] := List.eq_nil_of_length_eq_zero (by omega)
    rw [Nat.zero_add]; rfl
  | m + 1, n, s, x, y, h => by
    rw [show m + 1 + n = (m + n) + 1 from by omega]
    show blks (m + n) (blk5 s ((x ++ y).take 64)) ((x ++ y).drop 64) = blks n (blks m (blk5 s (x.take 64)) (x.drop 64)) y
    rw [List.take_append_of_le_length (by omega), List.drop_append_of_le_length (by omega)]
    exact blks_app m n _ _ _ (by rw [List.length_drop]; omega)
/-- So many bits, in eight bytes. -/
def be8 (n : Nat) : List UInt8 := (List.range 8).map fun i => UInt8.ofNat (n / 256 ^ (7 - i))
theorem be8_len (n : Nat) : (be8 n).length = 8 := rfl
def zrs (n : Nat) : Nat := (119 - n % 64) % 64
/-- What is hashed behind the bytes: so many in all. -/
def endF (many : Nat) : List UInt8 := 0x80 :: (List.replicate (zrs many) 0 ++ be8 (8 * many))
theorem endF_len (n : Nat) : (endF n).length = 9 + zrs n := by
  show (List.replicate (zrs n) 0 ++ be8 (8 * n)).length + 1 = _
  rw [List.length_append, List.length_replicate, be8_len]; omega
theorem zrs_mod (n : Nat) : (n + 9 + zrs n) % 64 = 0 := by unfold zrs; omega
def padF (l : List UInt8) : List UInt8 := l ++ endF l.length
theorem padF_len (l : List UInt8) : (padF l).length = l.length + 9 + zrs l.length := by
  unfold padF; rw [List.length_append, endF_len]; omega
def be4 (x : Wd) : List UInt8 := [byteOf (x >>> 24), byteOf (x >>> 16), byteOf (x >>> 8), byteOf (x >>> 0)]
def W5.bytes (s : W5) : List UInt8 := be4 s.a ++ be4 s.b ++ be4 s.c ++ be4 s.d ++ be4 s.e
def sha5 (l : List UInt8) : W5 := blks ((padF l).length / 64) ini5 (padF l)
/-- SHA-1. -/
def sha (l : List UInt8) : List UInt8 := (sha5 l).bytes
theorem sha_len (l : List UInt8) : (sha l).length = 20 := rfl
/-- A key as long as a block. -/
def fillF (k : List UInt8) : List UInt8 := let o := if 64 < k.length then sha k else k
  o ++ List.replicate (64 - o.length) 0
theorem fillF_len (k : List UInt8) : (fillF k).length = 64 := by
  unfold fillF
  by_cases h : 64 < k.length
  · simp only [if_pos h]; rw [List.length_append, List.length_replicate, sha_len]
  · simp only [if_neg h]; rw [List.length_append, List.length_replicate]; omega
theorem fill_eq1 {k : List UInt8} (h : 64 < k.length) : fillF k = sha k ++ List.replicate 44 0 := by
  unfold fillF
  simp only [if_pos h]
  rfl
theorem fill_eq2 {k : List UInt8} (h : k.length ≤ 64) : fillF k = k ++ List.replicate (64 - k.length) 0 := by
  unfold fillF
  simp only [if_neg (Nat.not_lt.2 h)]
def xorF (c : UInt8) (l : List UInt8) : List UInt8 := l.map (· ^^^ c)
/-- HMAC. -/
def hmac (k l : List UInt8) : List UInt8 := sha (xorF 0x5c (fillF k) ++ sha (xorF 0x36 (fillF k) ++ l))
theorem hmac_len (k l : List UInt8) : (hmac k l).length = 20 := rfl

/-! ### What follows -/
/-- Bytes in front of others, as whole blocks. -/
theorem sha_split (x y : List UInt8) (m : Nat) (h : x.length = 64 * m) : sha5 (x ++ y) = blks ((y ++ endF (x ++ y).length).length / 64) (blks m ini5 x) (y ++ endF (x ++ y).length) := by
  unfold sha5 padF
  rw [List.append_assoc]
  generalize y ++ endF (x ++ y).length = z
  rw [← blks_app m _ _ _ _ h, List.length_append, h]
  congr 1
  omega
end Go.Vf.S
end
section
/- Letters of bytes, bytes of letters: digits of one number, pure. -/
namespace Go.Vf.S
open Go Go.Vf
set_option linter.unusedVariables false
set_option linter.unusedSimpArgs false
set_option maxRecDepth 10000

/-- So many digits of a number, the highest first. -/
def dgs (B : Nat) : Nat → Nat → List Nat
  | 0, _ => []
  | m + 1, x => dgs B m (x / B) ++ [x % B]
/-- The number that digits make. -/
def nmb (B : Nat) (l : List Nat) : Nat := l.foldl (fun a d => a * B + d) 0
theorem dgs_len (B : Nat) : ∀ (m x : Nat), (dgs B m x).length = m
  | 0, x => rfl
  | m + 1, x => by rw [dgs, List.length_append, dgs_len B m]; rfl
theorem dgs_lt {B : Nat} (hB : 0 < B) : ∀ (m x : Nat), ∀ d ∈ dgs B m x, d < B
  | 0, x, d, h => by cases h
  | m + 1, x, d, h => by
    rw [dgs, List.mem_append, List.mem_singleton] at h
    rcases h with h | h
    · exact dgs_lt hB m _ d h
    · subst h; exact Nat.mod_lt _ hB
theorem nmb_snoc (B : Nat) (l : List Nat) (d : Nat) : nmb B (l ++ [d]) = nmb B l * B + d := by
  unfold nmb
  rw [List.foldl_append]; rfl
/-! ### Letters -/
/-- Bytes as a number. -/
abbrev nB (b : List UInt8) : Nat := nmb 256 (b.map (·.toNat))
/-- How many letters so many bytes have. -/
def cnt (z n : Nat) : Nat := (8 * n + z - 1) / z
/-- The letters' places of bytes. -/
def tellP (z : Nat) (b : List UInt8) : List Nat := dgs (2 ^ z) (cnt z b.length) (nB b * 2 ^ (z * cnt z b.length - 8 * b.length))
theorem tellP_len (z : Nat) (b : List UInt8) : (tellP z b).length = cnt z b.length := dgs_len _ _ _
theorem tellP_lt (z : Nat) (b : List UInt8) : ∀ d ∈ tellP z b, d < 2 ^ z := dgs_lt (Nat.two_pow_pos z) _ _
end Go.Vf.S
end
section
/- Digits of one size turned into digits of another, one by one; letters and their places; what is told and what is read. Pure. -/
namespace Go.Vf.S
open Go Go.Vf
set_option linter.unusedVariables false
set_option linter.unusedSimpArgs false
set_option maxRecDepth 10000

/-! ### One by one: N so far, its last h bits not told yet -/
theorem acc_in {N h x d : Nat} (hd : d < 2 ^ x) : (N * 2 ^ x + d) % 2 ^ (h + x) = (N % 2 ^ h) * 2 ^ x + d ∧ (N * 2 ^ x + d) / 2 ^ (h + x) = N / 2 ^ h := by
  have e : 2 ^ (h + x) = 2 ^ x * 2 ^ h := by rw [Nat.pow_add, Nat.mul_comm]
  have q1 : (N * 2 ^ x + d) / 2 ^ x = N := by rw [Nat.mul_comm, Nat.mul_add_div (Nat.two_pow_pos x), Nat.div_eq_of_lt hd, Nat.add_zero]
  have q2 : (N * 2 ^ x + d) % 2 ^ x = d := by rw [Nat.mul_comm, Nat.mul_add_mod, Nat.mod_eq_of_lt hd]
  refine ⟨?_, ?_⟩
  · rw [e, Nat.mod_mul, q1, q2, Nat.mul_comm (2 ^ x), Nat.add_comm]
  · rw [e, ← Nat.div_div_eq_div_mul, q1]
theorem acc_out {N h y : Nat} (hy : y ≤ h) (q : Nat) : dgs (2 ^ y) (q + 1) (N / 2 ^ (h - y)) = dgs (2 ^ y) q (N / 2 ^ h) ++ [N % 2 ^ h / 2 ^ (h - y)] ∧ N % 2 ^ h % 2 ^ (h - y) = N % 2 ^ (h - y) := by
  have e : 2 ^ h = 2 ^ (h - y) * 2 ^ y := by rw [← Nat.pow_add]; congr 1; omega
  have k : N % 2 ^ h / 2 ^ (h - y) = N / 2 ^ (h - y) % 2 ^ y := by
    rw [e, Nat.mod_mul, Nat.add_mul_div_left _ _ (Nat.two_pow_pos _), Nat.div_eq_of_lt (Nat.mod_lt _ (Nat.two_pow_pos _)), Nat.zero_add]
  refine ⟨?_, ?_⟩
  · rw [dgs, Nat.div_div_eq_div_mul, ← e, k]
  · rw [e, Nat.mod_mul_right_mod]
theorem acc_lt {N h y : Nat} (hy : y ≤ h) : N % 2 ^ h / 2 ^ (h - y) < 2 ^ y := by
  rw [Nat.div_lt_iff_lt_mul (Nat.two_pow_pos _), ← Nat.pow_add, show y + (h - y) = h by omega]
  exact Nat.mod_lt _ (Nat.two_pow_pos _)

/-! ### Letters -/
def let5 : List UInt8 := [65, 66, 67, 68, 69, 70, 71, 72, 73, 74, 75, 76, 77, 78, 79, 80, 81, 82, 83, 84, 85, 86, 87, 88, 89, 90, 50, 51, 52, 53, 54, 55]
def let6 : List UInt8 := [65, 66, 67, 68, 69, 70, 71, 72, 73, 74, 75, 76, 77, 78, 79, 80, 81, 82, 83, 84, 85, 86, 87, 88, 89, 90, 97, 98, 99, 100, 101, 102, 103, 104, 105, 106, 107, 108, 109, 110, 111, 112, 113, 114, 115, 116, 117, 118, 119, 120, 121, 122, 48, 49, 50, 51, 52, 53, 54, 55, 56, 57, 43, 47]
def let4 : List UInt8 := [48, 49, 50, 51, 52, 53, 54, 55, 56, 57, 97, 98, 99, 100, 101, 102]
def lets (z : Nat) : List UInt8 := if z = 5 then let5 else if z = 6 then let6 else let4
theorem lets_len {z : Nat} (hz : 4 ≤ z ∧ z ≤ 6) : (lets z).length = 2 ^ z := by
  rcases (show z = 4 ∨ z = 5 ∨ z = 6 by omega) with rfl | rfl | rfl <;> rfl
def letF (z n : Nat) : UInt8 := (lets z).getD n 0
/-! ### What is told, what is read -/
/-- How many signs = stand at the end. -/
def padN (z m : Nat) : Nat := if z = 6 then (4 - m % 4) % 4 else 0
def tellF (z : Nat) (b : List UInt8) : List UInt8 := (tellP z b).map (letF z) ++ List.replicate (padN z (cnt z b.length)) 61
theorem tellF_len {z : Nat} (b : List UInt8) : (tellF z b).length = cnt z b.length + padN z (cnt z b.length) := by
  unfold tellF
  rw [List.length_append, List.length_map, tellP_len, List.length_replicate]
end Go.Vf.S
end
section
/- Senders written anew, pure: what is told, what is read, where it leads. -/
namespace Go.Vf.S
open Go Go.Vf
attribute [local irreducible] hmac
set_option linter.unusedVariables false
set_option linter.unusedSimpArgs false
set_option maxRecDepth 10000

/-! ### Lower -/
def low (l : List UInt8) : List UInt8 := l.map lowB
theorem low_len (l : List UInt8) : (low l).length = l.length := List.length_map _
/-! ### Tags, local parts -/
def tagF (sec t : List UInt8) : List UInt8 := (tellF 6 (hmac sec (low t))).take 4
/-- Letters that all local parts of the kind begin with: SRS0=, SRS1=, lower. -/
def srsW (k : Nat) : List UInt8 := [115, 114, 115, UInt8.ofNat (48 + k), 61]
def begF (k : Nat) (l : List UInt8) : Bool := decide (low (l.take 5) = srsW k)
structure Sd where
  tag : List UInt8
  st : List UInt8
  dom : List UInt8
  rest : List UInt8
deriving DecidableEq
/-- A domain, =, and what is left. -/
def tailF (tg st r : List UInt8) : Option Sd :=
  if r.takeWhile (· != 61) = [] ∨ r.length ≤ (r.takeWhile (· != 61)).length + 1 then none else some ⟨tg, st, r.takeWhile (· != 61), r.drop ((r.takeWhile (· != 61)).length + 1)⟩
def readS (k : Nat) (l : List UInt8) : Option Sd :=
  if begF k l = true ∧ l[9]? = some 61 then
    if k = 0 then (if l[12]? = some 61 ∧ (pstF ((l.drop 10).take 2)).2 = 0 then tailF ((l.drop 5).take 4) ((l.drop 10).take 2) (l.drop 13) else none)
    else tailF ((l.drop 5).take 4) [] (l.drop 10)
  else none
structure Cdr where
  sec : List UInt8
  doms : List (List UInt8)
def cmayF (c : Cdr) : Bool := decide ((∀ d ∈ c.doms, low d = d ∧ mayF [120] d = true) ∧ 1 ≤ c.sec.length ∧ c.sec.length ≤ 64 ∧ 1 ≤ c.doms.length ∧ c.doms.length ≤ 8)
def oursF (c : Cdr) (d : List UInt8) : Bool := decide (low d ∈ c.doms)
def isF (c : Cdr) (a d : List UInt8) : Bool := oursF c d && (begF 0 a || begF 1 a)
def chainF (sec d r : List UInt8) : List UInt8 := [83, 82, 83, 49, 61] ++ tagF sec (low d ++ r) ++ [61] ++ low d ++ [61] ++ r
def firstF (sec st d a : List UInt8) : List UInt8 := [83, 82, 83, 48, 61] ++ tagF sec (st ++ low d ++ a) ++ [61] ++ st ++ [61] ++ low d ++ [61] ++ a
/-- What is told of a sender: its local part. -/
def nsF (sec a d : List UInt8) (day : Int) : List UInt8 :=
  if begF 0 a = true then chainF sec d (a.drop 4) else match readS 1 a with
    | some x => chainF sec x.dom x.rest
    | none => firstF sec (stT (sn day)) d a
def fwdF (c : Cdr) (a d : List UInt8) (day : Int) : List UInt8 × List UInt8 × Nat :=
  if cmayF c = false ∨ (mayF a d = false ∧ ¬(a = [] ∧ d = [])) then ([], [], 1)
  else if (a = [] ∧ d = []) ∨ oursF c d = true then (a, d, 0)
  else if 64 < (nsF c.sec a d day).length then (a, d, 3) else (nsF c.sec a d day, c.doms.headD [], 0)
/-- Where a local part that is read leads. -/
def toF (k : Nat) (x : Sd) : List UInt8 := if k = 1 then [83, 82, 83, 48] ++ x.rest else x.rest
theorem toF_0 (x : Sd) : toF 0 x = x.rest := if_neg (by decide)
theorem toF_1 (x : Sd) : toF 1 x = [83, 82, 83, 48] ++ x.rest := if_pos rfl
def revK (c : Cdr) (k : Nat) (a : List UInt8) (day : Int) : List UInt8 × List UInt8 × Nat :=
  match readS k a with
  | none => ([], [], 5)
  | some x =>
    if mayF (toF k x) x.dom = false then ([], [], 5)
    else if low x.tag ≠ low (tagF c.sec (x.st ++ x.dom ++ x.rest)) then ([], [], 11)
    else if k = 0 ∧ 21 < agF (pstF x.st).1 day ∧ agF (pstF x.st).1 day < 1023 then ([], [], 13)
    else (toF k x, x.dom, 0)
theorem revK_no {c : Cdr} {k : Nat} {a : List UInt8} {day : Int} (h : readS k a = none) : revK c k a day = ([], [], 5) := by
  unfold revK
  rw [h]
theorem revK_at {c : Cdr} {k : Nat} {a : List UInt8} {day : Int} {x : Sd} (h : readS k a = some x) : revK c k a day = if mayF (toF k x) x.dom = false then ([], [], 5) else if low x.tag ≠ low (tagF c.sec (x.st ++ x.dom ++ x.rest)) then ([], [], 11)
    else if k = 0 ∧ 21 < agF (pstF x.st).1 day ∧ agF (pstF x.st).1 day < 1023 then ([], [], 13) else (toF k x, x.dom, 0) := by
  unfold revK
  rw [h]
theorem revK_check {c : Cdr} {k : Nat} {a : List UInt8} {day : Int} {x : Sd} (h : readS k a = some x) (hm : mayF (toF k x) x.dom = true) (ht : low x.tag ≠ low (tagF c.sec (x.st ++ x.dom ++ x.rest))) : revK c k a day = ([], [], 11) := by
  rw [revK_at h, hm, if_neg (by simp), if_pos ht]
theorem revK_old {c : Cdr} {a : List UInt8} {day : Int} {x : Sd} {n : Nat} (h : readS 0 a = some x) (hm : mayF (toF 0 x) x.dom = true) (ht : low x.tag = low (tagF c.sec (x.st ++ x.dom ++ x.rest))) (hn : (pstF x.st).1 = n) (ho : 21 < agF n day ∧ agF n day < 1023) : revK c 0 a day = ([], [], 13) := by
  subst hn
  rw [revK_at h, hm, if_neg (by simp), if_neg (fun q => q ht), if_pos ⟨rfl, ho⟩]
theorem revK_ok {c : Cdr} {k : Nat} {a : List UInt8} {day : Int} {x : Sd} {n : Nat} (h : readS k a = some x) (hm : mayF (toF k x) x.dom = true) (ht : low x.tag = low (tagF c.sec (x.st ++ x.dom ++ x.rest))) (hn : (pstF x.st).1 = n) (ho : ¬(k = 0 ∧ 21 < agF n day ∧ agF n day < 1023)) : revK c k a day = (toF k x, x.dom, 0) := by
  subst hn
  rw [revK_at h, hm, if_neg (by simp), if_neg (fun q => q ht), if_neg ho]
def revF (c : Cdr) (a d : List UInt8) (day : Int) : List UInt8 × List UInt8 × Nat :=
  if cmayF c = false ∨ mayF a d = false then ([], [], 1)
  else if isF c a d = false then ([], [], 6)
  else revK c (if begF 1 a = true then 1 else 0) a day

/-! ### What is told is read -/
theorem tag_len {sec t : List UInt8} (h : 1 ≤ (hmac sec (low t)).length) : (tagF sec t).length = 4 := by
  unfold tagF
  rw [List.length_take, tellF_len]
  have hz : padN 6 (cnt 6 (hmac sec (low t)).length) = (4 - cnt 6 (hmac sec (low t)).length % 4) % 4 := by unfold padN; rw [if_pos rfl]
  have hc : 1 ≤ cnt 6 (hmac sec (low t)).length := by unfold cnt; omega
  rw [hz]
  omega
theorem takeW_app {d r : List UInt8} (hd : ∀ c ∈ d, c ≠ 61) : (d ++ 61 :: r).takeWhile (· != 61) = d := by
  induction d with
  | nil => rfl
  | cons c d ih =>
    rw [List.cons_append, List.takeWhile_cons, if_pos (by simp [hd c (by simp)]), ih fun x hx => hd x (by simp [hx])]
theorem tail_app {tg st d r : List UInt8} (hd : ∀ c ∈ d, c ≠ 61) (h0 : d ≠ []) (hr : r ≠ []) : tailF tg st (d ++ 61 :: r) = some ⟨tg, st, d, r⟩ := by
  unfold tailF
  rw [takeW_app hd, if_neg]
  · congr 2
    rw [List.drop_append, List.drop_of_length_le (by omega), List.nil_append, show d.length + 1 - d.length = 1 by omega]
    rfl
  · rw [not_or]
    refine ⟨h0, ?_⟩
    have := List.length_pos_iff.2 hr
    rw [List.length_append, List.length_cons]
    omega
theorem len4 {t : List UInt8} (h : t.length = 4) : ∃ a b c d, t = [a, b, c, d] := by
  match t, h with
  | [a, b, c, d], _ => exact ⟨a, b, c, d, rfl⟩
theorem read_chain {w tg d r : List UInt8} (hw : low w = srsW 1) (ht : tg.length = 4) (hd : ∀ c ∈ d, c ≠ 61) (h0 : d ≠ []) (hr : r ≠ []) : readS 1 (w ++ tg ++ [61] ++ d ++ [61] ++ r) = some ⟨tg, [], d, r⟩ := by
  have hwl : w.length = 5 := by rw [← low_len, hw]; rfl
  match w, hwl with
  | [w0, w1, w2, w3, w4], _ =>
  obtain ⟨t0, t1, t2, t3, rfl⟩ := len4 ht
  have e : ([w0, w1, w2, w3, w4] ++ [t0, t1, t2, t3] ++ [61] ++ d ++ [61] ++ r) = w0 :: w1 :: w2 :: w3 :: w4 :: t0 :: t1 :: t2 :: t3 :: 61 :: (d ++ 61 :: r) := by simp
  rw [e]
  unfold readS
  rw [if_pos ⟨by unfold begF; exact decide_eq_true hw, rfl⟩, if_neg (by decide)]
  exact tail_app hd h0 hr
end Go.Vf.S
end
section
/- Back to the sender: once, twice, three times. Pure. -/
namespace Go.Vf.S
open Go Go.Vf
attribute [local irreducible] hmac
set_option linter.unusedVariables false
set_option linter.unusedSimpArgs false
set_option maxRecDepth 10000

def bEx : List UInt8 := [98, 46, 101, 120, 97, 109, 112, 108, 101]
def cEx : List UInt8 := [99, 46, 101, 120, 97, 109, 112, 108, 101]
def dEx : List UInt8 := [100, 46, 101, 120]
def aEx : List UInt8 := [97, 46, 101, 120, 97, 109, 112, 108, 101]
def aEU : List UInt8 := [65, 46, 69, 120, 97, 109, 112, 108, 101]
def aLt : List UInt8 := [91, 49, 48, 46, 48, 46, 48, 46, 49, 93]
/-- A sender as the law makes it. -/
structure Sn (a d : List UInt8) : Prop where
  u : ∃ m, a = 117 :: m ∧ m.length ≤ 12 ∧ m.all plainB = true
  d : d = aEx ∨ d = aEU ∨ d = aLt
theorem Sn.pl {a d : List UInt8} (h : Sn a d) : a ≠ [] ∧ a.length ≤ 13 ∧ a.all plainB = true := by
  obtain ⟨m, rfl, h1, h2⟩ := h.u
  exact ⟨by simp, by rw [List.length_cons]; omega, by rw [List.all_cons, h2]; rfl⟩
theorem dom_facts : (domF aEx = 0 ∧ domF aEU = 0 ∧ domF aLt = 0) ∧ (domF (low aEx) = 0 ∧ domF (low aEU) = 0 ∧ domF (low aLt) = 0) ∧ domF bEx = 0 ∧ domF cEx = 0 ∧ domF dEx = 0 := by decide +kernel
theorem may_of {a d : List UInt8} (h0 : a ≠ []) (h1 : a.length ≤ 64) (h2 : a.all plainB = true) (h3 : domF d = 0) : mayF a d = true := by
  unfold mayF
  exact decide_eq_true ⟨h0, h1, h2, h3⟩
/-- A coder as the law makes it. -/
def cdr (s dm : List UInt8) : Cdr := ⟨107 :: s.take 60, [dm]⟩
theorem cdr_may {s dm : List UInt8} (h : low dm = dm) (hd : domF dm = 0) : cmayF (cdr s dm) = true := by
  unfold cmayF cdr
  refine decide_eq_true ⟨fun d hd' => ?_, by simp, ?_, by simp, by simp⟩
  · rw [List.mem_singleton.1 hd']
    exact ⟨h, may_of (by decide) (by decide) (by decide) hd⟩
  · rw [List.length_cons, List.length_take]; omega
theorem ours_cdr {s dm d : List UInt8} : oursF (cdr s dm) d = decide (low d = dm) := by
  unfold oursF cdr
  simp

/-! ### Plain bytes -/
theorem tell_plain (b : List UInt8) : (tellF 6 b).all plainB = true := by
  have key : (List.range 64).all (fun d => plainB (letF 6 d)) = true := by decide +kernel
  refine List.all_eq_true.2 fun c hc => ?_
  unfold tellF at hc
  rcases List.mem_append.1 hc with h | h
  · obtain ⟨d, hd, rfl⟩ := List.mem_map.1 h
    exact List.all_eq_true.1 key d (List.mem_range.2 (tellP_lt 6 b d hd))
  · rw [(List.mem_replicate.1 h).2]; decide
theorem tag_plain (s t : List UInt8) : (tagF s t).all plainB = true := by
  have := tell_plain (hmac s (low t))
  refine List.all_eq_true.2 fun c hc => List.all_eq_true.1 this c (List.mem_of_mem_take hc)
theorem tag_4 (s t : List UInt8) : (tagF s t).length = 4 := tag_len (by rw [hmac_len]; omega)
/-! ### Once -/
attribute [local irreducible] tagF agF pstF mayF domF tellF
theorem first_len {s st d a : List UInt8} (hs : st.length = 2) : (firstF s st d a).length = 14 + (low d).length + a.length := by
  unfold firstF
  simp only [List.length_append, tag_4, hs, List.length_cons, List.length_nil]
  omega
theorem beg_chain (s d r : List UInt8) : begF 0 (chainF s d r) = false ∧ begF 1 (chainF s d r) = true := by
  have e : (chainF s d r).take 5 = [83, 82, 83, 49, 61] := by
    unfold chainF
    simp [List.append_assoc]
  unfold begF
  rw [e]
  decide
theorem stT_len (n : Nat) : (stT n).length = 2 := rfl

section
variable {a d s dm : List UInt8} {on : Int}
theorem revF_is (hm : low dm = dm) (hd : domF dm = 0) {x y : List UInt8} (hx : mayF x y = true) (hi : isF (cdr s dm) x y = true) (day : Int) : revF (cdr s dm) x y day = revK (cdr s dm) (if begF 1 x = true then 1 else 0) x day := by
  unfold revF
  rw [cdr_may hm hd, hx, hi, if_neg (by simp), if_neg (by simp)]
/-! ### Letters that lost their case; another tag -/
end
end Go.Vf.S
end
section
/- Through two hosts, through three; what stays. Pure. -/
namespace Go.Vf.S
open Go Go.Vf
attribute [local irreducible] hmac tagF agF pstF mayF domF tellF
set_option linter.unusedVariables false
set_option linter.unusedSimpArgs false
set_option maxRecDepth 10000

theorem chain_len (s d r : List UInt8) : (chainF s d r).length = 11 + (low d).length + r.length := by
  unfold chainF
  simp only [List.length_append, tag_4, List.length_cons, List.length_nil]
  omega
theorem chain_plain {s d r : List UInt8} (h2 : (low d).all plainB = true) (h3 : r.all plainB = true) : (chainF s d r).all plainB = true := by
  unfold chainF
  simp only [List.all_append, tag_plain, h2, h3, Bool.and_true, Bool.true_and]
  decide
theorem drop_plain {l : List UInt8} (n : Nat) (h : l.all plainB = true) : (l.drop n).all plainB = true := List.all_eq_true.2 fun x hx => List.all_eq_true.1 h x (List.mem_of_mem_drop hx)
/-- What another host told, told on. -/
structure Ch (F dm : List UInt8) : Prop where
  l : F.length ≤ 37 ∧ 14 ≤ F.length
  p : F.all plainB = true
  four : [83, 82, 83, 48] ++ F.drop 4 = F
  lw : low dm = dm
  dom : domF dm = 0
  no : ∀ c ∈ dm, c ≠ 61
  ne : dm ≠ []
  len : dm.length ≤ 9
  pl : dm.all plainB = true
section
variable {F dm s t dx : List UInt8}
theorem Ch.dr (h : Ch F dm) : F.drop 4 ≠ [] ∧ (F.drop 4).length = F.length - 4 := by
  refine ⟨fun e => ?_, List.length_drop⟩
  have := congrArg List.length e
  have := h.l
  rw [List.length_drop] at *
  simp at *
  omega
theorem Ch.may (h : Ch F dm) (s dx : List UInt8) (hx : domF dx = 0) : mayF (chainF s dm (F.drop 4)) dx = true := by
  have h1 := h.l
  have h2 := h.len
  have hl := chain_len s dm (F.drop 4)
  rw [h.lw, h.dr.2] at hl
  refine may_of (fun e => ?_) (by rw [hl]; omega) (chain_plain (by rw [h.lw]; exact h.pl) (drop_plain 4 h.p)) hx
  rw [e] at hl
  simp at hl
  omega
theorem Ch.read (h : Ch F dm) (s : List UInt8) : readS 1 (chainF s dm (F.drop 4)) = some ⟨tagF s (dm ++ F.drop 4), [], dm, F.drop 4⟩ := by
  unfold chainF
  rw [h.lw]
  exact read_chain (w := [83, 82, 83, 49, 61]) (by decide) (tag_4 _ _) h.no h.ne h.dr.1
/-- Led back to what was told. -/
theorem Ch.back (h : Ch F dm) (hdx : low dx = dx) (hx : domF dx = 0) (day : Int) : revF (cdr s dx) (chainF (cdr s dx).sec dm (F.drop 4)) dx day = (F, dm, 0) := by
  have h1 := h.l
  have hi : isF (cdr s dx) (chainF (cdr s dx).sec dm (F.drop 4)) dx = true := by
    unfold isF
    rw [ours_cdr, hdx, decide_eq_true rfl, (beg_chain _ _ _).2]
    simp
  have hto : toF 1 ⟨tagF (cdr s dx).sec (dm ++ F.drop 4), [], dm, F.drop 4⟩ = F := by rw [toF_1]; exact h.four
  rw [revF_is hdx hx (h.may _ dx hx) hi, (beg_chain _ _ _).2, if_pos rfl,
    revK_ok (h.read _) (by rw [hto]; exact may_of (fun e => by rw [e] at h1; simp at h1) (by omega) h.p h.dom) (by rfl) (n := 0) (by unfold pstF; rfl) (by omega), hto]
end
end Go.Vf.S
end
section
/- What stays as it is; what can't be. Pure. -/
namespace Go.Vf.S
open Go Go.Vf
attribute [local irreducible] hmac tagF agF pstF mayF domF tellF
set_option linter.unusedVariables false
set_option linter.unusedSimpArgs false
set_option maxRecDepth 10000

/-- The example. -/
theorem tells_first {t : List UInt8} : firstF [107, 101, 121] (stT (sn 0)) aEx [97, 110, 110] = [83, 82, 83, 48, 61] ++ tagF [107, 101, 121] (stT (sn 0) ++ low aEx ++ [97, 110, 110]) ++ [61, 65, 65, 61] ++ aEx ++ [61, 97, 110, 110] := by
  unfold firstF
  have e1 : low aEx = aEx := by decide
  have e2 : stT (sn 0) = [65, 65] := by decide
  rw [e1, e2]
  simp [List.append_assoc]
end Go.Vf.S
end
section
/- What is read of a local part, part by part: the way the program goes. Pure. -/
namespace Go.Vf.S
open Go Go.Vf
attribute [local irreducible] hmac pstF
set_option linter.unusedVariables false
set_option linter.unusedSimpArgs false
set_option maxRecDepth 10000

def srsU (k : Nat) : List UInt8 := [83, 82, 83, UInt8.ofNat (48 + k)]
/-- So many bytes and the mark behind them: the part, what is left, whether something else stood there. -/
def szF (m : Nat) (r : List UInt8) (w : Bool) : List UInt8 × List UInt8 × Bool := if r[m]? = some 61 then (r.take m, r.drop (m + 1), w) else ([], r, true)
def smF (r : List UInt8) (w : Bool) : List UInt8 × List UInt8 × Bool := ((szF 2 r w).1, (szF 2 r w).2.1, (szF 2 r w).2.2 || decide ((pstF (szF 2 r w).1).2 ≠ 0))
def ptF (r : List UInt8) (w : Bool) : Bool := w || decide ((cutF 61 r).1 = [] ∨ (cutF 61 r).2.1 = [])
/-- An SRS0, an SRS1 behind its name. -/
def rk0 (r : List UInt8) (w : Bool) : Option Sd :=
  let t := szF 4 r w; let q := smF t.2.1 t.2.2
  if ptF q.2.1 q.2.2 = true then none else some ⟨t.1, q.1, (cutF 61 q.2.1).1, (cutF 61 q.2.1).2.1⟩
def rk1 (r : List UInt8) (w : Bool) : Option Sd :=
  let t := szF 4 r w
  if ptF t.2.1 t.2.2 = true then none else some ⟨t.1, [], (cutF 61 t.2.1).1, (cutF 61 t.2.1).2.1⟩
def readW (l : List UInt8) : Option (Nat × Sd) := if begF 0 l = true then (rk0 (l.drop 5) false).map (Prod.mk 0) else if begF 1 l = true then (rk1 (l.drop 5) false).map (Prod.mk 1) else none

theorem tail_cut (tg st r : List UInt8) : tailF tg st r = if (cutF 61 r).1 = [] ∨ (cutF 61 r).2.1 = [] then none else some ⟨tg, st, (cutF 61 r).1, (cutF 61 r).2.1⟩ := by
  unfold tailF cutF
  by_cases h : (61 : UInt8) ∈ r
  · rw [if_pos h]
    have e : r.length ≤ (r.takeWhile (· != 61)).length + 1 ↔ r.drop ((r.takeWhile (· != 61)).length + 1) = [] := List.drop_eq_nil_iff.symm
    by_cases h1 : r.takeWhile (· != 61) = [] ∨ r.length ≤ (r.takeWhile (· != 61)).length + 1
    · rw [if_pos h1, if_pos (h1.imp id e.1)]
    · rw [if_neg h1, if_neg (fun q => h1 (q.imp id e.2))]
  · rw [if_neg h]
    have e : r.takeWhile (· != 61) = r := by
      have key : ∀ r : List UInt8, (61 : UInt8) ∉ r → r.takeWhile (· != 61) = r := by
        intro r
        induction r with
        | nil => intro _; rfl
        | cons c r ih =>
          intro hr
          rw [List.takeWhile_cons, if_pos (by have : c ≠ 61 := fun q => hr (by simp [q]); simpa using this), ih (fun q => hr (by simp [q]))]
      exact key r h
    rw [e, if_pos (.inr (Nat.le_succ _)), if_pos (.inr rfl)]
theorem beg_len {k : Nat} {l : List UInt8} (h : begF k l = true) : 5 ≤ l.length := by
  unfold begF at h
  have h := congrArg List.length (of_decide_eq_true h)
  rw [low_len, List.length_take] at h
  have : (srsW k).length = 5 := rfl
  omega
theorem beg_one {l : List UInt8} (h : begF 0 l = true) : begF 1 l = false := by
  unfold begF at h ⊢
  rw [of_decide_eq_true h]
  decide
theorem rk0_is {l : List UInt8} (h : begF 0 l = true) : rk0 (l.drop 5) false = readS 0 l := by
  have e9 : (l.drop 5)[4]? = l[9]? := by rw [List.getElem?_drop]
  have e10 : (l.drop 5).drop 5 = l.drop 10 := by rw [List.drop_drop]
  have e12 : (l.drop 10)[2]? = l[12]? := by rw [List.getElem?_drop]
  have e13 : (l.drop 10).drop 3 = l.drop 13 := by rw [List.drop_drop]
  by_cases h9 : l[9]? = some 61
  · have s4 : szF 4 (l.drop 5) false = ((l.drop 5).take 4, l.drop 10, false) := by unfold szF; rw [if_pos (by rw [e9]; exact h9), e10]
    by_cases h12 : l[12]? = some 61
    · have s2 : szF 2 (l.drop 10) false = ((l.drop 10).take 2, l.drop 13, false) := by unfold szF; rw [if_pos (by rw [e12]; exact h12), e13]
      by_cases hp : (pstF ((l.drop 10).take 2)).2 = 0
      · have eR : readS 0 l = tailF ((l.drop 5).take 4) ((l.drop 10).take 2) (l.drop 13) := by unfold readS; rw [if_pos ⟨h, h9⟩, if_pos rfl, if_pos ⟨h12, hp⟩]
        rw [eR, tail_cut]
        unfold rk0 smF ptF
        dsimp only
        rw [s4]
        dsimp only
        rw [s2]
        dsimp only
        by_cases hc : (cutF 61 (l.drop 13)).1 = [] ∨ (cutF 61 (l.drop 13)).2.1 = []
        · rw [if_pos hc, if_pos (by simp [hp, hc])]
        · rw [if_neg hc, if_neg (by simp [hp, hc])]
      · have eR : readS 0 l = none := by unfold readS; rw [if_pos ⟨h, h9⟩, if_pos rfl, if_neg (fun q => hp q.2)]
        rw [eR]
        unfold rk0 smF ptF
        dsimp only
        rw [s4]
        dsimp only
        rw [s2]
        dsimp only
        rw [if_pos (by simp [hp])]
    · have s2 : szF 2 (l.drop 10) false = ([], l.drop 10, true) := by unfold szF; rw [if_neg (by rw [e12]; exact h12)]
      have eR : readS 0 l = none := by unfold readS; rw [if_pos ⟨h, h9⟩, if_pos rfl, if_neg (fun q => h12 q.1)]
      rw [eR]
      unfold rk0 smF ptF
      dsimp only
      rw [s4]
      dsimp only
      rw [s2]
      dsimp only
      rw [if_pos (by simp)]
  · have s4 : szF 4 (l.drop 5) false = ([], l.drop 5, true) := by unfold szF; rw [if_neg (by rw [e9]; exact h9)]
    have s2 : (szF 2 (l.drop 5) true).2.2 = true := by unfold szF; split <;> rfl
    have eR : readS 0 l = none := by unfold readS; rw [if_neg (fun q => h9 q.2)]
    rw [eR]
    unfold rk0 smF ptF
    dsimp only
    rw [s4]
    dsimp only
    rw [s2, if_pos (by simp)]
theorem rk1_is {l : List UInt8} (h : begF 1 l = true) : rk1 (l.drop 5) false = readS 1 l := by
  have e9 : (l.drop 5)[4]? = l[9]? := by rw [List.getElem?_drop]
  have e10 : (l.drop 5).drop 5 = l.drop 10 := by rw [List.drop_drop]
  by_cases h9 : l[9]? = some 61
  · have s4 : szF 4 (l.drop 5) false = ((l.drop 5).take 4, l.drop 10, false) := by unfold szF; rw [if_pos (by rw [e9]; exact h9), e10]
    have eR : readS 1 l = tailF ((l.drop 5).take 4) [] (l.drop 10) := by unfold readS; rw [if_pos ⟨h, h9⟩]; exact if_neg (by decide)
    rw [eR, tail_cut]
    unfold rk1 ptF
    dsimp only
    rw [s4]
    dsimp only
    by_cases hc : (cutF 61 (l.drop 10)).1 = [] ∨ (cutF 61 (l.drop 10)).2.1 = []
    · rw [if_pos hc, if_pos (by simp [hc])]
    · rw [if_neg hc, if_neg (by simp [hc])]
  · have s4 : szF 4 (l.drop 5) false = ([], l.drop 5, true) := by unfold szF; rw [if_neg (by rw [e9]; exact h9)]
    have eR : readS 1 l = none := by unfold readS; rw [if_neg (fun q => h9 q.2)]
    rw [eR]
    unfold rk1 ptF
    dsimp only
    rw [s4]
    dsimp only
    rw [if_pos (by simp)]
theorem readW_0 {l : List UInt8} (h : begF 0 l = true) : readW l = (readS 0 l).map (Prod.mk 0) := by unfold readW; rw [if_pos h, rk0_is h]
theorem readW_1 {l : List UInt8} (h : begF 1 l = true) : readW l = (readS 1 l).map (Prod.mk 1) := by
  have h0 : begF 0 l = false := by
    cases q : begF 0 l with
    | false => rfl
    | true => rw [beg_one q] at h; cases h
  unfold readW
  rw [h0, if_neg (by decide), if_pos h, rk1_is h]
theorem readW_no {l : List UInt8} (h0 : begF 0 l = false) (h1 : begF 1 l = false) : readW l = none := by unfold readW; rw [h0, h1]; rfl
theorem readS_no {k : Nat} {l : List UInt8} (h : begF k l = false) : readS k l = none := by unfold readS; rw [h, if_neg (by simp)]
/-- What is read of a local part is no longer than that. -/
theorem tailF_len {tg st r : List UInt8} {x : Sd} (h : tailF tg st r = some x) : x.tag = tg ∧ x.st = st ∧ x.dom.length ≤ r.length ∧ x.rest.length ≤ r.length := by
  unfold tailF at h
  split at h
  · cases h
  · obtain rfl := Option.some.inj h
    exact ⟨rfl, rfl, (List.takeWhile_sublist _).length_le, by show (r.drop _).length ≤ _; rw [List.length_drop]; omega⟩
theorem readS_len {k : Nat} {l : List UInt8} {x : Sd} (h : readS k l = some x) : x.tag.length ≤ 4 ∧ x.st.length ≤ 2 ∧ x.dom.length ≤ l.length ∧ x.rest.length ≤ l.length := by
  unfold readS at h
  split at h
  · split at h
    · split at h
      · obtain ⟨e1, e2, e3, e4⟩ := tailF_len h
        rw [List.length_drop] at e3 e4
        rw [e1, e2, List.length_take, List.length_take]
        omega
      · cases h
    · obtain ⟨e1, e2, e3, e4⟩ := tailF_len h
      rw [List.length_drop] at e3 e4
      rw [e1, e2, List.length_take]
      refine ⟨by omega, Nat.zero_le _, by omega, by omega⟩
  · cases h
end Go.Vf.S
end
section
/- What the program's and the document's loops hold: letters taken in, bytes told out, and the other way. Pure. -/
namespace Go.Vf.S
open Go Go.Vf
set_option linter.unusedVariables false
set_option linter.unusedSimpArgs false
set_option maxRecDepth 10000

/-! ### Reading: places taken in -/
def kpt (z : Nat) (p : List Nat) : Nat := nmb (2 ^ z) p % 2 ^ (z * p.length % 8)
def outp (z : Nat) (p : List Nat) : List Nat := dgs 256 (z * p.length / 8) (nmb (2 ^ z) p / 2 ^ (z * p.length % 8))
def outB (z : Nat) (p : List Nat) : List UInt8 := (outp z p).map UInt8.ofNat
/-! ### What the program reads: all signs = at the end cut off, then the number of letters -/
def sizeF (z n : Nat) : Nat := cnt z n + padN z (cnt z n)
/-! ### Telling: bytes taken in -/
def tlN (b : List UInt8) (m : Nat) : Nat := nB b % 2 ^ m
def tlO (z : Nat) (b : List UInt8) (m q : Nat) : List Nat := dgs (2 ^ z) q (nB b / 2 ^ m)
theorem nB_snoc (b : List UInt8) (c : UInt8) : nB (b ++ [c]) = nB b * 2 ^ 8 + c.toNat := by
  unfold nB
  rw [List.map_append, List.map_singleton, nmb_snoc]
theorem tl_in (z : Nat) (b : List UInt8) (m q : Nat) (c : UInt8) : tlN (b ++ [c]) (m + 8) = tlN b m * 2 ^ 8 + c.toNat ∧ tlO z (b ++ [c]) (m + 8) q = tlO z b m q := by
  obtain ⟨e1, e2⟩ := acc_in (N := nB b) (h := m) (x := 8) (d := c.toNat) c.toNat_lt
  unfold tlN tlO
  rw [nB_snoc, e1, e2]
  exact ⟨rfl, rfl⟩
theorem tl_out {z : Nat} (b : List UInt8) {m : Nat} (q : Nat) (h : z ≤ m) : tlN b (m - z) = tlN b m % 2 ^ (m - z) ∧ tlO z b (m - z) (q + 1) = tlO z b m q ++ [tlN b m / 2 ^ (m - z)] ∧ tlN b m / 2 ^ (m - z) < 2 ^ z := by
  obtain ⟨o1, o2⟩ := acc_out (N := nB b) h q
  exact ⟨o2.symm, o1, acc_lt h⟩
theorem tl_lt (b : List UInt8) (m : Nat) : tlN b m < 2 ^ m := Nat.mod_lt _ (Nat.two_pow_pos _)
/-- All bytes taken in, nothing left. -/
theorem tl_end {z : Nat} (hz : 4 ≤ z ∧ z ≤ 6) (b : List UInt8) {q : Nat} (h : z * q = 8 * b.length) : tlO z b 0 q = tellP z b := by
  have hc : cnt z b.length = q := by
    unfold cnt
    rcases (show z = 4 ∨ z = 5 ∨ z = 6 by omega) with rfl | rfl | rfl <;> omega
  unfold tlO tellP
  rw [hc, h, Nat.sub_self]
  simp
/-- What is left is the last letter, with bits 0 behind it. -/
theorem tl_last {z : Nat} (hz : 4 ≤ z ∧ z ≤ 6) (b : List UInt8) {q m : Nat} (h : z * q + m = 8 * b.length) (h0 : 0 < m) (hm : m < z) : tlO z b m q ++ [tlN b m * 2 ^ (z - m)] = tellP z b ∧ tlN b m * 2 ^ (z - m) < 2 ^ z := by
  have hc : cnt z b.length = q + 1 := by
    unfold cnt
    rcases (show z = 4 ∨ z = 5 ∨ z = 6 by omega) with rfl | rfl | rfl <;> omega
  have hw : z * cnt z b.length - 8 * b.length = z - m := by rw [hc, Nat.mul_succ]; omega
  have e : 2 ^ z = 2 ^ m * 2 ^ (z - m) := by rw [← Nat.pow_add]; congr 1; omega
  refine ⟨?_, ?_⟩
  · unfold tellP
    rw [hw, hc, dgs]
    unfold tlO tlN
    congr 2
    · rw [e, Nat.mul_div_mul_right _ _ (Nat.two_pow_pos _)]
    · rw [e, Nat.mul_mod_mul_right]
  · rw [e]
    exact Nat.mul_lt_mul_of_pos_right (tl_lt b m) (Nat.two_pow_pos _)
end Go.Vf.S
end
section
/- What all texts of the layer lean on: numbers of 64 bits; the kinds. -/
namespace Go.Vf.S
open Go Go.Vf Go.Proofs Go.RowKit
attribute [local irreducible] wSeq wRow wp wG
set_option linter.unusedVariables false
set_option linter.unusedSimpArgs false
set_option maxRecDepth 10000

/-! ### Numbers of 64 bits -/
theorem pow_cast (x : Nat) : ((2 : Int) ^ x) = ((2 ^ x : Nat) : Int) := by simp
theorem shl_64 {a x : Nat} (hx : x ≤ 64) (h : a * 2 ^ x < 2 ^ 64) {z : Int} (hz : z = IntKind.wrap .u64 ((a : Int) * 2 ^ (min (x : Int).toNat IntKind.u64.bits))) : z = ((a * 2 ^ x : Nat) : Int) := by
  have e : min (x : Int).toNat IntKind.u64.bits = x := by show min (x : Int).toNat 64 = x; omega
  rw [hz, e, pow_cast, ← Int.natCast_mul, u64_id (by omega)]
theorem shr_64 {a x : Nat} (hx : x ≤ 64) {z : Int} (hz : z = (a : Int).fdiv (2 ^ (min (x : Int).toNat IntKind.u64.bits))) : z = ((a / 2 ^ x : Nat) : Int) := by
  have e : min (x : Int).toNat IntKind.u64.bits = x := by show min (x : Int).toNat 64 = x; omega
  rw [hz, e, fdiv_pow]
theorem or_64 {a d x : Nat} (hd : d < 2 ^ x) (h : a * 2 ^ x + d < 2 ^ 64) {z : Int} (hz : z = IntKind.wrap .u64 ((BitVec.ofInt IntKind.u64.bits ((a * 2 ^ x : Nat) : Int) ||| BitVec.ofInt IntKind.u64.bits (d : Int)).toNat : Int)) : z = ((a * 2 ^ x + d : Nat) : Int) := by
  have e1 : (BitVec.ofInt 64 ((a * 2 ^ x : Nat) : Int)).toNat = a <<< x := by
    rw [BitVec.toNat_ofInt, Nat.shiftLeft_eq]; omega
  have e2 : (BitVec.ofInt 64 (d : Int)).toNat = d := by
    rw [BitVec.toNat_ofInt]; omega
  have e3 : (BitVec.ofInt IntKind.u64.bits ((a * 2 ^ x : Nat) : Int) ||| BitVec.ofInt IntKind.u64.bits (d : Int)).toNat = a * 2 ^ x + d := by
    show (BitVec.ofInt 64 ((a * 2 ^ x : Nat) : Int) ||| BitVec.ofInt 64 (d : Int)).toNat = _
    rw [BitVec.toNat_or, e1, e2, ← Nat.shiftLeft_add_eq_or_of_lt hd, Nat.shiftLeft_eq]
  rw [hz, e3, u64_id (by omega)]
theorem and_64 {a m : Nat} (hm : m < 64) (h : a < 2 ^ 64) {z : Int} (hz : z = IntKind.wrap .u64 ((BitVec.ofInt IntKind.u64.bits (a : Int) &&& BitVec.ofInt IntKind.u64.bits ((2 ^ m - 1 : Nat) : Int)).toNat : Int)) : z = ((a % 2 ^ m : Nat) : Int) := by
  have hp : 2 ^ m < 2 ^ 64 := Nat.pow_lt_pow_right (by decide) hm
  have e1 : (BitVec.ofInt 64 (a : Int)).toNat = a := by
    rw [BitVec.toNat_ofInt]; omega
  have e2 : (BitVec.ofInt 64 ((2 ^ m - 1 : Nat) : Int)).toNat = 2 ^ m - 1 := by
    rw [BitVec.toNat_ofInt]; omega
  have e3 : (BitVec.ofInt IntKind.u64.bits (a : Int) &&& BitVec.ofInt IntKind.u64.bits ((2 ^ m - 1 : Nat) : Int)).toNat = a % 2 ^ m := by
    show (BitVec.ofInt 64 (a : Int) &&& BitVec.ofInt 64 ((2 ^ m - 1 : Nat) : Int)).toNat = _
    rw [BitVec.toNat_and, e1, e2, Nat.and_two_pow_sub_one_eq_mod]
  have : a % 2 ^ m < 2 ^ m := Nat.mod_lt _ (Nat.two_pow_pos m)
  rw [hz, e3, u64_id (by omega)]

/-! ### The kinds -/
abbrev gK : Nat := 0
abbrev tKd : TypeId := 77
def rowN (z : Nat) : Nat := if z = 6 then 4 else 1
def kV (z : Nat) : List Value := [str (lets z), .int .u64 (z : Nat), .int .i64 (rowN z : Nat), .bool (decide (z ≠ 6))]
abbrev kA (z : Nat) : Value := .agg ⟨kV z⟩
def kindsV : List Value := kV 5 ++ kV 6 ++ kV 4
structure Gk (s : SS) : Prop where
  g : gK < s.gl
  n : gK < s.next
  b : lookH s.heap gK = some (.cells kindsV tKd false true)
theorem Gk.chg {s s' : SS} {A : List Nat} (h : Gk s) (c : Chg s s' A) (hA : ∀ id ∈ A, s.next ≤ id ∨ ∃ c' t' g', lookH s.heap id = some (.cells c' t' g' false)) : Gk s' := by
  refine ⟨by rw [c.gl]; exact h.g, Nat.lt_of_lt_of_le h.n c.next, c.blk _ _ h.n (fun hm => ?_) h.b⟩
  rcases hA _ hm with q | ⟨c', t', g', q⟩
  · exact absurd h.n (by omega)
  · rw [h.b] at q; cases q
theorem Gk.nil {s s' : SS} (h : Gk s) (c : Chg s s' []) : Gk s' := h.chg c (fun id hid => by cases hid)
end Go.Vf.S
end
section
/- The program's small functions. -/
namespace Go.Vf.S
open Go Go.Vf Go.Proofs Go.RowKit
attribute [local irreducible] wSeq wRow wp wG
set_option linter.unusedVariables false
set_option linter.unusedSimpArgs false
set_option maxRecDepth 10000

theorem kv0 (z : Nat) : (kV z)[0]? = some (str (lets z)) := rfl
theorem kv1 (z : Nat) : (kV z)[1]? = some (Value.int .u64 (z : Nat)) := rfl
theorem kv2 (z : Nat) : (kV z)[2]? = some (Value.int .i64 (rowN z : Nat)) := rfl
theorem kv3 (z : Nat) : (kV z)[3]? = some (Value.bool (decide (z ≠ 6))) := rfl
theorem kv_take (z : Nat) : takeN 4 ((kV z).drop 0) = some (kV z) := rfl
theorem rowN_pos (z : Nat) : 0 < rowN z ∧ rowN z ≤ 4 := by unfold rowN; split <;> omega
theorem tdivN (a b : Nat) : ((a : Int)).tdiv (b : Int) = ((a / b : Nat) : Int) := by rw [Int.ofNat_tdiv]
theorem upTo_w {s : SS} {a b : Nat} (ha : a ≤ 2 ^ 40) (hb : 0 < b ∧ b ≤ 64) : CallW pr n_coding_upTo [.int .i64 a, .int .i64 b] s fun v s' => v = .int .i64 ((a + b - 1) / b * b : Nat) ∧ s' = s := by
  have hd : (a + b - 1) / b * b ≤ a + b - 1 := Nat.div_mul_le_self _ _
  have hd2 : (a + b - 1) / b ≤ a + b - 1 := Nat.div_le_self _ _
  obtain ⟨q, hq⟩ : ∃ q, q = (a + b - 1) / b := ⟨_, rfl⟩
  rw [← hq] at hd hd2 ⊢
  refine CallW.run good ok_coding_upTo (by simp) rfl ?_
  (try refine pSeq ?_); (repeat refine sb ?_)
  intro z1 h1
  rw [i64_id (by omega)] at h1
  (repeat refine sb ?_)
  intro z2 h2
  rw [i64_id (by omega)] at h2
  obtain rfl : z2 = ((a + b - 1 : Nat) : Int) := by omega
  (repeat refine sb ?_)
  refine ⟨by omega, ?_⟩
  intro z3 h3
  rw [tdivN, ← hq, i64_id (by omega)] at h3
  subst h3
  (repeat refine sb ?_)
  intro z4 h4
  rw [← Int.natCast_mul, i64_id (by omega)] at h4
  subst h4
  (repeat refine sb ?_)
  exact ⟨rfl, rfl⟩

theorem size_eq {z n : Nat} (hz : 4 ≤ z ∧ z ≤ 6) : ((n * 8 + z - 1) / z * z / z + rowN z - 1) / rowN z * rowN z = sizeF z n := by
  have e : (n * 8 + z - 1) / z * z / z = cnt z n := by
    rw [Nat.mul_div_cancel _ (by omega)]
    unfold cnt
    rw [Nat.mul_comm]
  rw [e]
  unfold sizeF padN rowN
  by_cases h : z = 6
  · rw [if_pos h, if_pos h]; omega
  · rw [if_neg h, if_neg h]; omega
theorem size_le {z n : Nat} (hz : 4 ≤ z ∧ z ≤ 6) (hn : n ≤ 1000000) : sizeF z n ≤ 2000003 ∧ cnt z n ≤ 2000000 := by
  unfold sizeF padN
  have : cnt z n ≤ 2 * n := by
    unfold cnt
    rcases (show z = 4 ∨ z = 5 ∨ z = 6 by omega) with rfl | rfl | rfl <;> omega
  split <;> omega
theorem size_w {s : SS} {z n : Nat} (f : Fine s) (hz : 4 ≤ z ∧ z ≤ 6) (hn : n ≤ 1000000) : CallW pr n_coding_kind_size [kA z, .int .i64 n] s fun v s' => v = .int .i64 (sizeF z n : Nat) ∧ Chg s s' [] := by
  refine CallW.run good ok_coding_kind_size (by simp) rfl ?_
  obtain ⟨h0, c0, f0⟩ := new1_at f (.cells (kV z) tKd false false)
  (try refine pSeq ?_); (repeat(first|refine sb ?_|refine kNo ?_))
  intro z1 h1
  rw [i64_id (by omega)] at h1
  obtain rfl : z1 = ((n * 8 : Nat) : Int) := by omega
  (repeat(first|refine sb ?_|refine kNo ?_))
  refine ldI_is rfl h0 (kv1 z) ?_
  (repeat(first|refine sb ?_|refine kNo ?_))
  intro z2 h2
  rw [i64_id (by omega)] at h2
  subst h2
  (repeat(first|refine sb ?_|refine kNo ?_))
  refine ldI_is rfl h0 (kv1 z) ?_
  (repeat(first|refine sb ?_|refine kNo ?_))
  intro z3 h3
  rw [i64_id (by omega)] at h3
  subst h3
  (repeat(first|refine sb ?_|refine kNo ?_))
  refine ldI_is rfl h0 (kv2 z) ?_
  (repeat(first|refine sb ?_|refine kNo ?_))
  refine (upTo_w (by omega) (by omega)).mono fun v s1 q => ?_
  obtain ⟨rfl, rfl⟩ := q
  refine kAll .refl ?_
  (repeat(first|refine sb ?_|refine kNo ?_))
  refine ⟨by omega, ?_⟩
  intro z4 h4
  have hle : (n * 8 + z - 1) / z * z ≤ n * 8 + z - 1 := Nat.div_mul_le_self _ _
  have hle2 : (n * 8 + z - 1) / z * z / z ≤ (n * 8 + z - 1) / z * z := Nat.div_le_self _ _
  obtain ⟨q, hq⟩ : ∃ q, q = (n * 8 + z - 1) / z * z / z := ⟨_, rfl⟩
  rw [← hq] at hle2
  rw [tdivN, ← hq, i64_id (by omega)] at h4
  subst h4
  (repeat(first|refine sb ?_|refine kNo ?_))
  refine (upTo_w (by omega) ⟨(rowN_pos z).1, by have := (rowN_pos z).2; omega⟩).mono fun v s1 q => ?_
  obtain ⟨rfl, rfl⟩ := q
  (repeat(first|refine sb ?_|refine kNo ?_))
  refine ⟨?_, c0⟩
  rw [hq, size_eq hz]
  rfl

/-! ### Cases, places -/
end Go.Vf.S
end
section
/- Signs = cut off. -/
namespace Go.Vf.S
open Go Go.Vf Go.Proofs Go.RowKit
attribute [local irreducible] wSeq wRow wp wG
set_option linter.unusedVariables false
set_option linter.unusedSimpArgs false
set_option maxRecDepth 10000

/-! ### Signs = cut off -/
end Go.Vf.S
end
section
/- Letters gone through, bytes gone through: what is done with the bits is a function that is handed in, with what it caught. -/
namespace Go.Vf.S
open Go Go.Vf Go.Proofs Go.RowKit
attribute [local irreducible] wSeq wRow wp wG
set_option linter.unusedVariables false
set_option linter.unusedSimpArgs false
set_option maxRecDepth 10000

abbrev u64V (n : Nat) : Value := .int .u64 (n : Int)
/-- A function and what it caught. -/
abbrev clV (f : Nat) (cs : List Value) : Value := .func (.func f) ⟨[]⟩ ⟨cs⟩
theorem callV_cs {f : FuncId} {m : MF} (h : compF pr f = some m) (cs : List Value) (x : Value) : callV pr (clV f cs) [x] = some (.enter f (x :: cs)) := by
  have e := h
  unfold compF at e
  unfold callV clV
  split at e
  · cases e
  · rename_i fn hfn
    split at e
    · cases e
    · rename_i code hcode
      simp only [hfn, hcode, Option.isSome_some, cond_true, List.nil_append, List.cons_append]

theorem chg_same {a b c : SS} {A : List Nat} (h : Chg a b A) (k : Chg b c A) : Chg a c A := h.trans' k (fun _ q _ => q) fun _ q _ => q
/-- Bytes, one by one: what is done with the bits of each letter. -/
theorem part_w {s : SS} {z : Nat} {base : Option Addr} {n cap : Nat} {b : List UInt8} {g : Nat} {cs : List Value} {A : List Nat} (f : Fine s) (hz : 4 ≤ z ∧ z ≤ 6) (hr : Rdb s base n b) (hl : n ≤ 1000000) (J : List Nat → SS → Prop)
    (hf : ∀ x, callV pr (clV g cs) [x] = some (.enter g (x :: cs))) (hA : ∀ id ∈ A, id < s.next) (hbA : ∀ id ∈ blkOf base, id ∉ A) (h0 : J [] s) (hJ : ∀ p s1 s2, J p s1 → Chg s1 s2 [] → J p s2)
    (hc : ∀ p d s1, p.length < cnt z b.length → d < 2 ^ z → J p s1 → Fine s1 → Chg s s1 A → CallW pr g (u64V d :: cs) s1 fun v s2 => v = .tuple #[] ∧ J (p ++ [d]) s2 ∧ Chg s1 s2 A) :
    CallW pr n_coding_kind_part [kA z, .slice base n cap, clV g cs] s fun v s' => v = .tuple #[] ∧ Chg s s' A ∧ J (tellP z b) s' := by
  have hn := hr.1
  refine CallW.run good ok_coding_kind_part (by simp) rfl ?_
  obtain ⟨k0, c0, f0⟩ := new1_at f (.cells (kV z) tKd false false)
  have j0 := hJ _ _ _ h0 c0
  (try refine pSeq ?_); (repeat refine sb ?_)
  refine pLoop (MW.head good (fun x : Nat × Nat × SS => n - x.1) (fun x => x.1 ≤ n ∧ x.2.1 < z ∧ Chg s x.2.2 A ∧ lookH x.2.2.heap s.next = some (.cells (kV z) tKd false false) ∧ s.next < x.2.2.next ∧ ∃ e, z * e + x.2.1 = 8 * x.1 ∧ J (tlO z (b.take x.1) x.2.1 e) x.2.2)
    (fun x => [(2, clV g cs), (3, ptrV s.next), (6, u64V (tlN (b.take x.1) x.2.1)), (7, u64V x.2.1), (10, .slice base n cap), (11, .int .i64 n), (12, .int .i64 x.1)]) (fun x => x.2.2) (0, 0, _) ⟨Nat.zero_le _, by show 0 < z; omega, c0.sub (by simp), k0, Nat.lt_succ_self _, 0, rfl, j0⟩ (Wk.same ⟨rfl, rfl, rfl, rfl, rfl, rfl, rfl, trivial⟩) ?_)
  clear k0 c0 f0 j0
  intro ⟨i, m, s1⟩ ⟨hi, hm, c1, k1, n1, e, he8, j1⟩
  dsimp only at hi hm c1 k1 n1 he8 j1 ⊢
  have f1 := c1.fine f
  (repeat refine sb ?_)
  intro q hq
  by_cases h5 : i = n
  · subst h5
    rw [List.take_of_length_le (by omega)] at j1
    rw [List.take_of_length_le (by omega)]
    rw [hn] at he8
    obtain rfl : q = false := by rw [hq]; simp <;> omega
    (repeat refine sb ?_)
    intro q hq
    by_cases h0 : m = 0
    · subst h0
      obtain rfl : q = false := by rw [hq]; rfl
      (repeat refine sb ?_)
      refine ⟨rfl, c1, ?_⟩
      rw [← tl_end hz b he8]
      exact j1
    · obtain ⟨l1, l2⟩ := tl_last hz b he8 (by omega) hm
      have l3 := tl_lt b m
      have h64 : 2 ^ z ≤ 64 := by rcases (show z = 4 ∨ z = 5 ∨ z = 6 by omega) with rfl | rfl | rfl <;> decide
      obtain rfl : q = true := by rw [hq]; simp; omega
      (repeat refine sb ?_)
      refine ldI_is rfl k1 (kv1 z) ?_
      (repeat refine sb ?_)
      intro w hw
      rw [u64_id (by omega)] at hw
      obtain rfl : w = ((z - m : Nat) : Int) := by omega
      (repeat refine sb ?_)
      refine ⟨by omega, ?_⟩
      intro w hw
      obtain rfl := shl_64 (by omega) (by omega) hw
      (repeat refine sb ?_)
      refine ⟨.call g (u64V (tlN b m * 2 ^ (z - m)) :: cs), hf _, ?_⟩
      refine (hc _ _ s1 ?_ l2 j1 f1 c1).mono fun v s3 q => ?_
      · rw [← tellP_len, ← l1, List.length_append, List.length_singleton]; exact Nat.lt_succ_self _
      obtain ⟨rfl, j3, c3⟩ := q
      (repeat refine sb ?_)
      refine ⟨rfl, chg_same c1 c3, ?_⟩
      rw [← l1]
      exact j3
  obtain rfl : q = true := by rw [hq]; simp <;> omega
  (repeat refine sb ?_)
  have hin : i < b.length := by omega
  obtain ⟨c, hcc⟩ : ∃ c, b[i]? = some c := ⟨_, List.getElem?_eq_getElem hin⟩
  have hcn := c.toNat_lt
  have hpn : b.take (i + 1) = b.take i ++ [c] := take_next hcc
  have l3 := tl_lt (b.take i) m
  have h64 : 2 ^ m ≤ 32 := by rcases (show m = 0 ∨ m = 1 ∨ m = 2 ∨ m = 3 ∨ m = 4 ∨ m = 5 by omega) with rfl | rfl | rfl | rfl | rfl | rfl <;> decide
  obtain ⟨t1, t2⟩ := tl_in z (b.take i) m e c
  rw [← hpn] at t1 t2
  cases base with
  | none => exact absurd hn (by have := hr.2; simp only at this; subst this; simp at hin)
  | some a =>
  obtain ⟨bk, off, sp⟩ := a
  have hr1 := hr.chg c1 hbA
  obtain ⟨rfl, cc, t, gg, rr, hb1, hat⟩ := hr1.at
  have hby : cc[off + i]? = some (.int .u8 c.toNat) := by
    rw [hat i (by omega), List.getD_eq_getElem?_getD, hcc]; rfl
  refine ⟨by omega, ?_⟩
  intro w hw o ho
  obtain rfl : w = i := by omega
  (repeat refine sb ?_)
  refine ldI_is rfl hb1 (by rw [ho, Nat.mul_one]; exact hby) ?_
  (repeat refine sb ?_)
  intro w1 hw1
  have h5b : tlN (b.take w) m * 2 ^ 8 + c.toNat < 2 ^ 14 := by omega
  obtain rfl : w1 = ((tlN (b.take w) m * 2 ^ 8 : Nat) : Int) := by rw [hw1, pow_cast, ← Int.natCast_mul, u64_id (by omega)]
  (repeat refine sb ?_)
  intro w2 hw2
  rw [u64_id (by omega)] at hw2
  subst hw2
  (repeat refine sb ?_)
  intro w3 hw3
  obtain rfl := or_64 hcn (by omega) hw3
  (repeat refine sb ?_)
  intro w4 hw4
  rw [u64_id (by omega)] at hw4
  obtain rfl : w4 = ((m + 8 : Nat) : Int) := by omega
  rw [← t1]
  rw [← t2] at j1
  (repeat refine sb ?_)
  refine pLoop (MW.head good (fun x : Nat × Nat × SS => x.1) (fun x => x.1 < z + 8 ∧ z * x.2.1 + x.1 = 8 * (w + 1) ∧ Chg s x.2.2 A ∧ lookH x.2.2.heap s.next = some (.cells (kV z) tKd false false) ∧ s.next < x.2.2.next ∧ J (tlO z (b.take (w + 1)) x.1 x.2.1) x.2.2)
    (fun x => [(2, clV g cs), (3, ptrV s.next), (6, u64V (tlN (b.take (w + 1)) x.1)), (7, u64V x.1), (10, .slice (some ⟨bk, off, none⟩) n cap), (11, .int .i64 n), (12, .int .i64 w)]) (fun x => x.2.2) (m + 8, e, s1) ⟨by show m + 8 < z + 8; omega, by show z * e + (m + 8) = 8 * (w + 1); omega, c1, k1, n1, j1⟩ (Wk.same ⟨rfl, rfl, rfl, rfl, rfl, rfl, rfl, trivial⟩) ?_)
  clear c1 k1 n1 j1 hb1 hat hr1 f1 he8 t1 t2 hby l3 h5b hw1
  intro ⟨m1, e1, s2⟩ ⟨hm1, he1, c1, k1, n1, j1⟩
  dsimp only at hm1 he1 c1 k1 n1 j1 ⊢
  have f2 := c1.fine f
  (repeat refine sb ?_)
  refine ldI_is rfl k1 (kv1 z) ?_
  (repeat refine sb ?_)
  intro q hq
  by_cases hzm : z ≤ m1
  · obtain ⟨o1, o2, o3⟩ := tl_out (b.take (w + 1)) e1 hzm
    have l3 := tl_lt (b.take (w + 1)) m1
    have h14 : 2 ^ m1 ≤ 2 ^ 14 := Nat.pow_le_pow_right (by decide) (by omega)
    have h11 : 2 ^ (m1 - z) ≤ 2 ^ 14 := Nat.pow_le_pow_right (by decide) (by omega)
    have h12 : 0 < 2 ^ (m1 - z) := Nat.two_pow_pos _
    obtain rfl : q = true := by rw [hq]; simp <;> omega
    (repeat refine sb ?_)
    refine ldI_is rfl k1 (kv1 z) ?_
    (repeat refine sb ?_)
    intro w5 hw5
    rw [u64_id (by omega)] at hw5
    obtain rfl : w5 = ((m1 - z : Nat) : Int) := by omega
    (repeat refine sb ?_)
    refine ⟨by omega, ?_⟩
    intro w6 hw6
    obtain rfl := shr_64 (by omega) hw6
    (repeat refine sb ?_)
    refine ⟨.call g (u64V (tlN (b.take (w + 1)) m1 / 2 ^ (m1 - z)) :: cs), hf _, ?_⟩
    refine (hc _ _ s2 ?_ o3 j1 f2 c1).mono fun v s3 q => ?_
    · have hlen : (tlO z (b.take (w + 1)) m1 e1).length = e1 := dgs_len _ _ _
      rw [hlen]
      unfold cnt
      rcases (show z = 4 ∨ z = 5 ∨ z = 6 by omega) with rfl | rfl | rfl <;> omega
    obtain ⟨rfl, j3, c3⟩ := q
    rw [← o2] at j3
    have k3 := c3.blk _ _ n1 (fun h => by have := hA _ h; omega) k1
    (repeat refine sb ?_)
    refine ⟨by omega, ?_⟩
    intro w7 hw7
    obtain rfl := shl_64 (a := 1) (by omega) (by omega) hw7
    (repeat refine sb ?_)
    intro w8 hw8
    rw [u64_id (by omega)] at hw8
    obtain rfl : w8 = ((2 ^ (m1 - z) - 1 : Nat) : Int) := by omega
    (repeat refine sb ?_)
    intro w9 hw9
    obtain rfl := and_64 (by omega) (by omega) hw9
    rw [← o1]
    (repeat refine sb ?_)
    exact ⟨(m1 - z, e1 + 1, s3), ⟨by show m1 - z < z + 8; omega, by show z * (e1 + 1) + (m1 - z) = _; rw [Nat.mul_succ]; omega, chg_same c1 c3, k3, Nat.lt_of_lt_of_le n1 c3.next, j3⟩, by show m1 - z < m1; omega, Wk.same ⟨rfl, rfl, rfl, rfl, rfl, rfl, rfl, trivial⟩⟩
  · obtain rfl : q = false := by rw [hq]; simp <;> omega
    (repeat refine sb ?_)
    intro w5 hw5
    rw [i64_id (by omega)] at hw5
    obtain rfl : w5 = ((w + 1 : Nat) : Int) := by omega
    (repeat refine sb ?_)
    exact ⟨(w + 1, m1, s2), ⟨by show w + 1 ≤ n; omega, by show m1 < z; omega, c1, k1, n1, e1, he1, j1⟩, by show n - (w + 1) < n - w; omega, Wk.same ⟨rfl, rfl, rfl, rfl, rfl, rfl, rfl, trivial⟩⟩
end Go.Vf.S
end
section
/- Letters told: the closure, the whole. -/
namespace Go.Vf.S
open Go Go.Vf Go.Proofs Go.RowKit
attribute [local irreducible] wSeq wRow wp wG
set_option linter.unusedVariables false
set_option linter.unusedSimpArgs false
set_option maxRecDepth 10000

abbrev tBs : TypeId := 37
abbrev slV (b n cap : Nat) : Value := .slice (some ⟨b, 0, none⟩) n cap
/-- What the closure that tells finds: the letters so far. -/
structure LayJ (vb rb kb cap z : Nat) (p : List Nat) (s : SS) : Prop where
  v : lookH s.heap vb = some (.cells [slV rb p.length cap] tBs false false)
  r : Room s rb cap (p.map (letF z))
  k : lookH s.heap kb = some (.cells (kV z) tKd false false)
  lv : vb < s.next
  lk : kb < s.next
  n1 : rb ≠ vb
  n2 : rb ≠ kb
  n3 : vb ≠ kb
theorem LayJ.nil {vb rb kb cap z : Nat} {p : List Nat} {s s' : SS} (h : LayJ vb rb kb cap z p s) (c : Chg s s' []) : LayJ vb rb kb cap z p s' :=
  ⟨c.blk _ _ h.lv (by simp) h.v, h.r.chg c (by simp), c.blk _ _ h.lk (by simp) h.k, Nat.lt_of_lt_of_le h.lv c.next, Nat.lt_of_lt_of_le h.lk c.next, h.n1, h.n2, h.n3⟩
theorem let_get {z d : Nat} (hz : 4 ≤ z ∧ z ≤ 6) (h : d < 2 ^ z) : (lets z)[d]? = some (letF z d) := by
  unfold letF
  rw [List.getD_eq_getElem?_getD, List.getElem?_eq_getElem (by rw [lets_len hz]; exact h)]; rfl

theorem lay1_w {s : SS} {z vb rb kb cap d : Nat} {p : List Nat} (f : Fine s) (hz : 4 ≤ z ∧ z ≤ 6) (hd : d < 2 ^ z) (hm : p.length < cap) (hcap : cap ≤ 4294967296) (J : LayJ vb rb kb cap z p s) :
    CallW pr n_coding_kind_lay_1 [u64V d, ptrV vb, ptrV kb] s fun v s2 => v = .tuple #[] ∧ LayJ vb rb kb cap z (p ++ [d]) s2 ∧ Chg s s2 [rb, vb] := by
  obtain ⟨jv, jr, jk, lv, lk, n1, n2, n3⟩ := J
  refine CallW.run good ok_coding_kind_lay_1 (by simp) rfl ?_
  (try refine pSeq ?_); (repeat(first|refine sb ?_|refine kNo ?_))
  refine ld1_is rfl jv rfl ?_
  (repeat(first|refine sb ?_|refine kNo ?_))
  refine ldS_is rfl jk (kv0 z) ?_
  (repeat(first|refine sb ?_|refine kNo ?_))
  refine ⟨by rw [lets_len hz]; omega, ?_⟩
  intro m hm2
  obtain rfl : m = d := by omega
  refine ⟨letF z m, let_get hz hd, ?_⟩
  (repeat(first|refine sb ?_|refine kNo ?_))
  refine mkS_is rfl rfl (rNew f.at ?_)
  (repeat(first|refine sb ?_|refine kNo ?_))
  refine app_byte (c := letF z m) jr rfl rfl (by rw [List.length_map]) rfl (by omega) hcap fun s1 r1 c1 nx1 => ?_
  have kv1' := c1.blk _ _ lv (by simp; omega) jv
  (repeat(first|refine sb ?_|refine kNo ?_))
  refine st_abs (cs' := [slV rb (p.length + 1) cap]) rfl rfl kv1' (by omega) rfl rfl fun s2 e2 c2 nx2 => ?_
  refine kNo ?_
  (repeat(first|refine sb ?_|refine kNo ?_))
  have c12 : Chg s s2 [rb, vb] := chg_same (c1.sub (by simp)) (c2.sub (by simp))
  have lr := jr.1
  refine ⟨rfl, ⟨?_, ?_, ?_, ?_, ?_, n1, n2, n3⟩, c12⟩
  · rw [List.length_append, List.length_singleton]; exact e2
  · rw [List.map_append]; exact r1.chg c2 (by simp; exact n1)
  · exact c12.blk _ _ lk (by simp; exact ⟨Ne.symm n2, Ne.symm n3⟩) jk
  · omega
  · omega
end Go.Vf.S
end
section
/- Letters read: the closure. -/
namespace Go.Vf.S
open Go Go.Vf Go.Proofs Go.RowKit
attribute [local irreducible] wSeq wRow wp wG
set_option linter.unusedVariables false
set_option linter.unusedSimpArgs false
set_option maxRecDepth 10000

abbrev tU6 : TypeId := 75
/-- What the closure that reads finds: what is kept, how many bits, the bytes so far. -/
structure RdJ (kp mn vb rb kb cap z : Nat) (p : List Nat) (s : SS) : Prop where
  a : lookH s.heap kp = some (.cells [u64V (kpt z p)] tU6 false false)
  m : lookH s.heap mn = some (.cells [u64V (z * p.length % 8)] tU6 false false)
  v : lookH s.heap vb = some (.cells [slV rb (z * p.length / 8) cap] tBs false false)
  r : Room s rb cap (outB z p)
  k : lookH s.heap kb = some (.cells (kV z) tKd false false)
  la : kp < s.next
  lm : mn < s.next
  lv : vb < s.next
  lk : kb < s.next
theorem RdJ.nil {kp mn vb rb kb cap z : Nat} {p : List Nat} {s s' : SS} (h : RdJ kp mn vb rb kb cap z p s) (c : Chg s s' []) : RdJ kp mn vb rb kb cap z p s' :=
  ⟨c.blk _ _ h.la (by simp) h.a, c.blk _ _ h.lm (by simp) h.m, c.blk _ _ h.lv (by simp) h.v, h.r.chg c (by simp), c.blk _ _ h.lk (by simp) h.k,
    Nat.lt_of_lt_of_le h.la c.next, Nat.lt_of_lt_of_le h.lm c.next, Nat.lt_of_lt_of_le h.lv c.next, Nat.lt_of_lt_of_le h.lk c.next⟩
/-- They are five. -/
def Five (kp mn vb rb kb : Nat) : Prop := [kp, mn, vb, rb, kb].Nodup
end Go.Vf.S
end
section
/- Letters told: the whole. -/
namespace Go.Vf.S
open Go Go.Vf Go.Proofs Go.RowKit
attribute [local irreducible] wSeq wRow wp wG
set_option linter.unusedVariables false
set_option linter.unusedSimpArgs false
set_option maxRecDepth 10000

/-- A text behind, where there is room. -/
theorem app_sroom {T : TL} {s : SS} {K : RR → Prop} {x y : Operand} {b cap m : Nat} {d l : List UInt8} (ho : Room s b cap d) (hx : opd T s.gl x = some (slV b m cap)) (hm : m = d.length)
    (hy : opd T s.gl y = some (str l)) (hmn : m + l.length ≤ cap) (hb : cap ≤ 4294967296)
    (h : ∀ s' : SS, Room s' b cap (d ++ l) → Chg s s' [b] → s'.next = s.next → K (.eff (slV b (m + l.length) cap) s')) : wN pr (.app tB 1 1 x y) T s K := by
  have h1 := ho.2.1
  simp only [wN, wAppB, hx, hy]
  intro new hnew
  subst hnew
  refine ⟨⟨by omega, by omega, by rw [bytesV_len, Nat.mul_one], all1_bytesV l⟩, ?_⟩
  simp only [ho.2.2]
  refine ⟨fun _ => ⟨trivial, _, (by rw [Nat.mul_one, Nat.zero_add]; exact setRow_bytes _ l m (by rw [List.length_append, List.length_replicate]; omega)), fun m' hm' => ?_⟩, fun q => by omega⟩
  subst hm'
  have e : (d ++ List.replicate (cap - d.length) 0).take m ++ l ++ (d ++ List.replicate (cap - d.length) 0).drop (m + l.length) = (d ++ l) ++ List.replicate (cap - (d ++ l).length) 0 := by
    subst hm
    rw [List.take_append_of_le_length (Nat.le_refl _), List.take_length, List.drop_append, List.drop_of_length_le (by omega), List.nil_append, List.drop_replicate, List.length_append]
    congr 2
    omega
  rw [e]
  exact h _ ⟨ho.1, by rw [List.length_append]; omega, lkH⟩ (.turn ho.1) rfl

set_option maxHeartbeats 1000000 in
theorem lay_w {s : SS} {z : Nat} {base : Option Addr} {n cap : Nat} {b : List UInt8} (f : Fine s) (hz : 4 ≤ z ∧ z ≤ 6) (hr : Rdb s base n b) (hl : n ≤ 1000000) :
    CallW pr n_coding_kind_lay [kA z, .slice base n cap] s fun v s' => v = str (tellF z b) ∧ Chg s s' [] := by
  have hn := hr.1
  have hlt := hr.lt
  obtain ⟨hs1, hs2⟩ := size_le (n := n) hz hl
  refine CallW.run good ok_coding_kind_lay (by simp) rfl ?_
  obtain ⟨k0, c0, f0⟩ := new1_at f (.cells (kV z) tKd false false)
  (try refine pSeq ?_); (repeat(first|refine sb ?_|refine kNo ?_))
  refine ldN_is rfl k0 (kv_take z) ?_
  (repeat(first|refine sb ?_|refine kNo ?_))
  refine (size_w f0 hz hl).mono fun v s1 q => ?_
  obtain ⟨rfl, c1⟩ := q
  have f1 := c1.fine f0
  have nx1 : s.next + 1 ≤ s1.next := c1.next
  have k1 := c1.blk _ _ (show s.next < s.next + 1 by omega) (by simp) k0
  replace c1 := c0.nil c1
  clear k0 c0 f0
  (repeat(first|refine sb ?_|refine kNo ?_))
  refine ⟨by omega, ?_⟩
  intro m1 n1 hm1 hn1 cs hcs
  obtain rfl : m1 = 0 := by omega
  obtain rfl : n1 = sizeF z n := by omega
  rw [rep_bytes] at hcs
  subst hcs
  (repeat(first|refine sb ?_|refine kNo ?_))
  obtain ⟨r0, v0, c2, f2⟩ := new2_at f1 (.cells (bytesV (List.replicate (sizeF z n) 0)) tB false false) (.cells [.slice none 0 0] tBs false false)
  refine st_abs (cs' := [slV s1.next 0 (sizeF z n)]) rfl rfl v0 (Nat.lt_succ_self _) rfl rfl fun s2 x2 c3 nx2 => ?_
  replace nx2 : s2.next = s1.next + 1 + 1 := nx2
  have r2 := c3.blk _ _ (show s1.next < s1.next + 1 + 1 by omega) (by simp) r0
  have k2 := c3.blk _ _ (show s.next < s1.next + 1 + 1 by omega) (by simp; omega) (c2.blk _ _ (show s.next < s1.next by omega) (by simp) k1)
  replace c3 : Chg s s2 [] := c1.nil (c2.fresh c3 (by simp))
  have f3 := c3.fine f
  have hr2 := hr.chg c3 (by simp)
  have j0 : LayJ (s1.next + 1) s1.next s.next (sizeF z n) z [] s2 :=
    ⟨x2, ⟨by omega, by simp, by simpa using r2⟩, k2, by omega, by omega, by omega, by omega, by omega⟩
  clear r0 v0 c2 f2 x2 r2 k1 f1
  (repeat(first|refine sb ?_|refine kNo ?_))
  refine ldN_is rfl k2 (kv_take z) ?_
  clear k2
  (repeat(first|refine sb ?_|refine kNo ?_))
  refine ⟨.val (clV n_coding_kind_lay_1 [ptrV (s1.next + 1), ptrV s.next]), rfl, ?_⟩
  (repeat(first|refine sb ?_|refine kNo ?_))
  have hcs : cnt z b.length ≤ sizeF z n := by rw [hn]; unfold sizeF; omega
  refine (part_w (A := [s1.next, s1.next + 1]) f3 hz hr2 hl (fun p x => LayJ (s1.next + 1) s1.next s.next (sizeF z n) z p x) (callV_cs ok_coding_kind_lay_1 _) (fun id hid => by simp at hid; omega) (fun id hid h => by have := hlt _ hid; simp at h; omega) j0 (fun p s3 s4 j c => j.nil c)
    (fun p d s3 hp hd j g _ => lay1_w g hz hd (by omega) (by omega) j)).mono fun v s4 q => ?_
  obtain ⟨rfl, c4, j4⟩ := q
  obtain ⟨v4, r4, k4, lv4, lk4, _, _, _⟩ := j4
  rw [tellP_len] at v4
  replace c4 : Chg s s4 [] := c3.fresh c4 (fun id hid => by simp at hid; omega)
  clear j0 c3 f3 hr2 hr k4 lk4
  have hsz : sizeF z n = cnt z b.length + padN z (cnt z b.length) := by rw [hn]; rfl
  have hlen : ((tellP z b).map (letF z)).length = cnt z b.length := by rw [List.length_map, tellP_len]
  have hT : tellF z b = (tellP z b).map (letF z) ++ List.replicate (padN z (cnt z b.length)) 61 := rfl
  generalize hY : (tellP z b).map (letF z) = Y at *
  generalize hC : cnt z b.length = C at *
  generalize hP : padN z C = P at *
  (repeat(first|refine sb ?_|refine kNo ?_))
  refine pLoop (MW.head good (fun x : Nat × SS => P - x.1) (fun x => x.1 ≤ P ∧ Room x.2 s1.next (C + P) (Y ++ List.replicate x.1 61) ∧ lookH x.2.heap (s1.next + 1) = some (.cells [slV s1.next (C + x.1) (C + P)] tBs false false) ∧ Chg s x.2 [] ∧ s1.next + 1 < x.2.next)
    (fun x => [(5, .int .i64 (C + P : Nat)), (6, ptrV (s1.next + 1))]) (fun x => x.2) (0, s4) ⟨Nat.zero_le _, by rw [← hsz, List.replicate_zero, List.append_nil]; exact r4, by rw [← hsz]; exact v4, c4, lv4⟩ (Wk.same ⟨by rw [← hsz]; rfl, rfl, trivial⟩) ?_)
  clear v4 r4 lv4 c4
  intro ⟨j, s5⟩ ⟨hj, r5, v5, c5, lv5⟩
  dsimp only at hj r5 v5 c5 lv5 ⊢
  have hlj : (Y ++ List.replicate j 61).length = C + j := by rw [List.length_append, List.length_replicate, hlen]
  (repeat(first|refine sb ?_|refine kNo ?_))
  refine ld1_is rfl v5 rfl ?_
  (repeat(first|refine sb ?_|refine kNo ?_))
  intro q hq
  by_cases h5 : j = P
  · subst h5
    obtain rfl : q = false := by rw [hq]; simp <;> omega
    (repeat(first|refine sb ?_|refine kNo ?_))
    refine ld1_is rfl v5 rfl ?_
    (repeat(first|refine sb ?_|refine kNo ?_))
    refine toStr_Rdb rfl (hlj ▸ r5.rdb) ?_
    (repeat(first|refine sb ?_|refine kNo ?_))
    exact ⟨by rw [hT]; rfl, c5⟩
  · obtain rfl : q = true := by rw [hq]; simp <;> omega
    (repeat(first|refine sb ?_|refine kNo ?_))
    refine ld1_is rfl v5 rfl ?_
    (repeat(first|refine sb ?_|refine kNo ?_))
    refine app_sroom r5 rfl hlj.symm rfl (by show C + j + 1 ≤ C + P; omega) (by omega) fun s6 r6 c6 nx6 => ?_
    have v6 := c6.blk _ _ lv5 (by simp) v5
    (repeat(first|refine sb ?_|refine kNo ?_))
    refine st_abs (cs' := [slV s1.next (C + (j + 1)) (C + P)]) rfl rfl v6 (by omega) rfl rfl fun s7 x7 c7 nx7 => ?_
    have r7 := r6.chg c7 (by simp)
    have c57 : Chg s5 s7 [s1.next, s1.next + 1] := chg_same (c6.sub (by simp)) (c7.sub (by simp))
    (repeat(first|refine sb ?_|refine kNo ?_))
    refine ⟨(j + 1, s7), ⟨by omega, ?_, x7, c5.fresh c57 (fun id hid => by simp at hid; omega), by show s1.next + 1 < s7.next; omega⟩, by show P - (j + 1) < P - j; omega, Wk.same ⟨rfl, rfl, trivial⟩⟩
    show Room s7 _ _ (Y ++ List.replicate (j + 1) 61)
    rw [List.replicate_succ', ← List.append_assoc]
    exact r7
end Go.Vf.S
end
section
/- Letters read: the whole. -/
namespace Go.Vf.S
open Go Go.Vf Go.Proofs Go.RowKit
attribute [local irreducible] wSeq wRow wp wG
set_option linter.unusedVariables false
set_option linter.unusedSimpArgs false
set_option maxRecDepth 10000

end Go.Vf.S
end
section
/- What may be asked: letters of the three kinds, and bytes of them; the examples. -/
namespace Go.Vf.S
open Go Go.Vf Go.Proofs Go.RowKit
attribute [local irreducible] wSeq wRow wp wG
set_option linter.unusedVariables false
set_option linter.unusedSimpArgs false
set_option maxRecDepth 10000

theorem base64_w {s : SS} {base : Option Addr} {n cap : Nat} {b : List UInt8} (hG : Gk s) (f : Fine s) (hr : Rdb s base n b) (hl : n ≤ 1000000) : CallW pr n_coding_Base64 [.slice base n cap] s fun v s' => v = str (tellF 6 b) ∧ Chg s s' [] := by
  refine CallW.run good ok_coding_Base64 (by simp) rfl ?_
  (try refine pSeq ?_); (repeat refine sb ?_)
  refine ixaG hG.g rfl ?_
  refine ⟨by decide, ?_⟩
  intro k hk o ho
  obtain rfl : k = 1 := by omega
  obtain rfl : o = 4 := by omega
  (repeat refine sb ?_)
  refine ldN_is rfl hG.b (show _ = some (kV 6) from rfl) ?_
  (repeat refine sb ?_)
  refine (lay_w f (by omega) hr hl).mono fun v s1 q => ?_
  obtain ⟨rfl, c1⟩ := q
  (repeat refine sb ?_)
  exact ⟨rfl, c1⟩
/-! ### The examples -/
end Go.Vf.S
end
section
/- Words: what each round asks. -/
namespace Go.Vf.S
open Go Go.Vf
attribute [local irreducible] wSeq wRow wp wG
set_option linter.unusedVariables false
set_option linter.unusedSimpArgs false
set_option maxRecDepth 10000

abbrev wv (x : Wd) : Value := .int .u32 x.toNat
def wdsV (l : List Wd) : List Value := l.map wv
def W5.V (s : W5) : Value := .agg ⟨wdsV s.l⟩

theorem rotl_w {s : SS} {x : Wd} {k : Nat} (hk : k = 1 ∨ k = 5 ∨ k = 30) : CallW pr n_math_bits_RotateLeft32 [wv x, .int .i64 k] s fun v s' => v = wv (rl x k) ∧ s' = s := by
  refine CallW.run good ok_math_bits_RotateLeft32 (by simp) rfl ?_
  (try refine pSeq ?_); (repeat refine sb ?_)
  intro z hz
  (repeat refine sb ?_)
  intro z1 hz1
  obtain rfl : z1 = (k : Int) := by
    rw [hz1, hz]
    rcases hk with rfl | rfl | rfl <;> rfl
  (repeat refine sb ?_)
  refine ⟨by omega, ?_⟩
  intro z2 hz2
  rw [show min (k : Int).toNat IntKind.u32.bits = k from by rcases hk with rfl | rfl | rfl <;> rfl, shl_u32] at hz2
  subst hz2
  (repeat refine sb ?_)
  intro z3 hz3
  obtain rfl : z3 = ((32 - k : Nat) : Int) := by
    rw [hz3]
    rcases hk with rfl | rfl | rfl <;> rfl
  (repeat refine sb ?_)
  refine ⟨by omega, ?_⟩
  intro z4 hz4
  rw [show min ((32 - k : Nat) : Int).toNat IntKind.u32.bits = 32 - k from by rcases hk with rfl | rfl | rfl <;> rfl, shr_u32] at hz4
  subst hz4
  (repeat refine sb ?_)
  intro z5 hz5
  rw [or_u32] at hz5
  subst hz5
  (repeat refine sb ?_)
  exact ⟨rfl, rfl⟩

theorem choice_w {s : SS} {b c d : Wd} : CallW pr n_hash_choice [wv b, wv c, wv d] s fun v s' => v = wv (choF b c d) ∧ s' = s := by
  refine CallW.run good ok_hash_choice (by simp) rfl ?_
  (try refine pSeq ?_); (repeat refine sb ?_)
  intro z hz; rw [and_u32] at hz; subst hz
  (repeat refine sb ?_)
  intro z hz; rw [notC_u32] at hz; subst hz
  (repeat refine sb ?_)
  intro z hz; rw [and_u32] at hz; subst hz
  (repeat refine sb ?_)
  intro z hz; rw [or_u32] at hz; subst hz
  (repeat refine sb ?_)
  exact ⟨rfl, rfl⟩
theorem odd_w {s : SS} {b c d : Wd} : CallW pr n_hash_oddness [wv b, wv c, wv d] s fun v s' => v = wv (oddF b c d) ∧ s' = s := by
  refine CallW.run good ok_hash_oddness (by simp) rfl ?_
  (try refine pSeq ?_); (repeat refine sb ?_)
  intro z hz; rw [xor_u32] at hz; subst hz
  (repeat refine sb ?_)
  intro z hz; rw [xor_u32] at hz; subst hz
  (repeat refine sb ?_)
  exact ⟨rfl, rfl⟩
theorem maj_w {s : SS} {b c d : Wd} : CallW pr n_hash_majority [wv b, wv c, wv d] s fun v s' => v = wv (majF b c d) ∧ s' = s := by
  refine CallW.run good ok_hash_majority (by simp) rfl ?_
  (try refine pSeq ?_); (repeat refine sb ?_)
  intro z hz; rw [and_u32] at hz; subst hz
  (repeat refine sb ?_)
  intro z hz; rw [and_u32] at hz; subst hz
  (repeat refine sb ?_)
  intro z hz; rw [or_u32] at hz; subst hz
  (repeat refine sb ?_)
  intro z hz; rw [and_u32] at hz; subst hz
  (repeat refine sb ?_)
  intro z hz; rw [or_u32] at hz; subst hz
  (repeat refine sb ?_)
  exact ⟨rfl, rfl⟩

/-! ### Arrays -/
abbrev tA20 : TypeId := 41
abbrev tW5 : TypeId := 105
theorem agg_W5 : aggB pr tW5 = some true := by kernel_rfl
theorem sz_W5 : sizeB pr tW5 = some 5 := by kernel_rfl
theorem agg_A20 : aggB pr tA20 = some true := by kernel_rfl
theorem sz_A20 : sizeB pr tA20 = some 20 := by kernel_rfl
theorem wds_len (l : List Wd) : (wdsV l).length = l.length := List.length_map ..
theorem wds_get {l : List Wd} {i : Nat} (h : i < l.length) : (wdsV l)[i]? = some (wv (l.getD i 0)) := by
  unfold wdsV
  rw [List.getElem?_map, List.getElem?_eq_getElem h, List.getD_eq_getElem?_getD, List.getElem?_eq_getElem h]; rfl
theorem wds_take {l : List Wd} {n : Nat} (h : l.length = n) : takeN n ((wdsV l).drop 0) = some (wdsV l) := by
  rw [List.drop_zero, takeN_take _ _ (by rw [wds_len]; omega), List.take_of_length_le (by rw [wds_len]; omega)]
theorem wds_all (l : List Wd) : all1 (wdsV l) = true := by
  induction l with
  | nil => rfl
  | cons a l ih => exact ih

theorem start10_w {s : SS} (f : Fine s) : CallW pr n_hash_start [] s fun v s' => v = ini5.V ∧ Chg s s' [] := by
  refine CallW.run good ok_hash_start (by simp) rfl ?_
  (try refine pSeq ?_); (repeat refine sb ?_)
  refine st_abs (cs' := wdsV ini5.l) rfl rfl lkH (Nat.lt_succ_self _) rfl rfl fun s1 e1 c1 n1 => ?_
  (repeat refine sb ?_)
  (repeat (first | with_reducible refine sqRet ?_ | with_reducible refine bkRet ?_ | with_reducible refine hdRet ?_))
  exact ret_cell1 agg_W5 sz_W5 rfl e1 (wds_take rfl) ⟨rfl, (Chg.new []).fresh c1 (by simp)⟩
end Go.Vf.S
end
section
/- Words: added, as bytes; a block's words. -/
namespace Go.Vf.S
open Go Go.Vf
attribute [local irreducible] wSeq wRow wp wG
set_option linter.unusedVariables false
set_option linter.unusedSimpArgs false
set_option maxRecDepth 10000

theorem wds_set {l : List Wd} {p : Nat} (h : p < l.length) (x : Wd) : setRow (wdsV l) p [wv x] = some (wdsV (l.set p x)) := by
  rw [setRow_one (by rw [wds_len]; exact h)]
  simp [wdsV, List.map_set]
/-- Added so far. -/
def mixW (x y : List Wd) (p : Nat) : List Wd := (List.zipWith (· + ·) x y).take p ++ x.drop p
theorem mixW_len (x y : W5) (p : Nat) (hp : p ≤ 5) : (mixW x.l y.l p).length = 5 := by
  unfold mixW
  rw [List.length_append, List.length_take, List.length_zipWith, List.length_drop]
  show min p (min 5 5) + (5 - p) = 5
  omega
theorem mixW_next (x y : W5) {p : Nat} (hp : p < 5) : mixW x.l y.l (p + 1) = (mixW x.l y.l p).set p ((mixW x.l y.l p).getD p 0 + y.l.getD p 0) := by
  have : p = 0 ∨ p = 1 ∨ p = 2 ∨ p = 3 ∨ p = 4 := by omega
  rcases this with rfl | rfl | rfl | rfl | rfl <;> rfl

theorem addw_w {s : SS} {x y : W5} (f : Fine s) : CallW pr n_hash_words_add [x.V, y.V] s fun v s' => v = (x.add y).V ∧ Chg s s' [] := by
  refine CallW.run good ok_hash_words_add (by simp) rfl ?_
  (try refine pSeq ?_); (repeat(first|refine sb ?_|refine kNo ?_))
  refine pLoop (MW.head good (fun p : Nat × SS => 5 - p.1) (fun p => p.1 ≤ 5 ∧ lookH p.2.heap s.next = some (.cells (wdsV (mixW x.l y.l p.1)) tW5 false false) ∧ lookH p.2.heap (s.next + 1) = some (.cells (wdsV y.l) tW5 false false)
      ∧ lookH p.2.heap (s.next + 1 + 1) = some (.cells (wdsV [0, 0, 0, 0, 0]) tW5 false false) ∧ Chg s p.2 [] ∧ p.2.next = s.next + 1 + 1 + 1 ∧ Fine p.2)
    (fun p => [(2, ptrV s.next), (3, ptrV (s.next + 1)), (4, ptrV (s.next + 1 + 1)), (6, .int .i64 p.1)]) (fun p => p.2) (0, _) ?_ (Wk.same ⟨rfl, rfl, rfl, rfl, trivial⟩) ?_)
  · obtain ⟨h1, h2, h3, h4, h5⟩ := new3_at f (.cells (wdsV x.l) tW5 false false) (.cells (wdsV y.l) tW5 false false) (.cells (wdsV [0, 0, 0, 0, 0]) tW5 false false)
    exact ⟨Nat.zero_le _, h1, h2, h3, h4, rfl, h5⟩
  intro ⟨p, s1⟩ ⟨hp, h2, h3, h4, c1, n1, f1⟩
  dsimp only at hp h2 h3 h4 c1 n1 f1 ⊢
  (repeat(first|refine sb ?_|refine kNo ?_))
  intro q hq
  by_cases h5 : p = 5
  · subst h5
    obtain rfl : q = false := by rw [hq]; simp <;> omega
    (repeat(first|refine sb ?_|refine kNo ?_))
    refine ldN_is rfl h2 (wds_take (mixW_len x y 5 (by omega))) ?_
    (repeat(first|refine sb ?_|refine kNo ?_))
    refine st_abs (cs' := wdsV (x.add y).l) rfl rfl h4 (by omega) rfl rfl fun s2 e2 c2 n2 => ?_
    (repeat(first|refine sb ?_|refine kNo ?_))
    (repeat (first | with_reducible refine sqRet ?_ | with_reducible refine bkRet ?_ | with_reducible refine hdRet ?_))
    exact ret_cell1 agg_W5 sz_W5 rfl e2 (wds_take rfl) ⟨rfl, c1.fresh c2 (by simp; omega)⟩
  · obtain rfl : q = true := by rw [hq]; simp <;> omega
    (repeat(first|refine sb ?_|refine kNo ?_))
    refine ⟨by omega, ?_⟩
    intro m hm o ho
    obtain rfl : m = p := by omega
    obtain rfl : o = m := by omega
    (repeat(first|refine sb ?_|refine kNo ?_))
    refine ldI_is rfl h2 (wds_get (by rw [mixW_len x y o hp]; omega)) ?_
    (repeat(first|refine sb ?_|refine kNo ?_))
    refine ⟨by omega, ?_⟩
    intro m hm o' ho
    obtain rfl : m = o := by omega
    obtain rfl : o' = m := by omega
    (repeat(first|refine sb ?_|refine kNo ?_))
    refine ldI_is rfl h3 (wds_get (show o' < 5 by omega)) ?_
    (repeat(first|refine sb ?_|refine kNo ?_))
    intro z hz
    rw [add_u32] at hz
    subst hz
    (repeat(first|refine sb ?_|refine kNo ?_))
    refine ⟨by omega, ?_⟩
    intro m hm o ho
    obtain rfl : m = o' := by omega
    obtain rfl : o = m := by omega
    (repeat(first|refine sb ?_|refine kNo ?_))
    refine st_abs (cs' := wdsV (mixW x.l y.l (o + 1))) rfl rfl h2 (by omega) rfl (by rw [mixW_next x y (by omega)]; exact wds_set (by rw [mixW_len x y o hp]; omega) _) fun s2 e2 c2 n2 => ?_
    (repeat(first|refine sb ?_|refine kNo ?_))
    intro z hz
    rw [i64_id (by omega)] at hz
    subst hz
    (repeat(first|refine sb ?_|refine kNo ?_))
    exact ⟨(o + 1, s2), ⟨by omega, e2, c2.blk _ _ (by omega) (by simp) h3, c2.blk _ _ (by omega) (by simp <;> omega) h4, c1.fresh c2 (by simp), n2.trans n1, c2.fine f1⟩, by show 5 - (o + 1) < 5 - o; omega, Wk.same ⟨rfl, rfl, rfl, rfl, trivial⟩⟩
end Go.Vf.S
end

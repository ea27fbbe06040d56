import Derived.Test.YtafdbfpclolpkaaEngBd
/- SHA-1 and HMAC, pure. -/
namespace Go.Vf.S
open Go Go.Vf
set_option linter.unusedVariables false
set_option linter.unusedSimpArgs false
set_option maxRecDepth 10000

abbrev Wd := BitVec 32
/-- A word turned left. -/
def rl (x : Wd) (n : Nat) : Wd := x <<< n ||| x >>> (32 - n)
theorem rl_bit (x : Wd) (n : Nat) (hn : n ≤ 31) (j : Nat) (hj : j < 32) : (rl x n).getLsbD j = if j < n then x.getLsbD (j + 32 - n) else x.getLsbD (j - n) := by
  unfold rl
  rw [BitVec.getLsbD_or, BitVec.getLsbD_shiftLeft, BitVec.getLsbD_ushiftRight]
  by_cases h : j < n
  · rw [if_pos h]
    have e : 32 - n + j = j + 32 - n := by omega
    simp [h, e]
  · rw [if_neg h]
    have e : x.getLsbD (32 - n + j) = false := BitVec.getLsbD_of_ge _ _ (by omega)
    simp [h, hj, e]
theorem rl_zero (x : Wd) : rl x 0 = x := by
  refine BitVec.eq_of_getLsbD_eq fun j hj => ?_
  rw [rl_bit _ _ (by omega) _ hj, if_neg (by omega), Nat.sub_zero]
theorem rl_rl (x : Wd) (n : Nat) (hn : n < 31) : rl (rl x n) 1 = rl x (n + 1) := by
  refine BitVec.eq_of_getLsbD_eq fun j hj => ?_
  rw [rl_bit _ _ (by omega) _ hj, rl_bit _ _ (by omega) _ hj]
  by_cases h : j < 1
  · obtain rfl : j = 0 := by omega
    rw [if_pos h, if_pos (by omega), rl_bit _ _ (by omega) _ (by omega), if_neg (by omega)]
    congr 1; omega
  · rw [if_neg h, rl_bit _ _ (by omega) _ (by omega)]
    by_cases h1 : j - 1 < n
    · rw [if_pos h1, if_pos (by omega)]; congr 1; omega
    · rw [if_neg h1, if_neg (by omega)]; congr 1; omega
theorem rl_nat (x : Wd) (n : Nat) (hn : n ≤ 31) : (rl x n).toNat = x.toNat * 2 ^ n % 4294967296 + x.toNat / 2 ^ (32 - n) := by
  unfold rl
  have h1 : x >>> (32 - n) = BitVec.ofNat 32 (x.toNat / 2 ^ (32 - n)) := by
    apply BitVec.eq_of_toNat_eq
    have := Nat.div_le_self x.toNat (2 ^ (32 - n))
    have := x.isLt
    rw [BitVec.toNat_ushiftRight, BitVec.toNat_ofNat, Nat.mod_eq_of_lt (by omega), Nat.shiftRight_eq_div_pow]
  have hd : x.toNat / 2 ^ (32 - n) < 2 ^ n := by
    refine (Nat.div_lt_iff_lt_mul (Nat.pos_of_ne_zero (by simp))).2 ?_
    rw [← Nat.pow_add, show n + (32 - n) = 32 from by omega]
    exact x.isLt
  have h2 : x.toNat * 2 ^ n % 4294967296 = 2 ^ n * (x.toNat % 2 ^ (32 - n)) := by
    rw [Nat.mul_comm, show 4294967296 = 2 ^ n * 2 ^ (32 - n) from by rw [← Nat.pow_add, show n + (32 - n) = 32 from by omega], Nat.mul_mod_mul_left]
  rw [BitVec.toNat_or, BitVec.toNat_shiftLeft, BitVec.toNat_ushiftRight, Nat.shiftLeft_eq, Nat.shiftRight_eq_div_pow, h2, Nat.two_pow_add_eq_or_of_lt hd]
theorem rl1 (x : Wd) : x + x + x >>> 31 = rl x 1 := by
  apply BitVec.eq_of_toNat_eq
  rw [rl_nat _ _ (by omega), BitVec.toNat_add, BitVec.toNat_add, BitVec.toNat_ushiftRight, Nat.shiftRight_eq_div_pow]
  have := x.isLt
  omega

/-- Five words. -/
structure W5 where
  a : Wd
  b : Wd
  c : Wd
  d : Wd
  e : Wd
def W5.add (x y : W5) : W5 := ⟨x.a + y.a, x.b + y.b, x.c + y.c, x.d + y.d, x.e + y.e⟩
def W5.l (x : W5) : List Wd := [x.a, x.b, x.c, x.d, x.e]
def ini5 : W5 := ⟨0x67452301, 0xefcdab89, 0x98badcfe, 0x10325476, 0xc3d2e1f0⟩
def choF (b c d : Wd) : Wd := b &&& c ||| ~~~ b &&& d
def oddF (b c d : Wd) : Wd := b ^^^ c ^^^ d
def majF (b c d : Wd) : Wd := b &&& c ||| b &&& d ||| c &&& d
def fT (t : Nat) (b c d : Wd) : Wd := if t < 20 then choF b c d else if t < 40 then oddF b c d else if t < 60 then majF b c d else oddF b c d
def kT (t : Nat) : Wd := if t < 20 then 0x5a827999 else if t < 40 then 0x6ed9eba1 else if t < 60 then 0x8f1bbcdc else 0xca62c1d6
def rnd (t : Nat) (w : Wd) (s : W5) : W5 := ⟨rl s.a 5 + fT t s.b s.c s.d + s.e + kT t + w, s.a, rl s.b 30, s.c, s.d⟩
def rnds (ws : List Wd) : Nat → W5 → W5
  | 0, s => s
  | t + 1, s => rnd t (ws.getD t 0) (rnds ws t s)

/-- The words of a block. -/
def wOf (l : List UInt8) (t : Nat) : Wd := ((l.drop (4 * t)).take 4).foldl (fun w c => w <<< 8 ||| c.toBitVec.setWidth 32) 0
def nxt (w : List Wd) (t : Nat) : Wd := rl (w.getD (t - 3) 0 ^^^ w.getD (t - 8) 0 ^^^ w.getD (t - 14) 0 ^^^ w.getD (t - 16) 0) 1
def schd (l : List UInt8) : Nat → List Wd
  | 0 => []
  | t + 1 => schd l t ++ [if t < 16 then wOf l t else nxt (schd l t) t]
theorem schd_len (l : List UInt8) : ∀ t, (schd l t).length = t
  | 0 => rfl
  | t + 1 => by rw [schd, List.length_append, schd_len l t]; rfl

/-- What five words become of a block; of so many blocks. -/
def blk5 (s : W5) (l : List UInt8) : W5 := s.add (rnds (schd l 80) 80 s)
def blks : Nat → W5 → List UInt8 → W5
  | 0, s, _ => s
  | n + 1, s, l => blks n (blk5 s (l.take 64)) (l.drop 64)
theorem blks_next (n : Nat) (s : W5) (l : List UInt8) : blks (n + 1) s l = blks n (blk5 s (l.take 64)) (l.drop 64) := rfl
theorem blks_0 (s : W5) (l : List UInt8) : blks 0 s l = s := rfl
theorem blks_app : ∀ (m n : Nat) (s : W5) (x y : List UInt8), x.length = 64 * m → blks (m + n) s (x ++ y) = blks n (blks m s x) y
  | 0, n, s, x, y, h => by
    obtain rfl : x = [] := List.eq_nil_of_length_eq_zero (by omega)
    rw [Nat.zero_add]; rfl
  | m + 1, n, s, x, y, h => by
    rw [show m + 1 + n = (m + n) + 1 from by omega]
    show blks (m + n) (blk5 s ((x ++ y).take 64)) ((x ++ y).drop 64) = blks n (blks m (blk5 s (x.take 64)) (x.drop 64)) y
    rw [List.take_append_of_le_length (by omega), List.drop_append_of_le_length (by omega)]
    exact blks_app m n _ _ _ (by rw [List.length_drop]; omega)
theorem blks_one (s : W5) (x : List UInt8) (h : x.length = 64) : blks 1 s x = blk5 s x := by
  show blk5 s (x.take 64) = _
  rw [List.take_of_length_le (by omega)]

/-- So many bits, in eight bytes. -/
def be8 (n : Nat) : List UInt8 := (List.range 8).map fun i => UInt8.ofNat (n / 256 ^ (7 - i))
theorem be8_len (n : Nat) : (be8 n).length = 8 := rfl
def zrs (n : Nat) : Nat := (119 - n % 64) % 64
/-- What is hashed behind the bytes: so many in all. -/
def endF (many : Nat) : List UInt8 := 0x80 :: (List.replicate (zrs many) 0 ++ be8 (8 * many))
theorem endF_len (n : Nat) : (endF n).length = 9 + zrs n := by
  show (List.replicate (zrs n) 0 ++ be8 (8 * n)).length + 1 = _
  rw [List.length_append, List.length_replicate, be8_len]; omega
theorem zrs_mod (n : Nat) : (n + 9 + zrs n) % 64 = 0 := by unfold zrs; omega
def padF (l : List UInt8) : List UInt8 := l ++ endF l.length
theorem padF_len (l : List UInt8) : (padF l).length = l.length + 9 + zrs l.length := by
  unfold padF; rw [List.length_append, endF_len]; omega
def be4 (x : Wd) : List UInt8 := [byteOf (x >>> 24), byteOf (x >>> 16), byteOf (x >>> 8), byteOf (x >>> 0)]
def W5.bytes (s : W5) : List UInt8 := be4 s.a ++ be4 s.b ++ be4 s.c ++ be4 s.d ++ be4 s.e
def sha5 (l : List UInt8) : W5 := blks ((padF l).length / 64) ini5 (padF l)
/-- SHA-1. -/
def sha (l : List UInt8) : List UInt8 := (sha5 l).bytes
theorem sha_len (l : List UInt8) : (sha l).length = 20 := rfl
/-- A key as long as a block. -/
def fillF (k : List UInt8) : List UInt8 := let o := if 64 < k.length then sha k else k
  o ++ List.replicate (64 - o.length) 0
theorem fillF_len (k : List UInt8) : (fillF k).length = 64 := by
  unfold fillF
  by_cases h : 64 < k.length
  · simp only [if_pos h]; rw [List.length_append, List.length_replicate, sha_len]
  · simp only [if_neg h]; rw [List.length_append, List.length_replicate]; omega
theorem fill_eq1 {k : List UInt8} (h : 64 < k.length) : fillF k = sha k ++ List.replicate 44 0 := by
  unfold fillF
  simp only [if_pos h]
  rfl
theorem fill_eq2 {k : List UInt8} (h : k.length ≤ 64) : fillF k = k ++ List.replicate (64 - k.length) 0 := by
  unfold fillF
  simp only [if_neg (Nat.not_lt.2 h)]
def xorF (c : UInt8) (l : List UInt8) : List UInt8 := l.map (· ^^^ c)
/-- HMAC. -/
def hmac (k l : List UInt8) : List UInt8 := sha (xorF 0x5c (fillF k) ++ sha (xorF 0x36 (fillF k) ++ l))
theorem hmac_eq (k l : List UInt8) : hmac k l = sha (xorF 92 (fillF k) ++ sha (xorF 54 (fillF k) ++ l)) := rfl
theorem hmac_len (k l : List UInt8) : (hmac k l).length = 20 := rfl

/-! ### What follows -/
theorem fill_more (k : List UInt8) (n : Nat) (h : k.length + n ≤ 64) : fillF (k ++ List.replicate n 0) = fillF k := by
  unfold fillF
  simp only [List.length_append, List.length_replicate]
  rw [if_neg (by omega), if_neg (by omega)]
  simp only [List.length_append, List.length_replicate]
  rw [List.append_assoc, List.replicate_append_replicate]
  congr 2; omega
theorem fill_long (k : List UInt8) (h : 64 < k.length) : fillF (sha k) = fillF k := by
  unfold fillF
  rw [if_neg (by rw [sha_len]; omega), if_pos h]
/-- Bytes in front of others, as whole blocks. -/
theorem sha_split (x y : List UInt8) (m : Nat) (h : x.length = 64 * m) : sha5 (x ++ y) = blks ((y ++ endF (x ++ y).length).length / 64) (blks m ini5 x) (y ++ endF (x ++ y).length) := by
  unfold sha5 padF
  rw [List.append_assoc]
  generalize y ++ endF (x ++ y).length = z
  rw [← blks_app m _ _ _ _ h, List.length_append, h]
  congr 1
  omega
end Go.Vf.S

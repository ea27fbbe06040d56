import Derived.Test.YtafdbfpclolpkaaHaA
/- SHA-1 over plain numbers, each made a numeral at once: what the kernel runs. -/
namespace Go.Vf.S
open Go Go.Vf
set_option linter.unusedVariables false
set_option linter.unusedSimpArgs false
set_option maxRecDepth 10000

/-- A number is told ahead of what asks it. -/
def fz {α : Type} (n : Nat) (k : Nat → α) : α := match n with
  | 0 => k 0
  | m + 1 => k (m + 1)
theorem fz_eq {α : Type} (n : Nat) (k : Nat → α) : fz n k = k n := by cases n <;> rfl

def fN (t b c d : Nat) : Nat := if t < 20 then Nat.lor (Nat.land b c) (Nat.land (4294967295 - b) d) else if t < 40 then Nat.xor (Nat.xor b c) d
  else if t < 60 then Nat.lor (Nat.lor (Nat.land b c) (Nat.land b d)) (Nat.land c d) else Nat.xor (Nat.xor b c) d
def kN (t : Nat) : Nat := if t < 20 then 0x5a827999 else if t < 40 then 0x6ed9eba1 else if t < 60 then 0x8f1bbcdc else 0xca62c1d6
def rnN : List Nat → Nat → Nat → Nat → Nat → Nat → Nat → List Nat
  | [], _, a, b, c, d, e => [a, b, c, d, e]
  | w :: ws, t, a, b, c, d, e =>
    fz ((a * 32 % 4294967296 + a / 134217728 + fN t b c d + e + kN t + w) % 4294967296) fun x =>
    fz (b * 1073741824 % 4294967296 + b / 4) fun y => fz (t + 1) fun t' => rnN ws t' x a y c d
def scN : Nat → List Nat → List Nat
  | 0, r => r.reverse
  | n + 1, r => fz (Nat.xor (Nat.xor (Nat.xor (r.getD 2 0) (r.getD 7 0)) (r.getD 13 0)) (r.getD 15 0)) fun x => fz (x * 2 % 4294967296 + x / 2147483648) fun y => scN n (y :: r)
def wdN : Nat → List Nat → List Nat → List Nat
  | n + 1, r, a :: b :: c :: d :: l => fz (a * 16777216 + b * 65536 + c * 256 + d) fun x => wdN n (x :: r) l
  | _, r, _ => r
def adN : List Nat → List Nat → List Nat
  | x :: xs, y :: ys => fz ((x + y) % 4294967296) fun z => z :: adN xs ys
  | _, _ => []
def rn5 (ws : List Nat) : List Nat → List Nat
  | [a, b, c, d, e] => rnN ws 0 a b c d e
  | _ => []
def blN : Nat → List Nat → List Nat → List Nat
  | 0, h, _ => h
  | n + 1, h, l => blN n (adN h (rn5 (scN 64 (wdN 16 [] l)) h)) (l.drop 64)
def b8N (n : Nat) : List Nat := [n / 72057594037927936 % 256, n / 281474976710656 % 256, n / 1099511627776 % 256, n / 4294967296 % 256, n / 16777216 % 256, n / 65536 % 256, n / 256 % 256, n % 256]
def paN (l : List Nat) : List Nat := l ++ 128 :: (List.replicate (zrs l.length) 0 ++ b8N (8 * l.length))
def byN : List Nat → List Nat
  | [] => []
  | x :: l => (x / 16777216) :: (x / 65536 % 256) :: (x / 256 % 256) :: (x % 256) :: byN l
def shN (l : List Nat) : List Nat := byN (blN ((paN l).length / 64) [0x67452301, 0xefcdab89, 0x98badcfe, 0x10325476, 0xc3d2e1f0] (paN l))

/-! ### It is SHA-1 -/
abbrev tn (l : List Wd) : List Nat := l.map (·.toNat)
abbrev un (l : List UInt8) : List Nat := l.map (·.toNat)
theorem fN_is (t : Nat) (b c d : Wd) : fN t b.toNat c.toNat d.toNat = (fT t b c d).toNat := by
  have hn : (~~~ b).toNat = 4294967295 - b.toNat := by rw [BitVec.toNat_not]
  unfold fN fT choF oddF majF
  by_cases h1 : t < 20
  · rw [if_pos h1, if_pos h1, BitVec.toNat_or, BitVec.toNat_and, BitVec.toNat_and, hn]; rfl
  · rw [if_neg h1, if_neg h1]
    by_cases h2 : t < 40
    · rw [if_pos h2, if_pos h2, BitVec.toNat_xor, BitVec.toNat_xor]; rfl
    · rw [if_neg h2, if_neg h2]
      by_cases h3 : t < 60
      · rw [if_pos h3, if_pos h3, BitVec.toNat_or, BitVec.toNat_or, BitVec.toNat_and, BitVec.toNat_and, BitVec.toNat_and]; rfl
      · rw [if_neg h3, if_neg h3, BitVec.toNat_xor, BitVec.toNat_xor]; rfl
theorem kN_is (t : Nat) : kN t = (kT t).toNat := by
  unfold kN kT
  by_cases h1 : t < 20
  · rw [if_pos h1, if_pos h1]; rfl
  · rw [if_neg h1, if_neg h1]
    by_cases h2 : t < 40
    · rw [if_pos h2, if_pos h2]; rfl
    · rw [if_neg h2, if_neg h2]
      by_cases h3 : t < 60
      · rw [if_pos h3, if_pos h3]; rfl
      · rw [if_neg h3, if_neg h3]; rfl
/-- Rounds from the front on. -/
def rndf : List Wd → Nat → W5 → W5
  | [], _, s => s
  | w :: ws, t, s => rndf ws (t + 1) (rnd t w s)
theorem rndf_is (ws : List Wd) : ∀ (n : Nat) (s : W5), n ≤ ws.length → rndf (ws.drop n) n (rnds ws n s) = rndf ws 0 s
  | 0, s, h => rfl
  | n + 1, s, h => by
    rw [← rndf_is ws n s (by omega), List.drop_eq_getElem_cons (show n < ws.length by omega)]
    show _ = rndf (ws.drop (n + 1)) (n + 1) (rnd n _ (rnds ws n s))
    rw [rnds, List.getD_eq_getElem?_getD, List.getElem?_eq_getElem (by omega)]
    rfl
theorem rnds_f (ws : List Wd) (s : W5) : rnds ws ws.length s = rndf ws 0 s := by
  rw [← rndf_is ws ws.length s (Nat.le_refl _), List.drop_length]; rfl
theorem rnN_is : ∀ (ws : List Wd) (t : Nat) (s : W5), rnN (tn ws) t s.a.toNat s.b.toNat s.c.toNat s.d.toNat s.e.toNat = tn (rndf ws t s).l
  | [], t, s => rfl
  | w :: ws, t, s => by
    show fz _ _ = tn (rndf ws (t + 1) (rnd t w s)).l
    rw [← rnN_is ws (t + 1), fz_eq, fz_eq, fz_eq]
    have e1 : (rnd t w s).a.toNat = (s.a.toNat * 32 % 4294967296 + s.a.toNat / 134217728 + fN t s.b.toNat s.c.toNat s.d.toNat + s.e.toNat + kN t + w.toNat) % 4294967296 := by
      show (rl s.a 5 + fT t s.b s.c s.d + s.e + kT t + w).toNat = _
      rw [BitVec.toNat_add, BitVec.toNat_add, BitVec.toNat_add, BitVec.toNat_add, rl_nat _ _ (by omega), fN_is, kN_is]
      omega
    have e2 : (rnd t w s).c.toNat = s.b.toNat * 1073741824 % 4294967296 + s.b.toNat / 4 := by
      show (rl s.b 30).toNat = _
      rw [rl_nat _ _ (by omega)]
    rw [e1, e2]; rfl
theorem getD_tn (l : List Wd) (i : Nat) : (tn l).getD i 0 = (l.getD i 0).toNat := by
  rw [List.getD_eq_getElem?_getD, List.getD_eq_getElem?_getD, List.getElem?_map]
  cases l[i]? <;> rfl
theorem getD_rev (l : List Wd) (i : Nat) (h : i < l.length) : l.reverse.getD i 0 = l.getD (l.length - 1 - i) 0 := by
  rw [List.getD_eq_getElem?_getD, List.getD_eq_getElem?_getD, List.getElem?_reverse h]
theorem scN_is (l : List UInt8) : ∀ (n t : Nat), 16 ≤ t → scN n (tn (schd l t).reverse) = tn (schd l (t + n))
  | 0, t, h => by
    show (tn (schd l t).reverse).reverse = _
    rw [tn, ← List.map_reverse, List.reverse_reverse]; rfl
  | n + 1, t, h => by
    have hl := schd_len l t
    show fz _ _ = _
    rw [fz_eq, fz_eq, show t + (n + 1) = (t + 1) + n from by omega, ← scN_is l n (t + 1) (by omega)]
    congr 1
    rw [schd, if_neg (by omega), List.reverse_append]
    show _ = (nxt (schd l t) t).toNat :: tn (schd l t).reverse
    congr 1
    unfold nxt
    rw [rl_nat _ _ (by omega), getD_tn, getD_tn, getD_tn, getD_tn, getD_rev _ _ (by omega), getD_rev _ _ (by omega), getD_rev _ _ (by omega), getD_rev _ _ (by omega), hl,
      show t - 1 - 2 = t - 3 from by omega, show t - 1 - 7 = t - 8 from by omega, show t - 1 - 13 = t - 14 from by omega, show t - 1 - 15 = t - 16 from by omega,
      BitVec.toNat_xor, BitVec.toNat_xor, BitVec.toNat_xor]
    rfl
theorem wOf_nat (l : List UInt8) (t : Nat) (a b c d : UInt8) (r : List UInt8) (h : l.drop (4 * t) = a :: b :: c :: d :: r) : (wOf l t).toNat = a.toNat * 16777216 + b.toNat * 65536 + c.toNat * 256 + d.toNat := by
  unfold wOf
  rw [h]
  show (((((0 : Wd) <<< 8 ||| a.toBitVec.setWidth 32) <<< 8 ||| b.toBitVec.setWidth 32) <<< 8 ||| c.toBitVec.setWidth 32) <<< 8 ||| d.toBitVec.setWidth 32).toNat = _
  have k : ∀ (w : Wd) (x : UInt8), w.toNat < 2 ^ 24 → (w <<< 8 ||| x.toBitVec.setWidth 32).toNat = w.toNat * 256 + x.toNat := by
    intro w x hw
    have := x.toNat_lt
    have hx : (x.toBitVec.setWidth 32).toNat = x.toNat := by simp
    rw [BitVec.toNat_or, BitVec.toNat_shiftLeft, hx, Nat.shiftLeft_eq, Nat.mod_eq_of_lt (by omega), Nat.mul_comm, ← Nat.two_pow_add_eq_or_of_lt (by omega)]
  have ha := a.toNat_lt; have hb := b.toNat_lt; have hc := c.toNat_lt; have hd := d.toNat_lt
  have e0 := k 0 a (by decide)
  have z0 : (0 : Wd).toNat = 0 := rfl
  have e1 := k _ b (by rw [e0]; omega)
  have e2 := k _ c (by rw [e1, e0]; omega)
  have e3 := k _ d (by rw [e2, e1, e0]; omega)
  rw [e3, e2, e1, e0, z0]; omega
theorem wdN_is (l : List UInt8) : ∀ (n t : Nat), n + t = 16 → 64 ≤ l.length → wdN n (tn (schd l t).reverse) (un (l.drop (4 * t))) = tn (schd l 16).reverse
  | 0, t, h, hl => by
    obtain rfl : t = 16 := by omega
    unfold wdN
    rfl
  | n + 1, t, h, hl => by
    obtain ⟨a, b, c, d, r, e⟩ : ∃ a b c d r, l.drop (4 * t) = a :: b :: c :: d :: r := by
      have hl' : (l.drop (4 * t)).length = l.length - 4 * t := List.length_drop
      generalize l.drop (4 * t) = m at hl'
      match m, hl' with
      | [], q => simp at q; omega
      | [_], q => simp at q; omega
      | [_, _], q => simp at q; omega
      | [_, _, _], q => simp at q; omega
      | a :: b :: c :: d :: r, q => exact ⟨a, b, c, d, r, rfl⟩
    rw [← wdN_is l n (t + 1) (by omega) hl, e]
    show fz _ _ = _
    rw [fz_eq]
    have e2 : l.drop (4 * (t + 1)) = r := by
      rw [show 4 * (t + 1) = 4 * t + 4 from by omega, ← List.drop_drop, e]; rfl
    rw [e2, schd, if_pos (by omega), List.reverse_append, ← wOf_nat l t a b c d r e]
    rfl
theorem adN_is (x y : W5) : adN (tn x.l) (tn y.l) = tn (x.add y).l := by
  simp only [W5.l, W5.add, List.map_cons, List.map_nil, adN, fz_eq, BitVec.toNat_add]
theorem blN_is : ∀ (n : Nat) (s : W5) (l : List UInt8), 64 * n ≤ l.length → blN n (tn s.l) (un l) = tn (blks n s l).l
  | 0, s, l, h => rfl
  | n + 1, s, l, h => by
    show blN n (adN (tn s.l) (rn5 (scN 64 (wdN 16 [] (un l))) (tn s.l))) ((un l).drop 64) = tn (blks n (blk5 s (l.take 64)) (l.drop 64)).l
    have hs : schd (l.take 64) = schd l := by
      funext t
      induction t with
      | zero => rfl
      | succ t ih =>
        rw [schd, schd, ih]
        by_cases ht : t < 16
        · rw [if_pos ht, if_pos ht]
          congr 2
          unfold wOf
          rw [List.drop_take, List.take_take, Nat.min_eq_left (by omega)]
        · rw [if_neg ht, if_neg ht]
    have w1 := wdN_is l 16 0 rfl (by omega)
    rw [show wdN 16 [] (un l) = tn (schd l 16).reverse from w1, scN_is l 64 16 (by omega)]
    have r1 : rn5 (tn (schd l 80)) (tn s.l) = tn (rnds (schd (l.take 64) 80) 80 s).l := by
      show rnN (tn (schd l 80)) 0 s.a.toNat s.b.toNat s.c.toNat s.d.toNat s.e.toNat = _
      have := rnds_f (schd l 80) s
      rw [schd_len] at this
      rw [rnN_is, hs, this]
    have ih := blN_is n (blk5 s (l.take 64)) (l.drop 64) (by rw [List.length_drop]; omega)
    rw [show 16 + 64 = 80 from rfl, r1, adN_is, ← ih, show un (l.drop 64) = (un l).drop 64 from List.map_drop]
    rfl
theorem b8N_is (n : Nat) : un (be8 n) = b8N n := by
  have k : ∀ m : Nat, (UInt8.ofNat m).toNat = m % 256 := fun m => by simp
  have r : List.range 8 = [0, 1, 2, 3, 4, 5, 6, 7] := rfl
  unfold be8 b8N un
  rw [r]
  simp only [List.map_cons, List.map_nil, k]
  simp
theorem paN_is (l : List UInt8) : un (padF l) = paN (un l) := by
  unfold padF endF paN
  rw [un, List.map_append, List.map_cons, List.map_append, List.map_replicate, List.length_map, ← b8N_is]
  rfl
theorem byN_is (s : W5) : un s.bytes = byN (tn s.l) := by
  have k : ∀ (x : Wd) (r : List Nat), un (be4 x) ++ r = (x.toNat / 16777216) :: (x.toNat / 65536 % 256) :: (x.toNat / 256 % 256) :: (x.toNat % 256) :: r := by
    intro x r
    have := x.isLt
    show (byteOf (x >>> 24)).toNat :: (byteOf (x >>> 16)).toNat :: (byteOf (x >>> 8)).toNat :: (byteOf (x >>> 0)).toNat :: r = _
    unfold byteOf
    rw [BitVec.toNat_ushiftRight, BitVec.toNat_ushiftRight, BitVec.toNat_ushiftRight, BitVec.toNat_ushiftRight, Nat.shiftRight_eq_div_pow, Nat.shiftRight_eq_div_pow, Nat.shiftRight_eq_div_pow, Nat.shiftRight_eq_div_pow]
    simp
    omega
  show un (be4 s.a ++ be4 s.b ++ be4 s.c ++ be4 s.d ++ be4 s.e) = _
  rw [List.append_assoc, List.append_assoc, List.append_assoc, un, List.map_append, List.map_append, List.map_append, List.map_append, ← List.append_nil (List.map _ (be4 s.e)), k, k, k, k, k]
  rfl
theorem sha_N (l : List UInt8) : un (sha l) = shN (un l) := by
  unfold sha shN
  rw [byN_is, ← paN_is]
  unfold sha5
  rw [List.length_map]
  congr 1
  have := padF_len l
  have := zrs_mod l.length
  exact (blN_is _ ini5 _ (by omega)).symm
theorem un_inj {x y : List UInt8} (h : un x = un y) : x = y := by
  induction x generalizing y with
  | nil => cases y with
    | nil => rfl
    | cons b y => cases h
  | cons a x ih => cases y with
    | nil => cases h
    | cons b y =>
      have h1 : a.toNat = b.toNat := (List.cons.inj h).1
      rw [UInt8.toNat_inj.1 h1, ih (List.cons.inj h).2]
/-- SHA-1 as the kernel runs it. -/
theorem sha_of {l x : List UInt8} (h : shN (un l) = un x) : sha l = x := un_inj (by rw [sha_N]; exact h)
def fiN (k : List Nat) : List Nat := bif Nat.blt 64 k.length then shN k ++ List.replicate 44 0 else k ++ List.replicate (64 - k.length) 0
def xoN (c : Nat) : List Nat → List Nat
  | [] => []
  | x :: l => fz (Nat.xor x c) fun y => y :: xoN c l
def hmN (k l : List Nat) : List Nat := shN (xoN 0x5c (fiN k) ++ shN (xoN 0x36 (fiN k) ++ l))
theorem un_app (x y : List UInt8) : un (x ++ y) = un x ++ un y := List.map_append
theorem fiN_is (k : List UInt8) : un (fillF k) = fiN (un k) := by
  unfold fiN
  rw [List.length_map]
  by_cases h : 64 < k.length
  · rw [fill_eq1 h, un_app, sha_N, show Nat.blt 64 k.length = true from by rw [Nat.blt_eq]; exact h]
    rfl
  · rw [fill_eq2 (by omega), un_app, show Nat.blt 64 k.length = false from by
      cases hb : Nat.blt 64 k.length with
      | false => rfl
      | true => rw [Nat.blt_eq] at hb; omega]
    rw [show un (List.replicate (64 - k.length) 0) = List.replicate (64 - k.length) 0 from List.map_replicate]
    rfl
theorem xoN_is (c : UInt8) : ∀ l : List UInt8, un (xorF c l) = xoN c.toNat (un l)
  | [] => rfl
  | x :: l => by
    show (x ^^^ c).toNat :: un (xorF c l) = fz (Nat.xor x.toNat c.toNat) fun y => y :: xoN c.toNat (un l)
    rw [fz_eq, xoN_is c l, UInt8.toNat_xor]
    rfl
theorem hmac_N (k l : List UInt8) : un (hmac k l) = hmN (un k) (un l) := by
  unfold hmac hmN
  rw [sha_N, un_app, xoN_is, sha_N, un_app, xoN_is, fiN_is]
  rfl
/-- HMAC as the kernel runs it. -/
theorem hmac_of {k l x : List UInt8} (h : hmN (un k) (un l) = un x) : hmac k l = x := un_inj (by rw [hmac_N]; exact h)
def abcL : List UInt8 := [0x61, 0x62, 0x63]
def jefeL : List UInt8 := [74, 101, 102, 101]
def whatL : List UInt8 := [119, 104, 97, 116, 32, 100, 111, 32, 121, 97, 32, 119, 97, 110, 116, 32, 102, 111, 114, 32, 110, 111, 116, 104, 105, 110, 103, 63]
def abcS : List UInt8 := [169, 153, 62, 54, 71, 6, 129, 106, 186, 62, 37, 113, 120, 80, 194, 108, 156, 208, 216, 157]
def jefeS : List UInt8 := [239, 252, 223, 106, 229, 235, 47, 162, 210, 116, 22, 213, 241, 132, 223, 156, 37, 154, 124, 121]
theorem sha_abc : sha abcL = abcS := sha_of (by kernel_rfl)
theorem hmac_jefe : hmac jefeL whatL = jefeS := hmac_of (by kernel_rfl)
theorem sha_nil : sha [] = [0xda, 0x39, 0xa3, 0xee, 0x5e, 0x6b, 0x4b, 0x0d, 0x32, 0x55, 0xbf, 0xef, 0x95, 0x60, 0x18, 0x90, 0xaf, 0xd8, 0x07, 0x09] := sha_of (by kernel_rfl)
end Go.Vf.S

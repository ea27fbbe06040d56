import Derived.Test.YtphcpdopfolopaaDoorEngBd
/- Letters of bytes, bytes of letters: digits of one number, pure. -/
namespace Go.Vf.S
open Go Go.Vf
set_option linter.unusedVariables false
set_option linter.unusedSimpArgs false
set_option maxRecDepth 10000

/-- So many digits of a number, the highest first. -/
def dgs (B : Nat) : Nat → Nat → List Nat
  | 0, _ => []
  | m + 1, x => dgs B m (x / B) ++ [x % B]
/-- The number that digits make. -/
def nmb (B : Nat) (l : List Nat) : Nat := l.foldl (fun a d => a * B + d) 0
theorem dgs_len (B : Nat) : ∀ (m x : Nat), (dgs B m x).length = m
  | 0, x => rfl
  | m + 1, x => by rw [dgs, List.length_append, dgs_len B m]; rfl
theorem dgs_lt {B : Nat} (hB : 0 < B) : ∀ (m x : Nat), ∀ d ∈ dgs B m x, d < B
  | 0, x, d, h => by cases h
  | m + 1, x, d, h => by
    rw [dgs, List.mem_append, List.mem_singleton] at h
    rcases h with h | h
    · exact dgs_lt hB m _ d h
    · subst h; exact Nat.mod_lt _ hB
theorem nmb_snoc (B : Nat) (l : List Nat) (d : Nat) : nmb B (l ++ [d]) = nmb B l * B + d := by
  unfold nmb
  rw [List.foldl_append]; rfl
theorem nmb_nil (B : Nat) : nmb B [] = 0 := rfl
theorem nmb_dgs {B : Nat} (hB : 0 < B) : ∀ (m x : Nat), nmb B (dgs B m x) = x % B ^ m
  | 0, x => by rw [dgs, nmb_nil, Nat.pow_zero, Nat.mod_one]
  | m + 1, x => by
    rw [dgs, nmb_snoc, nmb_dgs hB m, Nat.pow_succ, Nat.mul_comm (B ^ m) B, Nat.mod_mul, Nat.mul_comm]
    omega
/-- A row of digits is one without its last, and that. -/
theorem snoc_ind {P : List Nat → Prop} (h0 : P []) (h1 : ∀ l d, P l → P (l ++ [d])) : ∀ l, P l := by
  intro l
  have : ∀ n (l : List Nat), l.length = n → P l := by
    intro n
    induction n with
    | zero => intro l h; rw [List.eq_nil_of_length_eq_zero h]; exact h0
    | succ n ih =>
      intro l h
      have hne : l ≠ [] := fun e => by rw [e] at h; simp at h
      rw [← List.dropLast_concat_getLast hne]
      exact h1 _ _ (ih _ (by rw [List.length_dropLast]; omega))
  exact this _ l rfl
theorem nmb_lt {B : Nat} (l : List Nat) : (∀ d ∈ l, d < B) → nmb B l < B ^ l.length := by
  refine snoc_ind (P := fun l => (∀ d ∈ l, d < B) → nmb B l < B ^ l.length) (fun _ => by rw [nmb_nil]; exact Nat.one_pos) (fun l d ih h => ?_) l
  have h1 := ih fun x hx => h x (List.mem_append_left _ hx)
  have h2 := h d (by simp)
  rw [nmb_snoc, List.length_append, List.length_singleton, Nat.pow_succ]
  have : (nmb B l + 1) * B ≤ B ^ l.length * B := Nat.mul_le_mul_right _ h1
  rw [Nat.add_mul] at this
  omega
theorem dgs_nmb {B : Nat} (l : List Nat) : (∀ d ∈ l, d < B) → dgs B l.length (nmb B l) = l := by
  refine snoc_ind (P := fun l => (∀ d ∈ l, d < B) → dgs B l.length (nmb B l) = l) (fun _ => rfl) (fun l d ih h => ?_) l
  have h1 := ih fun x hx => h x (List.mem_append_left _ hx)
  have h2 := h d (by simp)
  rw [nmb_snoc, List.length_append, List.length_singleton, dgs]
  have e1 : (nmb B l * B + d) / B = nmb B l := by rw [Nat.mul_comm, Nat.mul_add_div (by omega), Nat.div_eq_of_lt h2]; rfl
  have e2 : (nmb B l * B + d) % B = d := by rw [Nat.mul_comm, Nat.mul_add_mod, Nat.mod_eq_of_lt h2]
  rw [e1, e2, h1]
theorem dgs_inj {B : Nat} (hB : 0 < B) {m x y : Nat} (hx : x < B ^ m) (hy : y < B ^ m) (h : dgs B m x = dgs B m y) : x = y := by
  have := congrArg (nmb B) h
  rw [nmb_dgs hB, nmb_dgs hB, Nat.mod_eq_of_lt hx, Nat.mod_eq_of_lt hy] at this
  exact this
/-- Digits of two numbers, one behind the other. -/
theorem dgs_app {B : Nat} (hB : 0 < B) (m : Nat) : ∀ (n x y : Nat), y < B ^ n → dgs B (m + n) (x * B ^ n + y) = dgs B m x ++ dgs B n y
  | 0, x, y, h => by
    rw [Nat.pow_zero] at h ⊢
    obtain rfl : y = 0 := by omega
    rw [dgs, List.append_nil]
    simp
  | n + 1, x, y, h => by
    have e1 : (x * B ^ (n + 1) + y) / B = x * B ^ n + y / B := by
      rw [Nat.pow_succ, ← Nat.mul_assoc, Nat.mul_comm _ B, Nat.mul_add_div hB]
    have e2 : (x * B ^ (n + 1) + y) % B = y % B := by
      rw [Nat.pow_succ, ← Nat.mul_assoc, Nat.mul_comm _ B, Nat.mul_add_mod]
    have h3 : y / B < B ^ n := by
      rw [Nat.div_lt_iff_lt_mul hB, ← Nat.pow_succ]; exact h
    rw [show m + (n + 1) = (m + n) + 1 from rfl, dgs, dgs, e1, e2, dgs_app hB m n x (y / B) h3, List.append_assoc]
theorem nmb_app (B : Nat) (l m : List Nat) : nmb B (l ++ m) = nmb B l * B ^ m.length + nmb B m := by
  refine snoc_ind (P := fun m => nmb B (l ++ m) = nmb B l * B ^ m.length + nmb B m) ?_ (fun m d ih => ?_) m
  · rw [List.append_nil, nmb_nil, List.length_nil, Nat.pow_zero, Nat.mul_one, Nat.add_zero]
  · rw [← List.append_assoc, nmb_snoc, ih, nmb_snoc, List.length_append, List.length_singleton, Nat.pow_succ, Nat.add_mul, ← Nat.mul_assoc, Nat.add_assoc]
/-- One digit, by its place. -/
theorem dgs_get {B : Nat} : ∀ (m x i : Nat), i < m → (dgs B m x)[i]? = some (x / B ^ (m - 1 - i) % B)
  | m + 1, x, i, h => by
    rw [dgs]
    by_cases e : i = m
    · subst e
      rw [List.getElem?_append_right (by rw [dgs_len]; exact Nat.le_refl _), dgs_len, Nat.sub_self]
      simp
    · rw [List.getElem?_append_left (by rw [dgs_len]; omega), dgs_get m (x / B) i (by omega), Nat.div_div_eq_div_mul, show m + 1 - 1 - i = (m - 1 - i) + 1 from by omega, Nat.pow_succ, Nat.mul_comm B]

/-! ### Letters -/
/-- Bytes as a number. -/
abbrev nB (b : List UInt8) : Nat := nmb 256 (b.map (·.toNat))
/-- How many letters so many bytes have. -/
def cnt (z n : Nat) : Nat := (8 * n + z - 1) / z
/-- The letters' places of bytes. -/
def tellP (z : Nat) (b : List UInt8) : List Nat := dgs (2 ^ z) (cnt z b.length) (nB b * 2 ^ (z * cnt z b.length - 8 * b.length))
/-- The bytes of letters' places. -/
def readP (z : Nat) (p : List Nat) : Option (List UInt8) :=
  if z * p.length % 8 < z ∧ nmb (2 ^ z) p % 2 ^ (z * p.length % 8) = 0 then some ((dgs 256 (z * p.length / 8) (nmb (2 ^ z) p / 2 ^ (z * p.length % 8))).map UInt8.ofNat) else none
theorem cnt_is {z n : Nat} (hz : 4 ≤ z ∧ z ≤ 6) : z * cnt z n % 8 < z ∧ z * cnt z n / 8 = n ∧ z * cnt z n = 8 * n + z * cnt z n % 8 := by
  have h1 := Nat.div_add_mod (8 * n + z - 1) z
  have h2 := Nat.mod_lt (8 * n + z - 1) (show 0 < z by omega)
  unfold cnt
  generalize z * ((8 * n + z - 1) / z) = x at h1 ⊢
  omega
theorem cnt_of {z m : Nat} (hz : 4 ≤ z ∧ z ≤ 6) (h : z * m % 8 < z) : cnt z (z * m / 8) = m := by
  unfold cnt
  rcases (show z = 4 ∨ z = 5 ∨ z = 6 by omega) with rfl | rfl | rfl <;> omega
theorem map_un (l : List UInt8) : ((l.map (·.toNat)).map UInt8.ofNat) = l := by
  rw [List.map_map]
  conv => rhs; rw [← List.map_id l]
  refine List.map_congr_left fun x _ => ?_
  simp
theorem map_nu {l : List Nat} (h : ∀ d ∈ l, d < 256) : ((l.map UInt8.ofNat).map (·.toNat)) = l := by
  rw [List.map_map]
  conv => rhs; rw [← List.map_id l]
  refine List.map_congr_left fun x hx => ?_
  have := h x hx
  simp
  omega
theorem nB_lt (b : List UInt8) : nB b < 256 ^ b.length := by
  have := nmb_lt (B := 256) (b.map (·.toNat)) (fun d hd => by
    obtain ⟨x, _, rfl⟩ := List.mem_map.1 hd
    exact x.toNat_lt)
  rwa [List.length_map] at this
theorem pow_256 (n : Nat) : 256 ^ n = 2 ^ (8 * n) := by rw [Nat.pow_mul]
theorem tellP_len (z : Nat) (b : List UInt8) : (tellP z b).length = cnt z b.length := dgs_len _ _ _
theorem tellP_lt (z : Nat) (b : List UInt8) : ∀ d ∈ tellP z b, d < 2 ^ z := dgs_lt (Nat.two_pow_pos z) _ _
theorem tell_lt {z : Nat} (hz : 4 ≤ z ∧ z ≤ 6) (b : List UInt8) : nB b * 2 ^ (z * cnt z b.length - 8 * b.length) < (2 ^ z) ^ cnt z b.length := by
  obtain ⟨h1, h2, h3⟩ := cnt_is (n := b.length) hz
  rw [← Nat.pow_mul]
  have e : z * cnt z b.length = 8 * b.length + (z * cnt z b.length - 8 * b.length) := by omega
  have h4 := nB_lt b
  rw [pow_256] at h4
  rw [show 2 ^ (z * cnt z b.length) = 2 ^ (8 * b.length) * 2 ^ (z * cnt z b.length - 8 * b.length) from by rw [← Nat.pow_add]; congr 1]
  exact Nat.mul_lt_mul_of_pos_right h4 (Nat.two_pow_pos _)
/-- Letters are read as the bytes. -/
theorem read_tell {z : Nat} (hz : 4 ≤ z ∧ z ≤ 6) (b : List UInt8) : readP z (tellP z b) = some b := by
  obtain ⟨h1, h2, h3⟩ := cnt_is (n := b.length) hz
  unfold readP
  rw [tellP_len]
  have hn : nmb (2 ^ z) (tellP z b) = nB b * 2 ^ (z * cnt z b.length % 8) := by
    unfold tellP
    rw [nmb_dgs (Nat.two_pow_pos z), Nat.mod_eq_of_lt (tell_lt hz b), show z * cnt z b.length - 8 * b.length = z * cnt z b.length % 8 by omega]
  rw [hn, if_pos ⟨h1, Nat.mul_mod_left _ _⟩, Nat.mul_div_cancel _ (Nat.two_pow_pos _), h2]
  have := dgs_nmb (B := 256) (b.map (·.toNat)) (fun d hd => by
    obtain ⟨x, _, rfl⟩ := List.mem_map.1 hd
    exact x.toNat_lt)
  rw [List.length_map] at this
  rw [this, map_un]
/-- What is read has just those letters. -/
theorem tell_read {z : Nat} (hz : 4 ≤ z ∧ z ≤ 6) {p : List Nat} (hp : ∀ d ∈ p, d < 2 ^ z) {b : List UInt8} (h : readP z p = some b) : tellP z b = p := by
  unfold readP at h
  split at h
  · rename_i hc
    cases h
    obtain ⟨h1, h2⟩ := hc
    have hl : ((dgs 256 (z * p.length / 8) (nmb (2 ^ z) p / 2 ^ (z * p.length % 8))).map UInt8.ofNat).length = z * p.length / 8 := by rw [List.length_map, dgs_len]
    have hb : nmb (2 ^ z) p < 2 ^ (z * p.length) := by
      have := nmb_lt p hp
      rwa [← Nat.pow_mul] at this
    have hsplit : 2 ^ (z * p.length) = 256 ^ (z * p.length / 8) * 2 ^ (z * p.length % 8) := by
      rw [pow_256, ← Nat.pow_add]; congr 1; omega
    have hq : nmb (2 ^ z) p / 2 ^ (z * p.length % 8) < 256 ^ (z * p.length / 8) := by
      rw [Nat.div_lt_iff_lt_mul (Nat.two_pow_pos _), ← hsplit]; exact hb
    unfold tellP
    rw [hl, cnt_of hz h1, nB, map_nu (dgs_lt (by decide) _ _), nmb_dgs (by decide), Nat.mod_eq_of_lt hq, show z * p.length - 8 * (z * p.length / 8) = z * p.length % 8 by omega, Nat.div_mul_cancel (Nat.dvd_of_mod_eq_zero h2)]
    exact dgs_nmb p hp
  · cases h
theorem tell_inj {z : Nat} (hz : 4 ≤ z ∧ z ≤ 6) {b c : List UInt8} (h : tellP z b = tellP z c) : b = c := by
  have := read_tell hz b
  rw [h, read_tell hz c] at this
  exact (Option.some.inj this).symm
/-- Letters of whole groups, and of others behind them. -/
theorem tell_app {z : Nat} (hz : 4 ≤ z ∧ z ≤ 6) (a b : List UInt8) (ha : 8 * a.length % z = 0) : tellP z (a ++ b) = tellP z a ++ tellP z b := by
  have hc1 : z * cnt z a.length = 8 * a.length := by
    unfold cnt
    rcases (show z = 4 ∨ z = 5 ∨ z = 6 by omega) with rfl | rfl | rfl <;> omega
  have hc2 : cnt z (a ++ b).length = cnt z a.length + cnt z b.length := by
    unfold cnt
    rw [List.length_append]
    rcases (show z = 4 ∨ z = 5 ∨ z = 6 by omega) with rfl | rfl | rfl <;> omega
  obtain ⟨h1, h2, h3⟩ := cnt_is (n := b.length) hz
  unfold tellP
  rw [hc2]
  have e1 : z * (cnt z a.length + cnt z b.length) - 8 * (a ++ b).length = z * cnt z b.length - 8 * b.length := by
    rw [List.length_append, Nat.mul_add]; omega
  have e2 : nB (a ++ b) * 2 ^ (z * cnt z b.length - 8 * b.length) = nB a * (2 ^ z) ^ cnt z b.length + nB b * 2 ^ (z * cnt z b.length - 8 * b.length) := by
    rw [nB, List.map_append, nmb_app, List.length_map, Nat.add_mul, Nat.mul_assoc, pow_256, ← Nat.pow_add, ← Nat.pow_mul]
    congr 3
    omega
  rw [e1, e2, dgs_app (Nat.two_pow_pos z) _ _ _ _ (tell_lt hz b), hc1, Nat.sub_self, Nat.pow_zero, Nat.mul_one]
end Go.Vf.S

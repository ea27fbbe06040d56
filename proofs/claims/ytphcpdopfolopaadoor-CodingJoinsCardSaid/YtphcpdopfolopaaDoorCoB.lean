import Derived.Test.YtphcpdopfolopaaDoorCoA
/- Digits of one size turned into digits of another, one by one; letters and their places; what is told and what is read. Pure. -/
namespace Go.Vf.S
open Go Go.Vf
set_option linter.unusedVariables false
set_option linter.unusedSimpArgs false
set_option maxRecDepth 10000

/-! ### One by one: N so far, its last h bits not told yet -/
theorem acc_in {N h x d : Nat} (hd : d < 2 ^ x) : (N * 2 ^ x + d) % 2 ^ (h + x) = (N % 2 ^ h) * 2 ^ x + d ∧ (N * 2 ^ x + d) / 2 ^ (h + x) = N / 2 ^ h := by
  have e : 2 ^ (h + x) = 2 ^ x * 2 ^ h := by rw [Nat.pow_add, Nat.mul_comm]
  have q1 : (N * 2 ^ x + d) / 2 ^ x = N := by rw [Nat.mul_comm, Nat.mul_add_div (Nat.two_pow_pos x), Nat.div_eq_of_lt hd, Nat.add_zero]
  have q2 : (N * 2 ^ x + d) % 2 ^ x = d := by rw [Nat.mul_comm, Nat.mul_add_mod, Nat.mod_eq_of_lt hd]
  refine ⟨?_, ?_⟩
  · rw [e, Nat.mod_mul, q1, q2, Nat.mul_comm (2 ^ x), Nat.add_comm]
  · rw [e, ← Nat.div_div_eq_div_mul, q1]
theorem acc_out {N h y : Nat} (hy : y ≤ h) (q : Nat) : dgs (2 ^ y) (q + 1) (N / 2 ^ (h - y)) = dgs (2 ^ y) q (N / 2 ^ h) ++ [N % 2 ^ h / 2 ^ (h - y)] ∧ N % 2 ^ h % 2 ^ (h - y) = N % 2 ^ (h - y) := by
  have e : 2 ^ h = 2 ^ (h - y) * 2 ^ y := by rw [← Nat.pow_add]; congr 1; omega
  have k : N % 2 ^ h / 2 ^ (h - y) = N / 2 ^ (h - y) % 2 ^ y := by
    rw [e, Nat.mod_mul, Nat.add_mul_div_left _ _ (Nat.two_pow_pos _), Nat.div_eq_of_lt (Nat.mod_lt _ (Nat.two_pow_pos _)), Nat.zero_add]
  refine ⟨?_, ?_⟩
  · rw [dgs, Nat.div_div_eq_div_mul, ← e, k]
  · rw [e, Nat.mod_mul_right_mod]
theorem acc_lt {N h y : Nat} (hy : y ≤ h) : N % 2 ^ h / 2 ^ (h - y) < 2 ^ y := by
  rw [Nat.div_lt_iff_lt_mul (Nat.two_pow_pos _), ← Nat.pow_add, show y + (h - y) = h by omega]
  exact Nat.mod_lt _ (Nat.two_pow_pos _)

/-! ### Letters -/
def let5 : List UInt8 := [65, 66, 67, 68, 69, 70, 71, 72, 73, 74, 75, 76, 77, 78, 79, 80, 81, 82, 83, 84, 85, 86, 87, 88, 89, 90, 50, 51, 52, 53, 54, 55]
def let6 : List UInt8 := [65, 66, 67, 68, 69, 70, 71, 72, 73, 74, 75, 76, 77, 78, 79, 80, 81, 82, 83, 84, 85, 86, 87, 88, 89, 90, 97, 98, 99, 100, 101, 102, 103, 104, 105, 106, 107, 108, 109, 110, 111, 112, 113, 114, 115, 116, 117, 118, 119, 120, 121, 122, 48, 49, 50, 51, 52, 53, 54, 55, 56, 57, 43, 47]
def let4 : List UInt8 := [48, 49, 50, 51, 52, 53, 54, 55, 56, 57, 97, 98, 99, 100, 101, 102]
def lets (z : Nat) : List UInt8 := if z = 5 then let5 else if z = 6 then let6 else let4
theorem lets_len {z : Nat} (hz : 4 ≤ z ∧ z ≤ 6) : (lets z).length = 2 ^ z := by
  rcases (show z = 4 ∨ z = 5 ∨ z = 6 by omega) with rfl | rfl | rfl <;> rfl
def letF (z n : Nat) : UInt8 := (lets z).getD n 0
/-- A byte in the case that counts: the great one of Base32, the small one of Hex. -/
def caseF (z : Nat) (c : UInt8) : UInt8 := if z = 5 ∧ 97 ≤ c.toNat ∧ c.toNat ≤ 122 then c - 32 else if z = 4 ∧ 65 ≤ c.toNat ∧ c.toNat ≤ 90 then c + 32 else c
/-- A letter's place. -/
def plcF (z : Nat) (c : UInt8) : Option Nat := (lets z).idxOf? (caseF z c)
theorem case_id {z : Nat} (hz : 4 ≤ z ∧ z ≤ 6) {c : UInt8} (h : c ∈ lets z) : caseF z c = c := by
  rcases (show z = 4 ∨ z = 5 ∨ z = 6 by omega) with rfl | rfl | rfl
  · have : (lets 4).all (fun c => caseF 4 c == c) = true := by decide
    exact eq_of_beq (List.all_eq_true.1 this c h)
  · have : (lets 5).all (fun c => caseF 5 c == c) = true := by decide
    exact eq_of_beq (List.all_eq_true.1 this c h)
  · have : (lets 6).all (fun c => caseF 6 c == c) = true := by decide
    exact eq_of_beq (List.all_eq_true.1 this c h)
theorem plc_let {z : Nat} (hz : 4 ≤ z ∧ z ≤ 6) {d : Nat} (h : d < 2 ^ z) : plcF z (letF z d) = some d := by
  rcases (show z = 4 ∨ z = 5 ∨ z = 6 by omega) with rfl | rfl | rfl
  · have : (List.range 16).all (fun d => plcF 4 (letF 4 d) == some d) = true := by decide
    exact eq_of_beq (List.all_eq_true.1 this d (List.mem_range.2 h))
  · have : (List.range 32).all (fun d => plcF 5 (letF 5 d) == some d) = true := by decide
    exact eq_of_beq (List.all_eq_true.1 this d (List.mem_range.2 h))
  · have : (List.range 64).all (fun d => plcF 6 (letF 6 d) == some d) = true := by decide
    exact eq_of_beq (List.all_eq_true.1 this d (List.mem_range.2 h))
theorem let_plc {z : Nat} (hz : 4 ≤ z ∧ z ≤ 6) {c : UInt8} {d : Nat} (h : plcF z c = some d) : d < 2 ^ z ∧ letF z d = caseF z c := by
  unfold plcF at h
  rw [List.idxOf?, List.findIdx?_eq_some_iff_getElem] at h
  obtain ⟨h1, h2, _⟩ := h
  refine ⟨by rw [← lets_len hz]; exact h1, ?_⟩
  unfold letF
  rw [List.getD_eq_getElem?_getD, List.getElem?_eq_getElem h1]
  exact eq_of_beq h2

/-- All places, if each letter has one. -/
def plcs (z : Nat) : List UInt8 → Option (List Nat)
  | [] => some []
  | c :: s => match plcF z c, plcs z s with
    | some d, some l => some (d :: l)
    | _, _ => none
theorem plcs_len {z : Nat} : ∀ {s : List UInt8} {p : List Nat}, plcs z s = some p → p.length = s.length
  | [], p, h => by cases h; rfl
  | c :: s, p, h => by
    unfold plcs at h
    split at h
    · rename_i d l h1 h2
      cases h
      rw [List.length_cons, List.length_cons, plcs_len h2]
    · cases h
theorem plcs_map {z : Nat} (hz : 4 ≤ z ∧ z ≤ 6) : ∀ {p : List Nat}, (∀ d ∈ p, d < 2 ^ z) → plcs z (p.map (letF z)) = some p
  | [], _ => rfl
  | d :: p, h => by
    rw [List.map_cons, plcs, plc_let hz (h d (by simp)), plcs_map hz fun x hx => h x (by simp [hx])]
theorem plcs_inv {z : Nat} (hz : 4 ≤ z ∧ z ≤ 6) : ∀ {s : List UInt8} {p : List Nat}, plcs z s = some p → (∀ d ∈ p, d < 2 ^ z) ∧ p.map (letF z) = s.map (caseF z)
  | [], p, h => by cases h; exact ⟨by simp, rfl⟩
  | c :: s, p, h => by
    unfold plcs at h
    split at h
    · rename_i d l h1 h2
      cases h
      obtain ⟨q1, q2⟩ := plcs_inv hz h2
      obtain ⟨q3, q4⟩ := let_plc hz h1
      exact ⟨fun x hx => by rcases List.mem_cons.1 hx with rfl | hx; exact q3; exact q1 x hx, by rw [List.map_cons, List.map_cons, q4, q2]⟩
    · cases h
theorem plcs_snoc {z : Nat} (s : List UInt8) (c : UInt8) : plcs z (s ++ [c]) = match plcs z s, plcF z c with | some l, some d => some (l ++ [d]) | _, _ => none := by
  induction s with
  | nil => rw [List.nil_append]; unfold plcs; simp only [plcs]; cases plcF z c <;> rfl
  | cons a s ih =>
    rw [List.cons_append, plcs, ih, plcs]
    cases plcF z a <;> cases plcs z s <;> cases plcF z c <;> rfl
theorem plcs_none {z : Nat} {s : List UInt8} {c : UInt8} {i : Nat} (h : s[i]? = some c) (hc : plcF z c = none) : plcs z s = none := by
  induction s generalizing i with
  | nil => simp at h
  | cons a s ih =>
    cases i with
    | zero =>
      rw [List.getElem?_cons_zero] at h
      cases h
      rw [plcs, hc]
    | succ i =>
      rw [List.getElem?_cons_succ] at h
      rw [plcs, ih h]
      cases plcF z a <;> rfl

/-! ### What is told, what is read -/
/-- How many signs = stand at the end. -/
def padN (z m : Nat) : Nat := if z = 6 then (4 - m % 4) % 4 else 0
def tellF (z : Nat) (b : List UInt8) : List UInt8 := (tellP z b).map (letF z) ++ List.replicate (padN z (cnt z b.length)) 61
/-- Without up to so many signs = at the end. -/
def cutE : Nat → List UInt8 → List UInt8
  | 0, s => s
  | k + 1, s => if s.getLast? = some 61 then cutE k s.dropLast else s
/-- The machine's own: of each of two steps. -/
def cut2 (s : List UInt8) : List UInt8 :=
  let s1 := if s.getLast? = some 61 then s.dropLast else s
  if s1.getLast? = some 61 then s1.dropLast else s1
def readF (z : Nat) (s : List UInt8) : Option (List UInt8) :=
  if z = 6 then (if s.length % 4 = 0 then (plcs 6 (cut2 s)).bind (readP 6) else none) else (plcs z s).bind (readP z)
theorem tellF_len {z : Nat} (b : List UInt8) : (tellF z b).length = cnt z b.length + padN z (cnt z b.length) := by
  unfold tellF
  rw [List.length_append, List.length_map, tellP_len, List.length_replicate]
theorem let_ne {d : Nat} (h : d < 64) : letF 6 d ≠ 61 := by
  have : (List.range 64).all (fun d => letF 6 d != 61) = true := by decide
  have := List.all_eq_true.1 this d (List.mem_range.2 h)
  simpa using this
theorem last_map {p : List Nat} (h : ∀ d ∈ p, d < 64) : (p.map (letF 6)).getLast? ≠ some 61 := by
  rw [List.getLast?_map]
  cases hp : p.getLast? with
  | none => simp
  | some d => simp only [Option.map_some, ne_eq, Option.some.injEq]; exact let_ne (h d (List.mem_of_getLast? hp))
/-- Letters are read as the bytes. -/
theorem readF_tellF {z : Nat} (hz : 4 ≤ z ∧ z ≤ 6) (b : List UInt8) : readF z (tellF z b) = some b := by
  have hp := tellP_lt z b
  have hr : (plcs z ((tellP z b).map (letF z))).bind (readP z) = some b := by
    rw [plcs_map hz hp]
    exact read_tell hz b
  unfold readF
  by_cases h6 : z = 6
  · subst h6
    have hl := tellF_len (z := 6) b
    have hpad : padN 6 (cnt 6 b.length) = (4 - cnt 6 b.length % 4) % 4 := rfl
    rw [if_pos rfl, if_pos (by rw [hl, hpad]; omega)]
    have hlt := last_map (p := tellP 6 b) hp
    have h3 : cnt 6 b.length % 4 ≠ 1 := by
      obtain ⟨q1, q2, q3⟩ := cnt_is (n := b.length) hz
      omega
    have e : cut2 (tellF 6 b) = (tellP 6 b).map (letF 6) := by
      unfold tellF cut2
      rw [hpad]
      generalize (tellP 6 b).map (letF 6) = s at hlt
      rcases (show cnt 6 b.length % 4 = 0 ∨ cnt 6 b.length % 4 = 2 ∨ cnt 6 b.length % 4 = 3 by omega) with q | q | q <;> rw [q]
      · simp only [show (4 - 0) % 4 = 0 from rfl, List.replicate_zero, List.append_nil, if_neg hlt]
      · simp only [show (4 - 2) % 4 = 2 from rfl]
        have e1 : s ++ List.replicate 2 61 = (s ++ [61]) ++ [61] := by simp [List.replicate]
        rw [e1, List.getLast?_concat, if_pos rfl, List.dropLast_concat, List.getLast?_concat, if_pos rfl, List.dropLast_concat]
      · simp only [show (4 - 3) % 4 = 1 from rfl]
        have e1 : s ++ List.replicate 1 61 = s ++ [61] := rfl
        rw [e1, List.getLast?_concat, if_pos rfl, List.dropLast_concat, if_neg hlt]
    rw [e]
    exact hr
  · rw [if_neg h6]
    have e : tellF z b = (tellP z b).map (letF z) := by
      unfold tellF padN
      rw [if_neg h6, List.replicate_zero, List.append_nil]
    rw [e]
    exact hr
end Go.Vf.S

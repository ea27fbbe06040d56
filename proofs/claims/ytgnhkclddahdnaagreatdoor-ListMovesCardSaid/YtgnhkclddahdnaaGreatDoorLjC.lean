import Derived.Test.YtgnhkclddahdnaaGreatDoorBnM
import Derived.Test.YtgnhkclddahdnaaGreatDoorLjA
import Derived.Test.YtgnhkclddahdnaaGreatDoorLjB
/- Lists of addresses, pure: what is put in the addresses' places. -/
namespace Go.Vf.S
open Go Go.Vf
set_option linter.unusedVariables false
set_option linter.unusedSimpArgs false
set_option maxRecDepth 10000

theorem parse_short (l : List UInt8) : (parseF l).1.length ≤ l.length ∧ (parseF l).2.1.length ≤ l.length := by
  have := parts_len l
  unfold parseF
  split
  · simp
  split
  · simp
  split
  · simp
  · exact this
/-- Places in their order. -/
def OrdS (L : Nat) : Nat → List Spt → Prop
  | n, [] => n ≤ L
  | n, x :: xs => n ≤ x.f ∧ x.f ≤ x.t ∧ x.a.length ≤ L ∧ x.d.length ≤ L ∧ OrdS L x.t xs
theorem ord_le {L : Nat} : ∀ {xs : List Spt} {n : Nat}, OrdS L n xs → n ≤ L
  | [], n, h => h
  | x :: xs, n, ⟨h1, h2, _, _, h3⟩ => by have := ord_le h3; omega
theorem ord_sp {L : Nat} : ∀ (T : List Tok) (n m : Nat), m ≤ n → n + (flT T).length ≤ L → OrdS L m (spT n T)
  | [], n, m, h1, h2 => by show m ≤ L; omega
  | .g l :: T, n, m, h1, h2 => by
    rw [flT_cons, List.length_append] at h2
    replace h2 : n + (l.length + (flT T).length) ≤ L := h2
    exact ord_sp T (n + l.length) m (by omega) (by omega)
  | .d l :: T, n, m, h1, h2 => by
    rw [flT_cons, List.length_append] at h2
    replace h2 : n + (l.length + (flT T).length) ≤ L := h2
    exact ord_sp T (n + l.length) m (by omega) (by omega)
  | .a l :: T, n, m, h1, h2 => by
    rw [flT_cons, List.length_append] at h2
    replace h2 : n + (l.length + (flT T).length) ≤ L := h2
    have := parse_short l
    exact ⟨h1, Nat.le_add_right _ _, by dsimp only; omega, by dsimp only; omega, ord_sp T (n + l.length) _ (Nat.le_refl _) (by omega)⟩
theorem find_ord (l : List UInt8) : OrdS l.length 0 (findF l).1 := by
  have h0 : OrdS l.length 0 [] := Nat.zero_le _
  unfold findF
  cases hT : tokF l with
  | none => exact h0
  | some T =>
    dsimp only
    split
    · exact h0
    · split
      · exact h0
      · exact ord_sp T 0 0 (Nat.le_refl _) (by rw [tok_cat hT]; omega)

theorem pt_len {a d : List UInt8} : (textF a d).length ≤ 2 * a.length + d.length + 3 := by
  unfold textF
  split
  · unfold wordF
    rw [List.length_append, List.length_cons]
    split
    · omega
    · have := quote_len a
      omega
  · simp
abbrev mayA (a : AA) : Bool := mayF a.1 a.2
abbrev txA (a : AA) : List UInt8 := textF a.1 a.2

/-- The list with addresses in its places, from a byte on. -/
def outF (l : List UInt8) : Nat → List Spt → List AA → List UInt8
  | p, x :: xs, a :: ys => (l.drop p).take (x.f - p) ++ (if sameF x.a x.d a.1 a.2 = true then (l.drop x.f).take (x.t - x.f) else txA a) ++ outF l x.t xs ys
  | p, _, _ => l.drop p
theorem cut_two (l : List UInt8) {p q r : Nat} (h1 : p ≤ q) (h2 : q ≤ r) : (l.drop p).take (q - p) ++ (l.drop q).take (r - q) = (l.drop p).take (r - p) := by
  have e : (l.drop p).drop (q - p) = l.drop q := by rw [List.drop_drop]; congr 1; omega
  rw [← e, show r - p = (q - p) + (r - q) by omega, ← List.take_add]
theorem out_from {l : List UInt8} {p q : Nat} (h : p ≤ q) : ∀ {xs : List Spt} {ys : List AA}, OrdS l.length q xs → (l.drop p).take (q - p) ++ outF l q xs ys = outF l p xs ys
  | [], _, _ => by
    have e : (l.drop p).drop (q - p) = l.drop q := by rw [List.drop_drop]; congr 1; omega
    show _ ++ l.drop q = l.drop p
    rw [← e, List.take_append_drop]
  | x :: xs, [], _ => by
    have e : (l.drop p).drop (q - p) = l.drop q := by rw [List.drop_drop]; congr 1; omega
    show _ ++ l.drop q = l.drop p
    rw [← e, List.take_append_drop]
  | x :: xs, a :: ys, ⟨h1, h2, _, _, h3⟩ => by
    unfold outF
    rw [← List.append_assoc, ← List.append_assoc, cut_two l h h1]
theorem out_same {l : List UInt8} {p : Nat} {x : Spt} {xs : List Spt} {a : AA} {ys : List AA} (h : OrdS l.length p (x :: xs)) (hs : sameF x.a x.d a.1 a.2 = true) : outF l p (x :: xs) (a :: ys) = outF l p xs ys := by
  obtain ⟨h1, h2, _, _, h3⟩ := h
  show (l.drop p).take (x.f - p) ++ (if sameF x.a x.d a.1 a.2 = true then (l.drop x.f).take (x.t - x.f) else txA a) ++ outF l x.t xs ys = _
  rw [if_pos hs, cut_two l h1 h2]
  exact out_from (by omega) h3
theorem ord_down {L p q : Nat} (h : p ≤ q) : ∀ {xs : List Spt}, OrdS L q xs → OrdS L p xs
  | [], k => by have k : q ≤ L := k; show p ≤ L; omega
  | x :: xs, ⟨h1, h2, h3, h4, h5⟩ => ⟨by omega, h2, h3, h4, h5⟩
theorem out_len {l : List UInt8} {B : Nat} : ∀ {xs : List Spt} {ys : List AA} {p : Nat}, OrdS l.length p xs → (∀ a ∈ ys, (txA a).length ≤ B) → (outF l p xs ys).length ≤ l.length - p + ys.length * B
  | [], ys, p, h, hB => by show (l.drop p).length ≤ _; rw [List.length_drop]; omega
  | x :: xs, [], p, h, hB => by show (l.drop p).length ≤ _; rw [List.length_drop]; omega
  | x :: xs, a :: ys, p, ⟨h1, h2, _, _, h3⟩, hB => by
    have ih := out_len (p := x.t) (ys := ys) h3 fun a h => hB a (List.mem_cons_of_mem _ h)
    have hb := hB a (List.mem_cons_self ..)
    have := ord_le h3
    unfold outF
    rw [List.length_append, List.length_append, List.length_cons, Nat.succ_mul]
    have h4 : ((l.drop p).take (x.f - p)).length ≤ x.f - p := by rw [List.length_take]; omega
    have h5 : (if sameF x.a x.d a.1 a.2 = true then (l.drop x.f).take (x.t - x.f) else txA a).length ≤ (x.t - x.f) + B := by
      split
      · rw [List.length_take]; omega
      · omega
    omega

/-- What comes out. -/
def putF (l : List UInt8) (ys : List AA) : List UInt8 × Nat :=
  if (findF l).2 = 5 then ([], 5) else if ys.all mayA = false then ([], 1) else if (findF l).2 ≠ 0 then ([], (findF l).2) else if ys.length ≠ (findF l).1.length then ([], 1) else (outF l 0 (findF l).1 ys, 0)
end Go.Vf.S

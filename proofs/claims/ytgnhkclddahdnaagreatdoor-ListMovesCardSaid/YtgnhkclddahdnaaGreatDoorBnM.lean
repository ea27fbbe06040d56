import Derived.Test.YtgnhkclddahdnaaGreatDoorBnL
import Derived.Test.YtgnhkclddahdnaaGreatDoorBnE
/- LiI -/
section
/- Lists of addresses, pure: read strictly, as the document reads: a comment that is wrong ends all; the same is read. -/
namespace Go.Vf.S
open Go Go.Vf
attribute [local irreducible] parseF domF blankF quotedF wordN domN adrN
set_option linter.unusedVariables false
set_option linter.unusedSimpArgs false
set_option maxRecDepth 10000

def blS (l : List UInt8) : PR := if (blankF l).2 = 0 then blP l else none
def boxQ (l : List UInt8) : PR := bindP (adP l) fun r => bindP (blS r) (byP 62)
def angU (l : List UInt8) : PR := if l.take 1 = [64] then bindP (rtP (l.length + 1) l) fun r => bindP (blS r) boxQ else boxQ l
def angQ (l : List UInt8) : PR := bindP (blS l) angU
/-- Words that may be; whether a quoted string at the front is wrong. -/
def badW (l : List UInt8) : Bool := decide (l.take 1 = [34] ∧ (quotedF l).2.2 ≠ 0)
def phS : Nat → List UInt8 → PR
  | 0, l => none
  | f + 1, l => if badW l = true then none else if wordN l = 0 then some ([], l) else
    bindP (some ([.g (l.take (wordN l))], l.drop (wordN l))) fun r => bindP (blS r) (phS f)
/-- Read both ways, the same. -/
def Eqv (A : List UInt8 → Prop) (p q : List UInt8 → PR) : Prop := ∀ l T r, A r → (p l = some (T, r) ↔ q l = some (T, r))
theorem Eqv.weak {A B : List UInt8 → Prop} {p q : List UInt8 → PR} (h : Eqv A p q) (hb : ∀ r, B r → A r) : Eqv B p q := fun l T r hr => h l T r (hb r hr)
theorem Eqv.bind {A B : List UInt8 → Prop} {p p' q q' : List UInt8 → PR} (hp : Eqv B p p') (hq : Eqv A q q') (hd : Hd q A B) (hn : ∀ l T r, p' l = some (T, r) → B r) : Eqv A (fun l => bindP (p l) q) (fun l => bindP (p' l) q') := fun l T r hr => by
  constructor
  · intro h
    obtain ⟨T1, r1, T2, h1, h2, rfl⟩ := bindP_is h
    simp only
    rw [(hp _ _ _ (hd _ _ _ h2 hr)).1 h1]
    exact bindP_two ((hq _ _ _ hr).1 h2)
  · intro h
    obtain ⟨T1, r1, T2, h1, h2, rfl⟩ := bindP_is h
    simp only
    rw [(hp _ _ _ (hn _ _ _ h1)).2 h1]
    exact bindP_two ((hq _ _ _ hr).2 h2)
/-- With the same ahead. -/
theorem Eqv.left {A : List UInt8 → Prop} {p q q' : List UInt8 → PR} (hq : Eqv A q q') : Eqv A (fun l => bindP (p l) q) (fun l => bindP (p l) q') := fun l T r hr => by
  constructor <;> intro h <;> obtain ⟨T1, r1, T2, h1, h2, rfl⟩ := bindP_is h <;> simp only <;> rw [h1]
  · exact bindP_two ((hq _ _ _ hr).1 h2)
  · exact bindP_two ((hq _ _ _ hr).2 h2)
theorem Eqv.of {A : List UInt8 → Prop} {p p' q q' : List UInt8 → PR} (h : Eqv A p q) (hp : ∀ l, p' l = p l) (hq : ∀ l, q' l = q l) : Eqv A p' q' := fun l T r hr => by rw [hp, hq]; exact h l T r hr
end Go.Vf.S
end
/- LiJ -/
section
/- Lists of addresses: the document's white space, words, domains. -/
namespace Go.Vf.S
open Go Go.Vf
attribute [local irreducible] wSeq wRow wp wG
set_option linter.unusedVariables false
set_option linter.unusedSimpArgs false
set_option maxRecDepth 10000

end Go.Vf.S
end
/- LiK -/
section
/- Lists of addresses: the document's row of what was read; its addresses, routes. -/
namespace Go.Vf.S
open Go Go.Vf
attribute [local irreducible] wSeq wRow wp wG
attribute [local irreducible] rtP phP msP parseF domF blankF quotedF wordN domN adrN blN
set_option linter.unusedVariables false
set_option linter.unusedSimpArgs false
set_option maxRecDepth 10000

abbrev tSq : TypeId := 55
abbrev tRw : TypeId := 87
def rwC (xs : List Spt) (lg : Bool) (W : Option Addr) (cw : Nat) : List Value := [.slice W xs.length cw, .bool lg]
/-- The document's row, since a state. -/
structure RwAt (s0 s : SS) (b : Nat) (xs : List Spt) (lg : Bool) (W : Option Addr) (cw : Nat) : Prop where
  chg : Chg s0 s []
  lt : b < s.next
  ge : s0.next ≤ b
  look : lookH s.heap b = some (.cells (rwC xs lg W cw) tRw false false)
  own : OwnR tSq s W cw xs.length (spsC xs)
  new : ∀ id ∈ blkOf W, s0.next ≤ id

variable {s0 s s' : SS} {b : Nat} {l : List UInt8} {i : Nat} {xs : List Spt} {lg : Bool} {W : Option Addr} {cw : Nat}
theorem RwAt.off (h : RwAt s0 s b xs lg W cw) : ∀ id ∈ blkOf W, id ≠ b := fun id hid e => by
  obtain ⟨g, hg⟩ := h.own.at id hid
  exact tyNe hg h.look (by decide) e
theorem RwAt.step (h : RwAt s0 s b xs lg W cw) (c : Chg s s' []) : RwAt s0 s' b xs lg W cw :=
  ⟨h.chg.nil c, Nat.lt_of_lt_of_le h.lt c.next, h.ge, c.blk _ _ h.lt (by simp) h.look, h.own.chg c (by simp), h.new⟩
/-- What the document answers: where what is read ends; -1. -/
def RAns (q : PR) (s0 : SS) (b : Nat) (i : Nat) (xs : List Spt) (lg : Bool) (v : Value) (s' : SS) : Prop := match q with
  | some (T, r) => v = .int .i64 ((i + (flT T).length : Nat) : Int) ∧ ∃ W cw, RwAt s0 s' b (xs ++ spT i T) (lg || lgT T) W cw ∧ (xs ++ spT i T).length ≤ i + (flT T).length
  | none => v = .int .i64 (-1) ∧ Chg s0 s' []
theorem RAns.two {T1 : List Tok} {r1 : List UInt8} {q : List UInt8 → PR} {v : Value} (h : RAns (q r1) s0 b (i + (flT T1).length) (xs ++ spT i T1) (lg || lgT T1) v s') : RAns (bindP (some (T1, r1)) q) s0 b i xs lg v s' := by
  cases hq : q r1 with
  | none =>
    rw [bindP_one hq]
    rw [hq] at h
    exact h
  | some x =>
    obtain ⟨T2, r2⟩ := x
    rw [bindP_two hq]
    rw [hq] at h
    unfold RAns at h ⊢
    simp only at h ⊢
    rw [flT_app, List.length_append, spT_app, lgT_app, ← Bool.or_assoc, ← List.append_assoc, ← Nat.add_assoc]
    exact h
theorem RAns.none {q : PR} {v : Value} (hq : q = none) (hv : v = .int .i64 (-1)) (h : Chg s0 s' []) : RAns q s0 b i xs lg v s' := by
  subst hq
  exact ⟨hv, h⟩
theorem RAns.g {t r1 : List UInt8} {q : List UInt8 → PR} {v : Value} (h : RAns (q r1) s0 b (i + t.length) xs lg v s') : RAns (bindP (some ([.g t], r1)) q) s0 b i xs lg v s' := by
  refine RAns.two ?_
  have e1 : spT i [Tok.g t] = [] := rfl
  have e2 : lgT [Tok.g t] = false := rfl
  rw [flT_g, e1, e2, List.append_nil, Bool.or_false]
  exact h
theorem RAns.by {c : UInt8} {q : List UInt8 → PR} {v : Value} (hc : (l.drop i).take 1 = [c]) (h : RAns (q (l.drop (i + 1))) s0 b (i + 1) xs lg v s') : RAns (bindP (byP c (l.drop i)) q) s0 b i xs lg v s' := by
  unfold byP
  rw [if_pos hc, List.drop_drop]
  exact RAns.g h
theorem blS_ok (h : (blankF (l.drop i)).2 = 0) : blS (l.drop i) = some ([.g ((l.drop i).take (blN (l.drop i)))], l.drop (i + blN (l.drop i))) := by
  unfold blS blP
  rw [if_pos h, List.drop_drop]
theorem RAns.bl {q : List UInt8 → PR} {v : Value} (h0 : (blankF (l.drop i)).2 = 0) (h : RAns (q (l.drop (i + blN (l.drop i)))) s0 b (i + blN (l.drop i)) xs lg v s') : RAns (bindP (blS (l.drop i)) q) s0 b i xs lg v s' := by
  rw [blS_ok h0]
  refine RAns.g ?_
  have hb := blN_le (l.drop i)
  rw [List.length_take, Nat.min_eq_left hb]
  exact h
theorem RAns.end {v : Value} (hv : v = .int .i64 (i : Nat)) (h : RwAt s0 s' b xs lg W cw) (hx : xs.length ≤ i) {r : List UInt8} : RAns (some ([], r)) s0 b i xs lg v s' := by
  unfold RAns
  simp only
  have e1 : spT i [] = [] := rfl
  have e2 : lgT [] = false := rfl
  rw [flT_nil, e1, e2, List.append_nil, Bool.or_false]
  exact ⟨hv, W, cw, h, hx⟩
theorem RAns.endG {v : Value} {t r : List UInt8} (hv : v = .int .i64 ((i + t.length : Nat) : Int)) (h : RwAt s0 s' b xs lg W cw) (hx : xs.length ≤ i + t.length) : RAns (some ([.g t], r)) s0 b i xs lg v s' := by
  unfold RAns
  simp only
  have e1 : spT i [Tok.g t] = [] := rfl
  have e2 : lgT [Tok.g t] = false := rfl
  rw [flT_g, e1, e2, List.append_nil, Bool.or_false]
  exact ⟨hv, W, cw, h, hx⟩
theorem RAns.endB {v : Value} (h0 : (blankF (l.drop i)).2 = 0) (hv : v = .int .i64 ((i + blN (l.drop i) : Nat) : Int)) (h : RwAt s0 s' b xs lg W cw) (hx : xs.length ≤ i) : RAns (blS (l.drop i)) s0 b i xs lg v s' := by
  have hb := blN_le (l.drop i)
  have e : ((l.drop i).take (blN (l.drop i))).length = blN (l.drop i) := by rw [List.length_take, Nat.min_eq_left hb]
  rw [blS_ok h0]
  exact RAns.endG (by rw [e]; exact hv) h (by omega)

end Go.Vf.S
end
/- LiL -/
section
/- Lists of addresses: the document's routes, angles, members; what it finds. (Written by tools/gen_lil.py.) -/
namespace Go.Vf.S
open Go Go.Vf
attribute [local irreducible] wSeq wRow wp wG
attribute [local irreducible] rtP phP msP parseF domF blankF quotedF wordN domN adrN blN phS
set_option linter.unusedVariables false
set_option linter.unusedSimpArgs false
set_option maxRecDepth 10000

variable {s0 s s' : SS} {b : Nat} {l : List UInt8} {i : Nat} {xs : List Spt} {lg : Bool} {W : Option Addr} {cw : Nat}

structure R8I where
  f : Nat
  j : Nat
  ys : List Spt
  k : Bool
  W : Option Addr
  cw : Nat
  s : SS

end Go.Vf.S
end
/- LiM -/
section
/- Lists of addresses: the document's members; what it finds. (Written by tools/gen_lim.py.) -/
namespace Go.Vf.S
open Go Go.Vf
attribute [local irreducible] wSeq wRow wp wG
attribute [local irreducible] rtP phP msP parseF domF blankF quotedF wordN domN adrN blN phS angQ
set_option linter.unusedVariables false
set_option linter.unusedSimpArgs false
set_option maxRecDepth 10000

variable {s0 s s' : SS} {b : Nat} {l : List UInt8} {i : Nat} {xs : List Spt} {lg : Bool} {W : Option Addr} {cw : Nat}

structure R8M where
  f : Nat
  j : Nat
  T : List Tok
  k : Nat
  e : Nat

end Go.Vf.S
end

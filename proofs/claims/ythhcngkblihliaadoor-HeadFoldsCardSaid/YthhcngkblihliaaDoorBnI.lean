import Derived.Test.YthhcngkblihliaaDoorBnH
import Derived.Test.YthhcngkblihliaaDoorHdC
import Derived.Test.YthhcngkblihliaaDoorBnA
/- HdN -/
section
/- Messages: their text; may they be? -/
namespace Go.Vf.S
open Go Go.Vf Go.Proofs Go.RowKit
attribute [local irreducible] wSeq wRow wp wG
set_option linter.unusedVariables false
set_option linter.unusedSimpArgs false
set_option maxRecDepth 10000

def txtF (fs : List Fld) : List UInt8 := fs.flatMap fun f => f.r
def textM (m : Msg) : List UInt8 := txtF m.fs ++ if m.e = true then [] else 13 :: 10 :: m.b
theorem txt_next {fs : List Fld} {i : Nat} {f : Fld} (h : fs[i]? = some f) : txtF (fs.take (i + 1)) = txtF (fs.take i) ++ f.r := by
  unfold txtF
  rw [take_next h, List.flatMap_append]
  simp
theorem txt_le {fs : List Fld} (i : Nat) : (txtF (fs.take i)).length ≤ (txtF fs).length := by
  have := congrArg (fun x => (txtF x).length) (List.take_append_drop i fs)
  simp only [txtF, List.flatMap_append, List.length_append] at this
  unfold txtF
  omega

structure TxI where
  i : Nat
  W : Option Addr
  s : SS

end Go.Vf.S
end
/- HdO -/
section
/- Messages: the document's text; rows of fields held against one another; may they be? -/
namespace Go.Vf.S
open Go Go.Vf Go.Proofs Go.RowKit
attribute [local irreducible] wSeq wRow wp wG
set_option linter.unusedVariables false
set_option linter.unusedSimpArgs false
set_option maxRecDepth 10000

open Classical in
/-- May the message be? -/
noncomputable def mayM (m : Msg) : Bool := decide ((parsF (textM m)).2 = 0 ∧ (parsF (textM m)).1 = m)

end Go.Vf.S
end
/- HdP -/
section
/- Fields of a name: found, counted. -/
namespace Go.Vf.S
open Go Go.Vf Go.Proofs Go.RowKit
attribute [local irreducible] wSeq wRow wp wG
set_option linter.unusedVariables false
set_option linter.unusedSimpArgs false
set_option maxRecDepth 10000

def isNamed (n : List UInt8) (f : Fld) : Bool := decide (f.n.map lowB = n.map lowB)
def findF (fs : List Fld) (n : List UInt8) : List (List UInt8) := (fs.filter (isNamed n)).map (·.v)

/-- Texts that a slice reads. -/
def StR (s : SS) (W : Option Addr) (ls : List (List UInt8)) : Prop := match W with
  | none => ls = []
  | some ⟨b, off, sp⟩ => off = 0 ∧ sp = none ∧ b < s.next ∧ ∃ cs t g r, lookH s.heap b = some (.cells cs t g r) ∧ ∀ (i : Nat) x, ls[i]? = some x → cs[i]? = some (str x)
theorem st_of {t : TypeId} {s : SS} {W : Option Addr} {cw : Nat} {ls : List (List UInt8)} (h : OwnR t s W cw ls.length (strV ls)) : StR s W ls := by
  cases W with
  | none => exact List.length_eq_zero_iff.1 h.2.1
  | some a =>
    obtain ⟨b, off, sp⟩ := a
    obtain ⟨h1, h2, h3, g, h4, h5⟩ := h
    refine ⟨h1, h2, h3, _, _, _, _, h4, fun i x hx => ?_⟩
    simp only [strV, List.getElem?_map, hx]
    rfl
theorem StR.chg {s s' : SS} {W : Option Addr} {ls : List (List UInt8)} {A : List Nat} (h : StR s W ls) (c : Chg s s' A) (hA : ∀ id ∈ blkOf W, id ∉ A) : StR s' W ls := by
  cases W with
  | none => exact h
  | some a =>
    obtain ⟨b, off, sp⟩ := a
    obtain ⟨h1, h2, h3, cs, t, g, r, h4, h5⟩ := h
    exact ⟨h1, h2, Nat.lt_of_lt_of_le h3 c.next, cs, t, g, r, c.blk _ _ h3 (hA b (by simp [blkOf])) h4, h5⟩
theorem StR.at {s : SS} {W : Option Addr} {ls : List (List UInt8)} (h : StR s W ls) (hn : ls ≠ []) : ∃ b cs t g r, W = some ⟨b, 0, none⟩ ∧ lookH s.heap b = some (.cells cs t g r) ∧ ∀ (i : Nat) x, ls[i]? = some x → cs[i]? = some (str x) := by
  cases W with
  | none => exact absurd h hn
  | some a =>
    obtain ⟨b, off, sp⟩ := a
    obtain ⟨rfl, rfl, h3, cs, t, g, r, h4, h5⟩ := h
    exact ⟨b, cs, t, g, r, rfl, h4, h5⟩

theorem find_next {fs : List Fld} {i : Nat} {f : Fld} {n : List UInt8} (h : fs[i]? = some f) : findF (fs.take (i + 1)) n = findF (fs.take i) n ++ (if isNamed n f = true then [f.v] else []) := by
  unfold findF
  rw [take_next h, List.filter_append, List.map_append]
  congr 1
  cases hn : isNamed n f <;> simp [hn]
theorem find_le (fs : List Fld) (n : List UInt8) : (findF fs n).length ≤ fs.length := by
  unfold findF
  rw [List.length_map]
  exact List.length_filter_le _ _

structure FiI where
  i : Nat
  W : Option Addr
  cw : Nat
  s : SS

end Go.Vf.S
end
/- HdQ -/
section
/- Fields of a name, gone through: Find, Count. -/
namespace Go.Vf.S
open Go Go.Vf Go.Proofs Go.RowKit
attribute [local irreducible] wSeq wRow wp wG
set_option linter.unusedVariables false
set_option linter.unusedSimpArgs false
set_option maxRecDepth 10000

structure NmI where
  i : Nat
  s : SS

abbrev tI8 : TypeId := 3
structure HcI (fs : List Fld) (nm : List UInt8) (lo cl : Nat) (r : ALoop) (s0 : SS) (i : Nat) (s : SS) : Prop where
  chg : Chg s0 s []
  lp : lookH s.heap lo = some (.loop r)
  lt : lo < s.next
  cell : lookH s.heap cl = some (.cells [.int .i64 (findF (fs.take i) nm).length] tI8 false false)

end Go.Vf.S
end
/- HdR -/
section
/- Fields of a name, found. -/
namespace Go.Vf.S
open Go Go.Vf Go.Proofs Go.RowKit
attribute [local irreducible] wSeq wRow wp wG
set_option linter.unusedVariables false
set_option linter.unusedSimpArgs false
set_option maxRecDepth 10000

abbrev tLs : TypeId := 52
structure HiI (fs : List Fld) (nm : List UInt8) (lo cl : Nat) (r : ALoop) (s0 : SS) (i : Nat) (s : SS) : Prop where
  chg : Chg s0 s []
  lp : lookH s.heap lo = some (.loop r)
  lt : lo < s.next
  cell : ∃ V cv, lookH s.heap cl = some (.cells [.slice V (findF (fs.take i) nm).length cv] tLs false false) ∧ OwnR tS s V cv (findF (fs.take i) nm).length (strV (findF (fs.take i) nm)) ∧ ∀ id ∈ blkOf V, lo < id

theorem own_loop {t : TypeId} {s : SS} {V : Option Addr} {cv n lo : Nat} {cs : List Value} {r : ALoop} (h : OwnR t s V cv n cs) (hl : lookH s.heap lo = some (.loop r)) : ∀ id ∈ blkOf V, id ≠ lo := fun id hid e => by
  obtain ⟨g, hg⟩ := h.at id hid
  rw [e, hl] at hg
  cases hg

end Go.Vf.S
end
/- HdS -/
section
/- Few fields, of few bytes. -/
namespace Go.Vf.S
open Go Go.Vf Go.Proofs Go.RowKit
attribute [local irreducible] wSeq wRow wp wG
set_option linter.unusedVariables false
set_option linter.unusedSimpArgs false
set_option maxRecDepth 10000

def fewFl (f : Fld) : Fld := ⟨f.n.take 300, f.v.take 300, f.r.take 300⟩
def fewFs (fs : List Fld) : List Fld := (fs.take 20).map fewFl
def fewM (m : Msg) : Msg := ⟨fewFs m.fs, m.b.take 600, m.e⟩

theorem take_few {l g : List UInt8} {k m : Nat} {n z : Int} (hg : g = (l.drop 0).take (k - 0)) (hn : n = (l.length : Int)) (hz : z = min n (m : Int)) (hk : (k : Int) = z) : g = l.take m := by
  rw [hg, List.drop_zero, Nat.sub_zero]
  by_cases h : l.length ≤ m
  · rw [List.take_of_length_le (by omega), List.take_of_length_le h]
  · rw [show k = m by omega]

theorem few_next {fs : List Fld} {i : Nat} {f : Fld} (h : fs[i]? = some f) : fewFs (fs.take (i + 1)) = if i < 20 then fewFs (fs.take i) ++ [fewFl f] else fewFs (fs.take i) := by
  have hi := lt_of_get h
  unfold fewFs
  by_cases hlt : i < 20
  · have hl : (fs.take i).length = i := by rw [List.length_take]; omega
    rw [if_pos hlt, take_next h, List.take_of_length_le (l := fs.take i ++ [f]) (by rw [List.length_append, hl]; simp; omega), List.map_append, List.take_of_length_le (l := fs.take i) (by omega)]
    rfl
  · rw [if_neg hlt, List.take_take, List.take_take, show min 20 (i + 1) = 20 by omega, show min 20 i = 20 by omega]
theorem few_many (fs : List Fld) : (fewFs fs).length ≤ 20 := by unfold fewFs; rw [List.length_map, List.length_take]; omega

theorem allocR {P : Program} {T : TL} {s : SS} {K : RR → Prop} {e : TypeId} {z : List Value} (h : K (.new (.cells z e false false) fun id => .pointer (some ⟨id, 0, none⟩))) : wN P (.alloc e z) T s K := by
  simp only [wN]
  exact h

end Go.Vf.S
end
/- HdT -/
section
/- The law HeadTells, from any state. -/
namespace Go.Vf.S
open Go Go.Vf Go.Proofs Go.RowKit
attribute [local irreducible] wSeq wRow wp wG
set_option linter.unusedVariables false
set_option linter.unusedSimpArgs false
set_option maxRecDepth 10000

theorem txt_bound {k : Nat} : ∀ (fs : List Fld), (∀ f ∈ fs, f.r.length ≤ k) → (txtF fs).length ≤ fs.length * k
  | [], _ => by simp [txtF]
  | f :: fs, h => by
    have ih := txt_bound fs fun g hg => h g (by simp [hg])
    have := h f (by simp)
    unfold txtF at ih ⊢
    rw [List.flatMap_cons, List.length_append, List.length_cons, Nat.succ_mul]
    omega
theorem few_each {fs : List Fld} : ∀ f ∈ fewFs fs, f.n.length ≤ 300 ∧ f.v.length ≤ 300 ∧ f.r.length ≤ 300 := fun f hf => by
  obtain ⟨g, -, rfl⟩ := List.mem_map.1 hf
  simp only [fewFl, List.length_take]
  omega
theorem few_text (m : Msg) : (textM (fewM m)).length ≤ 10000 := by
  have h1 := txt_bound (k := 300) (fewFs m.fs) fun f hf => (few_each f hf).2.2
  have h2 := few_many m.fs
  have h3 : (fewFs m.fs).length * 300 ≤ 20 * 300 := Nat.mul_le_mul_right _ h2
  show (txtF (fewFs m.fs) ++ if m.e = true then [] else 13 :: 10 :: m.b.take 600).length ≤ 10000
  rw [List.length_append]
  have : (if m.e = true then ([] : List UInt8) else 13 :: 10 :: m.b.take 600).length ≤ 602 := by
    split
    · simp
    · simp only [List.length_cons, List.length_take]; omega
  omega
end Go.Vf.S
end

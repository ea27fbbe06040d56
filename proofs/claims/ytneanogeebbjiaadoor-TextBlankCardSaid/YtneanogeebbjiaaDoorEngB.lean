import Derived.Test.YtneanogeebbjiaaDoorEngA
import Derived.RangeFuncRecord
import Derived.Laws.Sem
import Derived.Laws.Cells
import Derived.Laws.Rows
import Derived.Laws.Append
import Derived.ChangeKeysEq
import Derived.Laws.Entries
/- The machine of plain blocks: how it stands to the world. -/
namespace Go.Vf
open Go.RowKit

/-- Where a block lies: in which block of the world, from which cell on, how many cells are its own, an element's cells, whether its room is open. -/
structure RE where
  blk : Nat
  off : Nat
  room : Nat
  es : Nat
  grow : Bool

abbrev Ren := Nat → Option RE

def Ren.Le (ρ ρ' : Ren) : Prop := ∀ id e, ρ id = some e → ρ' id = some e
theorem Ren.Le.refl (ρ : Ren) : ρ.Le ρ := fun _ _ h => h
theorem Ren.Le.trans {a b c : Ren} (h : a.Le b) (k : b.Le c) : a.Le c := fun id e he => k id e (h id e he)

def ARel (ρ : Ren) (a a' : Addr) : Prop :=
  a.spot = none ∧ a'.spot = none ∧ ∃ e, ρ a.block = some e ∧ a'.block = e.blk ∧ a'.off = e.off + a.off

def SlIn (ρ : Ren) (a a' : Addr) (l c c' : Nat) : Prop :=
  a.spot = none ∧ a'.spot = none ∧ ∃ e, ρ a.block = some e ∧ a'.block = e.blk ∧
    ((e.grow = false ∧ a'.off = e.off + a.off ∧ c' = c) ∨
     (e.grow = true ∧ l ≤ c' ∧ e.off ≤ a'.off ∧ a'.off + c' * e.es ≤ e.off + e.room ∧ (l = 0 ∨ a'.off = e.off + a.off)))

/-- A slice without room, wherever it may lie. -/
def SlVoid (ρ : Ren) (a : Addr) (l c' : Nat) : Prop :=
  a.spot = none ∧ l = 0 ∧ c' = 0 ∧ ∃ e, ρ a.block = some e ∧ e.grow = true

def SlRel (ρ : Ren) (a a' : Addr) (l c c' : Nat) : Prop := SlIn ρ a a' l c c' ∨ SlVoid ρ a l c'

theorem SlRel.spot {ρ : Ren} {a a' : Addr} {l c c' : Nat} (h : SlRel ρ a a' l c c') : a.spot = none := h.elim (fun q => q.1) (fun q => q.1)
theorem SlRel.known {ρ : Ren} {a a' : Addr} {l c c' : Nat} (h : SlRel ρ a a' l c c') (hg : ∀ e, ρ a.block = some e → e.grow = false) : SlIn ρ a a' l c c' := by
  rcases h with h | ⟨_, _, _, e, h1, h2⟩
  · exact h
  · rw [hg e h1] at h2; cases h2

theorem ARel.mono {ρ ρ' : Ren} (h : ρ.Le ρ') {a a' : Addr} (r : ARel ρ a a') : ARel ρ' a a' :=
  ⟨r.1, r.2.1, let ⟨e, h1, h2⟩ := r.2.2; ⟨e, h _ _ h1, h2⟩⟩
theorem SlRel.mono {ρ ρ' : Ren} (h : ρ.Le ρ') {a a' : Addr} {l c c' : Nat} (r : SlRel ρ a a' l c c') : SlRel ρ' a a' l c c' :=
  r.imp (fun r => ⟨r.1, r.2.1, let ⟨e, h1, h2⟩ := r.2.2; ⟨e, h _ _ h1, h2⟩⟩) fun ⟨r1, r2, r3, e, h1, h2⟩ => ⟨r1, r2, r3, e, h _ _ h1, h2⟩

inductive VRel (ρ : Ren) : Value → Value → Prop
  | bool (b : Bool) : VRel ρ (.bool b) (.bool b)
  | int (k : IntKind) (n : Int) : VRel ρ (.int k n) (.int k n)
  | float (k : FloatKind) (n : Nat) : VRel ρ (.float k n) (.float k n)
  | complex (k : FloatKind) (n m : Nat) : VRel ρ (.complex k n m) (.complex k n m)
  | string (s : ByteArray) : VRel ρ (.string s) (.string s)
  | nilPtr : VRel ρ (.pointer none) (.pointer none)
  | nilSlice (l c : Nat) : VRel ρ (.slice none l c) (.slice none l c)
  | nilMap : VRel ρ (.map none) (.map none)
  | nilChan : VRel ρ (.chan none) (.chan none)
  | nilFunc : VRel ρ .nilFunc .nilFunc
  | nilIface : VRel ρ .nilIface .nilIface
  | pointer {a a' : Addr} (h : ARel ρ a a') : VRel ρ (.pointer (some a)) (.pointer (some a'))
  | slice {a a' : Addr} {l c c' : Nat} (h : SlRel ρ a a' l c c') : VRel ρ (.slice (some a) l c) (.slice (some a') l c')
  | map {r r' : Nat} {e : RE} (h : ρ r = some e) (hr : r' = e.blk) : VRel ρ (.map (some r)) (.map (some r'))
  | func (fn : Fn) {a b a' b' : Array Value} (hy : isYield fn = false) (h1 : a.toList.length = a'.toList.length) (h2 : b.toList.length = b'.toList.length)
      (h3 : ∀ (i : Nat) v v', a.toList[i]? = some v → a'.toList[i]? = some v' → VRel ρ v v')
      (h4 : ∀ (i : Nat) v v', b.toList[i]? = some v → b'.toList[i]? = some v' → VRel ρ v v') : VRel ρ (.func fn a b) (.func fn a' b')
  | yield {l l' : Nat} {e : RE} (h : ρ l = some e) (hr : l' = e.blk) : VRel ρ (.func (.yield l) #[] #[]) (.func (.yield l') #[] #[])
  | iface (t : TypeId) {v v' : Value} (h : VRel ρ v v') : VRel ρ (.iface t v) (.iface t v')
  | agg {a a' : Array Value} (h1 : a.toList.length = a'.toList.length)
      (h2 : ∀ (i : Nat) v v', a.toList[i]? = some v → a'.toList[i]? = some v' → VRel ρ v v') : VRel ρ (.agg a) (.agg a')
  | tuple {a a' : Array Value} (h1 : a.toList.length = a'.toList.length)
      (h2 : ∀ (i : Nat) v v', a.toList[i]? = some v → a'.toList[i]? = some v' → VRel ρ v v') : VRel ρ (.tuple a) (.tuple a')

def LRel (ρ : Ren) (x y : List Value) : Prop := x.length = y.length ∧ ∀ (i : Nat) v v', x[i]? = some v → y[i]? = some v' → VRel ρ v v'

theorem VRel.mono {ρ ρ' : Ren} (h : ρ.Le ρ') {v v' : Value} (r : VRel ρ v v') : VRel ρ' v v' := by
  induction r with
  | pointer r => exact .pointer (r.mono h)
  | slice r => exact .slice (r.mono h)
  | map r e => exact .map (h _ _ r) e
  | func fn hy h1 h2 _ _ i1 i2 => exact .func fn hy h1 h2 i1 i2
  | yield r e => exact .yield (h _ _ r) e
  | iface t _ i => exact .iface t i
  | agg h1 _ i => exact .agg h1 i
  | tuple h1 _ i => exact .tuple h1 i
  | bool => constructor
  | int => constructor
  | float => constructor
  | complex => constructor
  | string => constructor
  | nilPtr => constructor
  | nilSlice => constructor
  | nilMap => constructor
  | nilChan => constructor
  | nilFunc => constructor
  | nilIface => constructor

theorem LRel.mono {ρ ρ' : Ren} (h : ρ.Le ρ') {x y : List Value} (r : LRel ρ x y) : LRel ρ' x y :=
  ⟨r.1, fun i v v' a b => (r.2 i v v' a b).mono h⟩

theorem LRel.nil (ρ : Ren) : LRel ρ [] [] := ⟨rfl, fun i v v' a => by simp at a⟩
theorem LRel.cons {ρ : Ren} {v v' : Value} {x y : List Value} (h : VRel ρ v v') (r : LRel ρ x y) : LRel ρ (v :: x) (v' :: y) := by
  refine ⟨by simp [r.1], fun i a b ha hb => ?_⟩
  cases i with
  | zero => simp at ha hb; subst ha; subst hb; exact h
  | succ i => simp at ha hb; exact r.2 i a b ha hb
theorem LRel.head {ρ : Ren} {v v' : Value} {x y : List Value} (r : LRel ρ (v :: x) (v' :: y)) : VRel ρ v v' := r.2 0 _ _ rfl rfl
theorem LRel.tail {ρ : Ren} {v v' : Value} {x y : List Value} (r : LRel ρ (v :: x) (v' :: y)) : LRel ρ x y :=
  ⟨by simpa using r.1, fun i a b ha hb => r.2 (i + 1) a b (by simpa using ha) (by simpa using hb)⟩
theorem LRel.inv_nil {ρ : Ren} {y : List Value} (r : LRel ρ [] y) : y = [] := by
  cases y with
  | nil => rfl
  | cons => simp [LRel] at r
theorem LRel.inv_cons {ρ : Ren} {v : Value} {x y : List Value} (r : LRel ρ (v :: x) y) : ∃ v' y', y = v' :: y' ∧ VRel ρ v v' ∧ LRel ρ x y' := by
  cases y with
  | nil => simp [LRel] at r
  | cons v' y' => exact ⟨v', y', rfl, r.head, r.tail⟩
theorem LRel.get {ρ : Ren} {x y : List Value} (r : LRel ρ x y) {i : Nat} {v : Value} (h : x[i]? = some v) : ∃ v', y[i]? = some v' ∧ VRel ρ v v' := by
  have hi : i < x.length := by
    rcases Nat.lt_or_ge i x.length with h' | h'
    · exact h'
    · simp [List.getElem?_eq_none h'] at h
  refine ⟨y[i]'(r.1 ▸ hi), List.getElem?_eq_getElem _, r.2 i _ _ h (List.getElem?_eq_getElem _)⟩
theorem LRel.append {ρ : Ren} {x y x' y' : List Value} (r : LRel ρ x y) (r' : LRel ρ x' y') : LRel ρ (x ++ x') (y ++ y') := by
  refine ⟨by simp [r.1, r'.1], fun i a b ha hb => ?_⟩
  rw [List.getElem?_append] at ha hb
  by_cases h : i < x.length
  · rw [if_pos h] at ha; rw [if_pos (r.1 ▸ h)] at hb; exact r.2 _ _ _ ha hb
  · rw [if_neg h] at ha; rw [if_neg (r.1 ▸ h), ← r.1] at hb; exact r'.2 _ _ _ ha hb
theorem LRel.drop {ρ : Ren} {x y : List Value} (r : LRel ρ x y) (n : Nat) : LRel ρ (x.drop n) (y.drop n) :=
  ⟨by simp [r.1], fun i a b ha hb => by rw [List.getElem?_drop] at ha hb; exact r.2 _ _ _ ha hb⟩
theorem LRel.take {ρ : Ren} {x y : List Value} (r : LRel ρ x y) (n : Nat) : LRel ρ (x.take n) (y.take n) :=
  ⟨by simp [r.1], fun i a b ha hb => by
    rw [List.getElem?_take] at ha hb
    by_cases h : i < n
    · rw [if_pos h] at ha hb; exact r.2 _ _ _ ha hb
    · rw [if_neg h] at ha; cases ha⟩

theorem VRel.agg' {ρ : Ren} {a b : List Value} (h : LRel ρ a b) : VRel ρ (.agg ⟨a⟩) (.agg ⟨b⟩) := .agg h.1 h.2
theorem VRel.tuple' {ρ : Ren} {a b : List Value} (h : LRel ρ a b) : VRel ρ (.tuple ⟨a⟩) (.tuple ⟨b⟩) := .tuple h.1 h.2

/-- The cells of a value. -/
theorem VRel.flat {ρ : Ren} {v v' : Value} (h : VRel ρ v v') : LRel ρ (flat v) (flat v') := by
  cases h <;> first
    | exact ⟨‹_›, ‹_›⟩
    | (refine .cons ?_ (.nil _); constructor <;> assumption)
    | exact .cons (by constructor) (.nil _)

theorem plain1_rel {ρ : Ren} {v : Value} (h : plain1 v = true) : VRel ρ v v := by
  cases v with
  | pointer a => cases a <;> simp [plain1] at h; exact .nilPtr
  | slice a l c => cases a <;> simp [plain1] at h; exact .nilSlice _ _
  | map a => cases a <;> simp [plain1] at h; exact .nilMap
  | chan a => cases a <;> simp [plain1] at h; exact .nilChan
  | func fn a b =>
    simp [plain1] at h
    obtain ⟨⟨hy, rfl⟩, rfl⟩ := h
    exact .func fn hy rfl rfl (fun i v v' ha => by simp at ha) (fun i v v' ha => by simp at ha)
  | iface t v => simp [plain1] at h
  | agg a => simp [plain1] at h
  | tuple a => simp [plain1] at h
  | _ => constructor

theorem plain_list {ρ : Ren} {l : List Value} (h : l.all plain1 = true) : LRel ρ l l :=
  ⟨rfl, fun i v v' a b => by
    rw [a] at b; cases b
    exact plain1_rel (List.all_eq_true.1 h v (List.mem_of_getElem? a))⟩

theorem plain_rel {ρ : Ren} {v : Value} (h : plainV v = true) : VRel ρ v v := by
  cases v with
  | agg a => exact .agg rfl (plain_list (ρ := ρ) (by simpa [plainV] using h)).2
  | tuple a => exact .tuple rfl (plain_list (ρ := ρ) (by simpa [plainV] using h)).2
  | iface t v => exact .iface t (plain1_rel (by simpa [plainV] using h))
  | _ => exact plain1_rel (by simpa [plainV] using h)

/-! ### Blocks and the heap -/

def MRel (ρ : Ren) (x y : List MapEntry) : Prop :=
  x.length = y.length ∧ ∀ (i : Nat) a b, x[i]? = some a → y[i]? = some b → VRel ρ a.key b.key ∧ VRel ρ a.val b.val ∧ a.born = b.born

def BRel (P : Program) (ρ : Ren) (w : World) (e : RE) : ABlk → Prop
  | .cells c t g r => e.grow = g ∧ ∃ (rc : List Value) (lo hi : Nat) (t0 : TypeId), w.heap[e.blk]? = some (.cells ⟨rc⟩ t0 (lo, hi)) ∧ (r = false → t0 = t ∧ (g = false → e.off = 0 ∧ e.room = rc.length ∧ (lo = hi ∨ rc.length ≤ lo))) ∧ (∀ i, i < e.room → ¬ (lo ≤ e.off + i ∧ e.off + i < hi)) ∧
      e.off + e.room ≤ rc.length ∧ c.length ≤ e.room ∧ (P.info? t).map (·.size) = some e.es ∧
      ∀ (i : Nat) v, c[i]? = some v → ∃ v', rc[e.off + i]? = some v' ∧ VRel ρ v v'
  | .map es clock => e.off = 0 ∧ ∃ es' : List MapEntry, w.heap[e.blk]? = some (.map ⟨es'⟩ clock) ∧ MRel ρ es es'
  | .siter s pos => e.off = 0 ∧ w.heap[e.blk]? = some (.stringIter s pos)
  | .miter m since seen stepped => e.off = 0 ∧ ∃ em : RE, ρ m = some em ∧ w.heap[e.blk]? = some (.mapIter (some em.blk) since ⟨seen⟩ stepped)
  | .loop r => e.off = 0 ∧ ∃ (tmps : Array Value) (fn d : Nat), w.heap[e.blk]? = some (.loop { state := r.state, pending := r.pending, fn, tmps, params := r.params, assign := r.assign, body := r.body, defers := d }) ∧
      tmps.size = r.nt ∧ ∀ t v, r.tmps.get t = some v → ∃ v', tmps[t]? = some v' ∧ VRel ρ v v'

def ABlk.ro : ABlk → Bool
  | .cells _ _ _ r => r
  | _ => false

theorem MRel.mono {ρ ρ' : Ren} (h : ρ.Le ρ') {x y : List MapEntry} (r : MRel ρ x y) : MRel ρ' x y :=
  ⟨r.1, fun i a b ha hb => let ⟨h1, h2, h3⟩ := r.2 i a b ha hb; ⟨h1.mono h, h2.mono h, h3⟩⟩

theorem BRel.mono {P : Program} {ρ ρ' : Ren} (h : ρ.Le ρ') {w w' : World} {e : RE} {b : ABlk} (hw : w'.heap[e.blk]? = w.heap[e.blk]?) (r : BRel P ρ w e b) : BRel P ρ' w' e b := by
  cases b with
  | cells c t g ro =>
    obtain ⟨h1, rc, lo, hi, t0, h2, ht0, h3, h4, h5, h6, h7⟩ := r
    exact ⟨h1, rc, lo, hi, t0, by rw [hw]; exact h2, ht0, h3, h4, h5, h6, fun i v hv => let ⟨v', a, b⟩ := h7 i v hv; ⟨v', a, b.mono h⟩⟩
  | map es clock =>
    obtain ⟨h1, es', h2, h3⟩ := r
    exact ⟨h1, es', by rw [hw]; exact h2, h3.mono h⟩
  | siter s pos => exact ⟨r.1, by rw [hw]; exact r.2⟩
  | miter m since seen stepped =>
    obtain ⟨h1, em, h2, h3⟩ := r
    exact ⟨h1, em, h _ _ h2, by rw [hw]; exact h3⟩
  | loop r =>
    obtain ⟨h1, tmps, fn, d, h2, h3, h4⟩ := r
    exact ⟨h1, tmps, fn, d, by rw [hw]; exact h2, h3, fun t v hv => let ⟨v', a, b⟩ := h4 t v hv; ⟨v', a, b.mono h⟩⟩

/-- The blocks for deferred calls, of which none has come: they lie as they lay. -/
def Books (w0 w : World) : Prop := ∀ k : Nat, w0.heap[k]? = some (.deferred (some [])) → w.heap[k]? = some (.deferred (some []))

theorem Books.refl (w : World) : Books w w := fun _ h => h
theorem Books.trans {a b c : World} (h : Books a b) (h' : Books b c) : Books a c := fun k q => h' k (h k q)

theorem Books.trans' {w0 w : World} (h : Books w0 w) {D : Nat} {o : Obj} (hD : w0.heap.size ≤ D) : Books w0 (w.putObj D o) := fun k hk => by
  have := (Array.getElem?_eq_some_iff.1 hk).1
  exact (World.putObj_heap_other (by omega)).trans (h k hk)

theorem BRel.noBook {P : Program} {ρ : Ren} {w : World} {e : RE} {b : ABlk} (h : BRel P ρ w e b) : w.heap[e.blk]? ≠ some (.deferred (some [])) := by
  intro hx
  cases b with
  | cells c t g ro => obtain ⟨_, rc, lo, hi, t0, h2, _⟩ := h; rw [hx] at h2; cases h2
  | map es clock => obtain ⟨_, es', h2, _⟩ := h; rw [hx] at h2; cases h2
  | siter s pos => obtain ⟨_, h2⟩ := h; rw [hx] at h2; cases h2
  | miter m since seen stepped => obtain ⟨_, em, _, h2⟩ := h; rw [hx] at h2; cases h2
  | loop r => obtain ⟨_, tmps, fn, d, h2, _⟩ := h; rw [hx] at h2; cases h2

structure HRel (P : Program) (B : Nat) (w0 : World) (ρ : Ren) (s : ASt) (w : World) : Prop where
  below : Below B w0 w
  base : B ≤ w0.heap.size
  books : Books w0 w
  blk : ∀ id b e, s.heap.get id = some b → ρ id = some e → BRel P ρ w e b
  own : ∀ id b e, s.heap.get id = some b → ρ id = some e → b.ro = false → B ≤ e.blk
  low : ∀ id b e, s.heap.get id = some b → ρ id = some e → b.ro = true → e.blk < B
  inj : ∀ i j b b' e e', s.heap.get i = some b → s.heap.get j = some b' → ρ i = some e → ρ j = some e' → b.ro = false → b'.ro = false → i ≠ j → e.blk ≠ e'.blk
  lt : ∀ id e, ρ id = some e → e.blk < w.heap.size
  glob : ∀ g, g < s.gl → ∃ e, ρ g = some e ∧ e.blk = g ∧ e.off = 0

theorem HRel.size {P : Program} {B : Nat} {w0 : World} {ρ : Ren} {s : ASt} {w : World} (H : HRel P B w0 ρ s w) : B ≤ w.heap.size := Nat.le_trans H.base H.below.size

/-- A draw turns nothing. -/
theorem HRel.drew {P : Program} {B : Nat} {w0 : World} {ρ : Ren} {s : ASt} {w : World} (H : HRel P B w0 ρ s w) : HRel P B w0 ρ s w.drew :=
  { below := H.below.drew, base := H.base, books := H.books, blk := fun id b e hb he => (H.blk id b e hb he).mono (.refl _) rfl, own := H.own, low := H.low, inj := H.inj, lt := H.lt, glob := H.glob }

/-- Only what is mapped counts. -/
theorem HRel.same {P : Program} {B : Nat} {w0 : World} {ρ : Ren} {s s' : ASt} {w : World} (H : HRel P B w0 ρ s w) (hg : s'.gl = s.gl)
    (h : ∀ id e b, ρ id = some e → s'.heap.get id = some b → s.heap.get id = some b) : HRel P B w0 ρ s' w :=
  { below := H.below, base := H.base, books := H.books, lt := H.lt
    blk := fun id b e hb he => H.blk id b e (h id e b he hb) he
    own := fun id b e hb he => H.own id b e (h id e b he hb) he
    low := fun id b e hb he => H.low id b e (h id e b he hb) he
    inj := fun i j b b' e e' hb hb' he he' => H.inj i j b b' e e' (h i e b he hb) (h j e' b' he' hb') he he'
    glob := fun g hlt => H.glob g (hg ▸ hlt) }

/-- The map with one more place. -/
def Ren.ext (ρ : Ren) (id : Nat) (e : RE) : Ren := fun i => if i = id then some e else ρ i

theorem Ren.le_ext {ρ : Ren} {id : Nat} {e : RE} (h : ρ id = none) : ρ.Le (ρ.ext id e) := by
  intro i x hx
  by_cases hi : i = id
  · subst hi; rw [h] at hx; cases hx
  · simp [Ren.ext, hi, hx]
theorem Ren.ext_self {ρ : Ren} {id : Nat} {e : RE} : (ρ.ext id e) id = some e := by simp [Ren.ext]

/-- A world with one more block. -/
theorem HRel.new {P : Program} {B : Nat} {w0 : World} {ρ : Ren} {s : ASt} {w w' : World} (H : HRel P B w0 ρ s w) {id : Nat} {b : ABlk} {e : RE}
    (hf : ρ id = none) (hb : s.heap.get id = some b) (hro : b.ro = false) (he : e.blk = w.heap.size)
    {o : Obj} (hh : w'.heap = w.heap.push o) (hos : w'.os = w.os) (htape : w'.tape = w.tape) (hout : w'.output = w.output)
    (hrel : BRel P (ρ.ext id e) w' e b) : HRel P B w0 (ρ.ext id e) s w' := by
  have hsz : w'.heap.size = w.heap.size + 1 := by rw [hh]; simp
  have hold : ∀ k, k < w.heap.size → w'.heap[k]? = w.heap[k]? := fun k hk => by rw [hh, Array.getElem?_push, if_neg (by omega)]
  have hB : B ≤ w.heap.size := H.size
  have hle := Ren.le_ext (e := e) hf
  have part : ∀ i x, (ρ.ext id e) i = some x → (i = id ∧ x = e) ∨ (i ≠ id ∧ ρ i = some x) := by
    intro i x hx
    by_cases hi : i = id
    · left; simp [Ren.ext, hi] at hx; exact ⟨hi, hx.symm⟩
    · right; simp [Ren.ext, hi] at hx; exact ⟨hi, hx⟩
  refine { below := ?_, base := H.base, books := ?_, blk := ?_, own := ?_, low := ?_, inj := ?_, lt := ?_, glob := ?_ }
  · exact H.below.trans ⟨hos, htape, hout, by omega, fun k hk => hold k (by omega)⟩
  · exact H.books.trans fun k hk => (hold k (Array.getElem?_eq_some_iff.1 hk).1).trans hk
  · intro i b' x hb' hx
    rcases part i x hx with ⟨rfl, rfl⟩ | ⟨hi, hx'⟩
    · rw [hb] at hb'; cases hb'; exact hrel
    · exact (H.blk i b' x hb' hx').mono hle (hold _ (H.lt _ _ hx'))
  · intro i b' x hb' hx hr
    rcases part i x hx with ⟨rfl, rfl⟩ | ⟨hi, hx'⟩
    · omega
    · exact H.own i b' x hb' hx' hr
  · intro i b' x hb' hx hr
    rcases part i x hx with ⟨rfl, rfl⟩ | ⟨hi, hx'⟩
    · rw [hb] at hb'; cases hb'; rw [hro] at hr; cases hr
    · exact H.low i b' x hb' hx' hr
  · intro i j b1 b2 e1 e2 h1 h2 h3 h4 h5 h6 hne
    rcases part i e1 h3 with ⟨rfl, rfl⟩ | ⟨hi, h3'⟩ <;> rcases part j e2 h4 with ⟨rfl, rfl⟩ | ⟨hj, h4'⟩
    · exact absurd rfl hne
    · have := H.lt _ _ h4'; omega
    · have := H.lt _ _ h3'; omega
    · exact H.inj i j b1 b2 e1 e2 h1 h2 h3' h4' h5 h6 hne
  · intro i x hx
    rcases part i x hx with ⟨rfl, rfl⟩ | ⟨hi, hx'⟩
    · omega
    · have := H.lt _ _ hx'; omega
  · intro g hg
    obtain ⟨x, h1, h2⟩ := H.glob g hg
    exact ⟨x, hle _ _ h1, h2⟩

/-- A world with one block turned. -/
theorem HRel.turn {P : Program} {B : Nat} {w0 : World} {ρ : Ren} {s s' : ASt} {w w' : World} (H : HRel P B w0 ρ s w) {id : Nat} {b b' : ABlk} {e : RE}
    (hid : ρ id = some e) (hb : s.heap.get id = some b) (hro : b.ro = false) (hro' : b'.ro = false) (hget : ∀ i, s'.heap.get i = if i = id then some b' else s.heap.get i) (hgl : s'.gl = s.gl)
    (hsz : w'.heap.size = w.heap.size) (hold : ∀ k, k ≠ e.blk → w'.heap[k]? = w.heap[k]?) (hos : w'.os = w.os) (htape : w'.tape = w.tape) (hout : w'.output = w.output)
    (hrel : BRel P ρ w' e b') : HRel P B w0 ρ s' w' := by
  have hB : B ≤ e.blk := H.own _ _ _ hb hid hro
  have at_ : ∀ i x, s'.heap.get i = some x → (i = id ∧ x = b') ∨ (i ≠ id ∧ s.heap.get i = some x) := by
    intro i x hx
    rw [hget] at hx
    by_cases hi : i = id
    · left; simp [hi] at hx; exact ⟨hi, hx.symm⟩
    · right; simp [hi] at hx; exact ⟨hi, hx⟩
  refine { below := ?_, base := H.base, books := ?_, blk := ?_, own := ?_, low := ?_, inj := ?_, lt := ?_, glob := ?_ }
  · exact H.below.trans ⟨hos, htape, hout, by omega, fun k hk => hold k (by omega)⟩
  · exact H.books.trans fun k hk => (hold k fun q => (H.blk id b e hb hid).noBook (q ▸ hk)).trans hk
  · intro i x y hx hy
    rcases at_ i x hx with ⟨rfl, rfl⟩ | ⟨hi, hx'⟩
    · rw [hid] at hy; cases hy; exact hrel
    · refine (H.blk i x y hx' hy).mono (.refl _) (hold _ ?_)
      cases hr : x.ro with
      | false => exact H.inj i id x b y e hx' hb hy hid hr hro hi
      | true => have := H.low i x y hx' hy hr; omega
  · intro i x y hx hy hr
    rcases at_ i x hx with ⟨rfl, rfl⟩ | ⟨hi, hx'⟩
    · rw [hid] at hy; cases hy; exact hB
    · exact H.own i x y hx' hy hr
  · intro i x y hx hy hr
    rcases at_ i x hx with ⟨rfl, rfl⟩ | ⟨hi, hx'⟩
    · rw [hro'] at hr; cases hr
    · exact H.low i x y hx' hy hr
  · intro i j b1 b2 e1 e2 h1 h2 h3 h4 h5 h6 hne
    rcases at_ i b1 h1 with ⟨rfl, rfl⟩ | ⟨hi, h1'⟩ <;> rcases at_ j b2 h2 with ⟨rfl, rfl⟩ | ⟨hj, h2'⟩
    · exact absurd rfl hne
    · exact H.inj i j b b2 e1 e2 hb h2' h3 h4 hro h6 hne
    · exact H.inj i j b1 b e1 e2 h1' hb h3 h4 h5 hro hne
    · exact H.inj i j b1 b2 e1 e2 h1' h2' h3 h4 h5 h6 hne
  · intro i x hx; rw [hsz]; exact H.lt _ _ hx
  · intro g hg; exact H.glob g (hgl ▸ hg)


/-- A row that goes on under another name, in the block where it lies. -/
theorem HRel.move {P : Program} {B : Nat} {w0 : World} {ρ : Ren} {s s' : ASt} {w w' : World} (H : HRel P B w0 ρ s w) {id id' : Nat} {b b' : ABlk} {e e' : RE}
    (hid : ρ id = some e) (hb : s.heap.get id = some b) (hro : b.ro = false) (hf : ρ id' = none) (hro' : b'.ro = false)
    (hget : ∀ i, s'.heap.get i = if i = id' then some b' else if i = id then none else s.heap.get i) (hgl : s'.gl = s.gl)
    (hsz : w'.heap.size = w.heap.size) (hold : ∀ k, k ≠ e.blk → w'.heap[k]? = w.heap[k]?) (hos : w'.os = w.os) (htape : w'.tape = w.tape) (hout : w'.output = w.output)
    (he : e'.blk = e.blk) (hrel : BRel P (ρ.ext id' e') w' e' b') : HRel P B w0 (ρ.ext id' e') s' w' := by
  have hB : B ≤ e.blk := H.own _ _ _ hb hid hro
  have hle := Ren.le_ext (e := e') hf
  have part : ∀ i x, (ρ.ext id' e') i = some x → (i = id' ∧ x = e') ∨ (i ≠ id' ∧ ρ i = some x) := by
    intro i x hx
    by_cases hi : i = id'
    · left; simp [Ren.ext, hi] at hx; exact ⟨hi, hx.symm⟩
    · right; simp [Ren.ext, hi] at hx; exact ⟨hi, hx⟩
  have at_ : ∀ i x y, s'.heap.get i = some x → (ρ.ext id' e') i = some y → (i = id' ∧ x = b' ∧ y = e') ∨ (i ≠ id' ∧ i ≠ id ∧ s.heap.get i = some x ∧ ρ i = some y) := by
    intro i x y hx hy
    rw [hget] at hx
    rcases part i y hy with ⟨hi, hy'⟩ | ⟨hi, hy'⟩
    · left; rw [if_pos hi] at hx; cases hx; exact ⟨hi, rfl, hy'⟩
    · right
      rw [if_neg hi] at hx
      by_cases h2 : i = id
      · rw [if_pos h2] at hx; cases hx
      · rw [if_neg h2] at hx; exact ⟨hi, h2, hx, hy'⟩
  refine { below := ?_, base := H.base, books := ?_, blk := ?_, own := ?_, low := ?_, inj := ?_, lt := ?_, glob := ?_ }
  · exact H.below.trans ⟨hos, htape, hout, by omega, fun k hk => hold k (by omega)⟩
  · exact H.books.trans fun k hk => (hold k fun q => (H.blk id b e hb hid).noBook (q ▸ hk)).trans hk
  · intro i x y hx hy
    rcases at_ i x y hx hy with ⟨rfl, rfl, rfl⟩ | ⟨h1, h2, h3, h4⟩
    · exact hrel
    · refine (H.blk i x y h3 h4).mono hle (hold _ ?_)
      cases hr : x.ro with
      | false => exact H.inj i id x b y e h3 hb h4 hid hr hro h2
      | true => have := H.low i x y h3 h4 hr; omega
  · intro i x y hx hy hr
    rcases at_ i x y hx hy with ⟨rfl, rfl, rfl⟩ | ⟨h1, h2, h3, h4⟩
    · omega
    · exact H.own i x y h3 h4 hr
  · intro i x y hx hy hr
    rcases at_ i x y hx hy with ⟨rfl, rfl, rfl⟩ | ⟨h1, h2, h3, h4⟩
    · rw [hro'] at hr; cases hr
    · exact H.low i x y h3 h4 hr
  · intro i j b1 b2 e1 e2 h1 h2 h3 h4 h5 h6 hne
    rcases at_ i b1 e1 h1 h3 with ⟨rfl, rfl, rfl⟩ | ⟨q1, q2, q3, q4⟩ <;> rcases at_ j b2 e2 h2 h4 with ⟨rfl, rfl, rfl⟩ | ⟨p1, p2, p3, p4⟩
    · exact absurd rfl hne
    · rw [he]; exact Ne.symm (H.inj j id b2 b e2 e p3 hb p4 hid h6 hro p2)
    · rw [he]; exact H.inj i id b1 b e1 e q3 hb q4 hid h5 hro q2
    · exact H.inj i j b1 b2 e1 e2 q3 p3 q4 p4 h5 h6 hne
  · intro i x hx
    rw [hsz]
    rcases part i x hx with ⟨rfl, rfl⟩ | ⟨hi, hx'⟩
    · rw [he]; exact H.lt _ _ hid
    · exact H.lt _ _ hx'
  · intro g hg
    obtain ⟨x, h1, h2⟩ := H.glob g (hgl ▸ hg)
    exact ⟨x, hle _ _ h1, h2⟩

/-- From here on. -/
theorem HRel.rebase {P : Program} {B : Nat} {w0 : World} {ρ : Ren} {s : ASt} {w : World} (H : HRel P B w0 ρ s w) : HRel P B w ρ s w :=
  { below := .refl _ _, base := H.size, books := .refl _, blk := H.blk, own := H.own, low := H.low, inj := H.inj, lt := H.lt, glob := H.glob }

/-- And back. -/
theorem HRel.join {P : Program} {B : Nat} {w0 w : World} {ρ ρ' : Ren} {s s' : ASt} {w' : World} (H : HRel P B w0 ρ s w) (H' : HRel P B w ρ' s' w') : HRel P B w0 ρ' s' w' :=
  { below := H.below.trans H'.below, base := H.base, books := H.books.trans H'.books, blk := H'.blk, own := H'.own, low := H'.low, inj := H'.inj, lt := H'.lt, glob := H'.glob }

/-- A block for deferred calls that came behind w0 is shut: nothing that is mapped turns. -/
theorem HRel.shut {P : Program} {B : Nat} {w0 : World} {ρ : Ren} {s : ASt} {w : World} (H : HRel P B w0 ρ s w) {D : Nat} (hD : w0.heap.size ≤ D) (h : w.heap[D]? = some (.deferred (some []))) (o : Obj) : HRel P B w0 ρ s (w.putObj D o) := by
  have hb := H.base
  refine { below := H.below.trans ⟨rfl, rfl, rfl, by simp, fun k hk => World.putObj_heap_other (by omega)⟩, base := H.base, books := H.books.trans' hD, blk := ?_, own := H.own, low := H.low, inj := H.inj, lt := fun id e he => by simpa using H.lt id e he, glob := H.glob }
  intro id b e hb he
  have r := H.blk id b e hb he
  exact r.mono (.refl _) (World.putObj_heap_other fun q => r.noBook (q ▸ h))

end Go.Vf

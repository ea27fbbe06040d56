import Derived.Test.YtneanogeebbjiaaDoorEngRs
/- Bytes that are put together: a row that grows, be it full or of open room. -/
namespace Go.Vf
set_option linter.unusedVariables false
set_option linter.unusedSimpArgs false

/-- The ground is as it was, and the way through a text stands at a place. -/
structure It where
  p : Nat
  s : SS
def At (s0 : SS) (id : Nat) (l : List UInt8) (x : It) : Prop := Chg s0 x.s [] ∧ s0.next ≤ id ∧ id < x.s.next ∧ lookH x.s.heap id = some (.siter ⟨⟨l⟩⟩ x.p)

theorem At.start (s : SS) (l : List UInt8) : At s s.next l ⟨0, { s with heap := (s.next, some (.siter ⟨⟨l⟩⟩ 0)) :: s.heap, next := s.next + 1 }⟩ := ⟨.new _, Nat.le_refl _, Nat.lt_succ_self _, lkH⟩
theorem At.behind {s0 s : SS} (l : List UInt8) (h : Chg s0 s []) : At s0 s.next l ⟨0, { s with heap := (s.next, some (.siter ⟨⟨l⟩⟩ 0)) :: s.heap, next := s.next + 1 }⟩ := ⟨h.nil (.new _), h.next, Nat.lt_succ_self _, lkH⟩
theorem At.go {s0 : SS} {id : Nat} {l : List UInt8} {p : Nat} {s : SS} (h : At s0 id l ⟨p, s⟩) (p' : Nat) : At s0 id l ⟨p', { s with heap := (id, some (.siter ⟨⟨l⟩⟩ p')) :: s.heap }⟩ :=
  ⟨h.1.fresh (Chg.turn h.2.2.1) (by simp [h.2.1]), h.2.1, h.2.2.1, lkH⟩
theorem At.chg {s0 : SS} {id : Nat} {l : List UInt8} {p : Nat} {s s' : SS} {A : List Nat} (h : At s0 id l ⟨p, s⟩) (c : Chg s s' A) (hA : ∀ i ∈ A, s0.next ≤ i ∧ i ≠ id) : At s0 id l ⟨p, s'⟩ :=
  ⟨h.1.fresh c fun i hi => (hA i hi).1, h.2.1, Nat.lt_of_lt_of_le h.2.2.1 c.next, c.blk _ _ h.2.2.1 (fun q => (hA _ q).2 rfl) h.2.2.2⟩

section
variable {P : Program} {T : TL} {s : SS} {K : RR → Prop} {x y : Operand} {e : TypeId} {base : Option Addr} {a l : List UInt8}

/-- Bytes of one's own, of open room or full. -/
def Buf (e : TypeId) (s : SS) (base : Option Addr) (cap : Nat) (l : List UInt8) : Prop :=
  (cap = 0 ∧ Own e s base l) ∨ (cap = l.length ∧ ∃ b g, base = some ⟨b, 0, none⟩ ∧ b < s.next ∧ lookH s.heap b = some (.cells (bytesV l) e false g))

theorem Own.buf (h : Own e s base l) : Buf e s base 0 l := .inl ⟨rfl, h⟩

theorem Buf.lt {cap : Nat} (h : Buf e s base cap l) : ∀ id ∈ blkOf base, id < s.next := by
  rcases h with ⟨_, h⟩ | ⟨_, b, g, rfl, h1, h2⟩
  · exact h.lt
  · intro id hid
    simp only [blkOf, List.mem_singleton] at hid
    subst hid
    exact h1

theorem Buf.chg {s' : SS} {cap : Nat} {A : List Nat} (h : Buf e s base cap l) (c : Chg s s' A) (hA : ∀ id ∈ blkOf base, id ∉ A) : Buf e s' base cap l := by
  rcases h with ⟨h0, h⟩ | ⟨h0, b, g, rfl, h1, h2⟩
  · exact .inl ⟨h0, h.chg c hA⟩
  · exact .inr ⟨h0, b, g, rfl, Nat.lt_of_lt_of_le h1 c.next, c.blk _ _ h1 (hA b (by simp [blkOf])) h2⟩

theorem Buf.rdb {cap : Nat} (h : Buf e s base cap l) : Rdb s base l.length l := by
  rcases h with ⟨_, h⟩ | ⟨_, b, g, rfl, h1, h2⟩
  · exact h.rdb
  · refine ⟨rfl, rfl, h1, _, _, _, _, h2, ?_, bytesV_plain _⟩
    rw [takeN_bytes (by omega), List.drop_zero, List.take_of_length_le (by omega)]

theorem rdb_lit {b : Nat} {g r : Bool} (hb : lookH s.heap b = some (.cells (bytesV l) e g r)) (h : b < s.next) : Rdb s (some ⟨b, 0, none⟩) l.length l := by
  refine ⟨rfl, rfl, h, _, _, _, _, hb, ?_, bytesV_plain _⟩
  rw [takeN_bytes (by omega), List.drop_zero, List.take_of_length_le (by omega)]

/-- Bytes behind them. -/
theorem app_buf {m n c cap : Nat} {sb : Option Addr} (ho : Buf e s base cap a) (hm : m = a.length) (hx : opd T s.gl x = some (.slice base m cap)) (hy : opd T s.gl y = some (.slice sb n c)) (hr : Rdb s sb n l) (h0 : 0 < n) (hb : m + n ≤ 1073741824)
    (h : ∀ s' : SS, Own e s' (some ⟨s.next, 0, none⟩) (a ++ l) → Chg s s' (blkOf base) → s'.next = s.next + 1 → K (.eff (.slice (some ⟨s.next, 0, none⟩) (m + n) 0) s')) : wN P (.app e 1 1 x y) T s K := by
  rcases ho with ⟨rfl, ho⟩ | ⟨h1, b, g, rfl, h2, h3⟩
  · exact app_own ho hm hx hy hr h0 hb h
  · exact appB_new hx h3 hm hy hr (by omega) (by omega) (h _ ⟨rfl, rfl, Nat.lt_succ_self _, true, lkH, fun q => by cases q⟩ (.new _) rfl)

/-- A byte behind them. -/
theorem app_byte {m c cap b : Nat} {z : Int} {d : UInt8} {g r : Bool} (ho : Buf e s base cap a) (hm : m = a.length) (hx : opd T s.gl x = some (.slice base m cap)) (hy : opd T s.gl y = some (.slice (some ⟨b, 0, none⟩) 1 c)) (hbk : lookH s.heap b = some (.cells [.int .u8 z] e g r)) (hz : z = d.toNat) (hlt : b < s.next) (hb : m + 1 ≤ 1073741824)
    (h : ∀ s' : SS, Own e s' (some ⟨s.next, 0, none⟩) (a ++ [d]) → Chg s s' (blkOf base) → s'.next = s.next + 1 → K (.eff (.slice (some ⟨s.next, 0, none⟩) (m + 1) 0) s')) : wN P (.app e 1 1 x y) T s K := by
  subst hz
  exact app_buf ho hm hx hy (rdb_lit (l := [d]) hbk hlt) (by omega) hb h
theorem Buf.new {cap : Nat} {b : ABlk} (h : Buf e s base cap l) : Buf e { s with heap := (s.next, some b) :: s.heap, next := s.next + 1 } base cap l := h.chg (.new []) (by simp)

/-- A byte that was just laid, behind them. -/
theorem app_lit {m c cap : Nat} {z : Int} {d : UInt8} {g r : Bool} (ho : Buf e s base cap a) (hm : m = a.length) (hx : opd T s.gl x = some (.slice base m cap)) (hy : opd T s.gl y = some (.slice (some ⟨s.next, 0, none⟩) 1 c)) (hz : z = d.toNat) (hb : m + 1 ≤ 1073741824)
    (h : ∀ s' : SS, Own e s' (some ⟨s.next + 1, 0, none⟩) (a ++ [d]) → Chg s s' (blkOf base) → s'.next = s.next + 2 → K (.eff (.slice (some ⟨s.next + 1, 0, none⟩) (m + 1) 0) s')) :
    wN P (.app e 1 1 x y) T { s with heap := (s.next, some (.cells [.int .u8 z] e g r)) :: s.heap, next := s.next + 1 } K :=
  app_byte ho.new hm hx hy lkH hz (Nat.lt_succ_self _) hb fun s' o c n => h s' o ((Chg.new []).nil c) n
end

/-- A result that lies in a cell of its own. -/
theorem ret_cell {P : Program} {T : TL} {s : SS} {K : Value → SS → Prop} {a b : Tmp} {t : TypeId} {n c off : Nat} {cs l : List Value} {e : TypeId} {g r : Bool} {v : Value} (hA : aggB P t = some true) (hz : sizeB P t = some n)
    (ha : look T a = some (.pointer (some ⟨c, off, none⟩))) (hb : lookH s.heap c = some (.cells cs e g r)) (hl : takeN n (cs.drop off) = some l) (hv : look T b = some v) (h : K (.tuple ⟨[.agg ⟨l⟩, v]⟩) s) : runQ P [.cell a t, .tmp b] K .ret T s := by
  have h1 : aOp P (toTr T) s.st (.load t (.tmp a)) = some (.val (.agg ⟨l⟩)) := by
    simp only [aOp, operand, toTr_get, ha, hA, hz, loadRow, SS.get, hb, hl]
    rfl
  unfold runQ
  simp only [resS, h1, hv]
  exact h

/-- What waits on an operation that was left out is left out. -/
theorem gTup {T : TL} {d : Tmp} {b : Bool} {vs : Array Value} {run skip : Prop} (h : look T d = some (.tuple vs)) (hs : skip) : wG T (some (d, b)) run skip := by
  simp only [wG, h]
  exact hs

theorem take_next {α : Type} {l : List α} {p : Nat} {c : α} (h : l[p]? = some c) : l.take (p + 1) = l.take p ++ [c] := by
  rw [List.take_add_one, h]; rfl
theorem drop_next {α : Type} {l : List α} {p : Nat} {c : α} (h : l[p]? = some c) : l.drop p = c :: l.drop (p + 1) := by
  obtain ⟨hp, e⟩ := List.getElem?_eq_some_iff.1 h
  rw [← e, List.drop_eq_getElem_cons hp]
theorem lt_of_get {α : Type} {l : List α} {p : Nat} {c : α} (h : l[p]? = some c) : p < l.length := (List.getElem?_eq_some_iff.1 h).1
theorem byte_id (c : UInt8) : IntKind.wrap .u8 (c.toNat : Int) = (c.toNat : Int) := by rw [wrap_u8]; have := c.toNat_lt; omega
end Go.Vf

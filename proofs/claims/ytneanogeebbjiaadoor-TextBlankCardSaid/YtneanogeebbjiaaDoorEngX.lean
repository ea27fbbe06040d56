import Derived.Test.YtneanogeebbjiaaDoorEngV
import Derived.ChangeSlices
import Derived.Carry
import Derived.OpenVars
import Derived.Handed
/- The machine of plain blocks, by rows: from a row's start to a state, and from its answer to what the row asks. -/
namespace Go.Vf
open Go.RowKit Go.ChangeShapes
set_option linter.unusedVariables false
set_option linter.unusedSimpArgs false

/-! ### Numbers -/

theorem wrap_u8 (x : Int) : IntKind.wrap .u8 x = x % 256 := by simp [IntKind.wrap, IntKind.signed, IntKind.bits]
theorem wrap_u16 (x : Int) : IntKind.wrap .u16 x = x % 65536 := by simp [IntKind.wrap, IntKind.signed, IntKind.bits]
theorem wrap_u32 (x : Int) : IntKind.wrap .u32 x = x % 4294967296 := by simp [IntKind.wrap, IntKind.signed, IntKind.bits]
theorem wrap_u64 (x : Int) : IntKind.wrap .u64 x = x % 18446744073709551616 := by simp [IntKind.wrap, IntKind.signed, IntKind.bits]
theorem wrap_i64 (x : Int) : IntKind.wrap .i64 x = (x + 9223372036854775808) % 18446744073709551616 - 9223372036854775808 := by
  simp [IntKind.wrap, IntKind.signed, IntKind.bits]
  split <;> omega
theorem wrap_i32 (x : Int) : IntKind.wrap .i32 x = (x + 2147483648) % 4294967296 - 2147483648 := by
  simp [IntKind.wrap, IntKind.signed, IntKind.bits]
  split <;> omega
theorem i64_id {x : Int} (h : -9223372036854775808 ≤ x ∧ x ≤ 9223372036854775807) : IntKind.wrap .i64 x = x := by rw [wrap_i64]; omega
theorem u32_id {x : Int} (h : 0 ≤ x ∧ x ≤ 4294967295) : IntKind.wrap .u32 x = x := by rw [wrap_u32]; omega
theorem u8_id {x : Int} (h : 0 ≤ x ∧ x ≤ 255) : IntKind.wrap .u8 x = x := by rw [wrap_u8]; omega

/-! ### Bytes -/

theorem bytesV_len (l : List UInt8) : (bytesV l).length = l.length := by simp [bytesV]
theorem bytesV_get {l : List UInt8} {i : Nat} (h : i < l.length) : (bytesV l)[i]? = some (.int .u8 (l.getD i 0).toNat) := by
  simp [bytesV, List.getD, List.getElem?_eq_getElem h]
theorem bytesV_append (a b : List UInt8) : bytesV a ++ bytesV b = bytesV (a ++ b) := by simp [bytesV]
theorem bytesV_take (l : List UInt8) (n : Nat) : (bytesV l).take n = bytesV (l.take n) := by simp [bytesV, List.map_take]
theorem bytesV_drop (l : List UInt8) (n : Nat) : (bytesV l).drop n = bytesV (l.drop n) := by simp [bytesV, List.map_drop]
theorem all1_bytesV : ∀ l : List UInt8, all1 (bytesV l) = true
  | [] => rfl
  | b :: l => all1_bytesV l
theorem takeN_take : ∀ (n : Nat) (l : List Value), n ≤ l.length → takeN n l = some (l.take n)
  | 0, l, _ => by simp [takeN]
  | n + 1, [], h => by simp at h
  | n + 1, v :: r, h => by simp only [takeN, takeN_take n r (by simpa using h), List.take_succ_cons]
theorem takeN_bytes {l : List UInt8} {off n : Nat} (h : off + n ≤ l.length) : takeN n ((bytesV l).drop off) = some (bytesV ((l.drop off).take n)) := by
  rw [takeN_take _ _ (by simp [bytesV]; omega), bytesV_drop, bytesV_take]
theorem takeN_inv {n : Nat} {l r : List Value} (h : takeN n l = some r) : r = l.take n ∧ n ≤ l.length := takeN_eq _ _ _ h

/-- A slice's first address, its length, and the bytes that it reads. -/
def Rdb (s : SS) (base : Option Addr) (n : Nat) (l : List UInt8) : Prop :=
  n = l.length ∧ match base with
  | none => l = []
  | some ⟨b, off, sp⟩ => sp = none ∧ b < s.next ∧ ∃ c t g r, lookH s.heap b = some (.cells c t g r) ∧ takeN n (c.drop off) = some (bytesV l) ∧ c.all plain1 = true

/-- The byte at a place. -/
theorem Rdb.at {s : SS} {b off n : Nat} {sp : Option Nat} {l : List UInt8} (h : Rdb s (some ⟨b, off, sp⟩) n l) : sp = none ∧ ∃ c t g r, lookH s.heap b = some (.cells c t g r) ∧ ∀ i, i < n → c[off + i]? = some (.int .u8 (l.getD i 0).toNat) := by
  obtain ⟨hn, hs, -, c, t, g, r, h1, h2, -⟩ := h
  refine ⟨hs, c, t, g, r, h1, fun i hi => ?_⟩
  obtain ⟨h3, h4⟩ := takeN_inv h2
  have h5 := bytesV_get (l := l) (i := i) (by omega)
  rw [h3, List.getElem?_take, if_pos hi, List.getElem?_drop] at h5
  exact h5

/-! ### Calls that only read -/

theorem rnL_plain {f : Nat → Option Nat} : ∀ {c : List Value}, c.all plain1 = true → rnL f c = some c
  | [], _ => rfl
  | v :: r, h => by
    simp only [List.all_cons, Bool.and_eq_true] at h
    have hv : rnV f v = some v := by
      have h1 : rn1 f v = some v := by
        unfold rn1
        split
        · exact absurd h.1 (by simp [plain1])
        · exact absurd h.1 (by simp [plain1])
        · exact absurd h.1 (by simp [plain1])
        · rw [h.1]; rfl
      cases v with
      | agg a => exact absurd h.1 (by simp [plain1])
      | tuple a => exact absurd h.1 (by simp [plain1])
      | iface t a => exact absurd h.1 (by simp [plain1])
      | _ => exact h1
    simp only [rnL, hv, rnL_plain h.2]

theorem rnL1_plain {f : Nat → Option Nat} : ∀ {c : List Value}, c.all plain1 = true → rnL1 f c = some c
  | [], _ => rfl
  | v :: r, h => by
    simp only [List.all_cons, Bool.and_eq_true] at h
    have h1 : rn1 f v = some v := by
      unfold rn1
      split
      · exact absurd h.1 (by simp [plain1])
      · exact absurd h.1 (by simp [plain1])
      · exact absurd h.1 (by simp [plain1])
      · rw [h.1]; rfl
    simp only [rnL1, h1, rnL1_plain h.2]

theorem rn1_plain {f : Nat → Option Nat} {v : Value} (h : plain1 v = true) : rn1 f v = some v := by
  unfold rn1
  split
  · exact absurd h (by simp [plain1])
  · exact absurd h (by simp [plain1])
  · exact absurd h (by simp [plain1])
  · rw [h]; rfl

theorem rnV_plain {f : Nat → Option Nat} {v : Value} (h : plainV v = true) : rnV f v = some v := by
  cases v with
  | agg a => simp only [rnV, rnL1_plain (show a.toList.all plain1 = true from h)]
  | tuple a => simp only [rnV, rnL1_plain (show a.toList.all plain1 = true from h)]
  | iface t a => simp only [rnV, rn1_plain (show plain1 a = true from h)]
  | _ =>
    simp only [plainV] at h
    simp only [rnV]
    exact rn1_plain h

theorem bytesV_plain (l : List UInt8) : (bytesV l).all plain1 = true := by
  induction l with
  | nil => rfl
  | cons b l ih => simp [bytesV, plain1]

/-- A block as nobody writes it. -/
def ABlk.shut : ABlk → ABlk
  | .cells c t g _ => .cells c t g true
  | b => b

/-- Some blocks of a state, nobody writes them. -/
def subH (H : List (Nat × Option ABlk)) : List Nat → List (Nat × Option ABlk)
  | [] => []
  | id :: r => (id, (lookH H id).map ABlk.shut) :: subH H r

def SS.part (s : SS) (need : List Nat) : SS := ⟨subH s.heap need, s.next, s.gl⟩

theorem subH_look (H : List (Nat × Option ABlk)) : ∀ (need : List Nat) (id : Nat), id ∈ need → lookH (subH H need) id = (lookH H id).map ABlk.shut
  | [], id, h => by cases h
  | j :: r, id, h => by
    simp only [subH, lookH]
    rcases beq_cases j id with ⟨e, he⟩ | ⟨e, he⟩
    · rw [he, e]; rfl
    · rw [he, cond_false]
      rcases List.mem_cons.1 h with q | q
      · exact absurd q.symm e
      · exact subH_look H r id q

def idF (n : Nat) (i : Nat) : Option Nat := bif Nat.blt i n then some i else none

theorem range_get (n i : Nat) : (List.range n)[i]? = idF n i := by
  unfold idF
  rcases Nat.lt_or_ge i n with h | h
  · rw [show Nat.blt i n = true from by rw [Nat.blt_eq]; exact h, List.getElem?_range h]; rfl
  · rw [show Nat.blt i n = false from by rw [← Bool.not_eq_true, Nat.blt_eq]; omega, List.getElem?_eq_none (by simpa using h)]; rfl

/-- Blocks without addresses. -/
def PlainAt (s : SS) (id : Nat) : Prop := id < s.next ∧ ∃ c t g r, lookH s.heap id = some (.cells c t g r) ∧ c.all plain1 = true

theorem CallOk.reads {P : Program} {f : FuncId} {args : List Value} {s : SS} {v : Value} (need : List Nat) (hneed : ∀ id ∈ need, PlainAt s id) (ha : rnL (idF s.next) args = some args) (hgl : s.gl ≤ s.next) (hp : plainV v = true)
    (h : CallW P f args (s.part need) fun v' _ => v' = v) : CallOk P f args s.st v s.st := by
  have hf : (fun i => (List.range s.next)[i]?) = idF s.next := funext fun i => range_get _ _
  have := CallOk.lift (bs := []) (v' := v) (τ := List.range s.next) (s := s) (args := args) h (by simp [SS.part]) (fun j hj => List.mem_range.1 hj) rfl
    (fun g hg => by rw [range_get]; unfold idF; rw [show Nat.blt g s.next = true from by rw [Nat.blt_eq]; omega]; rfl) (by rw [hf]; exact ha) ?_ (by simp) ?_
  · exact this
  · show InH _ _ (subH s.heap need)
    clear h ha
    induction need with
    | nil => trivial
    | cons id r ih =>
      obtain ⟨h1, c, t, g, ro, h2, h3⟩ := hneed id (List.mem_cons_self ..)
      simp only [subH, h2, Option.map_some, ABlk.shut]
      refine ⟨⟨rfl, id, _, by rw [range_get]; unfold idF; rw [show Nat.blt id s.next = true from by rw [Nat.blt_eq]; exact h1]; rfl, h2, ?_⟩, ih fun j hj => hneed j (List.mem_cons_of_mem _ hj)⟩
      simp only [rnB, rnL_plain h3, ABlk.ro]
  · intro v1 s1 hv
    subst hv
    refine ⟨[], List.nodup_nil, rfl, (by simp), ?_, (by simp)⟩
    exact rnV_plain hp

theorem CallW.of_ok {P : Program} {f : FuncId} {args : List Value} {s s1 : SS} {v : Value} {K : Value → SS → Prop} (h : CallOk P f args s.st v s1.st) (hk : K v s1) : CallW P f args s K := ⟨v, s1, hk, h⟩

def isB (r : Option (Value × ASt)) (b : Bool) : Bool :=
  match r with
  | some (.bool c, _) => c == b
  | _ => false

/-- A call that the machine has answered, of which the value alone is asked for. -/
theorem CallW.of_run {P : Program} (G : Good P) {lf d : Nat} {f : FuncId} {args : List Value} {s : SS} {b : Bool} (h : isB (aCall P lf d f args s.st) b = true) : CallW P f args s fun v _ => v = .bool b := by
  unfold isB at h
  split at h
  · rename_i c s' hc
    obtain ⟨h1, h2, h3⟩ := aCall_ok G d f args s.st _ _ hc
    refine ⟨.bool c, ⟨[], s'.next, s'.gl⟩, by simpa using h, h1, h2, fun B w0 ρ args' w H ha hf => ?_⟩
    refine (h3 B w0 ρ args' w H ha hf).mono fun e w' he => ?_
    obtain ⟨v', ρ', rfl, q1, q2, q3⟩ := he
    exact ⟨v', ρ', rfl, q1, (q2.same (s' := SS.st ⟨[], s'.next, s'.gl⟩) rfl fun id e b _ hb => by rw [SS.get] at hb; cases hb), q3⟩
  · cases h

/-! ### A row's start -/

/-- Where a state's blocks lie, by their numbers. -/
def renOf (bs : List (RE × ABlk)) : Ren := fun id => bs[id]?.map Prod.fst

def heapOf : Nat → List (RE × ABlk) → List (Nat × Option ABlk)
  | _, [] => []
  | n, (_, b) :: r => (n, some b) :: heapOf (n + 1) r

theorem heapOf_look : ∀ (l : List (RE × ABlk)) (n id : Nat), lookH (heapOf n l) id = if n ≤ id then l[id - n]?.map Prod.snd else none
  | [], n, id => by simp [heapOf, lookH]
  | (e, b) :: r, n, id => by
    simp only [heapOf, lookH]
    rcases beq_cases n id with ⟨h, hb⟩ | ⟨h, hb⟩
    · subst h; simp
    · rw [hb, cond_false, heapOf_look r (n + 1) id]
      by_cases h1 : n + 1 ≤ id
      · rw [if_pos h1, if_pos (by omega), show id - n = (id - (n + 1)) + 1 from by omega, List.getElem?_cons_succ]
      · rw [if_neg h1, if_neg (by omega)]

def startS (bs : List (RE × ABlk)) (gl : Nat) : SS := ⟨heapOf 0 bs, bs.length, gl⟩

theorem startS_rel {P : Program} {W : World} {bs : List (RE × ABlk)} {gl : Nat} (h : ∀ (i : Nat) e b, bs[i]? = some (e, b) → BRel P (renOf bs) W e b ∧ b.ro = true ∧ e.blk < W.heap.size)
    (hg : ∀ g, g < gl → ∃ e b, bs[g]? = some (e, b) ∧ e.blk = g ∧ e.off = 0) : HRel P W.heap.size W (renOf bs) (startS bs gl).st W ∧ FreeFrom (renOf bs) (startS bs gl).next := by
  have get : ∀ id b e, (startS bs gl).st.heap.get id = some b → renOf bs id = some e → bs[id]? = some (e, b) := by
    intro id b e hb he
    rw [SS.get] at hb
    simp only [startS, heapOf_look, Nat.zero_le, if_true, Nat.sub_zero] at hb
    simp only [renOf] at he
    cases hx : bs[id]? with
    | none => rw [hx] at hb; cases hb
    | some x =>
      rw [hx] at hb he
      obtain ⟨e', b'⟩ := x
      cases hb; cases he; rfl
  refine ⟨⟨.refl _ _, Nat.le_refl _, .refl _, ?_, ?_, ?_, ?_, ?_, ?_⟩, ?_⟩
  · intro id b e hb he; exact (h _ _ _ (get _ _ _ hb he)).1
  · intro id b e hb he hr; rw [(h _ _ _ (get _ _ _ hb he)).2.1] at hr; cases hr
  · intro id b e hb he hr; exact (h _ _ _ (get _ _ _ hb he)).2.2
  · intro i j b b' e e' hb _ he _ hr; rw [(h _ _ _ (get _ _ _ hb he)).2.1] at hr; cases hr
  · intro id e he
    simp only [renOf] at he
    cases hx : bs[id]? with
    | none => rw [hx] at he; cases he
    | some x =>
      rw [hx] at he
      obtain ⟨e', b'⟩ := x
      cases he
      exact (h _ _ _ hx).2.2
  · intro g hlt
    obtain ⟨e, b, h1, h2, h3⟩ := hg g hlt
    exact ⟨e, by simp [renOf, h1], h2, h3⟩
  · intro id hid
    simp only [renOf]
    rw [List.getElem?_eq_none (by exact hid)]; rfl

theorem plain1_inv {ρ : Ren} {v w : Value} (hp : plain1 v = true) (q : VRel ρ v w) : w = v := by
  cases v with
  | func fn x y =>
    simp [plain1] at hp
    obtain ⟨⟨hy, rfl⟩, rfl⟩ := hp
    cases q with
    | yield => cases hy
    | func fn _ h1 h2 h3 h4 =>
      simp at h1 h2
      have e1 := h1.symm
      have e2 := h2.symm
      simp at e1 e2
      rw [e1, e2]
  | pointer x => cases x <;> simp [plain1] at hp; cases q; rfl
  | slice x l c => cases x <;> simp [plain1] at hp; cases q; rfl
  | map x => cases x <;> simp [plain1] at hp; cases q; rfl
  | chan x => cases x <;> simp [plain1] at hp; cases q; rfl
  | agg x => simp [plain1] at hp
  | tuple x => simp [plain1] at hp
  | iface t x => simp [plain1] at hp
  | _ => cases q; rfl

theorem plainL_inv {ρ : Ren} {l w : List Value} (hp : l.all plain1 = true) (q : LRel ρ l w) : w = l := by
  refine List.ext_getElem? fun i => ?_
  rcases Nat.lt_or_ge i l.length with h | h
  · obtain ⟨v', h1, h2⟩ := q.get (List.getElem?_eq_getElem h)
    rw [h1, List.getElem?_eq_getElem h, plain1_inv (List.all_eq_true.1 hp _ (List.getElem_mem h)) h2]
  · rw [List.getElem?_eq_none h, List.getElem?_eq_none (by rw [← q.1]; exact h)]

theorem plain_inv {ρ : Ren} {v w : Value} (hp : plainV v = true) (q : VRel ρ v w) : w = v := by
  cases v with
  | agg a =>
    cases q with
    | agg h1 h2 =>
      have := plainL_inv (by simpa [plainV] using hp) (⟨h1, h2⟩ : LRel ρ a.toList _)
      congr 1
      exact Array.toList_inj.1 this
  | tuple a =>
    cases q with
    | tuple h1 h2 =>
      have := plainL_inv (by simpa [plainV] using hp) (⟨h1, h2⟩ : LRel ρ a.toList _)
      congr 1
      exact Array.toList_inj.1 this
  | iface t v => cases q with | iface t q => rw [plain1_inv (by simpa [plainV] using hp) q]
  | _ => exact plain1_inv (by simpa [plainV] using hp) q

/-- From the small state's answer to the world's. -/
theorem CallW.answer {P : Program} {f : FuncId} {args : List Value} {s : SS} {v : Value} {ρ : Ren} {W : World} {args' : List Value} (h : CallW P f args s fun v' _ => v' = v) (hp : plainV v = true)
    (H : HRel P W.heap.size W ρ s.st W) (hf : FreeFrom ρ s.next) (ha : LRel ρ args args') : Calls P f ⟨args'⟩ W fun e w' => e = .returned v ∧ Below W.heap.size W w' := by
  refine (h.zero _ _ _ _ _ H ha hf).mono fun e w' he => ?_
  obtain ⟨v', u, s', ρ', rfl, hk, hv, H', _⟩ := he
  subst hk
  exact ⟨by rw [plain_inv hp hv], H'.below⟩

/-! ### What a row gives -/

section
variable {H : Type} {enc : TypeId × Value → H} {P : Program} {W : World}

theorem rowAt_off {fits : TypeId → Bool} {d : Nat} {e : TypeId} {count off n : Nat} (h : rowAt P fits d e count off n = true) : off ≤ count * P.cellsOf e := by
  cases d with
  | zero => simp [rowAt] at h
  | succ d =>
    simp only [rowAt] at h
    by_cases hs : P.cellsOf e = 0
    · simp [hs] at h
    · simp only [hs, if_false, Bool.or_eq_true, Bool.and_eq_true, beq_iff_eq, decide_eq_true_eq] at h
      have hdm := Nat.div_add_mod off (P.cellsOf e)
      have hm := Nat.mod_lt off (show 0 < P.cellsOf e by omega)
      rcases h with ⟨⟨h1, h2⟩, -⟩ | ⟨h1, -⟩
      · have : P.cellsOf e * (off / P.cellsOf e) ≤ P.cellsOf e * count := Nat.mul_le_mul_left _ (by omega)
        rw [Nat.mul_comm count]; omega
      · have : P.cellsOf e * (off / P.cellsOf e + 1) ≤ P.cellsOf e * count := Nat.mul_le_mul_left _ (by omega)
        rw [Nat.mul_add, Nat.mul_one] at this
        rw [Nat.mul_comm count]; omega

theorem liesAt_off : ∀ {d : Nat} {e : TypeId} {count off : Nat} {u : TypeId} {n : Nat}, liesAt P d e count off u n = true → off ≤ count * P.cellsOf e
  | 0, _, _, _, _, _, h => by simp [liesAt] at h
  | d + 1, e, count, off, u, n, h => by
    simp only [liesAt, Bool.or_eq_true] at h
    rcases h with h | h
    · exact rowAt_off h
    · split at h
      · exact liesAt_off h
      · cases h

/-- Ints that a slice reads: where they lie. -/
theorem open_slice {t e : TypeId} {k : IntKind} {v : Value} {d : DataW H} {ps : List MemPlace} {base : Nat} (ht : P.underlying t = some (.slice e)) (he : P.underlying e = some (.int k)) (hc : (P.info? e).map (·.size) = some 1)
    (hok : Value.okWide P W .any base t v) (h : DataW.Trod enc P W 0 (fun _ => true) true t v d ps) (hnf : ∀ b off, MemPlace.cell b off ∈ ps → W.frozen? ⟨b, off, none⟩ = false) :
    v = .slice none 0 0 ∨ ∃ b off n cap, ∃ zs : List Int, v = .slice (some ⟨b, off, none⟩) n cap ∧ n ≤ cap ∧ zs.length = n ∧ b < W.heap.size ∧ (∀ z ∈ zs, (Lit.int k z).wf = true) ∧
      ∀ ρ, BRel P ρ W ⟨b, off, cap, 1, true⟩ (.cells (zs.map fun z => .int k z) e true true) := by
  have hc' : P.cellsOf e = 1 := by unfold Program.cellsOf; rw [hc]; rfl
  obtain ⟨fuel, h⟩ := h
  have hcell : Cell.ok P W .any base t v := by
    unfold Value.okWide at hok
    rw [ht] at hok
    simp only [Cell.okWide, ht] at hok
    exact hok
  unfold Cell.ok at hcell
  rw [ht] at hcell
  split at hcell <;> first
    | (rename_i q; simp at q; done)
    | exact hcell.elim
    | skip
  · left; rfl
  · rename_i e' a len cap q
    cases q
    right
    obtain ⟨h1, h2, h3, h4, row, cells, h5, h6⟩ := hcell
    rcases open_ints ht he hc' h with ⟨e1, e2⟩ | ⟨a', len', cap', zs, e1, e2, e3, e4, e5, e6, e7, e8⟩
    · simp [Value.cells] at e1
    · simp [Value.cells] at e1
      obtain ⟨rfl, rfl, rfl⟩ := e1
      obtain ⟨b, off, sp⟩ := a
      simp only at h4
      subst h4
      simp only [if_true] at e5
      cases hb : W.heap[b]? with
      | none => simp [World.shape?, hb] at h5
      | some o =>
        cases o with
        | cells rc T0 fr =>
          obtain ⟨rc⟩ := rc
          obtain ⟨lo, hi⟩ := fr
          have hbs : b < W.heap.size := (Array.getElem?_eq_some_iff.1 hb).1
          have hcells : rc.length = cells ∧ T0 = row := by
            simp only [World.shape?, hb, Option.some.injEq, Prod.mk.injEq] at h5
            exact ⟨by have := h5.2; simpa using this, h5.1⟩
          have hoff : off ≤ rc.length := by
            have h6' : off ≤ cells / P.cellsOf row * P.cellsOf row := liesAt_off h6
            have hle := Nat.div_mul_le_self cells (P.cellsOf row)
            omega
          have cell : ∀ i, i < zs.length → rc[off + i]? = some (.int k (zs.getD i 0)) := by
            intro i hi
            have := e7 i hi
            rw [show (⟨b, off, none⟩ : Addr).add i = ⟨b, off + i, none⟩ from addL _ _ _] at this
            simpa [World.cell?, hb] using this
          have hroom : off + cap ≤ rc.length := by
            rcases Nat.eq_zero_or_pos cap with q | q
            · omega
            · have := cell (cap - 1) (by omega)
              have := (List.getElem?_eq_some_iff.1 this).1
              omega
          refine ⟨b, off, len, cap, zs.take len, rfl, h1, by simp; omega, hbs, fun z hz => e8 z (List.mem_of_mem_take hz), fun ρ => ⟨rfl, rc, lo, hi, T0, hb, (fun z => by cases z), fun i hi' hc2 => ?_, hroom, by simp; omega, hc, fun i v hv => ?_⟩⟩
          · have hi2 : i < cap := hi'
            have hc3 : lo ≤ off + i ∧ off + i < hi := hc2
            have hin : MemPlace.cell b (off + i) ∈ ps := by
              have := congrArg Prod.snd e6
              simp only at this
              rw [this]
              exact List.mem_map.2 ⟨i, List.mem_range.2 (by omega), rfl⟩
            have := hnf b (off + i) hin
            simp only [World.frozen?, hb] at this
            simp at this
            omega
          · have hil : i < len := by
              have := (List.getElem?_eq_some_iff.1 hv).1
              simp at this; omega
            simp only [List.getElem?_map, List.getElem?_take, if_pos hil] at hv
            refine ⟨_, cell i (by omega), ?_⟩
            cases hz : zs[i]? with
            | none => rw [hz] at hv; cases hv
            | some z =>
              rw [hz] at hv; cases hv
              rw [List.getD, hz]
              exact .int _ _
        | _ => simp [World.shape?, hb] at h5
end
end Go.Vf

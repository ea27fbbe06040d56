import Derived.Test.YtioildcpkcijkaaDoorDkB
/- A disk, as the program holds it. -/
namespace Go.Vf.S
open Go Go.Vf
attribute [local irreducible] wSeq wRow wp wG
set_option linter.unusedVariables false
set_option linter.unusedSimpArgs false
set_option maxRecDepth 10000

/-- What a disk is. -/
structure Dk where
  cap : Nat
  full : Bool
  sure : List UInt8
  now : List UInt8
  ws : List (Nat × List UInt8)

abbrev WB := Nat × List UInt8 × Option Addr

/-- Where it lies. -/
structure Bs where
  S : Option Addr
  N : Option Addr
  W : Option Addr
  cw : Nat
  wl : List WB

def wCell (w : WB) : List Value := [.int .i64 w.1, .slice w.2.2 w.2.1.length 0]
def wCells (l : List WB) : List Value := l.flatMap wCell

theorem wCells_len : ∀ l : List WB, (wCells l).length = 2 * l.length
  | [] => rfl
  | w :: l => by
    have := wCells_len l
    simp only [wCells, List.flatMap_cons, List.length_append, List.length_cons] at this ⊢
    rw [this]
    simp [wCell]
    omega
theorem wCells_app (a b : List WB) : wCells (a ++ b) = wCells a ++ wCells b := by simp [wCells]
theorem wCells_drop : ∀ (l : List WB) (i : Nat), (wCells l).drop (2 * i) = wCells (l.drop i)
  | l, 0 => by simp
  | [], i + 1 => by simp [wCells]
  | w :: l, i + 1 => by
    have := wCells_drop l i
    rw [show 2 * (i + 1) = 2 * i + 2 from by omega]
    simp only [wCells, List.flatMap_cons, wCell, List.drop_succ_cons] at this ⊢
    exact this
theorem wCells_at {l : List WB} {i : Nat} (h : i < l.length) : takeN 2 ((wCells l).drop (2 * i)) = some (wCell (l[i])) := by
  rw [wCells_drop, List.drop_eq_getElem_cons h]
  rfl
theorem wCells_get {l : List WB} {i : Nat} (h : i < l.length) : (wCells l)[2 * i + 1]? = some (.slice (l[i]).2.2 (l[i]).2.1.length 0) ∧ (wCells l)[2 * i]? = some (.int .i64 (l[i]).1) := by
  have := wCells_drop l i
  rw [List.drop_eq_getElem_cons h] at this
  constructor
  · have h1 : ((wCells l).drop (2 * i))[1]? = some (.slice (l[i]).2.2 (l[i]).2.1.length 0) := by rw [this]; rfl
    rw [List.getElem?_drop] at h1
    exact h1
  · have h1 : ((wCells l).drop (2 * i))[0]? = some (.int .i64 (l[i]).1) := by rw [this]; rfl
    rw [List.getElem?_drop] at h1
    exact h1

/-- The row of what waits. -/
def OwnW (s : SS) (W : Option Addr) (cw : Nat) (wl : List WB) : Prop :=
  match W with
  | none => wl = [] ∧ cw = 0
  | some ⟨b, off, sp⟩ => off = 0 ∧ sp = none ∧ b < s.next ∧ ∃ g, lookH s.heap b = some (.cells (wCells wl) tW g false) ∧ (g = false → cw = wl.length)

theorem OwnW.lt {s : SS} {W : Option Addr} {cw : Nat} {wl : List WB} (h : OwnW s W cw wl) : ∀ id ∈ blkOf W, id < s.next := by
  cases W with
  | none => simp [blkOf]
  | some a =>
    obtain ⟨b, off, sp⟩ := a
    intro id hid
    simp only [blkOf, List.mem_singleton] at hid
    subst hid
    exact h.2.2.1
theorem OwnW.chg {s s' : SS} {W : Option Addr} {cw : Nat} {wl : List WB} {A : List Nat} (h : OwnW s W cw wl) (c : Chg s s' A) (hA : ∀ id ∈ blkOf W, id ∉ A) : OwnW s' W cw wl := by
  cases W with
  | none => exact h
  | some a =>
    obtain ⟨b, off, sp⟩ := a
    obtain ⟨h1, h2, h3, g, h4, h5⟩ := h
    exact ⟨h1, h2, Nat.lt_of_lt_of_le h3 c.next, g, c.blk _ _ h3 (hA b (by simp [blkOf])) h4, h5⟩

theorem type_ne {H : List (Nat × Option ABlk)} {i j : Nat} {c c' : List Value} {t t' : TypeId} {g g' r r' : Bool} (h : lookH H i = some (.cells c t g r)) (h' : lookH H j = some (.cells c' t' g' r')) (ht : t ≠ t') : i ≠ j := by
  intro e
  subst e
  rw [h] at h'
  cases h'
  exact ht rfl
theorem ro_ne {H : List (Nat × Option ABlk)} {i j : Nat} {c c' : List Value} {t t' : TypeId} {g g' : Bool} (h : lookH H i = some (.cells c t g true)) (h' : lookH H j = some (.cells c' t' g' false)) : i ≠ j := by
  intro e
  subst e
  rw [h] at h'
  cases h'

theorem _root_.Go.Vf.Own.at {s : SS} {B : Option Addr} {l : List UInt8} (h : Own tB s B l) : ∀ id ∈ blkOf B, ∃ g, lookH s.heap id = some (.cells (bytesV l) tB g false) := by
  cases B with
  | none => simp [blkOf]
  | some a =>
    obtain ⟨b, off, sp⟩ := a
    intro id hid
    simp only [blkOf, List.mem_singleton] at hid
    subst hid
    obtain ⟨h1, h2, h3, g, h4, h5⟩ := h
    exact ⟨g, h4⟩
theorem OwnW.at {s : SS} {W : Option Addr} {cw : Nat} {wl : List WB} (h : OwnW s W cw wl) : ∀ id ∈ blkOf W, ∃ g, lookH s.heap id = some (.cells (wCells wl) tW g false) := by
  cases W with
  | none => simp [blkOf]
  | some a =>
    obtain ⟨b, off, sp⟩ := a
    intro id hid
    simp only [blkOf, List.mem_singleton] at hid
    subst hid
    obtain ⟨h1, h2, h3, g, h4, h5⟩ := h
    exact ⟨g, h4⟩

def foot (d : Nat) (B : Bs) : List Nat := d :: (blkOf B.S ++ blkOf B.N ++ blkOf B.W)
def bytesOfW (B : Bs) : List Nat := B.wl.flatMap fun w => blkOf w.2.2
def whole (d : Nat) (B : Bs) : List Nat := foot d B ++ bytesOfW B

def dCells (A : Dk) (B : Bs) : List Value := [.bool true, .bool A.full, .int .i64 A.cap, .slice B.S A.sure.length 0, .slice B.N A.now.length 0, .slice B.W B.wl.length B.cw]

structure DAt (s : SS) (d : Nat) (A : Dk) (B : Bs) : Prop where
  obj : lookH s.heap d = some (.cells (dCells A B) tD false false)
  lt : d < s.next
  sure : Own tB s B.S A.sure
  now : Own tB s B.N A.now
  row : OwnW s B.W B.cw B.wl
  each : ∀ w ∈ B.wl, Own tB s w.2.2 w.2.1 ∧ w.1 + w.2.1.length ≤ A.cap ∧ ∀ id ∈ blkOf w.2.2, id ∉ blkOf B.S ∧ id ∉ blkOf B.N
  sep : ∀ id ∈ blkOf B.S, id ∉ blkOf B.N
  cap : A.cap ≤ 1048576
  lnow : A.now.length ≤ A.cap
  lsure : A.sure.length ≤ A.cap
  lws : B.wl.length ≤ 10000
  ews : B.wl.map (fun w => (w.1, w.2.1)) = A.ws

theorem DAt.blt {s : SS} {d : Nat} {A : Dk} {B : Bs} (h : DAt s d A B) : ∀ id ∈ whole d B, id < s.next := by
  intro id hid
  simp only [whole, foot, bytesOfW, List.mem_append, List.mem_cons, List.mem_flatMap] at hid
  rcases hid with (rfl | (q | q) | q) | ⟨w, hw, q⟩
  · exact h.lt
  · exact h.sure.lt _ q
  · exact h.now.lt _ q
  · exact h.row.lt _ q
  · exact (h.each w hw).1.lt _ q

theorem DAt.chg {s s' : SS} {d : Nat} {A : Dk} {B : Bs} {Z : List Nat} (h : DAt s d A B) (c : Chg s s' Z) (hZ : ∀ id ∈ whole d B, id ∉ Z) : DAt s' d A B := by
  have mS : ∀ id ∈ blkOf B.S, id ∉ Z := fun id q => hZ id (by simp [whole, foot, q])
  have mN : ∀ id ∈ blkOf B.N, id ∉ Z := fun id q => hZ id (by simp [whole, foot, q])
  have mW : ∀ id ∈ blkOf B.W, id ∉ Z := fun id q => hZ id (by simp [whole, foot, q])
  have mB : ∀ w ∈ B.wl, ∀ id ∈ blkOf w.2.2, id ∉ Z := fun w hw id q => hZ id (by
    simp only [whole, bytesOfW, List.mem_append, List.mem_flatMap]
    exact .inr ⟨w, hw, q⟩)
  exact ⟨c.blk _ _ h.lt (hZ d (by simp [whole, foot])) h.obj, Nat.lt_of_lt_of_le h.lt c.next, h.sure.chg c mS, h.now.chg c mN, h.row.chg c mW,
    fun w hw => ⟨(h.each w hw).1.chg c (mB w hw), (h.each w hw).2⟩, h.sep, h.cap, h.lnow, h.lsure, h.lws, h.ews⟩

/-- What a call does to a disk's place. -/
structure Step (d : Nat) (s : SS) (B : Bs) (s' : SS) (B' : Bs) : Prop where
  chg : Chg s s' (foot d B)
  ft : ∀ id ∈ foot d B', id ∈ foot d B ∨ s.next ≤ id
  al : ∀ id ∈ whole d B', id ∈ whole d B ∨ s.next ≤ id

theorem Step.trans {d : Nat} {s s1 s2 : SS} {B B1 B2 : Bs} (h : Step d s B s1 B1) (k : Step d s1 B1 s2 B2) : Step d s B s2 B2 := by
  have := h.chg.next
  refine ⟨h.chg.trans' k.chg (fun id q _ => q) (fun id q hid => ?_), fun id q => ?_, fun id q => ?_⟩
  · rcases h.ft id q with r | r
    · exact r
    · omega
  · rcases k.ft id q with r | r
    · exact h.ft id r
    · exact .inr (by omega)
  · rcases k.al id q with r | r
    · exact h.al id r
    · exact .inr (by omega)
theorem Step.refl (d : Nat) (s : SS) (B : Bs) : Step d s B s B := ⟨.refl s _, fun id q => .inl q, fun id q => .inl q⟩
theorem Step.of {d : Nat} {s s' : SS} {B : Bs} (c : Chg s s' []) : Step d s B s' B := ⟨c.sub (by simp), fun id q => .inl q, fun id q => .inl q⟩

/-! ### Its small calls -/

theorem DAt.is {s : SS} {d : Nat} {A : Dk} {B : Bs} (h : DAt s d A B) : CallW pr n_disk_Disk_none [.pointer (some ⟨d, 0, none⟩)] s fun v s' => v = .bool false ∧ s' = s := none_w h.obj

theorem end_w {s : SS} {d : Nat} {A : Dk} {B : Bs} (h : DAt s d A B) : CallW pr n_disk_Disk_End [.pointer (some ⟨d, 0, none⟩)] s fun v s' => v = .int .i64 A.now.length ∧ s' = s := by
  refine CallW.run good ok_disk_Disk_End (by simp) rfl ?_
  (repeat(first|refine pSeq ?_|refine pReg ?_|refine sCons ?_|refine sNil ?_|refine pSkip ?_|refine pRet ?_|refine pCond ?_|refine gNone ?_))
  refine h.is.mono fun v s' q => ?_
  obtain ⟨rfl, rfl⟩ := q
  (repeat(first|refine pSeq ?_|refine pReg ?_|refine sCons ?_|refine sNil ?_|refine pSkip ?_|refine pRet ?_|refine pCond ?_|refine gNone ?_))
  refine ld1_is rfl h.obj rfl ?_
  (repeat(first|refine pSeq ?_|refine pReg ?_|refine sCons ?_|refine sNil ?_|refine pSkip ?_|refine pRet ?_|refine pCond ?_|refine gNone ?_))
  exact ⟨rfl, rfl⟩

theorem waits_w {s : SS} {d : Nat} {A : Dk} {B : Bs} (h : DAt s d A B) : CallW pr n_disk_Disk_Waits [.pointer (some ⟨d, 0, none⟩)] s fun v s' => v = .int .i64 A.ws.length ∧ s' = s := by
  have e : A.ws.length = B.wl.length := by rw [← h.ews, List.length_map]
  refine CallW.run good ok_disk_Disk_Waits (by simp) rfl ?_
  (repeat(first|refine pSeq ?_|refine pReg ?_|refine sCons ?_|refine sNil ?_|refine pSkip ?_|refine pRet ?_|refine pCond ?_|refine gNone ?_))
  refine h.is.mono fun v s' q => ?_
  obtain ⟨rfl, rfl⟩ := q
  (repeat(first|refine pSeq ?_|refine pReg ?_|refine sCons ?_|refine sNil ?_|refine pSkip ?_|refine pRet ?_|refine pCond ?_|refine gNone ?_))
  refine ld1_is rfl h.obj rfl ?_
  (repeat(first|refine pSeq ?_|refine pReg ?_|refine sCons ?_|refine sNil ?_|refine pSkip ?_|refine pRet ?_|refine pCond ?_|refine gNone ?_))
  rw [e]
  exact ⟨rfl, rfl⟩

theorem DAt.apart {s : SS} {d : Nat} {A : Dk} {B : Bs} (h : DAt s d A B) : (∀ id ∈ blkOf B.S, d ≠ id) ∧ (∀ id ∈ blkOf B.N, d ≠ id) ∧ (∀ id ∈ blkOf B.W, d ≠ id) ∧ (∀ w ∈ B.wl, ∀ id ∈ blkOf w.2.2, d ≠ id) :=
  ⟨fun id q => let ⟨_, e⟩ := h.sure.at id q; type_ne h.obj e (by decide), fun id q => let ⟨_, e⟩ := h.now.at id q; type_ne h.obj e (by decide), fun id q => let ⟨_, e⟩ := h.row.at id q; type_ne h.obj e (by decide),
    fun w hw id q => let ⟨_, e⟩ := (h.each w hw).1.at id q; type_ne h.obj e (by decide)⟩
theorem DAt.apartW {s : SS} {d : Nat} {A : Dk} {B : Bs} (h : DAt s d A B) : ∀ i ∈ blkOf B.W, (∀ id ∈ blkOf B.S, i ≠ id) ∧ (∀ id ∈ blkOf B.N, i ≠ id) ∧ (∀ w ∈ B.wl, ∀ id ∈ blkOf w.2.2, i ≠ id) := by
  intro i hi
  obtain ⟨g, e0⟩ := h.row.at i hi
  exact ⟨fun id q => let ⟨_, e⟩ := h.sure.at id q; type_ne e0 e (by decide), fun id q => let ⟨_, e⟩ := h.now.at id q; type_ne e0 e (by decide),
    fun w hw id q => let ⟨_, e⟩ := (h.each w hw).1.at id q; type_ne e0 e (by decide)⟩

theorem fill_w {s : SS} {d : Nat} {A : Dk} {B : Bs} (h : DAt s d A B) (on : Bool) : CallW pr n_disk_Disk_Fill [.pointer (some ⟨d, 0, none⟩), .bool on] s fun v s' => v = .int .i64 0 ∧ DAt s' d { A with full := on } B ∧ Step d s B s' B := by
  refine CallW.run good ok_disk_Disk_Fill (by simp) rfl ?_
  (repeat(first|refine pSeq ?_|refine pReg ?_|refine sCons ?_|refine sNil ?_|refine pSkip ?_|refine pRet ?_|refine pCond ?_|refine gNone ?_))
  refine h.is.mono fun v s' q => ?_
  obtain ⟨rfl, rfl⟩ := q
  (repeat(first|refine pSeq ?_|refine pReg ?_|refine sCons ?_|refine sNil ?_|refine pSkip ?_|refine pRet ?_|refine pCond ?_|refine gNone ?_))
  refine st_is rfl rfl h.obj rfl rfl ?_
  (repeat(first|refine pSeq ?_|refine pReg ?_|refine sCons ?_|refine sNil ?_|refine pSkip ?_|refine pRet ?_|refine pCond ?_|refine gNone ?_))
  have c := Chg.turn (b := .cells (dCells { A with full := on } B) tD false false) h.lt
  obtain ⟨a1, a2, a3, a4⟩ := h.apart
  refine ⟨rfl, ⟨lkH, h.lt, h.sure.chg c (fun id q r => ?_), h.now.chg c (fun id q r => ?_), h.row.chg c (fun id q r => ?_), fun w hw => ⟨(h.each w hw).1.chg c (fun id q r => ?_), (h.each w hw).2⟩, h.sep, h.cap, h.lnow, h.lsure, h.lws, h.ews⟩, ⟨c.sub (by simp [foot]), fun id q => .inl q, fun id q => .inl q⟩⟩
  · exact a1 id q (List.mem_singleton.1 r).symm
  · exact a2 id q (List.mem_singleton.1 r).symm
  · exact a3 id q (List.mem_singleton.1 r).symm
  · exact a4 w hw id q (List.mem_singleton.1 r).symm
end Go.Vf.S

import Derived.Test.YtioildcpkcijkaaDoorLgK
/- The calls that are handed in. -/
namespace Go.Vf.S
open Go Go.Vf
attribute [local irreducible] wSeq wRow wp wG
set_option linter.unusedVariables false
set_option linter.unusedSimpArgs false
set_option maxRecDepth 10000

abbrev tA : TypeId := 40

/-- A call: what, how many, its bytes, what it keeps. -/
structure AV where
  what : Int
  pos : Int
  bb : Option Addr
  bl : List UInt8
  kb : Option Addr
  kl : List Int

def aCell (a : AV) : List Value := [.int .i64 a.what, .int .i64 a.pos, .slice a.bb a.bl.length 0, .slice a.kb a.kl.length 0]
def aCells (l : List AV) : List Value := l.flatMap aCell

theorem aCells_len : ∀ l : List AV, (aCells l).length = l.length * 4
  | [] => rfl
  | w :: l => by
    have := aCells_len l
    simp only [aCells, List.flatMap_cons, List.length_append, List.length_cons] at this ⊢
    rw [this]
    simp [aCell]
    omega
theorem aCells_app (a b : List AV) : aCells (a ++ b) = aCells a ++ aCells b := by simp [aCells]
theorem aCells_drop : ∀ (l : List AV) (i : Nat), (aCells l).drop (i * 4) = aCells (l.drop i)
  | l, 0 => by simp
  | [], i + 1 => by simp [aCells]
  | w :: l, i + 1 => by
    have := aCells_drop l i
    rw [show (i + 1) * 4 = i * 4 + 4 from by omega]
    simp only [aCells, List.flatMap_cons, aCell, List.drop_succ_cons] at this ⊢
    exact this
theorem aCells_at {l : List AV} {i : Nat} (h : i < l.length) : takeN 4 ((aCells l).drop (i * 4)) = some (aCell (l[i])) := by
  rw [aCells_drop, List.drop_eq_getElem_cons h]
  rfl

/-- Bytes handed in: nobody writes them. -/
def InB (s : SS) (base : Option Addr) (l : List UInt8) : Prop :=
  Arg pr s base l.length l ∧ ∀ id ∈ blkOf base, ∃ c t g, lookH s.heap id = some (.cells c t g true)
/-- Numbers handed in. -/
def InI (s : SS) (base : Option Addr) (zs : List Int) : Prop :=
  RdI s base zs.length zs ∧ ∀ id ∈ blkOf base, ∃ c, lookH s.heap id = some (.cells c tI true true)

theorem Arg.chg {s s' : SS} {base : Option Addr} {n : Nat} {l : List UInt8} {A : List Nat} (h : Arg pr s base n l) (c : Chg s s' A) (hA : ∀ id ∈ blkOf base, id ∉ A) : Arg pr s' base n l := by
  refine ⟨h.1.chg c hA, ?_⟩
  have h2 := h.2
  cases base with
  | none => trivial
  | some a =>
    obtain ⟨b, off, sp⟩ := a
    obtain ⟨cc, t, r, q1, q2⟩ := h2
    obtain ⟨_, _, h3, _⟩ := h.1
    exact ⟨cc, t, r, c.blk _ _ h3 (hA b (by simp [blkOf])) q1, q2⟩
theorem InB.lt {s : SS} {base : Option Addr} {l : List UInt8} (h : InB s base l) : ∀ id ∈ blkOf base, id < s.next := h.1.1.lt
theorem InI.lt {s : SS} {base : Option Addr} {l : List Int} (h : InI s base l) : ∀ id ∈ blkOf base, id < s.next := by
  have h1 := h.1
  cases base with
  | none => simp [blkOf]
  | some a =>
    obtain ⟨b, off, sp⟩ := a
    intro id hid
    simp only [blkOf, List.mem_singleton] at hid
    subst hid
    exact h1.2.2.1
theorem InB.chg {s s' : SS} {base : Option Addr} {l : List UInt8} {A : List Nat} (h : InB s base l) (c : Chg s s' A) (hA : ∀ id ∈ blkOf base, id ∉ A) : InB s' base l :=
  ⟨Arg.chg h.1 c hA, fun id q => let ⟨cc, t, g, e⟩ := h.2 id q; ⟨cc, t, g, c.blk _ _ (h.lt id q) (hA id q) e⟩⟩
theorem InI.chg {s s' : SS} {base : Option Addr} {l : List Int} {A : List Nat} (h : InI s base l) (c : Chg s s' A) (hA : ∀ id ∈ blkOf base, id ∉ A) : InI s' base l :=
  ⟨h.1.chg c hA, fun id q => let ⟨cc, e⟩ := h.2 id q; ⟨cc, c.blk _ _ (h.lt id q) (hA id q) e⟩⟩

theorem InB.cut {s : SS} {base : Option Addr} {l : List UInt8} (h : InB s base l) (m : Nat) : InB s base (l.take m) := by
  refine ⟨⟨?_, h.1.2⟩, h.2⟩
  have hr := h.1.1
  cases base with
  | none =>
    have hl : l = [] := hr.2
    subst hl
    exact ⟨rfl, by simp⟩
  | some a =>
    obtain ⟨b, off, sp⟩ := a
    obtain ⟨h1, rfl, h0, cc, t, g, r, h2, h3, h4⟩ := hr
    refine ⟨rfl, rfl, h0, cc, t, g, r, h2, ?_, h4⟩
    obtain ⟨e1, e2⟩ := takeN_inv h3
    rw [takeN_take _ _ (by rw [List.length_take]; omega)]
    have := congrArg (List.take (l.take m).length) e1
    rw [bytesV_take, List.take_take, Nat.min_eq_left (by rw [List.length_take]; omega)] at this
    rw [← this, List.length_take]
    congr 1
    by_cases q : m ≤ l.length
    · rw [Nat.min_eq_left q]
    · rw [Nat.min_eq_right (by omega), List.take_of_length_le (Nat.le_refl _), List.take_of_length_le (by omega)]
theorem InI.cut {s : SS} {base : Option Addr} {l : List Int} (h : InI s base l) (m : Nat) : InI s base (l.take m) := by
  refine ⟨?_, h.2⟩
  have hr := h.1
  cases base with
  | none =>
    have hl : l = [] := hr.2
    subst hl
    exact ⟨rfl, by simp⟩
  | some a =>
    obtain ⟨b, off, sp⟩ := a
    obtain ⟨h1, rfl, h0, cc, g, r, h2, h3⟩ := hr
    refine ⟨rfl, rfl, h0, cc, g, r, h2, fun i hi => ?_⟩
    rw [List.length_take] at hi
    rw [h3 i (by omega), List.getD, List.getD, List.getElem?_take, if_pos (by omega)]
theorem InB.front {s : SS} {base : Option Addr} {l : List UInt8} (h : InB s base l) : (base = none → l.length = 0) ∧ ∀ a, base = some a → a.spot = none ∧ ∃ c t r, lookH s.heap a.block = some (.cells c t true r) ∧ sizeB pr t = some 1 := by
  refine ⟨fun e => ?_, fun a e => ?_⟩
  · subst e
    have : l = [] := h.1.1.2
    subst this; rfl
  · subst e
    obtain ⟨b, off, sp⟩ := a
    obtain ⟨⟨h1, h2, _⟩, c, t, r, h3, h4⟩ := h.1
    exact ⟨h2, c, t, r, h3, h4⟩
theorem InI.front {s : SS} {base : Option Addr} {l : List Int} (h : InI s base l) : (base = none → l.length = 0) ∧ ∀ a, base = some a → a.spot = none ∧ ∃ c t r, lookH s.heap a.block = some (.cells c t true r) ∧ sizeB pr t = some 1 := by
  refine ⟨fun e => ?_, fun a e => ?_⟩
  · subst e
    have : l = [] := h.1.2
    subst this; rfl
  · subst e
    obtain ⟨b, off, sp⟩ := a
    obtain ⟨c, e⟩ := h.2 b (by simp [blkOf])
    exact ⟨h.1.2.1, c, tI, true, e, by kernel_rfl⟩

def ActOk (s : SS) (a : AV) : Prop := InB s a.bb a.bl ∧ InI s a.kb a.kl ∧ (-9223372036854775808 ≤ a.pos ∧ a.pos ≤ 9223372036854775807)
def actIds (a : AV) : List Nat := blkOf a.bb ++ blkOf a.kb
theorem ActOk.chg {s s' : SS} {a : AV} {A : List Nat} (h : ActOk s a) (c : Chg s s' A) (hA : ∀ id ∈ actIds a, id ∉ A) : ActOk s' a :=
  ⟨h.1.chg c fun id q => hA id (List.mem_append_left _ q), h.2.1.chg c fun id q => hA id (List.mem_append_right _ q), h.2.2⟩
theorem ActOk.ro {s : SS} {a : AV} (h : ActOk s a) : ∀ id ∈ actIds a, ∃ c t g, lookH s.heap id = some (.cells c t g true) := by
  intro id q
  rcases List.mem_append.1 q with q | q
  · exact h.1.2 id q
  · obtain ⟨c, e⟩ := h.2.1.2 id q
    exact ⟨c, _, _, e⟩

def cutA (a : AV) : AV := { a with bl := a.bl.take 60, kl := a.kl.take 20 }
theorem ActOk.cut {s : SS} {a : AV} (h : ActOk s a) : ActOk s (cutA a) := ⟨h.1.cut 60, h.2.1.cut 20, h.2.2⟩
def fewV (m : Nat) (l : List AV) : List AV := (l.take m).map cutA

/-- A row of calls that is handed in. -/
def InA (s : SS) (lb : Option Addr) (l : List AV) : Prop :=
  (match lb with
  | none => l = []
  | some ⟨b, off, sp⟩ => off = 0 ∧ sp = none ∧ b < s.next ∧ lookH s.heap b = some (.cells (aCells l) tA true true)) ∧ (∀ a ∈ l, ActOk s a) ∧ l.length ≤ 9223372036854775807
theorem InA.lt {s : SS} {lb : Option Addr} {l : List AV} (h : InA s lb l) : ∀ id ∈ blkOf lb, id < s.next := by
  have h1 := h.1
  cases lb with
  | none => simp [blkOf]
  | some a =>
    obtain ⟨b, off, sp⟩ := a
    intro id hid
    simp only [blkOf, List.mem_singleton] at hid
    subst hid
    exact h1.2.2.1
theorem InA.chg0 {s s' : SS} {lb : Option Addr} {l : List AV} (h : InA s lb l) (c : Chg s s' []) : InA s' lb l := by
  refine ⟨?_, fun a ha => (h.2.1 a ha).chg c (fun _ _ => by simp), h.2.2⟩
  have h1 := h.1
  cases lb with
  | none => exact h1
  | some a =>
    obtain ⟨b, off, sp⟩ := a
    obtain ⟨q1, q2, q3, q4⟩ := h1
    exact ⟨q1, q2, Nat.lt_of_lt_of_le q3 c.next, c.blk _ _ q3 (by simp) q4⟩

structure FewS where
  i : Nat
  s : SS
  ob : Option Addr

set_option maxHeartbeats 1000000 in
theorem few_w {s : SS} {lb : Option Addr} {l : List AV} {m : Nat} (hl : InA s lb l) (hf : Fine s) (hm : m ≤ 1000) :
    CallW pr n_law03_Few [.slice lb l.length 0, .int .i64 m] s fun v s' => ∃ ob, v = .slice ob (fewV m l).length 0 ∧ OwnR tA s' ob 0 (fewV m l).length (aCells (fewV m l)) ∧ NewA s ob ∧ Chg s s' [] := by
  refine CallW.run good ok_law03_Few (by simp) rfl ?_
  (repeat(first|refine pSeq ?_|refine pReg ?_|refine sCons ?_|refine sNil ?_|refine rCons ?_|refine rNil ?_|refine kNo ?_|refine pRow ?_|refine pBlock ?_|refine pSkip ?_|refine pExit ?_|refine pRet ?_|refine pCond ?_|refine gNone ?_))
  refine pLoop (MW.head good (fun x : FewS => l.length - x.i) (fun x => x.i ≤ l.length ∧ OwnR tA x.s x.ob 0 (fewV m (l.take x.i)).length (aCells (fewV m (l.take x.i))) ∧ NewA s x.ob ∧ Chg s x.s [])
    (fun x => [(1, .int .i64 m), (5, .slice x.ob (fewV m (l.take x.i)).length 0), (8, .slice lb l.length 0), (9, .int .i64 l.length), (10, .int .i64 x.i)]) (fun x => x.s) ⟨0, s, none⟩ ⟨Nat.zero_le _, ⟨by simp [fewV, aCells], by simp [fewV], rfl⟩, (fun id q => by simp [blkOf] at q), .refl _ _⟩ ?_ ?_)
  · exact Wk.same ⟨rfl, by simp [fewV]; rfl, rfl, rfl, rfl, trivial⟩
  intro ⟨i, s1, ob⟩ ⟨hi, ho, hn, c1⟩
  dsimp only at hi ho hn c1 ⊢
  have hll := hl.2.2
  (repeat(first|refine pSeq ?_|refine pReg ?_|refine sCons ?_|refine sNil ?_|refine rCons ?_|refine rNil ?_|refine kNo ?_|refine pRow ?_|refine pBlock ?_|refine pSkip ?_|refine pExit ?_|refine pRet ?_|refine pCond ?_|refine gNone ?_))
  intro q hq
  by_cases hlt : i < l.length
  · obtain rfl : q = true := by rw [hq]; simp; omega
    have hl1 := hl.chg0 c1
    obtain ⟨b0, rfl, hb0⟩ : ∃ b0, lb = some ⟨b0, 0, none⟩ ∧ lookH s1.heap b0 = some (.cells (aCells l) tA true true) := by
      have h1 := hl1.1
      cases lb with
      | none => have : l = [] := h1; subst this; simp at hlt
      | some a =>
        obtain ⟨b, off, sp⟩ := a
        obtain ⟨rfl, rfl, q3, q4⟩ := h1
        exact ⟨b, rfl, q4⟩
    have hact : ActOk s1 l[i] := hl1.2.1 _ (List.getElem_mem hlt)
    (repeat(first|refine pSeq ?_|refine pReg ?_|refine sCons ?_|refine sNil ?_|refine rCons ?_|refine rNil ?_|refine kNo ?_|refine pRow ?_|refine pBlock ?_|refine pSkip ?_|refine pExit ?_|refine pRet ?_|refine pCond ?_|refine gNone ?_))
    refine ⟨⟨by omega, Int.ofNat_lt.2 hlt⟩, ?_⟩
    intro k hk o hof
    obtain rfl : k = i := by omega
    rw [Nat.zero_add] at hof
    subst hof
    (repeat(first|refine pSeq ?_|refine pReg ?_|refine sCons ?_|refine sNil ?_|refine rCons ?_|refine rNil ?_|refine kNo ?_|refine pRow ?_|refine pBlock ?_|refine pSkip ?_|refine pExit ?_|refine pRet ?_|refine pCond ?_|refine gNone ?_))
    refine ldN_is rfl hb0 (aCells_at hlt) ?_
    (repeat(first|refine pSeq ?_|refine pReg ?_|refine sCons ?_|refine sNil ?_|refine rCons ?_|refine rNil ?_|refine kNo ?_|refine pRow ?_|refine pBlock ?_|refine pSkip ?_|refine pExit ?_|refine pRet ?_|refine pCond ?_|refine gNone ?_))
    have cA := Chg.new (s := s1) (b := .cells [.int .i64 0, .int .i64 0, .slice none 0 0, .slice none 0 0] tA false false) []
    refine st_abs (cs' := aCell l[k]) rfl rfl lkH (Nat.lt_succ_self _) rfl rfl fun s2 hbox c2 hn2 => ?_
    have hn2 : s2.next = s1.next + 1 := hn2
    have c12 : Chg s1 s2 [] := cA.fresh c2 (fun id q => by simp at q; omega)
    have ho2 := ho.chg c12 (fun _ _ => by simp)
    have hact2 := hact.chg c12 (fun _ _ => by simp)
    (repeat(first|refine pSeq ?_|refine pReg ?_|refine sCons ?_|refine sNil ?_|refine rCons ?_|refine rNil ?_|refine kNo ?_|refine pRow ?_|refine pBlock ?_|refine pSkip ?_|refine pExit ?_|refine pRet ?_|refine pCond ?_|refine gNone ?_))
    intro q hq
    by_cases hmost : k < m
    · obtain rfl : q = true := by rw [hq]; simp; omega
      obtain ⟨f1, f2⟩ := hact2.1.front
      obtain ⟨f3, f4⟩ := hact2.2.1.front
      have len1 : (l[k].bl.take 60).length = min l[k].bl.length 60 := by rw [List.length_take]; omega
      have len2 : (l[k].kl.take 20).length = min l[k].kl.length 20 := by rw [List.length_take]; omega
      (repeat(first|refine pSeq ?_|refine pReg ?_|refine sCons ?_|refine sNil ?_|refine rCons ?_|refine rNil ?_|refine kNo ?_|refine pRow ?_|refine pBlock ?_|refine pSkip ?_|refine pExit ?_|refine pRet ?_|refine pCond ?_|refine gNone ?_))
      refine ld1_is rfl hbox rfl ?_
      (repeat(first|refine pSeq ?_|refine pReg ?_|refine sCons ?_|refine sNil ?_|refine rCons ?_|refine rNil ?_|refine kNo ?_|refine pRow ?_|refine pBlock ?_|refine pSkip ?_|refine pExit ?_|refine pRet ?_|refine pCond ?_|refine gNone ?_))
      refine ld1_is rfl hbox rfl ?_
      (repeat(first|refine pSeq ?_|refine pReg ?_|refine sCons ?_|refine sNil ?_|refine rCons ?_|refine rNil ?_|refine kNo ?_|refine pRow ?_|refine pBlock ?_|refine pSkip ?_|refine pExit ?_|refine pRet ?_|refine pCond ?_|refine gNone ?_))
      intro z1 hz1
      (repeat(first|refine pSeq ?_|refine pReg ?_|refine sCons ?_|refine sNil ?_|refine rCons ?_|refine rNil ?_|refine kNo ?_|refine pRow ?_|refine pBlock ?_|refine pSkip ?_|refine pExit ?_|refine pRet ?_|refine pCond ?_|refine gNone ?_))
      refine slL_front (m := (l[k].bl.take 60).length) rfl rfl (by omega) (by omega) f1 f2 ?_
      (repeat(first|refine pSeq ?_|refine pReg ?_|refine sCons ?_|refine sNil ?_|refine rCons ?_|refine rNil ?_|refine kNo ?_|refine pRow ?_|refine pBlock ?_|refine pSkip ?_|refine pExit ?_|refine pRet ?_|refine pCond ?_|refine gNone ?_))
      refine ld1_is rfl hbox rfl ?_
      (repeat(first|refine pSeq ?_|refine pReg ?_|refine sCons ?_|refine sNil ?_|refine rCons ?_|refine rNil ?_|refine kNo ?_|refine pRow ?_|refine pBlock ?_|refine pSkip ?_|refine pExit ?_|refine pRet ?_|refine pCond ?_|refine gNone ?_))
      refine ld1_is rfl hbox rfl ?_
      (repeat(first|refine pSeq ?_|refine pReg ?_|refine sCons ?_|refine sNil ?_|refine rCons ?_|refine rNil ?_|refine kNo ?_|refine pRow ?_|refine pBlock ?_|refine pSkip ?_|refine pExit ?_|refine pRet ?_|refine pCond ?_|refine gNone ?_))
      intro z2 hz2
      (repeat(first|refine pSeq ?_|refine pReg ?_|refine sCons ?_|refine sNil ?_|refine rCons ?_|refine rNil ?_|refine kNo ?_|refine pRow ?_|refine pBlock ?_|refine pSkip ?_|refine pExit ?_|refine pRet ?_|refine pCond ?_|refine gNone ?_))
      refine slL_front (m := (l[k].kl.take 20).length) rfl rfl (by omega) (by omega) f3 f4 ?_
      (repeat(first|refine pSeq ?_|refine pReg ?_|refine sCons ?_|refine sNil ?_|refine rCons ?_|refine rNil ?_|refine kNo ?_|refine pRow ?_|refine pBlock ?_|refine pSkip ?_|refine pExit ?_|refine pRet ?_|refine pCond ?_|refine gNone ?_))
      refine st_abs (cs' := [.int .i64 l[k].what, .int .i64 l[k].pos, .slice l[k].bb (l[k].bl.take 60).length 0, .slice l[k].kb l[k].kl.length 0]) rfl rfl hbox (by omega) rfl rfl fun s3 hb3 c3 hn3 => ?_
      have hact3 : ActOk s3 l[k] := hact2.chg c3 (fun id q r => by
        obtain ⟨c, t, g, e⟩ := hact2.ro id q
        exact ro_ne e hbox (List.mem_singleton.1 r))
      obtain ⟨f5, f6⟩ := hact3.2.1.front
      refine kEach ⟨fun _ => ?_, fun _ => ?_, trivial⟩ ?_
      · exact slL_front (m := (l[k].kl.take 20).length) rfl rfl (by omega) (by omega) f5 f6 rfl
      · rfl
      (repeat(first|refine pSeq ?_|refine pReg ?_|refine sCons ?_|refine sNil ?_|refine rCons ?_|refine rNil ?_|refine kNo ?_|refine pRow ?_|refine pBlock ?_|refine pSkip ?_|refine pExit ?_|refine pRet ?_|refine pCond ?_|refine gNone ?_))
      refine st_abs (cs' := aCell (cutA l[k])) rfl rfl hb3 (by omega) rfl rfl fun s4 hb4 c4 hn4 => ?_
      (repeat(first|refine pSeq ?_|refine pReg ?_|refine sCons ?_|refine sNil ?_|refine rCons ?_|refine rNil ?_|refine kNo ?_|refine pRow ?_|refine pBlock ?_|refine pSkip ?_|refine pExit ?_|refine pRet ?_|refine pCond ?_|refine gNone ?_))
      refine ldN_is (new := aCell (cutA l[k])) rfl hb4 rfl ?_
      (repeat(first|refine pSeq ?_|refine pReg ?_|refine sCons ?_|refine sNil ?_|refine rCons ?_|refine rNil ?_|refine kNo ?_|refine pRow ?_|refine pBlock ?_|refine pSkip ?_|refine pExit ?_|refine pRet ?_|refine pCond ?_|refine gNone ?_))
      have c34 : Chg s2 s4 [s1.next] := c3.trans' c4 (fun id q _ => q) (fun id q _ => q)
      have c24 : Chg s1 s4 [] := c12.fresh c34 (fun id q => by have := List.mem_singleton.1 q; omega)
      have cN := Chg.new (s := s4) (b := .cells (aCell (cutA l[k])) tA false false) []
      have ho4 := (ho.chg c24 (fun _ _ => by simp)).chg cN (fun _ _ => by simp)
      refine appR (new := aCell (cutA l[k])) ho4 (by rw [aCells_len]) ⟨by simp [fewV]; omega, by simp [fewV]; omega⟩ rfl rfl lkH rfl rfl fun s5 ho5 c5 hn5 => ?_
      have hn5 : s5.next = s4.next + 1 + 1 := hn5
      have e : fewV m (l.take (k + 1)) = fewV m (l.take k) ++ [cutA l[k]] := by
        unfold fewV
        rw [List.take_take, List.take_take, Nat.min_eq_right (by omega), Nat.min_eq_right (by omega), List.take_add_one, List.getElem?_eq_getElem hlt, List.map_append]
        rfl
      have e2 : aCells (fewV m (l.take (k + 1))) = aCells (fewV m (l.take k)) ++ aCell (cutA l[k]) := by
        rw [e, aCells_app]
        simp [aCells]
      have e3 : (fewV m (l.take (k + 1))).length = (fewV m (l.take k)).length + 1 := by rw [e, List.length_append]; rfl
      (repeat(first|refine pSeq ?_|refine pReg ?_|refine sCons ?_|refine sNil ?_|refine rCons ?_|refine rNil ?_|refine kNo ?_|refine pRow ?_|refine pBlock ?_|refine pSkip ?_|refine pExit ?_|refine pRet ?_|refine pCond ?_|refine gNone ?_))
      intro z hz
      rw [i64_id (by omega)] at hz
      (repeat(first|refine pSeq ?_|refine pReg ?_|refine sCons ?_|refine sNil ?_|refine rCons ?_|refine rNil ?_|refine kNo ?_|refine pRow ?_|refine pBlock ?_|refine pSkip ?_|refine pExit ?_|refine pRet ?_|refine pCond ?_|refine gNone ?_))
      refine ⟨⟨k + 1, s5, some ⟨s4.next + 1, 0, none⟩⟩, ⟨hlt, by dsimp only; rw [e2, e3]; exact ho5, ?_, ?_⟩, by dsimp only; omega, Wk.same ⟨rfl, by rw [e3]; rfl, rfl, rfl, ?_, trivial⟩⟩
      · intro id q
        simp only [blkOf, List.mem_singleton] at q
        have := c1.next; have := c24.next
        omega
      · exact c1.fresh ((c24.nil cN).nil c5) (fun id q => hn id q)
      · subst hz
        rfl
    · obtain rfl : q = false := by rw [hq]; simp; omega
      have e : fewV m (l.take (k + 1)) = fewV m (l.take k) := by
        unfold fewV
        rw [List.take_take, List.take_take, Nat.min_eq_left (by omega), Nat.min_eq_left (by omega)]
      (repeat(first|refine pSeq ?_|refine pReg ?_|refine sCons ?_|refine sNil ?_|refine rCons ?_|refine rNil ?_|refine kNo ?_|refine pRow ?_|refine pBlock ?_|refine pSkip ?_|refine pExit ?_|refine pRet ?_|refine pCond ?_|refine gNone ?_))
      intro z hz
      rw [i64_id (by omega)] at hz
      (repeat(first|refine pSeq ?_|refine pReg ?_|refine sCons ?_|refine sNil ?_|refine rCons ?_|refine rNil ?_|refine kNo ?_|refine pRow ?_|refine pBlock ?_|refine pSkip ?_|refine pExit ?_|refine pRet ?_|refine pCond ?_|refine gNone ?_))
      refine ⟨⟨k + 1, s2, ob⟩, ⟨hlt, by rw [e]; exact ho2, hn, c1.nil c12⟩, by dsimp only; omega, Wk.same ⟨rfl, by rw [e]; rfl, rfl, rfl, ?_, trivial⟩⟩
      subst hz
      rfl
  · obtain rfl : q = false := by rw [hq]; simp; omega
    obtain rfl : i = l.length := by omega
    rw [List.take_of_length_le (Nat.le_refl _)] at *
    (repeat(first|refine pSeq ?_|refine pReg ?_|refine sCons ?_|refine sNil ?_|refine rCons ?_|refine rNil ?_|refine kNo ?_|refine pRow ?_|refine pBlock ?_|refine pSkip ?_|refine pExit ?_|refine pRet ?_|refine pCond ?_|refine gNone ?_))
    exact ⟨ob, rfl, ho, hn, c1⟩
end Go.Vf.S

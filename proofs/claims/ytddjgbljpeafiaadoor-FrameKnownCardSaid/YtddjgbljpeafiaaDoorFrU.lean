import Derived.Test.YtddjgbljpeafiaaDoorFrT
/- What the law FrameChain says, from any state. -/
namespace Go.Vf.S
open Go Go.Vf Go.Vf.Fr
attribute [local irreducible] wSeq wRow wp
set_option linter.unusedVariables false
set_option linter.unusedSimpArgs false
set_option maxRecDepth 10000

abbrev RowT := Option Addr × Nat × List UInt8
/-- The i-th payload, cut. -/
def rowP (rows : List RowT) (i : Nat) : List UInt8 := cut2 (rows.getD i (none, 0, [])).2.2
/-- The value that stands for it. -/
def rowV (rows : List RowT) (p : Nat → List UInt8) (i : Nat) : Value := .slice (rows.getD i (none, 0, [])).1 (p i).length 0

theorem OwnB.old {s s' : SS} {t : TypeId} {ob : Option Addr} {vs : List Value} (h : OwnB s t ob vs) (o : Old s s') : OwnB s' t ob vs := by
  cases ob with
  | none => exact h
  | some q =>
    obtain ⟨b, off, sp⟩ := q
    obtain ⟨h1, h2, h3, h4⟩ := h
    exact ⟨h1, h2, Nat.lt_of_lt_of_le h3 o.next, o.blk _ _ h3 h4⟩
theorem OwnB.keep {s s' : SS} {t : TypeId} {ob o2 : Option Addr} {vs : List Value} (h : OwnB s t ob vs) (k : Keeps s s' o2) (ha : ∀ b off sp, ob = some ⟨b, off, sp⟩ → Apart o2 b) : OwnB s' t ob vs := by
  cases ob with
  | none => exact h
  | some q =>
    obtain ⟨b, off, sp⟩ := q
    obtain ⟨h1, h2, h3, h4⟩ := h
    exact ⟨h1, h2, Nat.lt_of_lt_of_le h3 k.next, k.blk _ _ h3 (ha _ _ _ rfl) h4⟩
theorem OwnB.some {s : SS} {t : TypeId} {ob : Option Addr} {vs : List Value} (h : OwnB s t ob vs) (hv : 0 < vs.length) : ∃ b, ob = Option.some ⟨b, 0, none⟩ ∧ lookH s.heap b = Option.some (.cells vs t true false) := by
  cases ob with
  | none => have : vs = [] := h; subst this; simp at hv
  | some q =>
    obtain ⟨b, off, sp⟩ := q
    obtain ⟨rfl, rfl, h3, h4⟩ := h
    exact ⟨b, rfl, h4⟩
theorem OwnB.lt {s : SS} {t : TypeId} {ob : Option Addr} {vs : List Value} (h : OwnB s t ob vs) : ∀ b off sp, ob = Option.some ⟨b, off, sp⟩ → b < s.next := by
  intro b off sp e
  subst e
  exact h.2.2.1
theorem Slc_own {s : SS} {ob : Option Addr} {l : List UInt8} (h : OwnB s 5 ob (bytesV l)) : Slc pr s ob l.length 0 l := by
  cases ob with
  | none =>
    have : bytesV l = [] := h
    have hl : l = [] := by cases l <;> simp [bytesV] at this ⊢
    subst hl
    exact ⟨⟨rfl, rfl⟩, trivial⟩
  | some q =>
    obtain ⟨b, off, sp⟩ := q
    obtain ⟨rfl, rfl, h3, h4⟩ := h
    refine ⟨⟨rfl, rfl, h3, _, _, _, _, h4, ?_, bytesV_plain _⟩, _, _, _, _, h4, fun _ => (by kernel_rfl), fun q => by cases q⟩
    rw [takeN_bytes (by omega), List.drop_zero, List.take_of_length_le (by omega)]

/-- What is handed in: a row of rows. -/
def RowsIn (s : SS) (lb : Option Addr) (rows : List RowT) : Prop :=
  (match lb with
  | none => rows = []
  | some ⟨b, off, sp⟩ => off = 0 ∧ sp = none ∧ b < s.next ∧ ∃ r, lookH s.heap b = some (.cells (rows.map fun r => .slice r.1 r.2.1 0) 22 true r)) ∧
  ∀ r ∈ rows, Arg pr s r.1 r.2.1 r.2.2

theorem Rdb_keep {s s' : SS} {base ob : Option Addr} {n : Nat} {l : List UInt8} (h : Rdb s base n l) (k : Keeps s s' ob) (ha : ∀ b off sp, base = some ⟨b, off, sp⟩ → Apart ob b) : Rdb s' base n l := by
  cases base with
  | none => exact h
  | some q =>
    obtain ⟨b, off, sp⟩ := q
    obtain ⟨q1, q2, q3, c, t, g, r, q4, q5, q6⟩ := h
    exact ⟨q1, q2, Nat.lt_of_lt_of_le q3 k.next, c, t, g, r, k.blk _ _ q3 (ha _ _ _ rfl) q4, q5, q6⟩
theorem Rdb_apart {s : SS} {base ob : Option Addr} {n : Nat} {l : List UInt8} {t : TypeId} {vs : List Value} (h : Rdb s base n l) (hn : 0 < n) (ho : OwnB s t ob vs) (hv : ∀ v ∈ vs, ∀ k x, v ≠ .int k x) : ∀ b off sp, base = some ⟨b, off, sp⟩ → Apart ob b := by
  intro b off sp e b2 off2 sp2 e2 hbb
  subst e; subst e2; subst hbb
  obtain ⟨q1, q2, q3, c, t', g, r, q4, q5, q6⟩ := h
  obtain ⟨-, -, -, h4⟩ := ho
  rw [q4] at h4
  cases h4
  obtain ⟨e1, e2⟩ := takeN_inv q5
  have h0 := bytesV_get (l := l) (i := 0) (by omega)
  rw [e1, List.getElem?_take, if_pos hn, List.getElem?_drop] at h0
  exact hv _ (List.mem_of_getElem? h0) _ _ rfl

structure HeadS where
  i : Nat
  s : SS
  ob : Option Addr
  ab : Option Addr

theorem Keeps.old {s0 s s' : SS} {ob : Option Addr} (k : Keeps s s' ob) (o : Old s0 s) (h : ∀ b off sp, ob = some ⟨b, off, sp⟩ → s0.next ≤ b) : Old s0 s' :=
  ⟨k.gl.trans o.gl, Nat.le_trans o.next k.next, fun id x hid hx => k.blk _ _ (Nat.lt_of_lt_of_le hid o.next) (fun b off sp e => by have := h b off sp e; omega) (o.blk _ _ hid hx)⟩

def Late (s0 : SS) (ob : Option Addr) : Prop := ∀ b off sp, ob = some ⟨b, off, sp⟩ → s0.next ≤ b

/-- What holds at the first loop's head. -/
structure HeadI (s0 : SS) (rows : List RowT) (p : Nat → List UInt8) (h : HeadS) : Prop where
  le : h.i ≤ rows.length ∧ h.i ≤ 8
  old : Old s0 h.s
  own : OwnB h.s 22 h.ob ((List.range h.i).map (rowV rows p))
  all : OwnB h.s 5 h.ab (bytesV (cB p h.i))
  lo : Late s0 h.ob
  la : Late s0 h.ab
  ne : ∀ b off sp, h.ab = some ⟨b, off, sp⟩ → Apart h.ob b

set_option maxHeartbeats 2000000 in
theorem chain_w {s : SS} {lb : Option Addr} {rows : List RowT} (h1 : RowsIn s lb rows) (hg : s.gl = 1) (hs : lookH s.heap 0 = some gB) (hn : 1 ≤ s.next) :
    CallW pr n_law02_FrameChain [.slice lb rows.length 0] s fun v _ => v = .bool true := by
  have hp : ∀ i, (rowP rows i).length ≤ 200 := fun i => by unfold rowP; rw [cut2_len]; omega
  have hrow : ∀ i, i < rows.length → Arg pr s (rows.getD i (none, 0, [])).1 (rowP rows i).length (rowP rows i) := by
    intro i hi
    have hm : rows.getD i (none, 0, []) ∈ rows := by rw [List.getD, List.getElem?_eq_getElem hi]; exact List.getElem_mem hi
    have ha := h1.2 _ hm
    have e : (rowP rows i).length = min (rows.getD i (none, 0, [])).2.2.length 200 := cut2_len _
    rw [e]
    exact Arg_take ha (by rw [ha.1.1]; omega)
  obtain ⟨p, hpe⟩ : ∃ p, p = rowP rows := ⟨_, rfl⟩
  rw [← hpe] at hp hrow
  refine CallW.run good ok_law02_FrameChain (by simp) rfl ?_
  (repeat (first | refine pSeq ?_ | refine pReg ?_ | refine sRaw ?_ | refine sCons ?_ | refine sNil ?_ | refine rCons ?_ | refine rNil ?_ | refine pRow ?_ | refine pBlock ?_ | refine pSkip ?_ | refine pExit ?_ | refine pRet ?_ | refine pCond ?_ | refine gNone ?_))
  refine pLoop (MW.head good (fun h : HeadS => rows.length - h.i) (HeadI s rows p) (fun h => [(3, .slice h.ab (cB p h.i).length 0), (4, .int .u32 (cA p h.i).toNat), (5, .slice h.ob h.i 0), (22, .slice lb rows.length 0), (23, .int .i64 rows.length), (24, .int .i64 h.i)])
    (fun h => h.s) ⟨0, s, none, none⟩ ⟨⟨Nat.zero_le _, Nat.zero_le _⟩, .refl _, rfl, rfl, (fun b off sp e => by cases e), (fun b off sp e => by cases e), fun b off sp e => by cases e⟩ ?_ ?_)
  · exact Wk.same ⟨rfl, rfl, rfl, rfl, rfl, rfl, trivial⟩
  intro ⟨j, s1, ob, ab⟩ ⟨⟨hj, hj8⟩, o1, ho1, ha1, lo1, la1, ne1⟩
  dsimp only at hj hj8 o1 ho1 ha1 lo1 la1 ne1 ⊢
  (repeat (first | refine pSeq ?_ | refine pReg ?_ | refine sRaw ?_ | refine sCons ?_ | refine sNil ?_ | refine rCons ?_ | refine rNil ?_ | refine pRow ?_ | refine pBlock ?_ | refine pSkip ?_ | refine pExit ?_ | refine pRet ?_ | refine pCond ?_ | refine gNone ?_ | refine gOn rfl ?_ | refine gOff rfl rfl ?_))
  intro q hq
  by_cases hlt : j < rows.length
  · obtain rfl : q = true := by rw [hq]; simp; omega
    obtain ⟨b0, rfl, r0, hb0⟩ : ∃ b0, lb = some ⟨b0, 0, none⟩ ∧ ∃ r, lookH s1.heap b0 = some (.cells (rows.map fun r => .slice r.1 r.2.1 0) 22 true r) := by
      have hl := h1.1
      cases lb with
      | none => have : rows = [] := hl; subst this; simp at hlt
      | some q =>
        obtain ⟨b, off, sp⟩ := q
        obtain ⟨rfl, rfl, h3, r, h4⟩ := hl
        exact ⟨b, rfl, r, o1.blk _ _ h3 h4⟩
    (repeat (first | refine pSeq ?_ | refine pReg ?_ | refine sRaw ?_ | refine sCons ?_ | refine sNil ?_ | refine rCons ?_ | refine rNil ?_ | refine pRow ?_ | refine pBlock ?_ | refine pSkip ?_ | refine pExit ?_ | refine pRet ?_ | refine pCond ?_ | refine gNone ?_ | refine gOn rfl ?_ | refine gOff rfl rfl ?_))
    refine ⟨by omega, ?_⟩
    intro m hm o hof
    obtain rfl : j = m := by omega
    (repeat (first | refine pSeq ?_ | refine pReg ?_ | refine sRaw ?_ | refine sCons ?_ | refine sNil ?_ | refine rCons ?_ | refine rNil ?_ | refine pRow ?_ | refine pBlock ?_ | refine pSkip ?_ | refine pExit ?_ | refine pRet ?_ | refine pCond ?_ | refine gNone ?_ | refine gOn rfl ?_ | refine gOff rfl rfl ?_))
    refine ld1_at (v := .slice (rows.getD j (none, 0, [])).1 (rows.getD j (none, 0, [])).2.1 0) rfl hb0 (by rw [hof, Nat.mul_one, Nat.zero_add, List.getElem?_map, List.getElem?_eq_getElem hlt, List.getD, List.getElem?_eq_getElem hlt]; rfl) ?_
    (repeat (first | refine pSeq ?_ | refine pReg ?_ | refine sRaw ?_ | refine sCons ?_ | refine sNil ?_ | refine rCons ?_ | refine rNil ?_ | refine pRow ?_ | refine pBlock ?_ | refine pSkip ?_ | refine pExit ?_ | refine pRet ?_ | refine pCond ?_ | refine gNone ?_ | refine gOn rfl ?_ | refine gOff rfl rfl ?_))
    intro q hq
    by_cases h8 : j = 8
    · obtain rfl : q = true := by rw [hq]; simp; omega
      -- the second loop
      have hlen : (cB p j).length ≤ 210 * j := cB_le hp j
      (repeat (first | refine pSeq ?_ | refine pReg ?_ | refine sRaw ?_ | refine sCons ?_ | refine sNil ?_ | refine rCons ?_ | refine rNil ?_ | refine pRow ?_ | refine pBlock ?_ | refine pSkip ?_ | refine pExit ?_ | refine pRet ?_ | refine pCond ?_ | refine gNone ?_ | refine gOn rfl ?_ | refine gOff rfl rfl ?_))
      refine pLoop (MW.head good (fun i : Nat × SS => j - i.1) (fun i => i.1 ≤ j ∧ Old s1 i.2) (fun i => [(3, .slice ab (cB p j).length 0), (4, .int .u32 (cA p j).toNat), (5, .slice ob j 0), (10, .int .u32 (cA p i.1).toNat), (11, .int .i64 (cB p i.1).length), (61, .slice ob j 0), (62, .int .i64 j), (63, .int .i64 i.1)])
        (fun i => i.2) (0, s1) ⟨Nat.zero_le _, .refl _⟩ ?_ ?_)
      · exact Wk.same ⟨rfl, rfl, rfl, rfl, rfl, rfl, rfl, rfl, trivial⟩
      intro ⟨i2, s2⟩ ⟨hi2, os2⟩
      dsimp only at hi2 os2 ⊢
      (repeat (first | refine pSeq ?_ | refine pReg ?_ | refine sRaw ?_ | refine sCons ?_ | refine sNil ?_ | refine rCons ?_ | refine rNil ?_ | refine pRow ?_ | refine pBlock ?_ | refine pSkip ?_ | refine pExit ?_ | refine pRet ?_ | refine pCond ?_ | refine gNone ?_ | refine gOn rfl ?_ | refine gOff rfl rfl ?_))
      intro q hq
      have g2 := o1.trans os2
      have all2 : Slc pr s2 ab (cB p j).length 0 (cB p j) := Slc_own (ha1.old os2)
      by_cases hlt2 : i2 < j
      · obtain rfl : q = true := by rw [hq]; simp; omega
        (repeat (first | refine pSeq ?_ | refine pReg ?_ | refine sRaw ?_ | refine sCons ?_ | refine sNil ?_ | refine rCons ?_ | refine rNil ?_ | refine pRow ?_ | refine pBlock ?_ | refine pSkip ?_ | refine pExit ?_ | refine pRet ?_ | refine pCond ?_ | refine gNone ?_ | refine gOn rfl ?_ | refine gOff rfl rfl ?_))
        have own2 := ho1.old os2
        obtain ⟨bo, rfl, hbo⟩ : ∃ bo, ob = some ⟨bo, 0, none⟩ ∧ lookH s2.heap bo = some (.cells ((List.range j).map (rowV rows p)) 22 true false) := own2.some (by simp; omega)
        refine ⟨by omega, ?_⟩
        intro m hm o hof
        obtain rfl : m = i2 := by omega
        (repeat (first | refine pSeq ?_ | refine pReg ?_ | refine sRaw ?_ | refine sCons ?_ | refine sNil ?_ | refine rCons ?_ | refine rNil ?_ | refine pRow ?_ | refine pBlock ?_ | refine pSkip ?_ | refine pExit ?_ | refine pRet ?_ | refine pCond ?_ | refine gNone ?_ | refine gOn rfl ?_ | refine gOff rfl rfl ?_))
        refine ld1_at rfl hbo (by rw [hof, Nat.mul_one, Nat.zero_add, List.getElem?_map, List.getElem?_range (by omega)]; rfl) ?_
        (repeat (first | refine pSeq ?_ | refine pReg ?_ | refine sRaw ?_ | refine sCons ?_ | refine sNil ?_ | refine rCons ?_ | refine rNil ?_ | refine pRow ?_ | refine pBlock ?_ | refine pSkip ?_ | refine pExit ?_ | refine pRet ?_ | refine pCond ?_ | refine gNone ?_ | refine gOn rfl ?_ | refine gOff rfl rfl ?_))
        intro q hq
        obtain ⟨R, hR, hle⟩ := cB_next (p := p) hlt2
        obtain rfl : q = false := by rw [hq]; simp; omega
        (repeat (first | refine pSeq ?_ | refine pReg ?_ | refine sRaw ?_ | refine sCons ?_ | refine sNil ?_ | refine rCons ?_ | refine rNil ?_ | refine pRow ?_ | refine pBlock ?_ | refine pSkip ?_ | refine pExit ?_ | refine pRet ?_ | refine pCond ?_ | refine gNone ?_ | refine gOn rfl ?_ | refine gOff rfl rfl ?_))
        intro z hz
        rw [i64_id (by omega)] at hz
        (repeat (first | refine pSeq ?_ | refine pReg ?_ | refine sRaw ?_ | refine sCons ?_ | refine sNil ?_ | refine rCons ?_ | refine rNil ?_ | refine pRow ?_ | refine pBlock ?_ | refine pSkip ?_ | refine pExit ?_ | refine pRet ?_ | refine pCond ?_ | refine gNone ?_ | refine gOn rfl ?_ | refine gOff rfl rfl ?_))
        intro z2 hz2
        obtain rfl : z2 = ((BitVec.ofNat 32 (m + 1)).toNat : Int) := by rw [hz2, hz, ← i64_u32 (by omega)]; rfl
        (repeat (first | refine pSeq ?_ | refine pReg ?_ | refine sRaw ?_ | refine sCons ?_ | refine sNil ?_ | refine rCons ?_ | refine rNil ?_ | refine pRow ?_ | refine pBlock ?_ | refine pSkip ?_ | refine pExit ?_ | refine pRet ?_ | refine pCond ?_ | refine gNone ?_ | refine gOn rfl ?_ | refine gOff rfl rfl ?_))
        refine slL_any (cB p m).length ((cB p j).length - (cB p m).length) rfl rfl rfl all2 rfl (show (cB p m).length + ((cB p j).length - (cB p m).length) = (cB p j).length by omega) (by omega) fun b3 c3 r3 => ?_
        rw [List.take_of_length_le (by rw [List.length_drop]; exact Nat.le_refl _), hR] at r3
        have T1 := told_open (cA p m) (BitVec.ofNat 32 (m + 1)) (n := (p m).length) (l := p m) rfl (by have := hp m; omega) R
        (repeat (first | refine pSeq ?_ | refine pReg ?_ | refine sRaw ?_ | refine sCons ?_ | refine sNil ?_ | refine rCons ?_ | refine rNil ?_ | refine pRow ?_ | refine pBlock ?_ | refine pSkip ?_ | refine pExit ?_ | refine pRet ?_ | refine pCond ?_ | refine gNone ?_ | refine gOn rfl ?_ | refine gOff rfl rfl ?_))
        refine (open_w ⟨g2.gl.trans hg, g2.blk _ _ hn hs, Nat.le_trans hn g2.next, r3.1⟩ r3 (by omega) (cA p m) (BitVec.ofNat 32 (m + 1))).mono fun v s3 q => ?_
        obtain ⟨b4, c4, ⟨hv, r4, o4⟩, n4⟩ := q
        rw [T1.1, T1.2.1, T1.2.2.1, T1.2.2.2] at hv
        rw [T1.2.1] at r4
        subst hv
        have g3 := g2.trans o4
        (repeat (first | refine pSeq ?_ | refine pReg ?_ | refine sRaw ?_ | refine sCons ?_ | refine sNil ?_ | refine rCons ?_ | refine rNil ?_ | refine pRow ?_ | refine pBlock ?_ | refine pSkip ?_ | refine pExit ?_ | refine pRet ?_ | refine pCond ?_ | refine gNone ?_ | refine gOn rfl ?_ | refine gOff rfl rfl ?_))
        intro q hq
        obtain rfl : q = false := by rw [hq]; simp
        (repeat (first | refine pSeq ?_ | refine pReg ?_ | refine sRaw ?_ | refine sCons ?_ | refine sNil ?_ | refine rCons ?_ | refine rNil ?_ | refine pRow ?_ | refine pBlock ?_ | refine pSkip ?_ | refine pExit ?_ | refine pRet ?_ | refine pCond ?_ | refine gNone ?_ | refine gOn rfl ?_ | refine gOff rfl rfl ?_))
        refine toStr_Rdb rfl r4 ?_
        (repeat (first | refine pSeq ?_ | refine pReg ?_ | refine sRaw ?_ | refine sCons ?_ | refine sNil ?_ | refine rCons ?_ | refine rNil ?_ | refine pRow ?_ | refine pBlock ?_ | refine pSkip ?_ | refine pExit ?_ | refine pRet ?_ | refine pCond ?_ | refine gNone ?_ | refine gOn rfl ?_ | refine gOff rfl rfl ?_))
        refine toStr_Rdb rfl (Rdb_old (hrow m (by omega)).1 g3) ?_
        (repeat (first | refine pSeq ?_ | refine pReg ?_ | refine sRaw ?_ | refine sCons ?_ | refine sNil ?_ | refine rCons ?_ | refine rNil ?_ | refine pRow ?_ | refine pBlock ?_ | refine pSkip ?_ | refine pExit ?_ | refine pRet ?_ | refine pCond ?_ | refine gNone ?_ | refine gOn rfl ?_ | refine gOff rfl rfl ?_))
        intro q hq
        obtain rfl : q = false := by rw [hq]; simp
        (repeat (first | refine pSeq ?_ | refine pReg ?_ | refine sRaw ?_ | refine sCons ?_ | refine sNil ?_ | refine rCons ?_ | refine rNil ?_ | refine pRow ?_ | refine pBlock ?_ | refine pSkip ?_ | refine pExit ?_ | refine pRet ?_ | refine pCond ?_ | refine gNone ?_ | refine gOn rfl ?_ | refine gOff rfl rfl ?_))
        intro q hq
        obtain rfl : q = false := by rw [hq]; simp; omega
        (repeat (first | refine pSeq ?_ | refine pReg ?_ | refine sRaw ?_ | refine sCons ?_ | refine sNil ?_ | refine rCons ?_ | refine rNil ?_ | refine pRow ?_ | refine pBlock ?_ | refine pSkip ?_ | refine pExit ?_ | refine pRet ?_ | refine pCond ?_ | refine gNone ?_ | refine gOn rfl ?_ | refine gOff rfl rfl ?_))
        intro z3 hz3
        have hcl := cB_len (p := p) m
        have hcl2 := cB_le hp (m + 1)
        rw [i64_id (by omega)] at hz3
        obtain rfl : z3 = ((cB p (m + 1)).length : Int) := by rw [hz3, hcl]; omega
        (repeat (first | refine pSeq ?_ | refine pReg ?_ | refine sRaw ?_ | refine sCons ?_ | refine sNil ?_ | refine rCons ?_ | refine rNil ?_ | refine pRow ?_ | refine pBlock ?_ | refine pSkip ?_ | refine pExit ?_ | refine pRet ?_ | refine pCond ?_ | refine gNone ?_ | refine gOn rfl ?_ | refine gOff rfl rfl ?_))
        intro z4 hz4
        rw [i64_id (by omega)] at hz4
        obtain rfl : z4 = ((m + 1 : Nat) : Int) := by rw [hz4]; omega
        (repeat (first | refine pSeq ?_ | refine pReg ?_ | refine sRaw ?_ | refine sCons ?_ | refine sNil ?_ | refine rCons ?_ | refine rNil ?_ | refine pRow ?_ | refine pBlock ?_ | refine pSkip ?_ | refine pExit ?_ | refine pRet ?_ | refine pCond ?_ | refine gNone ?_ | refine gOn rfl ?_ | refine gOff rfl rfl ?_))
        exact ⟨(m + 1, s3), ⟨by dsimp only; omega, os2.trans o4⟩, by dsimp only; omega, Wk.same ⟨rfl, rfl, rfl, rfl, rfl, rfl, rfl, rfl, trivial⟩⟩
      · obtain rfl : q = false := by rw [hq]; simp; omega
        obtain rfl : i2 = j := by omega
        (repeat (first | refine pSeq ?_ | refine pReg ?_ | refine sRaw ?_ | refine sCons ?_ | refine sNil ?_ | refine rCons ?_ | refine rNil ?_ | refine pRow ?_ | refine pBlock ?_ | refine pSkip ?_ | refine pExit ?_ | refine pRet ?_ | refine pCond ?_ | refine gNone ?_ | refine gOn rfl ?_ | refine gOff rfl rfl ?_))
        intro z hz
        rw [i64_id (by omega)] at hz
        (repeat (first | refine pSeq ?_ | refine pReg ?_ | refine sRaw ?_ | refine sCons ?_ | refine sNil ?_ | refine rCons ?_ | refine rNil ?_ | refine pRow ?_ | refine pBlock ?_ | refine pSkip ?_ | refine pExit ?_ | refine pRet ?_ | refine pCond ?_ | refine gNone ?_ | refine gOn rfl ?_ | refine gOff rfl rfl ?_))
        intro z2 hz2
        obtain rfl : z2 = ((BitVec.ofNat 32 (i2 + 1)).toNat : Int) := by rw [hz2, hz, ← i64_u32 (by omega)]; rfl
        (repeat (first | refine pSeq ?_ | refine pReg ?_ | refine sRaw ?_ | refine sCons ?_ | refine sNil ?_ | refine rCons ?_ | refine rNil ?_ | refine pRow ?_ | refine pBlock ?_ | refine pSkip ?_ | refine pExit ?_ | refine pRet ?_ | refine pCond ?_ | refine gNone ?_ | refine gOn rfl ?_ | refine gOff rfl rfl ?_))
        refine ⟨by decide, ?_⟩
        intro m m' hm hm' cs hcs
        obtain rfl : m = 30 := by omega
        obtain rfl : m' = 30 := by omega
        rw [repeat_bytes] at hcs
        subst hcs
        have oz := old_cons (x := .cells (bytesV (List.replicate 30 0)) 5 false false) g2
        have rz : Rdb ⟨(s2.next, some (.cells (bytesV (List.replicate 30 0)) 5 false false)) :: s2.heap, s2.next + 1, s2.gl⟩ (some ⟨s2.next, 0, none⟩) 30 (List.replicate 30 0) := Rdb.head (s := s2) s2.heap 5 false (by simp)
        have E := zeros_open (cA p i2) (show i2 ≤ 8 by omega)
        have N := told_none (a := cA p i2) (k := BitVec.ofNat 32 (i2 + 1)) (l := List.replicate 30 0) (by rw [E]; decide)
        (repeat (first | refine pSeq ?_ | refine pReg ?_ | refine sRaw ?_ | refine sCons ?_ | refine sNil ?_ | refine rCons ?_ | refine rNil ?_ | refine pRow ?_ | refine pBlock ?_ | refine pSkip ?_ | refine pExit ?_ | refine pRet ?_ | refine pCond ?_ | refine gNone ?_ | refine gOn rfl ?_ | refine gOff rfl rfl ?_))
        refine (open_w (l := List.replicate 30 0) ⟨oz.gl.trans hg, oz.blk _ _ hn hs, Nat.le_trans hn oz.next, rz⟩ ⟨rz, _, _, _, _, look_head, (fun q => by cases q), fun _ => Nat.le_refl _⟩ (by omega) (cA p i2) (BitVec.ofNat 32 (i2 + 1))).mono fun v s3 q => ?_
        obtain ⟨b4, c4, ⟨hv, r4, o4⟩, n4⟩ := q
        rw [E, N.1, N.2.1, N.2.2] at hv
        subst hv
        have g3 := oz.trans o4
        (repeat (first | refine pSeq ?_ | refine pReg ?_ | refine sRaw ?_ | refine sCons ?_ | refine sNil ?_ | refine rCons ?_ | refine rNil ?_ | refine pRow ?_ | refine pBlock ?_ | refine pSkip ?_ | refine pExit ?_ | refine pRet ?_ | refine pCond ?_ | refine gNone ?_ | refine gOn rfl ?_ | refine gOff rfl rfl ?_))
        intro q hq
        obtain rfl : q = true := by rw [hq]; simp
        (repeat (first | refine pSeq ?_ | refine pReg ?_ | refine sRaw ?_ | refine sCons ?_ | refine sNil ?_ | refine rCons ?_ | refine rNil ?_ | refine pRow ?_ | refine pBlock ?_ | refine pSkip ?_ | refine pExit ?_ | refine pRet ?_ | refine pCond ?_ | refine gNone ?_ | refine gOn rfl ?_ | refine gOff rfl rfl ?_))
        intro q hq
        obtain rfl : q = true := by rw [hq]; simp
        (repeat (first | refine pSeq ?_ | refine pReg ?_ | refine sRaw ?_ | refine sCons ?_ | refine sNil ?_ | refine rCons ?_ | refine rNil ?_ | refine pRow ?_ | refine pBlock ?_ | refine pSkip ?_ | refine pExit ?_ | refine pRet ?_ | refine pCond ?_ | refine gNone ?_ | refine gOn rfl ?_ | refine gOff rfl rfl ?_))
        intro q hq
        obtain rfl : q = true := by rw [hq]; simp
        (repeat (first | refine pSeq ?_ | refine pReg ?_ | refine sRaw ?_ | refine sCons ?_ | refine sNil ?_ | refine rCons ?_ | refine rNil ?_ | refine pRow ?_ | refine pBlock ?_ | refine pSkip ?_ | refine pExit ?_ | refine pRet ?_ | refine pCond ?_ | refine gNone ?_ | refine gOn rfl ?_ | refine gOff rfl rfl ?_))
        refine (CallW.of_ok (tells_ok (g3.gl.trans hg) (g3.blk _ _ hn hs) (Nat.le_trans hn g3.next)) ⟨rfl, rfl⟩ : CallW pr n_law02_tells _ _ fun v s' => v = _ ∧ s' = _).mono fun v s12 q => ?_
        obtain ⟨rfl, rfl⟩ := q
        (repeat (first | refine pSeq ?_ | refine pReg ?_ | refine sRaw ?_ | refine sCons ?_ | refine sNil ?_ | refine rCons ?_ | refine rNil ?_ | refine pRow ?_ | refine pBlock ?_ | refine pSkip ?_ | refine pExit ?_ | refine pRet ?_ | refine pCond ?_ | refine gNone ?_ | refine gOn rfl ?_ | refine gOff rfl rfl ?_))
        rfl
    · obtain rfl : q = false := by rw [hq]; simp; omega
      have hm0 : rows.getD j (none, 0, []) ∈ rows := by rw [List.getD, List.getElem?_eq_getElem hlt]; exact List.getElem_mem hlt
      have har := Arg_old (h1.2 _ hm0) o1
      have hpj : (p j).length = min (rows.getD j (none, 0, [])).2.2.length 200 := by rw [hpe]; exact cut2_len _
      have hnl := har.1.1
      have hp2 := hp j
      have hcl := cB_len (p := p) j
      have hcl2 := cB_le hp (j + 1)
      (repeat (first | refine pSeq ?_ | refine pReg ?_ | refine sRaw ?_ | refine sCons ?_ | refine sNil ?_ | refine rCons ?_ | refine rNil ?_ | refine pRow ?_ | refine pBlock ?_ | refine pSkip ?_ | refine pExit ?_ | refine pRet ?_ | refine pCond ?_ | refine gNone ?_ | refine gOn rfl ?_ | refine gOff rfl rfl ?_))
      intro z hz
      (repeat (first | refine pSeq ?_ | refine pReg ?_ | refine sRaw ?_ | refine sCons ?_ | refine sNil ?_ | refine rCons ?_ | refine rNil ?_ | refine pRow ?_ | refine pBlock ?_ | refine pSkip ?_ | refine pExit ?_ | refine pRet ?_ | refine pCond ?_ | refine gNone ?_ | refine gOn rfl ?_ | refine gOff rfl rfl ?_))
      refine sl_front (p j).length rfl rfl har (by rw [hz, hpj]; omega) (by omega) ?_
      (repeat (first | refine pSeq ?_ | refine pReg ?_ | refine sRaw ?_ | refine sCons ?_ | refine sNil ?_ | refine rCons ?_ | refine rNil ?_ | refine pRow ?_ | refine pBlock ?_ | refine pSkip ?_ | refine pExit ?_ | refine pRet ?_ | refine pCond ?_ | refine gNone ?_ | refine gOn rfl ?_ | refine gOff rfl rfl ?_))
      intro z1 hz1
      rw [i64_id (by omega)] at hz1
      (repeat (first | refine pSeq ?_ | refine pReg ?_ | refine sRaw ?_ | refine sCons ?_ | refine sNil ?_ | refine rCons ?_ | refine rNil ?_ | refine pRow ?_ | refine pBlock ?_ | refine pSkip ?_ | refine pExit ?_ | refine pRet ?_ | refine pCond ?_ | refine gNone ?_ | refine gOn rfl ?_ | refine gOff rfl rfl ?_))
      intro z2 hz2
      obtain rfl : z2 = ((BitVec.ofNat 32 (j + 1)).toNat : Int) := by rw [hz2, hz1, ← i64_u32 (by omega)]; rfl
      (repeat (first | refine pSeq ?_ | refine pReg ?_ | refine sRaw ?_ | refine sCons ?_ | refine sNil ?_ | refine rCons ?_ | refine rNil ?_ | refine pRow ?_ | refine pBlock ?_ | refine pSkip ?_ | refine pExit ?_ | refine pRet ?_ | refine pCond ?_ | refine gNone ?_ | refine gOn rfl ?_ | refine gOff rfl rfl ?_))
      have rp := Rdb_old (hrow j hlt).1 o1
      refine (sealed_w ⟨o1.gl.trans hg, o1.blk _ _ hn hs, Nat.le_trans hn o1.next, rp⟩ (by omega) (cA p j) (BitVec.ofNat 32 (j + 1))).mono fun v s2 q => ?_
      obtain ⟨b5, c5, rfl, r5, o2⟩ := q
      (repeat (first | refine pSeq ?_ | refine pReg ?_ | refine sRaw ?_ | refine sCons ?_ | refine sNil ?_ | refine rCons ?_ | refine rNil ?_ | refine pRow ?_ | refine pBlock ?_ | refine pSkip ?_ | refine pExit ?_ | refine pRet ?_ | refine pCond ?_ | refine gNone ?_ | refine gOn rfl ?_ | refine gOff rfl rfl ?_))
      intro q hq
      obtain rfl : q = false := by rw [hq]; simp
      (repeat (first | refine pSeq ?_ | refine pReg ?_ | refine sRaw ?_ | refine sCons ?_ | refine sNil ?_ | refine rCons ?_ | refine rNil ?_ | refine pRow ?_ | refine pBlock ?_ | refine pSkip ?_ | refine pExit ?_ | refine pRet ?_ | refine pCond ?_ | refine gNone ?_ | refine gOn rfl ?_ | refine gOff rfl rfl ?_))
      have o3 := old_cons (x := .cells [.slice (rows.getD j (none, 0, [])).1 (p j).length 0] 22 false false) o2
      have n2 := o2.next
      refine app_vals (t := 22) (bytes := 24) (n := 1) (new := [.slice (rows.getD j (none, 0, [])).1 (p j).length 0]) rfl (ho1.old o3) (by simp) rfl (fun KK hk => ?_) (by decide) rfl rfl (by omega) fun s4 ho4 hn4 k4 => ?_
      · simp only [wSrc, look_head]
        exact ⟨_, rfl, hk⟩
      have hn4' : s4.next = s2.next + 1 + 1 := hn4
      (repeat (first | refine pSeq ?_ | refine pReg ?_ | refine sRaw ?_ | refine sCons ?_ | refine sNil ?_ | refine rCons ?_ | refine rNil ?_ | refine pRow ?_ | refine pBlock ?_ | refine pSkip ?_ | refine pExit ?_ | refine pRet ?_ | refine pCond ?_ | refine gNone ?_ | refine gOn rfl ?_ | refine gOff rfl rfl ?_))
      have lt1 := ho1.lt
      have lt2 := ha1.lt
      have ha4 := (ha1.old o3).keep k4 ne1
      have w3 := o1.trans o3
      have w4 := k4.old w3 lo1
      have r5' : Rdb s4 b5 (10 + (p j).length) (sealS (cA p j) (BitVec.ofNat 32 (j + 1)) (p j).length (p j)) := by
        refine Rdb_keep (Rdb_old r5.1 (old_cons (.refl s2))) k4 (Rdb_apart r5.1 (by omega) (ho1.old o2) fun v hv k x e => ?_)
        obtain ⟨i, _, rfl⟩ := List.mem_map.1 hv
        cases e
      refine app_vals (t := 5) (bytes := 1) (n := 10 + (p j).length) (new := bytesV (sealS (cA p j) (BitVec.ofNat 32 (j + 1)) (p j).length (p j))) rfl ha4 (by rw [bytesV_len]) rfl (fun KK hk => wSrc_Rdb r5' hk) (by omega) (by rw [bytesV_len, sealS_len]) (all1_bytesV _) (by omega) fun s5 ho5 hn5 k5 => ?_
      have w5 := k5.old w4 la1
      have hn5' : s5.next = s4.next + 1 := hn5
      have o1n := o1.next
      have own5 : OwnB s5 22 (some ⟨s2.next + 1, 0, none⟩) ((List.range (j + 1)).map (rowV rows p)) := by
        rw [List.range_succ, List.map_append]
        refine ho4.keep k5 fun b off sp e => ?_
        cases e
        intro b2 off2 sp2 e2 he
        have := lt2 b2 off2 sp2 e2
        have he' : s2.next + 1 = b2 := he
        omega
      have all5 : OwnB s5 5 (some ⟨s4.next, 0, none⟩) (bytesV (cB p (j + 1))) := by
        simp only [cB]
        rw [← bytesV_append]
        exact ho5
      (repeat (first | refine pSeq ?_ | refine pReg ?_ | refine sRaw ?_ | refine sCons ?_ | refine sNil ?_ | refine rCons ?_ | refine rNil ?_ | refine pRow ?_ | refine pBlock ?_ | refine pSkip ?_ | refine pExit ?_ | refine pRet ?_ | refine pCond ?_ | refine gNone ?_ | refine gOn rfl ?_ | refine gOff rfl rfl ?_))
      intro z3 hz3
      rw [i64_id (by omega)] at hz3
      (repeat (first | refine pSeq ?_ | refine pReg ?_ | refine sRaw ?_ | refine sCons ?_ | refine sNil ?_ | refine rCons ?_ | refine rNil ?_ | refine pRow ?_ | refine pBlock ?_ | refine pSkip ?_ | refine pExit ?_ | refine pRet ?_ | refine pCond ?_ | refine gNone ?_ | refine gOn rfl ?_ | refine gOff rfl rfl ?_))
      intro z4 hz4
      obtain rfl : z4 = ((BitVec.ofNat 32 (j + 1)).toNat : Int) := by rw [hz4, hz3, ← i64_u32 (by omega)]; rfl
      (repeat (first | refine pSeq ?_ | refine pReg ?_ | refine sRaw ?_ | refine sCons ?_ | refine sNil ?_ | refine rCons ?_ | refine rNil ?_ | refine pRow ?_ | refine pBlock ?_ | refine pSkip ?_ | refine pExit ?_ | refine pRet ?_ | refine pCond ?_ | refine gNone ?_ | refine gOn rfl ?_ | refine gOff rfl rfl ?_))
      refine (CallW.of_ok (sum_ok ⟨w5.gl.trans hg, w5.blk _ _ hn hs, Nat.le_trans hn w5.next, Rdb_old (hrow j hlt).1 w5⟩ (by omega) (cA p j) (BitVec.ofNat 32 (j + 1))) ⟨rfl, rfl⟩ : CallW pr n_frame_Sum _ _ fun v s' => v = _ ∧ s' = _).mono fun v s6 q => ?_
      obtain ⟨rfl, rfl⟩ := q
      (repeat (first | refine pSeq ?_ | refine pReg ?_ | refine sRaw ?_ | refine sCons ?_ | refine sNil ?_ | refine rCons ?_ | refine rNil ?_ | refine pRow ?_ | refine pBlock ?_ | refine pSkip ?_ | refine pExit ?_ | refine pRet ?_ | refine pCond ?_ | refine gNone ?_ | refine gOn rfl ?_ | refine gOff rfl rfl ?_))
      intro z5 hz5
      rw [i64_id (by omega)] at hz5
      obtain rfl : z5 = ((j + 1 : Nat) : Int) := by rw [hz5]; omega
      (repeat (first | refine pSeq ?_ | refine pReg ?_ | refine sRaw ?_ | refine sCons ?_ | refine sNil ?_ | refine rCons ?_ | refine rNil ?_ | refine pRow ?_ | refine pBlock ?_ | refine pSkip ?_ | refine pExit ?_ | refine pRet ?_ | refine pCond ?_ | refine gNone ?_ | refine gOn rfl ?_ | refine gOff rfl rfl ?_))
      refine ⟨⟨j + 1, s6, some ⟨s2.next + 1, 0, none⟩, some ⟨s4.next, 0, none⟩⟩, ⟨⟨by dsimp only; omega, by dsimp only; omega⟩, w5, own5, all5, fun b off sp e => ?_, fun b off sp e => ?_, fun b off sp e => ?_⟩, by dsimp only; omega, Wk.same ⟨by rw [hcl]; rfl, rfl, rfl, rfl, rfl, rfl, trivial⟩⟩
      · cases e; omega
      · cases e; omega
      · cases e
        intro b2 off2 sp2 e2 he
        cases e2
        omega
  · obtain rfl : q = false := by rw [hq]; simp; omega
    -- the second loop
    have hlen : (cB p j).length ≤ 210 * j := cB_le hp j
    (repeat (first | refine pSeq ?_ | refine pReg ?_ | refine sRaw ?_ | refine sCons ?_ | refine sNil ?_ | refine rCons ?_ | refine rNil ?_ | refine pRow ?_ | refine pBlock ?_ | refine pSkip ?_ | refine pExit ?_ | refine pRet ?_ | refine pCond ?_ | refine gNone ?_ | refine gOn rfl ?_ | refine gOff rfl rfl ?_))
    refine pLoop (MW.head good (fun i : Nat × SS => j - i.1) (fun i => i.1 ≤ j ∧ Old s1 i.2) (fun i => [(3, .slice ab (cB p j).length 0), (4, .int .u32 (cA p j).toNat), (5, .slice ob j 0), (10, .int .u32 (cA p i.1).toNat), (11, .int .i64 (cB p i.1).length), (61, .slice ob j 0), (62, .int .i64 j), (63, .int .i64 i.1)])
      (fun i => i.2) (0, s1) ⟨Nat.zero_le _, .refl _⟩ ?_ ?_)
    · exact Wk.same ⟨rfl, rfl, rfl, rfl, rfl, rfl, rfl, rfl, trivial⟩
    intro ⟨i2, s2⟩ ⟨hi2, os2⟩
    dsimp only at hi2 os2 ⊢
    (repeat (first | refine pSeq ?_ | refine pReg ?_ | refine sRaw ?_ | refine sCons ?_ | refine sNil ?_ | refine rCons ?_ | refine rNil ?_ | refine pRow ?_ | refine pBlock ?_ | refine pSkip ?_ | refine pExit ?_ | refine pRet ?_ | refine pCond ?_ | refine gNone ?_ | refine gOn rfl ?_ | refine gOff rfl rfl ?_))
    intro q hq
    have g2 := o1.trans os2
    have all2 : Slc pr s2 ab (cB p j).length 0 (cB p j) := Slc_own (ha1.old os2)
    by_cases hlt2 : i2 < j
    · obtain rfl : q = true := by rw [hq]; simp; omega
      (repeat (first | refine pSeq ?_ | refine pReg ?_ | refine sRaw ?_ | refine sCons ?_ | refine sNil ?_ | refine rCons ?_ | refine rNil ?_ | refine pRow ?_ | refine pBlock ?_ | refine pSkip ?_ | refine pExit ?_ | refine pRet ?_ | refine pCond ?_ | refine gNone ?_ | refine gOn rfl ?_ | refine gOff rfl rfl ?_))
      have own2 := ho1.old os2
      obtain ⟨bo, rfl, hbo⟩ : ∃ bo, ob = some ⟨bo, 0, none⟩ ∧ lookH s2.heap bo = some (.cells ((List.range j).map (rowV rows p)) 22 true false) := own2.some (by simp; omega)
      refine ⟨by omega, ?_⟩
      intro m hm o hof
      obtain rfl : m = i2 := by omega
      (repeat (first | refine pSeq ?_ | refine pReg ?_ | refine sRaw ?_ | refine sCons ?_ | refine sNil ?_ | refine rCons ?_ | refine rNil ?_ | refine pRow ?_ | refine pBlock ?_ | refine pSkip ?_ | refine pExit ?_ | refine pRet ?_ | refine pCond ?_ | refine gNone ?_ | refine gOn rfl ?_ | refine gOff rfl rfl ?_))
      refine ld1_at rfl hbo (by rw [hof, Nat.mul_one, Nat.zero_add, List.getElem?_map, List.getElem?_range (by omega)]; rfl) ?_
      (repeat (first | refine pSeq ?_ | refine pReg ?_ | refine sRaw ?_ | refine sCons ?_ | refine sNil ?_ | refine rCons ?_ | refine rNil ?_ | refine pRow ?_ | refine pBlock ?_ | refine pSkip ?_ | refine pExit ?_ | refine pRet ?_ | refine pCond ?_ | refine gNone ?_ | refine gOn rfl ?_ | refine gOff rfl rfl ?_))
      intro q hq
      obtain ⟨R, hR, hle⟩ := cB_next (p := p) hlt2
      obtain rfl : q = false := by rw [hq]; simp; omega
      (repeat (first | refine pSeq ?_ | refine pReg ?_ | refine sRaw ?_ | refine sCons ?_ | refine sNil ?_ | refine rCons ?_ | refine rNil ?_ | refine pRow ?_ | refine pBlock ?_ | refine pSkip ?_ | refine pExit ?_ | refine pRet ?_ | refine pCond ?_ | refine gNone ?_ | refine gOn rfl ?_ | refine gOff rfl rfl ?_))
      intro z hz
      rw [i64_id (by omega)] at hz
      (repeat (first | refine pSeq ?_ | refine pReg ?_ | refine sRaw ?_ | refine sCons ?_ | refine sNil ?_ | refine rCons ?_ | refine rNil ?_ | refine pRow ?_ | refine pBlock ?_ | refine pSkip ?_ | refine pExit ?_ | refine pRet ?_ | refine pCond ?_ | refine gNone ?_ | refine gOn rfl ?_ | refine gOff rfl rfl ?_))
      intro z2 hz2
      obtain rfl : z2 = ((BitVec.ofNat 32 (m + 1)).toNat : Int) := by rw [hz2, hz, ← i64_u32 (by omega)]; rfl
      (repeat (first | refine pSeq ?_ | refine pReg ?_ | refine sRaw ?_ | refine sCons ?_ | refine sNil ?_ | refine rCons ?_ | refine rNil ?_ | refine pRow ?_ | refine pBlock ?_ | refine pSkip ?_ | refine pExit ?_ | refine pRet ?_ | refine pCond ?_ | refine gNone ?_ | refine gOn rfl ?_ | refine gOff rfl rfl ?_))
      refine slL_any (cB p m).length ((cB p j).length - (cB p m).length) rfl rfl rfl all2 rfl (show (cB p m).length + ((cB p j).length - (cB p m).length) = (cB p j).length by omega) (by omega) fun b3 c3 r3 => ?_
      rw [List.take_of_length_le (by rw [List.length_drop]; exact Nat.le_refl _), hR] at r3
      have T1 := told_open (cA p m) (BitVec.ofNat 32 (m + 1)) (n := (p m).length) (l := p m) rfl (by have := hp m; omega) R
      (repeat (first | refine pSeq ?_ | refine pReg ?_ | refine sRaw ?_ | refine sCons ?_ | refine sNil ?_ | refine rCons ?_ | refine rNil ?_ | refine pRow ?_ | refine pBlock ?_ | refine pSkip ?_ | refine pExit ?_ | refine pRet ?_ | refine pCond ?_ | refine gNone ?_ | refine gOn rfl ?_ | refine gOff rfl rfl ?_))
      refine (open_w ⟨g2.gl.trans hg, g2.blk _ _ hn hs, Nat.le_trans hn g2.next, r3.1⟩ r3 (by omega) (cA p m) (BitVec.ofNat 32 (m + 1))).mono fun v s3 q => ?_
      obtain ⟨b4, c4, ⟨hv, r4, o4⟩, n4⟩ := q
      rw [T1.1, T1.2.1, T1.2.2.1, T1.2.2.2] at hv
      rw [T1.2.1] at r4
      subst hv
      have g3 := g2.trans o4
      (repeat (first | refine pSeq ?_ | refine pReg ?_ | refine sRaw ?_ | refine sCons ?_ | refine sNil ?_ | refine rCons ?_ | refine rNil ?_ | refine pRow ?_ | refine pBlock ?_ | refine pSkip ?_ | refine pExit ?_ | refine pRet ?_ | refine pCond ?_ | refine gNone ?_ | refine gOn rfl ?_ | refine gOff rfl rfl ?_))
      intro q hq
      obtain rfl : q = false := by rw [hq]; simp
      (repeat (first | refine pSeq ?_ | refine pReg ?_ | refine sRaw ?_ | refine sCons ?_ | refine sNil ?_ | refine rCons ?_ | refine rNil ?_ | refine pRow ?_ | refine pBlock ?_ | refine pSkip ?_ | refine pExit ?_ | refine pRet ?_ | refine pCond ?_ | refine gNone ?_ | refine gOn rfl ?_ | refine gOff rfl rfl ?_))
      refine toStr_Rdb rfl r4 ?_
      (repeat (first | refine pSeq ?_ | refine pReg ?_ | refine sRaw ?_ | refine sCons ?_ | refine sNil ?_ | refine rCons ?_ | refine rNil ?_ | refine pRow ?_ | refine pBlock ?_ | refine pSkip ?_ | refine pExit ?_ | refine pRet ?_ | refine pCond ?_ | refine gNone ?_ | refine gOn rfl ?_ | refine gOff rfl rfl ?_))
      refine toStr_Rdb rfl (Rdb_old (hrow m (by omega)).1 g3) ?_
      (repeat (first | refine pSeq ?_ | refine pReg ?_ | refine sRaw ?_ | refine sCons ?_ | refine sNil ?_ | refine rCons ?_ | refine rNil ?_ | refine pRow ?_ | refine pBlock ?_ | refine pSkip ?_ | refine pExit ?_ | refine pRet ?_ | refine pCond ?_ | refine gNone ?_ | refine gOn rfl ?_ | refine gOff rfl rfl ?_))
      intro q hq
      obtain rfl : q = false := by rw [hq]; simp
      (repeat (first | refine pSeq ?_ | refine pReg ?_ | refine sRaw ?_ | refine sCons ?_ | refine sNil ?_ | refine rCons ?_ | refine rNil ?_ | refine pRow ?_ | refine pBlock ?_ | refine pSkip ?_ | refine pExit ?_ | refine pRet ?_ | refine pCond ?_ | refine gNone ?_ | refine gOn rfl ?_ | refine gOff rfl rfl ?_))
      intro q hq
      obtain rfl : q = false := by rw [hq]; simp; omega
      (repeat (first | refine pSeq ?_ | refine pReg ?_ | refine sRaw ?_ | refine sCons ?_ | refine sNil ?_ | refine rCons ?_ | refine rNil ?_ | refine pRow ?_ | refine pBlock ?_ | refine pSkip ?_ | refine pExit ?_ | refine pRet ?_ | refine pCond ?_ | refine gNone ?_ | refine gOn rfl ?_ | refine gOff rfl rfl ?_))
      intro z3 hz3
      have hcl := cB_len (p := p) m
      have hcl2 := cB_le hp (m + 1)
      rw [i64_id (by omega)] at hz3
      obtain rfl : z3 = ((cB p (m + 1)).length : Int) := by rw [hz3, hcl]; omega
      (repeat (first | refine pSeq ?_ | refine pReg ?_ | refine sRaw ?_ | refine sCons ?_ | refine sNil ?_ | refine rCons ?_ | refine rNil ?_ | refine pRow ?_ | refine pBlock ?_ | refine pSkip ?_ | refine pExit ?_ | refine pRet ?_ | refine pCond ?_ | refine gNone ?_ | refine gOn rfl ?_ | refine gOff rfl rfl ?_))
      intro z4 hz4
      rw [i64_id (by omega)] at hz4
      obtain rfl : z4 = ((m + 1 : Nat) : Int) := by rw [hz4]; omega
      (repeat (first | refine pSeq ?_ | refine pReg ?_ | refine sRaw ?_ | refine sCons ?_ | refine sNil ?_ | refine rCons ?_ | refine rNil ?_ | refine pRow ?_ | refine pBlock ?_ | refine pSkip ?_ | refine pExit ?_ | refine pRet ?_ | refine pCond ?_ | refine gNone ?_ | refine gOn rfl ?_ | refine gOff rfl rfl ?_))
      exact ⟨(m + 1, s3), ⟨by dsimp only; omega, os2.trans o4⟩, by dsimp only; omega, Wk.same ⟨rfl, rfl, rfl, rfl, rfl, rfl, rfl, rfl, trivial⟩⟩
    · obtain rfl : q = false := by rw [hq]; simp; omega
      obtain rfl : i2 = j := by omega
      (repeat (first | refine pSeq ?_ | refine pReg ?_ | refine sRaw ?_ | refine sCons ?_ | refine sNil ?_ | refine rCons ?_ | refine rNil ?_ | refine pRow ?_ | refine pBlock ?_ | refine pSkip ?_ | refine pExit ?_ | refine pRet ?_ | refine pCond ?_ | refine gNone ?_ | refine gOn rfl ?_ | refine gOff rfl rfl ?_))
      intro z hz
      rw [i64_id (by omega)] at hz
      (repeat (first | refine pSeq ?_ | refine pReg ?_ | refine sRaw ?_ | refine sCons ?_ | refine sNil ?_ | refine rCons ?_ | refine rNil ?_ | refine pRow ?_ | refine pBlock ?_ | refine pSkip ?_ | refine pExit ?_ | refine pRet ?_ | refine pCond ?_ | refine gNone ?_ | refine gOn rfl ?_ | refine gOff rfl rfl ?_))
      intro z2 hz2
      obtain rfl : z2 = ((BitVec.ofNat 32 (i2 + 1)).toNat : Int) := by rw [hz2, hz, ← i64_u32 (by omega)]; rfl
      (repeat (first | refine pSeq ?_ | refine pReg ?_ | refine sRaw ?_ | refine sCons ?_ | refine sNil ?_ | refine rCons ?_ | refine rNil ?_ | refine pRow ?_ | refine pBlock ?_ | refine pSkip ?_ | refine pExit ?_ | refine pRet ?_ | refine pCond ?_ | refine gNone ?_ | refine gOn rfl ?_ | refine gOff rfl rfl ?_))
      refine ⟨by decide, ?_⟩
      intro m m' hm hm' cs hcs
      obtain rfl : m = 30 := by omega
      obtain rfl : m' = 30 := by omega
      rw [repeat_bytes] at hcs
      subst hcs
      have oz := old_cons (x := .cells (bytesV (List.replicate 30 0)) 5 false false) g2
      have rz : Rdb ⟨(s2.next, some (.cells (bytesV (List.replicate 30 0)) 5 false false)) :: s2.heap, s2.next + 1, s2.gl⟩ (some ⟨s2.next, 0, none⟩) 30 (List.replicate 30 0) := Rdb.head (s := s2) s2.heap 5 false (by simp)
      have E := zeros_open (cA p i2) (show i2 ≤ 8 by omega)
      have N := told_none (a := cA p i2) (k := BitVec.ofNat 32 (i2 + 1)) (l := List.replicate 30 0) (by rw [E]; decide)
      (repeat (first | refine pSeq ?_ | refine pReg ?_ | refine sRaw ?_ | refine sCons ?_ | refine sNil ?_ | refine rCons ?_ | refine rNil ?_ | refine pRow ?_ | refine pBlock ?_ | refine pSkip ?_ | refine pExit ?_ | refine pRet ?_ | refine pCond ?_ | refine gNone ?_ | refine gOn rfl ?_ | refine gOff rfl rfl ?_))
      refine (open_w (l := List.replicate 30 0) ⟨oz.gl.trans hg, oz.blk _ _ hn hs, Nat.le_trans hn oz.next, rz⟩ ⟨rz, _, _, _, _, look_head, (fun q => by cases q), fun _ => Nat.le_refl _⟩ (by omega) (cA p i2) (BitVec.ofNat 32 (i2 + 1))).mono fun v s3 q => ?_
      obtain ⟨b4, c4, ⟨hv, r4, o4⟩, n4⟩ := q
      rw [E, N.1, N.2.1, N.2.2] at hv
      subst hv
      have g3 := oz.trans o4
      (repeat (first | refine pSeq ?_ | refine pReg ?_ | refine sRaw ?_ | refine sCons ?_ | refine sNil ?_ | refine rCons ?_ | refine rNil ?_ | refine pRow ?_ | refine pBlock ?_ | refine pSkip ?_ | refine pExit ?_ | refine pRet ?_ | refine pCond ?_ | refine gNone ?_ | refine gOn rfl ?_ | refine gOff rfl rfl ?_))
      intro q hq
      obtain rfl : q = true := by rw [hq]; simp
      (repeat (first | refine pSeq ?_ | refine pReg ?_ | refine sRaw ?_ | refine sCons ?_ | refine sNil ?_ | refine rCons ?_ | refine rNil ?_ | refine pRow ?_ | refine pBlock ?_ | refine pSkip ?_ | refine pExit ?_ | refine pRet ?_ | refine pCond ?_ | refine gNone ?_ | refine gOn rfl ?_ | refine gOff rfl rfl ?_))
      intro q hq
      obtain rfl : q = true := by rw [hq]; simp
      (repeat (first | refine pSeq ?_ | refine pReg ?_ | refine sRaw ?_ | refine sCons ?_ | refine sNil ?_ | refine rCons ?_ | refine rNil ?_ | refine pRow ?_ | refine pBlock ?_ | refine pSkip ?_ | refine pExit ?_ | refine pRet ?_ | refine pCond ?_ | refine gNone ?_ | refine gOn rfl ?_ | refine gOff rfl rfl ?_))
      intro q hq
      obtain rfl : q = true := by rw [hq]; simp
      (repeat (first | refine pSeq ?_ | refine pReg ?_ | refine sRaw ?_ | refine sCons ?_ | refine sNil ?_ | refine rCons ?_ | refine rNil ?_ | refine pRow ?_ | refine pBlock ?_ | refine pSkip ?_ | refine pExit ?_ | refine pRet ?_ | refine pCond ?_ | refine gNone ?_ | refine gOn rfl ?_ | refine gOff rfl rfl ?_))
      refine (CallW.of_ok (tells_ok (g3.gl.trans hg) (g3.blk _ _ hn hs) (Nat.le_trans hn g3.next)) ⟨rfl, rfl⟩ : CallW pr n_law02_tells _ _ fun v s' => v = _ ∧ s' = _).mono fun v s12 q => ?_
      obtain ⟨rfl, rfl⟩ := q
      (repeat (first | refine pSeq ?_ | refine pReg ?_ | refine sRaw ?_ | refine sCons ?_ | refine sNil ?_ | refine rCons ?_ | refine rNil ?_ | refine pRow ?_ | refine pBlock ?_ | refine pSkip ?_ | refine pExit ?_ | refine pRet ?_ | refine pCond ?_ | refine gNone ?_ | refine gOn rfl ?_ | refine gOff rfl rfl ?_))
      rfl
end Go.Vf.S

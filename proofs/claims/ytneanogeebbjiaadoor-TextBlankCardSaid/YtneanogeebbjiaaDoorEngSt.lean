import Derived.Test.YtneanogeebbjiaaDoorEngW
/- States: what changes and what stays; bytes of one's own. -/
namespace Go.Vf
set_option linter.unusedVariables false
set_option linter.unusedSimpArgs false

theorem lkH {k : Nat} {v : Option ABlk} {r : List (Nat × Option ABlk)} : lookH ((k, v) :: r) k = v := by
  simp only [lookH, Nat.beq_refl, cond_true]
theorem lkT {k j : Nat} {v : Option ABlk} {r : List (Nat × Option ABlk)} {b : ABlk} (h : k ≠ j) (hr : lookH r j = some b) : lookH ((k, v) :: r) j = some b := by
  simp only [lookH, beqF h, cond_false]; exact hr
theorem lkN {k j : Nat} {v : Option ABlk} {r : List (Nat × Option ABlk)} (h : k ≠ j) (hr : lookH r j = none) : lookH ((k, v) :: r) j = none := by
  simp only [lookH, beqF h, cond_false]; exact hr

/-- Nothing is laid behind what is laid. -/
def Fine (s : SS) : Prop := ∀ id, s.next ≤ id → lookH s.heap id = none

theorem Fine.at {s : SS} (h : Fine s) : lookH s.heap s.next = none := h _ (Nat.le_refl _)

/-- Some blocks may change; what else was there stays. -/
structure Chg (s s' : SS) (A : List Nat) : Prop where
  gl : s'.gl = s.gl
  next : s.next ≤ s'.next
  blk : ∀ id x, id < s.next → id ∉ A → lookH s.heap id = some x → lookH s'.heap id = some x
  fine : Fine s → Fine s'

theorem Chg.refl (s : SS) (A : List Nat) : Chg s s A := ⟨rfl, Nat.le_refl _, fun _ _ _ _ h => h, fun h => h⟩
theorem Chg.trans {a b c : SS} {A B : List Nat} (h : Chg a b A) (k : Chg b c B) : Chg a c (A ++ B) :=
  ⟨k.gl.trans h.gl, Nat.le_trans h.next k.next, fun id x hid hA hx => k.blk id x (Nat.lt_of_lt_of_le hid h.next) (fun q => hA (List.mem_append_right _ q)) (h.blk id x hid (fun q => hA (List.mem_append_left _ q)) hx), fun f => k.fine (h.fine f)⟩
theorem Chg.sub {s s' : SS} {A B : List Nat} (h : Chg s s' A) (hs : ∀ id ∈ A, id < s.next → id ∈ B) : Chg s s' B :=
  ⟨h.gl, h.next, fun id x hid hB hx => h.blk id x hid (fun q => hB (hs id q hid)) hx, h.fine⟩
theorem Chg.trans' {a b c : SS} {A B C : List Nat} (h : Chg a b A) (k : Chg b c B) (hA : ∀ id ∈ A, id < a.next → id ∈ C) (hB : ∀ id ∈ B, id < a.next → id ∈ C) : Chg a c C :=
  (h.trans k).sub fun id q hid => (List.mem_append.1 q).elim (fun q => hA id q hid) (fun q => hB id q hid)

theorem Chg.new {s : SS} {b : ABlk} (A : List Nat) : Chg s { s with heap := (s.next, some b) :: s.heap, next := s.next + 1 } A :=
  ⟨rfl, Nat.le_succ _, fun id x hid _ hx => lkT (by omega) hx, fun f id hid => by
    have hid' : s.next + 1 ≤ id := hid
    exact lkN (by omega) (f id (by omega))⟩
theorem Chg.new2 {s : SS} {b : ABlk} {i : Nat} : Chg s { s with heap := (s.next, some b) :: (i, none) :: s.heap, next := s.next + 1 } [i] :=
  ⟨rfl, Nat.le_succ _, fun id x hid hA hx => lkT (by omega) (lkT (fun e => hA (by simp [e])) hx), fun f id hid => by
    have hid' : s.next + 1 ≤ id := hid
    refine lkN (by omega) ?_
    by_cases e : i = id
    · subst e; exact lkH
    · exact lkN e (f id (by omega))⟩
theorem Chg.turn {s : SS} {b : ABlk} {i : Nat} (h : i < s.next) : Chg s { s with heap := (i, some b) :: s.heap } [i] :=
  ⟨rfl, Nat.le_refl _, fun id x hid hA hx => lkT (fun e => hA (by simp [e])) hx, fun f id hid => by
    have hid' : s.next ≤ id := hid
    exact lkN (by omega) (f id hid)⟩
theorem Chg.nil {a b c : SS} {Z : List Nat} (h : Chg a b []) (k : Chg b c Z) : Chg a c Z := h.trans k
/-- What changes is new. -/
theorem Chg.fresh {a b c : SS} {A Z : List Nat} (h : Chg a b A) (k : Chg b c Z) (hz : ∀ id ∈ Z, a.next ≤ id) : Chg a c A :=
  h.trans' k (fun id q _ => q) (fun id q hid => absurd (hz id q) (Nat.not_le.2 hid))
theorem Chg.keep {s s' : SS} (h : Chg s s' []) (f : Fine s) : Keep s s' :=
  ⟨h.gl, fun id b hb => by
    rcases Nat.lt_or_ge id s.next with q | q
    · exact h.blk id b q (by simp) hb
    · rw [f id q] at hb; cases hb⟩

/-- An address's block. -/
def blkOf : Option Addr → List Nat
  | none => []
  | some a => [a.block]

section
variable {P : Program} {tB : TypeId}

/-- Bytes of one's own: nobody else's slice reads them. -/
def Own (tB : TypeId) (s : SS) (base : Option Addr) (l : List UInt8) : Prop :=
  match base with
  | none => l = []
  | some ⟨b, off, sp⟩ => off = 0 ∧ sp = none ∧ b < s.next ∧ ∃ g, lookH s.heap b = some (.cells (bytesV l) tB g false) ∧ (g = false → l = [])

theorem Own.lt {s : SS} {base : Option Addr} {l : List UInt8} (h : Own tB s base l) : ∀ id ∈ blkOf base, id < s.next := by
  cases base with
  | none => simp [blkOf]
  | some a =>
    obtain ⟨b, off, sp⟩ := a
    intro id hid
    simp only [blkOf, List.mem_singleton] at hid
    subst hid
    exact h.2.2.1

theorem Own.chg {s s' : SS} {base : Option Addr} {l : List UInt8} {A : List Nat} (h : Own tB s base l) (c : Chg s s' A) (hA : ∀ id ∈ blkOf base, id ∉ A) : Own tB s' base l := by
  cases base with
  | none => exact h
  | some a =>
    obtain ⟨b, off, sp⟩ := a
    obtain ⟨h1, h2, h3, g, h4, h5⟩ := h
    exact ⟨h1, h2, Nat.lt_of_lt_of_le h3 c.next, g, c.blk _ _ h3 (hA b (by simp [blkOf])) h4, h5⟩

theorem Own.rdb {s : SS} {base : Option Addr} {l : List UInt8} (h : Own tB s base l) : Rdb s base l.length l := by
  cases base with
  | none => exact ⟨rfl, h⟩
  | some a =>
    obtain ⟨b, off, sp⟩ := a
    obtain ⟨rfl, rfl, h3, g, h4, h5⟩ := h
    refine ⟨rfl, rfl, h3, _, _, _, _, h4, ?_, bytesV_plain _⟩
    rw [takeN_bytes (by omega), List.drop_zero, List.take_of_length_le (by omega)]

theorem Own.slc {s : SS} {base : Option Addr} {l : List UInt8} (hz : sizeB P tB = some 1) (h : Own tB s base l) : Slc P s base l.length 0 l := by
  refine ⟨h.rdb, ?_⟩
  cases base with
  | none => trivial
  | some a =>
    obtain ⟨b, off, sp⟩ := a
    obtain ⟨rfl, rfl, h3, g, h4, h5⟩ := h
    exact ⟨_, _, _, _, h4, fun _ => hz, fun q => by rw [h5 q]; exact Nat.le_refl _⟩

theorem Rdb.chg {s s' : SS} {base : Option Addr} {n : Nat} {l : List UInt8} {A : List Nat} (h : Rdb s base n l) (c : Chg s s' A) (hA : ∀ id ∈ blkOf base, id ∉ A) : Rdb s' base n l := by
  cases base with
  | none => exact h
  | some a =>
    obtain ⟨b, off, sp⟩ := a
    obtain ⟨h1, h2, h3, cc, t, g, r, h4, h5, h6⟩ := h
    exact ⟨h1, h2, Nat.lt_of_lt_of_le h3 c.next, cc, t, g, r, c.blk _ _ h3 (hA b (by simp [blkOf])) h4, h5, h6⟩

theorem Slc.chg {s s' : SS} {base : Option Addr} {n cap : Nat} {l : List UInt8} {A : List Nat} (h : Slc P s base n cap l) (c : Chg s s' A) (hA : ∀ id ∈ blkOf base, id ∉ A) : Slc P s' base n cap l := by
  refine ⟨h.1.chg c hA, ?_⟩
  have h2 := h.2
  cases base with
  | none => trivial
  | some a =>
    obtain ⟨b, off, sp⟩ := a
    obtain ⟨cc, t, g, r, q1, q2, q3⟩ := h2
    obtain ⟨_, _, h3, _⟩ := h.1
    exact ⟨cc, t, g, r, c.blk _ _ h3 (hA b (by simp [blkOf])) q1, q2, q3⟩

theorem Rdb.lt {s : SS} {base : Option Addr} {n : Nat} {l : List UInt8} (h : Rdb s base n l) : ∀ id ∈ blkOf base, id < s.next := by
  cases base with
  | none => simp [blkOf]
  | some a =>
    obtain ⟨b, off, sp⟩ := a
    intro id hid
    simp only [blkOf, List.mem_singleton] at hid
    subst hid
    exact h.2.2.1

end

section
variable {P : Program} {T : TL} {s : SS} {K : RR → Prop} {x y : Operand} {base : Option Addr} {n c b off : Nat} {l a : List UInt8} {e : TypeId}

theorem ldI_is {k : IntKind} {cs : List Value} {t : TypeId} {g r : Bool} {z : Int} (hx : opd T s.gl x = some (.pointer (some ⟨b, off, none⟩))) (hb : lookH s.heap b = some (.cells cs t g r)) (hc : cs[off]? = some (.int k z))
    (h : K (.val (.int k z))) : wN P (.ldI k x) T s K := ldI_at hx hb hc h
theorem ldB_is {cs : List Value} {t : TypeId} {g r : Bool} {z : Bool} (hx : opd T s.gl x = some (.pointer (some ⟨b, off, none⟩))) (hb : lookH s.heap b = some (.cells cs t g r)) (hc : cs[off]? = some (.bool z))
    (h : K (.val (.bool z))) : wN P (.ldB x) T s K := by
  simp only [wN, hx, hb]
  exact ⟨z, hc, h⟩
theorem ld1_is {cs : List Value} {t : TypeId} {g r : Bool} {v : Value} (hx : opd T s.gl x = some (.pointer (some ⟨b, off, none⟩))) (hb : lookH s.heap b = some (.cells cs t g r)) (hc : cs[off]? = some v)
    (h : K (.val v)) : wN P (.ld1 x) T s K := by
  simp only [wN, hx, hb]
  exact ⟨v, hc, h⟩
theorem ldN_is {m : Nat} {cs new : List Value} {t : TypeId} {g r : Bool} (hx : opd T s.gl x = some (.pointer (some ⟨b, off, none⟩))) (hb : lookH s.heap b = some (.cells cs t g r)) (hc : takeN m (cs.drop off) = some new)
    (h : K (.val (.agg ⟨new⟩))) : wN P (.ldN m x) T s K := by
  simp only [wN, hx, hb]
  exact ⟨new, hc, h⟩
theorem st_is {m : Nat} {cs cs' : List Value} {v : Value} {t : TypeId} {g : Bool} (hx : opd T s.gl x = some (.pointer (some ⟨b, off, none⟩))) (hy : opd T s.gl y = some v) (hb : lookH s.heap b = some (.cells cs t g false))
    (hf : (Nat.beq (flat v).length m && all1 (flat v)) = true) (hc : setRow cs off (flat v) = some cs') (h : K (.eff (.tuple #[]) { s with heap := (b, some (.cells cs' t g false)) :: s.heap })) : wN P (.st m x y) T s K := by
  simp only [wN, hx, hy, hb, hf]
  exact ⟨cs', hc, h⟩

/-- A store: one block turned. -/
theorem st_abs {m : Nat} {cs cs' : List Value} {v : Value} {t : TypeId} {g : Bool} (hx : opd T s.gl x = some (.pointer (some ⟨b, off, none⟩))) (hy : opd T s.gl y = some v) (hb : lookH s.heap b = some (.cells cs t g false)) (hlt : b < s.next)
    (hf : (Nat.beq (flat v).length m && all1 (flat v)) = true) (hc : setRow cs off (flat v) = some cs') (h : ∀ s' : SS, lookH s'.heap b = some (.cells cs' t g false) → Chg s s' [b] → s'.next = s.next → K (.eff (.tuple #[]) s')) : wN P (.st m x y) T s K :=
  st_is hx hy hb hf hc (h _ lkH (.turn hlt) rfl)

theorem mkS_is {z cs : List Value} {m : Nat} {ps : List (Nat × Nat × Operand)} {vs : List (Nat × Nat × Value)} (hl : opdPs T s.gl ps = some vs) (hc : layM z vs = some cs) (h : K (.new (.cells cs e false false) fun id => .slice (some ⟨id, 0, none⟩) m m)) : wN P (.mkS e m z ps) T s K := by
  simp only [wN, hl, hc]
  exact h
theorem box_is {v : Value} (hx : opd T s.gl x = some v) (h : K (.new (.cells (flat v) e false false) fun id => .pointer (some ⟨id, 0, none⟩))) : wN P (.box e x) T s K := by
  simp only [wN, hx]
  exact h

theorem repeat_bytes : ∀ n : Nat, repeatL n [.int .u8 0] = bytesV (List.replicate n 0)
  | 0 => rfl
  | n + 1 => by
    have := repeat_bytes n
    show [.int .u8 0] ++ repeatL n [.int .u8 0] = _
    rw [this, List.replicate_succ]
    rfl

/-- A slice that is cut lies in the same block. -/
theorem slL_same {lo hi : Option Operand} {vl vh : Option Value} (i w : Nat) {cap : Nat} (hx : opd T s.gl x = some (.slice base n cap)) (hl : opdO T s.gl lo = some vl) (hh : opdO T s.gl hi = some vh) (hr : Slc P s base n cap l)
    (hi' : isBnd vl 0 i) (hj : isBnd vh n (i + w)) (hjn : i + w ≤ n)
    (h : ∀ (base' : Option Addr) (cap' : Nat), Slc P s base' w cap' ((l.drop i).take w) → (∀ id ∈ blkOf base', id ∈ blkOf base) → K (.val (.slice base' w cap'))) : wN P (.slL 1 x lo hi) T s K := by
  obtain ⟨hr, hg⟩ := hr
  have hn := hr.1
  cases base with
  | none =>
    have hl0 : l = [] := hr.2
    subst hl0
    obtain rfl : w = 0 := by simp at hn; omega
    obtain rfl : i = 0 := by simp at hn; omega
    simp only [wN, hx, hl, hh]
    refine wBnd_is hj (Nat.zero_le _) (wBnd_is hi' (Nat.zero_le _) ?_)
    exact h none _ ⟨⟨rfl, rfl⟩, trivial⟩ (fun _ q => q)
  | some q =>
    obtain ⟨b, off, sp⟩ := q
    obtain ⟨h1, rfl, h0, cc, t, g, r, h2, h3, h4⟩ := hr
    obtain ⟨c', t', g', r', g1, g2, g3⟩ := hg
    rw [g1] at h2
    cases h2
    obtain ⟨e1, e2⟩ := takeN_inv h3
    have key : takeN w (cc.drop (off + i)) = some (bytesV ((l.drop i).take w)) := by
      have e0 : cc.drop (off + i) = (cc.drop off).drop i := by rw [List.drop_drop]
      have e3 : ((cc.drop off).drop i).take w = bytesV ((l.drop i).take w) := by
        have := congrArg (fun z => (List.drop i z).take w) e1
        simp only [bytesV_drop, bytesV_take] at this
        rw [this, List.drop_take, List.take_take, Nat.min_eq_left (by omega)]
      rw [e0, takeN_take _ _ (by rw [List.length_drop]; omega), e3]
    have len : w = ((l.drop i).take w).length := by rw [List.length_take, List.length_drop]; omega
    simp only [wN, hx, hl, hh, g1]
    cases g with
    | true =>
      refine ⟨g2 rfl, wBnd_is hj hjn (wBnd_is hi' (Nat.le_add_right _ _) fun o n' ho hn' => ?_)⟩
      obtain rfl : n' = w := by omega
      subst ho
      rw [Nat.mul_one]
      exact h _ _ ⟨⟨len, rfl, h0, _, _, _, _, g1, key, h4⟩, _, _, _, _, g1, g2, fun q => by cases q⟩ (fun _ q => q)
    | false =>
      have hcap := g3 rfl
      refine wBnd_is hj (by omega) (wBnd_is hi' (Nat.le_add_right _ _) fun o n' d ho hn' hd => ?_)
      obtain rfl : n' = w := by omega
      subst hd
      by_cases hc : cap = i
      · rw [if_pos hc] at ho
        subst ho
        obtain rfl : n' = 0 := by omega
        exact h _ _ ⟨⟨len, rfl, h0, _, _, _, _, g1, by rw [List.take_zero]; rfl, h4⟩, _, _, _, _, g1, g2, fun _ => by omega⟩ (fun _ q => q)
      · rw [if_neg hc, Nat.mul_one] at ho
        subst ho
        exact h _ _ ⟨⟨len, rfl, h0, _, _, _, _, g1, key, h4⟩, _, _, _, _, g1, g2, fun _ => by omega⟩ (fun _ q => q)

/-- Bytes behind one's own. -/
theorem appB_own {m : Nat} {new : List UInt8} (ho : Own e s base a) (hm : m = a.length) (hn : n = new.length) (h0 : 0 < n) (hb : m + n ≤ 4294967296)
    (h : ∀ s' : SS, Own e s' (some ⟨s.next, 0, none⟩) (a ++ new) → Chg s s' (blkOf base) → s'.next = s.next + 1 → K (.eff (.slice (some ⟨s.next, 0, none⟩) (m + n) 0) s')) : wAppB s e 1 1 base m 0 n (bytesV new) K := by
  refine ⟨⟨by omega, hb, by rw [bytesV_len, hn, Nat.mul_one], all1_bytesV _⟩, ?_⟩
  cases base with
  | none =>
    have ha : a = [] := ho
    subst ha
    refine ⟨fun q => by omega, fun _ => ⟨hm, fun m' hm' => ?_⟩⟩
    have := h { s with heap := (s.next, some (.cells (bytesV new) e true false)) :: s.heap, next := s.next + 1 } ⟨rfl, rfl, Nat.lt_succ_self _, true, lkH, fun q => by cases q⟩ (.new _) rfl
    rw [show m + n = m' by simp at hm; omega] at this
    exact this
  | some q =>
    obtain ⟨b, off, sp⟩ := q
    obtain ⟨rfl, rfl, h3, g, h4, h5⟩ := ho
    simp only [h4]
    have old : takeN (m * 1) ((bytesV a).drop 0) = some (bytesV a) := by
      rw [Nat.mul_one, takeN_bytes (by omega), List.drop_zero, List.take_of_length_le (by omega)]
    cases g with
    | true =>
      refine ⟨fun q => by omega, fun _ => ⟨rfl, rfl, _, old, fun m' l' hm' hl' => ?_⟩⟩
      subst hm'; subst hl'
      rw [bytesV_append]
      exact h { s with heap := (s.next, some (.cells (bytesV (a ++ new)) e true false)) :: (b, none) :: s.heap, next := s.next + 1 } ⟨rfl, rfl, Nat.lt_succ_self _, true, lkH, fun q => by cases q⟩ .new2 rfl
    | false =>
      have ha := h5 rfl
      subst ha
      refine ⟨fun q => by omega, fun _ => ⟨_, old, fun m' l' hm' hl' => ?_⟩⟩
      subst hm'; subst hl'
      rw [bytesV_append]
      exact h { s with heap := (s.next, some (.cells (bytesV ([] ++ new)) e true false)) :: s.heap, next := s.next + 1 } ⟨rfl, rfl, Nat.lt_succ_self _, true, lkH, fun q => by cases q⟩ (.new _) rfl

/-- Bytes 0 behind one's own. -/
theorem appZ_own {m : Nat} {z : Int} (ho : Own e s base a) (hm : m = a.length) (hx : opd T s.gl x = some (.slice base m 0)) (hy : opd T s.gl y = some (.int .i64 z)) (hz : z = (n : Int)) (h0 : 0 < n) (hb : m + n ≤ 1073741824)
    (h : ∀ s' : SS, Own e s' (some ⟨s.next, 0, none⟩) (a ++ List.replicate n 0) → Chg s s' (blkOf base) → s'.next = s.next + 1 → K (.eff (.slice (some ⟨s.next, 0, none⟩) (m + n) 0) s')) : wN P (.appZ e 1 1 [.int .u8 0] x y) T s K := by
  simp only [wN, hx, hy]
  subst hz
  refine ⟨by omega, fun k hk new hnew => ?_⟩
  obtain rfl : k = n := by omega
  subst hnew
  rw [repeat_bytes]
  exact appB_own ho hm (by simp) h0 (by omega) h

/-- A slice's bytes behind one's own. -/
theorem app_own {m : Nat} {sb : Option Addr} (ho : Own e s base a) (hm : m = a.length) (hx : opd T s.gl x = some (.slice base m 0)) (hy : opd T s.gl y = some (.slice sb n c)) (hr : Rdb s sb n l) (h0 : 0 < n) (hb : m + n ≤ 1073741824)
    (h : ∀ s' : SS, Own e s' (some ⟨s.next, 0, none⟩) (a ++ l) → Chg s s' (blkOf base) → s'.next = s.next + 1 → K (.eff (.slice (some ⟨s.next, 0, none⟩) (m + n) 0) s')) : wN P (.app e 1 1 x y) T s K := by
  simp only [wN, hx, hy]
  exact wSrc_Rdb hr (appB_own ho hm hr.1 h0 (by omega) h)

/-- Bytes laid over bytes. -/
theorem cpy_own {g : Bool} {dl c1 : Nat} {sb : Option Addr} (hx : opd T s.gl x = some (.slice (some ⟨b, off, none⟩) dl c1)) (hb : lookH s.heap b = some (.cells (bytesV a) e g false)) (hy : opd T s.gl y = some (.slice sb n c)) (hr : Rdb s sb n l) (h0 : 0 < n) (hdl : n ≤ dl) (hlen : off + n ≤ a.length)
    (h : K (.eff (.int .i64 n) { s with heap := (b, some (.cells (bytesV (a.take off ++ l ++ a.drop (off + n))) e g false)) :: s.heap })) : wN P (.cpy 1 x y) T s K := by
  have hn := hr.1
  simp only [wN, hx, hy]
  cases sb with
  | none =>
    have : l = [] := hr.2
    subst this
    simp at hn
    omega
  | some q =>
    obtain ⟨b2, o2, sp2⟩ := q
    obtain ⟨-, rfl, -, cc, t, g2, r, h2, h3, -⟩ := hr
    simp only [wSrcN, h2]
    have e1 : min n dl = n := by omega
    refine ⟨bytesV l, by rw [e1, Nat.mul_one]; exact h3, fun q => by omega, fun _ => ⟨all1_bytesV _, ?_⟩⟩
    simp only [hb]
    refine ⟨_, setRow_bytes a l off (by omega), ?_⟩
    rw [e1]
    rw [hn] at h ⊢
    exact h

end

section
variable {P : Program} {T : TL} {s : SS} {K : RR → Prop} {x y : Operand}

/-- A row that is appended to: its cells, and how many things it has. -/
def OwnR (t : TypeId) (s : SS) (W : Option Addr) (cw n : Nat) (cs : List Value) : Prop :=
  match W with
  | none => cs = [] ∧ n = 0 ∧ cw = 0
  | some ⟨b, off, sp⟩ => off = 0 ∧ sp = none ∧ b < s.next ∧ ∃ g, lookH s.heap b = some (.cells cs t g false) ∧ (g = false → cw = n)

theorem OwnR.lt {t : TypeId} {W : Option Addr} {cw n : Nat} {cs : List Value} (h : OwnR t s W cw n cs) : ∀ id ∈ blkOf W, id < s.next := by
  cases W with
  | none => simp [blkOf]
  | some a =>
    obtain ⟨b, off, sp⟩ := a
    intro id hid
    simp only [blkOf, List.mem_singleton] at hid
    subst hid
    exact h.2.2.1
theorem OwnR.chg {t : TypeId} {s' : SS} {W : Option Addr} {cw n : Nat} {cs : List Value} {A : List Nat} (h : OwnR t s W cw n cs) (c : Chg s s' A) (hA : ∀ id ∈ blkOf W, id ∉ A) : OwnR t s' W cw n cs := by
  cases W with
  | none => exact h
  | some a =>
    obtain ⟨b, off, sp⟩ := a
    obtain ⟨h1, h2, h3, g, h4, h5⟩ := h
    exact ⟨h1, h2, Nat.lt_of_lt_of_le h3 c.next, g, c.blk _ _ h3 (hA b (by simp [blkOf])) h4, h5⟩
theorem OwnR.at {t : TypeId} {W : Option Addr} {cw n : Nat} {cs : List Value} (h : OwnR t s W cw n cs) : ∀ id ∈ blkOf W, ∃ g, lookH s.heap id = some (.cells cs t g false) := by
  cases W with
  | none => simp [blkOf]
  | some a =>
    obtain ⟨b, off, sp⟩ := a
    intro id hid
    simp only [blkOf, List.mem_singleton] at hid
    subst hid
    obtain ⟨h1, h2, h3, g, h4, h5⟩ := h
    exact ⟨g, h4⟩
theorem OwnR.pos {t : TypeId} {W : Option Addr} {cw n : Nat} {cs : List Value} (h : OwnR t s W cw n cs) (hn : 0 < n) : ∃ b g, W = some ⟨b, 0, none⟩ ∧ lookH s.heap b = some (.cells cs t g false) := by
  cases W with
  | none => obtain ⟨_, h, _⟩ := h; omega
  | some a =>
    obtain ⟨b, off, sp⟩ := a
    obtain ⟨rfl, rfl, h3, g, h4, h5⟩ := h
    exact ⟨b, g, rfl, h4⟩

/-- One thing behind a row. -/
theorem appR {t t' : TypeId} {size bytes : Nat} {W : Option Addr} {cw n b : Nat} {cs new : List Value} {g r : Bool} (h : OwnR t s W cw n cs) (hsz : cs.length = n * size) (hb1 : (n + 1) * bytes ≤ 140737488355328 ∧ n + 1 ≤ 4294967296) (hx : opd T s.gl x = some (.slice W n cw)) (hy : opd T s.gl y = some (.slice (some ⟨b, 0, none⟩) 1 1))
    (hb : lookH s.heap b = some (.cells new t' g r)) (hnew : new.length = size) (ha : all1 new = true) (hK : ∀ s' : SS, OwnR t s' (some ⟨s.next, 0, none⟩) 0 (n + 1) (cs ++ new) → Chg s s' (blkOf W) → s'.next = s.next + 1 → K (.eff (.slice (some ⟨s.next, 0, none⟩) (n + 1) 0) s')) : wN P (.app t size bytes x y) T s K := by
  simp only [wN, hx, hy, wSrc, hb]
  refine ⟨new, by rw [List.drop_zero, Nat.one_mul, takeN_take _ _ (by omega), List.take_of_length_le (by omega)], ⟨⟨hb1.1, hb1.2, by rw [Nat.one_mul]; exact hnew, ha⟩, ?_⟩⟩
  cases W with
  | none =>
    obtain ⟨rfl, rfl, rfl⟩ := h
    refine ⟨fun q => by simp at q, fun _ => ⟨rfl, fun m' hm' => ?_⟩⟩
    subst hm'
    exact hK { s with heap := (s.next, some (.cells new t true false)) :: s.heap, next := s.next + 1 } ⟨rfl, rfl, Nat.lt_succ_self _, true, by simp only [List.nil_append]; exact lkH, fun q => by cases q⟩ (.new _) rfl
  | some q =>
    obtain ⟨b2, off, sp⟩ := q
    obtain ⟨rfl, rfl, h3, g2, h4, h5⟩ := h
    simp only [h4]
    have old : takeN (n * size) (cs.drop 0) = some cs := by
      rw [List.drop_zero, takeN_take _ _ (by omega), List.take_of_length_le (by omega)]
    cases g2 with
    | true =>
      refine ⟨fun q => by omega, fun _ => ⟨rfl, rfl, _, old, fun m' l' hm' hl' => ?_⟩⟩
      subst hm'; subst hl'
      exact hK { s with heap := (s.next, some (.cells (cs ++ new) t true false)) :: (b2, none) :: s.heap, next := s.next + 1 } ⟨rfl, rfl, Nat.lt_succ_self _, true, lkH, fun q => by cases q⟩ .new2 rfl
    | false =>
      have := h5 rfl
      refine ⟨fun q => by omega, fun _ => ⟨_, old, fun m' l' hm' hl' => ?_⟩⟩
      subst hm'; subst hl'
      exact hK { s with heap := (s.next, some (.cells (cs ++ new) t true false)) :: s.heap, next := s.next + 1 } ⟨rfl, rfl, Nat.lt_succ_self _, true, lkH, fun q => by cases q⟩ (.new _) rfl

/-- The front of a slice whose room is open lies where it lay. -/
theorem slL_front {z n m : Nat} {hi : Operand} {k : Int} {base : Option Addr} (hx : opd T s.gl x = some (.slice base n 0)) (hh : opd T s.gl hi = some (.int .i64 k)) (hk : k = (m : Int)) (hm : m ≤ n) (h0 : base = none → n = 0)
    (hg : ∀ a, base = some a → a.spot = none ∧ ∃ c t r, lookH s.heap a.block = some (.cells c t true r) ∧ sizeB P t = some z) (h : K (.val (.slice base m 0))) : wN P (.slL z x none (some hi)) T s K := by
  subst hk
  cases base with
  | none =>
    have := h0 rfl
    obtain rfl : m = 0 := by omega
    simp only [wN, hx, opdO, hh, wBnd]
    refine ⟨⟨by omega, by omega⟩, fun m' hm' => ?_⟩
    obtain rfl : m' = 0 := by omega
    exact h
  | some a =>
    obtain ⟨e1, c, t, r, e2, e3⟩ := hg a rfl
    obtain ⟨b, off, sp⟩ := a
    simp only at e1 e2
    subst e1
    refine slL_open (vh := some (.int .i64 (m : Int))) hx rfl (by simp only [opdO, hh]) e2 e3 ?_
    simp only [wBnd]
    refine ⟨⟨by omega, by omega⟩, fun m' hm' o n' ho hn' => ?_⟩
    simp only [Nat.zero_mul, Nat.add_zero, Nat.sub_zero] at ho hn'
    subst ho; subst hn'
    obtain rfl : n' = m := by omega
    exact h
end

section
variable {P : Program} {T : TL} {s : SS} {R : TL → SS → Prop} {m : MOp} {d : Option Tmp} {chk : Bool} {k : Nat} {l : List ROp} {pd : List PRec} {b : ABlk} {v : Nat → Value}
/-- A block laid in a row. -/
theorem rNew (hn : lookH s.heap s.next = none) (h : Box (wRow P l (pdN chk k s.next b pd) (putL T d (v s.next)) { s with heap := (s.next, some b) :: s.heap, next := s.next + 1 } R)) : rowK P m d chk k l pd T s R (.new b v) := by
  simp only [rowK, hn]
  exact h
end
end Go.Vf

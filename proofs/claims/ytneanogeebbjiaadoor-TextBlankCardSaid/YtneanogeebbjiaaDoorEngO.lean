import Derived.Test.YtneanogeebbjiaaDoorEngZ
/- Slices that are cut; guards that are not met. -/
namespace Go.Vf
set_option linter.unusedVariables false
set_option linter.unusedSimpArgs false
section
variable {P : Program} {T : TL} {s : SS} {K : RR → Prop} {x y : Operand} {a l : List UInt8} {base : Option Addr} {n m cap b : Nat}

theorem gOff {d : Tmp} {b c : Bool} {run skip : Prop} (h : look T d = some (.bool c)) (hc : c = !b) (hr : skip) : wG T (some (d, b)) run skip := by
  subst hc
  simp only [wG, h]
  cases b <;> exact hr

/-- A slice that may be cut. -/
def Slc (P : Program) (s : SS) (base : Option Addr) (n cap : Nat) (l : List UInt8) : Prop :=
  Rdb s base n l ∧ match base with
  | none => True
  | some ⟨b, _, _⟩ => ∃ c t g r, lookH s.heap b = some (.cells c t g r) ∧ (g = true → sizeB P t = some 1) ∧ (g = false → n ≤ cap)

theorem Arg.slc (h : Arg P s base n l) : Slc P s base n cap l := by
  obtain ⟨h1, h2⟩ := h
  refine ⟨h1, ?_⟩
  cases base with
  | none => trivial
  | some q =>
    obtain ⟨b, off, sp⟩ := q
    obtain ⟨c, t, r, e1, e2⟩ := h2
    exact ⟨c, t, true, r, e1, fun _ => e2, fun q => by cases q⟩

/-- A bound that is told, or not. -/
def isBnd (v : Option Value) (d k : Nat) : Prop :=
  match v with
  | none => k = d
  | some (.int _ z) => z = (k : Int)
  | _ => False

theorem wBnd_is {v : Option Value} {d most k : Nat} {K : Nat → Prop} (h : isBnd v d k) (hk : k ≤ most) (hK : K k) : wBnd v d most K := by
  unfold isBnd at h
  split at h
  · subst h; exact hK
  · subst h
    refine ⟨⟨by omega, by omega⟩, fun m hm => ?_⟩
    obtain rfl : m = k := by omega
    exact hK
  · exact h.elim

theorem slL_any {lo hi : Option Operand} {vl vh : Option Value} (i w : Nat) (hx : opd T s.gl x = some (.slice base n cap)) (hl : opdO T s.gl lo = some vl) (hh : opdO T s.gl hi = some vh) (hr : Slc P s base n cap l)
    (hi' : isBnd vl 0 i) (hj : isBnd vh n (i + w)) (hjn : i + w ≤ n)
    (h : ∀ (base' : Option Addr) (cap' : Nat), Slc P s base' w cap' ((l.drop i).take w) → K (.val (.slice base' w cap'))) : wN P (.slL 1 x lo hi) T s K := by
  obtain ⟨hr, hg⟩ := hr
  have hn := hr.1
  cases base with
  | none =>
    have hl0 : l = [] := hr.2
    subst hl0
    obtain rfl : w = 0 := by simp at hn; omega
    obtain rfl : i = 0 := by simp at hn; omega
    simp only [wN, hx, hl, hh]
    refine wBnd_is hj (Nat.zero_le _) (wBnd_is hi' (Nat.zero_le _) ?_)
    exact h none _ ⟨⟨rfl, rfl⟩, trivial⟩
  | some q =>
    obtain ⟨b, off, sp⟩ := q
    obtain ⟨h1, rfl, h0, cc, t, g, r, h2, h3, h4⟩ := hr
    obtain ⟨c', t', g', r', g1, g2, g3⟩ := hg
    rw [g1] at h2
    cases h2
    obtain ⟨e1, e2⟩ := takeN_inv h3
    have key : takeN w (cc.drop (off + i)) = some (bytesV ((l.drop i).take w)) := by
      have e0 : cc.drop (off + i) = (cc.drop off).drop i := by rw [List.drop_drop]
      have e3 : ((cc.drop off).drop i).take w = bytesV ((l.drop i).take w) := by
        have := congrArg (fun z => (List.drop i z).take w) e1
        simp only [bytesV_drop, bytesV_take] at this
        rw [this, List.drop_take, List.take_take, Nat.min_eq_left (by omega)]
      rw [e0, takeN_take _ _ (by rw [List.length_drop]; omega), e3]
    have len : w = ((l.drop i).take w).length := by rw [List.length_take, List.length_drop]; omega
    simp only [wN, hx, hl, hh, g1]
    cases g with
    | true =>
      refine ⟨g2 rfl, wBnd_is hj hjn (wBnd_is hi' (Nat.le_add_right _ _) fun o n' ho hn' => ?_)⟩
      obtain rfl : n' = w := by omega
      subst ho
      rw [Nat.mul_one]
      exact h _ _ ⟨⟨len, rfl, h0, _, _, _, _, g1, key, h4⟩, _, _, _, _, g1, g2, fun q => by cases q⟩
    | false =>
      have hcap := g3 rfl
      refine wBnd_is hj (by omega) (wBnd_is hi' (Nat.le_add_right _ _) fun o n' d ho hn' hd => ?_)
      obtain rfl : n' = w := by omega
      subst hd
      by_cases hc : cap = i
      · rw [if_pos hc] at ho
        subst ho
        obtain rfl : n' = 0 := by omega
        exact h _ _ ⟨⟨len, rfl, h0, _, _, _, _, g1, by rw [List.take_zero]; rfl, h4⟩, _, _, _, _, g1, g2, fun _ => by omega⟩
      · rw [if_neg hc, Nat.mul_one] at ho
        subst ho
        exact h _ _ ⟨⟨len, rfl, h0, _, _, _, _, g1, key, h4⟩, _, _, _, _, g1, g2, fun _ => by omega⟩

theorem appB_zero {e : TypeId} {c : Nat} (hx : opd T s.gl x = some (.slice none 0 0)) (hy : opd T s.gl y = some (.slice base 0 c)) (hr : Rdb s base 0 l) (h : K (.val (.slice none 0 0))) : wN P (.app e 1 1 x y) T s K := by
  simp only [wN, wAppB, hx, hy]
  exact wSrc_Rdb hr ⟨⟨by omega, by omega, by rw [bytesV_len, ← hr.1], all1_bytesV l⟩, fun _ => ⟨rfl, h⟩, fun q => by omega⟩

/-- Bytes behind a block that has no room for them. -/
theorem appB_new {e t : TypeId} {g : Bool} {c : Nat} (hx : opd T s.gl x = some (.slice (some ⟨b, 0, none⟩) m cap)) (hbk : lookH s.heap b = some (.cells (bytesV a) t false g)) (hm : m = a.length) (hy : opd T s.gl y = some (.slice base n c)) (hr : Rdb s base n l) (hn : cap < m + n) (hb : m + n ≤ 4294967296)
    (h : K (.eff (.slice (some ⟨s.next, 0, none⟩) (m + n) 0) { s with heap := (s.next, some (.cells (bytesV (a ++ l)) e true false)) :: s.heap, next := s.next + 1 })) : wN P (.app e 1 1 x y) T s K := by
  simp only [wN, wAppB, hx, hy]
  refine wSrc_Rdb hr ⟨⟨by omega, by omega, by rw [bytesV_len, hr.1, Nat.mul_one], all1_bytesV l⟩, ?_⟩
  simp only [hbk]
  refine ⟨fun q => by omega, fun _ => ⟨bytesV a, ?_, fun m' l' hm' hl' => ?_⟩⟩
  · rw [Nat.mul_one, List.drop_zero, takeN_take _ _ (by rw [bytesV_len]; omega), List.take_of_length_le (by rw [bytesV_len]; omega)]
  · subst hm'; subst hl'; rw [bytesV_append]; exact h

/-! ### Numbers -/

theorem mulC_u32 (c : Nat) (x : BitVec 32) : IntKind.wrap .u32 ((c : Int) * (x.toNat : Int)) = ((BitVec.ofNat 32 c * x).toNat : Int) := by
  rw [wrap_u32, BitVec.toNat_mul, BitVec.toNat_ofNat]
  have : ((c * x.toNat : Nat) : Int) = (c : Int) * (x.toNat : Int) := by simp
  rw [← this, show (4294967296 : Int) = ((2 ^ 32 : Nat) : Int) from by decide, ← Int.natCast_emod]
  congr 1
  rw [Nat.mod_mul_mod]
theorem add_u32 (x y : BitVec 32) : IntKind.wrap .u32 ((x.toNat : Int) + (y.toNat : Int)) = ((x + y).toNat : Int) := by
  rw [wrap_u32, BitVec.toNat_add]
  omega
theorem or_byte {p q : Nat} (hp : p < 2 ^ 40) (hq : q < 256) : IntKind.wrap .i64 ((BitVec.ofInt IntKind.i64.bits ((p : Int) * 2 ^ 8) ||| BitVec.ofInt IntKind.i64.bits (q : Int)).toNat : Int) = ((p * 256 + q : Nat) : Int) := by
  show IntKind.wrap .i64 ((BitVec.ofInt 64 ((p : Int) * 2 ^ 8) ||| BitVec.ofInt 64 (q : Int)).toNat : Int) = _
  have e1 : (BitVec.ofInt 64 ((p : Int) * 2 ^ 8)).toNat = p <<< 8 := by
    rw [BitVec.toNat_ofInt, Nat.shiftLeft_eq]; omega
  have e2 : (BitVec.ofInt 64 (q : Int)).toNat = q := by
    rw [BitVec.toNat_ofInt]; omega
  rw [BitVec.toNat_or, e1, e2, ← Nat.shiftLeft_add_eq_or_of_lt (by omega), Nat.shiftLeft_eq, i64_id (by omega)]
theorem rng_u8 (x : Int) : ∃ y : UInt8, IntKind.wrap .u8 x = (y.toNat : Int) := by
  refine ⟨UInt8.ofNat (x % 256).toNat, ?_⟩
  rw [wrap_u8]
  simp
  omega
end
end Go.Vf

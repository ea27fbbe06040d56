import Derived.Test.YtddjgbljpeafiaaDoorFrS
import Derived.Test.YtddjgbljpeafiaaDoorEngW
/- Rows of frames: the sums and bytes of a chain; rows that grow. -/
namespace Go.Vf.S
open Go Go.Vf Go.Vf.Fr
set_option linter.unusedVariables false
set_option linter.unusedSimpArgs false
set_option maxRecDepth 10000

/-- A payload's first bytes. -/
def cut2 (l : List UInt8) : List UInt8 := l.take (min l.length 200)
theorem cut2_len (l : List UInt8) : (cut2 l).length = min l.length 200 := by
  unfold cut2
  rw [List.length_take]
  omega

/-- The sum ahead of each frame of a chain. -/
def cA (p : Nat → List UInt8) : Nat → BitVec 32
  | 0 => 0#32
  | i + 1 => sumS (cA p i) (BitVec.ofNat 32 (i + 1)) (p i).length (p i)
/-- The bytes of a chain's first frames. -/
def cB (p : Nat → List UInt8) : Nat → List UInt8
  | 0 => []
  | i + 1 => cB p i ++ sealS (cA p i) (BitVec.ofNat 32 (i + 1)) (p i).length (p i)

theorem cB_len {p : Nat → List UInt8} (i : Nat) : (cB p (i + 1)).length = (cB p i).length + (10 + (p i).length) := by
  simp only [cB, List.length_append, sealS_len]
theorem cB_le {p : Nat → List UInt8} (h : ∀ i, (p i).length ≤ 200) : ∀ i, (cB p i).length ≤ 210 * i
  | 0 => Nat.le_refl _
  | i + 1 => by
    have := cB_le h i
    have := h i
    rw [cB_len]
    omega
theorem cB_split {p : Nat → List UInt8} {i : Nat} : ∀ {j : Nat}, i ≤ j → ∃ R, cB p j = cB p i ++ R
  | 0, h => by obtain rfl : i = 0 := by omega
               exact ⟨[], rfl⟩
  | j + 1, h => by
    by_cases e : i = j + 1
    · subst e; exact ⟨[], (List.append_nil _).symm⟩
    · obtain ⟨R, hR⟩ := cB_split (p := p) (show i ≤ j by omega)
      exact ⟨R ++ sealS (cA p j) (BitVec.ofNat 32 (j + 1)) (p j).length (p j), by simp only [cB]; rw [hR, List.append_assoc]⟩
theorem cB_next {p : Nat → List UInt8} {i j : Nat} (h : i < j) : ∃ R, (cB p j).drop (cB p i).length = sealS (cA p i) (BitVec.ofNat 32 (i + 1)) (p i).length (p i) ++ R ∧ (cB p i).length ≤ (cB p j).length := by
  obtain ⟨R, hR⟩ := cB_split (p := p) (show i + 1 ≤ j by omega)
  refine ⟨R, ?_, ?_⟩
  · rw [hR]
    simp only [cB]
    rw [List.append_assoc, List.drop_left']
    rfl
  · rw [hR, List.length_append, cB_len]
    omega

/-- A row that is appended to, or none yet. -/
def OwnB (s : SS) (t : TypeId) (ob : Option Addr) (vs : List Value) : Prop :=
  match ob with
  | none => vs = []
  | some ⟨b, off, sp⟩ => off = 0 ∧ sp = none ∧ b < s.next ∧ lookH s.heap b = some (.cells vs t true false)

def Apart (ob : Option Addr) (id : Nat) : Prop := ∀ b off sp, ob = some ⟨b, off, sp⟩ → id ≠ b

/-- All stays but what a row was. -/
structure Keeps (s s' : SS) (ob : Option Addr) : Prop where
  gl : s'.gl = s.gl
  next : s.next ≤ s'.next
  blk : ∀ id x, id < s.next → Apart ob id → lookH s.heap id = some x → lookH s'.heap id = some x

theorem app_vals {T : TL} {s : SS} {x y : Operand} {t : TypeId} {bytes m n : Nat} {ob : Option Addr} {vs new : List Value} {vy : Value} {K : RR → Prop} (hx : opd T s.gl x = some (.slice ob m 0)) (ho : OwnB s t ob vs) (hm : m = vs.length)
    (hy : opd T s.gl y = some vy) (hsrc : ∀ KK : Nat → List Value → Prop, KK n new → wSrc s 1 vy KK) (hn : 0 < n) (hnew : new.length = n) (h1 : all1 new = true) (hb : (m + n) * bytes ≤ 140737488355328 ∧ m + n ≤ 4294967296)
    (h : ∀ s' : SS, OwnB s' t (some ⟨s.next, 0, none⟩) (vs ++ new) → s'.next = s.next + 1 → Keeps s s' ob → K (.eff (.slice (some ⟨s.next, 0, none⟩) (m + n) 0) s')) : wN pr (.app t 1 bytes x y) T s K := by
  simp only [wN, hx, hy]
  refine hsrc _ ⟨⟨hb.1, hb.2, by rw [hnew, Nat.mul_one], h1⟩, ?_⟩
  cases ob with
  | none =>
    have hv : vs = [] := ho
    subst hv
    obtain rfl : m = 0 := hm
    refine ⟨fun q => by omega, fun _ => ⟨rfl, fun m' hm' => ?_⟩⟩
    subst hm'
    have := h ⟨(s.next, some (.cells new t true false)) :: s.heap, s.next + 1, s.gl⟩ ⟨rfl, rfl, Nat.lt_succ_self _, look_head⟩ rfl ⟨rfl, Nat.le_succ _, fun id x hid _ hx => look_tail' (by omega) hx⟩
    rw [Nat.zero_add] at this
    exact this
  | some q =>
    obtain ⟨b, off, sp⟩ := q
    obtain ⟨rfl, rfl, hlt, hbk⟩ := ho
    simp only [hbk]
    refine ⟨fun q => by omega, fun _ => ⟨trivial, trivial, vs, ?_, fun m' l' hm' hl' => ?_⟩⟩
    · rw [Nat.mul_one, List.drop_zero, takeN_take _ _ (by omega), List.take_of_length_le (by omega)]
    · subst hm'; subst hl'
      refine h ⟨(s.next, some (.cells (vs ++ new) t true false)) :: (b, none) :: s.heap, s.next + 1, s.gl⟩ ⟨rfl, rfl, Nat.lt_succ_self _, look_head⟩ rfl ⟨rfl, Nat.le_succ _, fun id x hid ha hx => look_tail' (by omega) (look_tail' (fun e => ha _ _ _ rfl e.symm) hx)⟩

theorem ld1_at {T : TL} {s : SS} {x : Operand} {b off : Nat} {c : List Value} {e : TypeId} {g r : Bool} {v : Value} {K : RR → Prop} (hx : opd T s.gl x = some (.pointer (some ⟨b, off, none⟩))) (hb : lookH s.heap b = some (.cells c e g r)) (hc : c[off]? = some v)
    (h : K (.val v)) : wN pr (.ld1 x) T s K := by
  simp only [wN, hx, hb]
  exact ⟨v, hc, h⟩

theorem Arg_take {s : SS} {base : Option Addr} {n m : Nat} {l : List UInt8} (h : Arg pr s base n l) (hm : m ≤ n) : Arg pr s base m (l.take m) := by
  obtain ⟨hr, hg⟩ := h
  have hn := hr.1
  refine ⟨?_, hg⟩
  cases base with
  | none =>
    have hl : l = [] := hr.2
    subst hl
    obtain rfl : m = 0 := by simp at hn; omega
    exact ⟨rfl, rfl⟩
  | some a =>
    obtain ⟨b, off, sp⟩ := a
    obtain ⟨h1, rfl, h0, cc, t, g, r, h2, h3, h4⟩ := hr
    refine ⟨by simp; omega, rfl, h0, cc, t, g, r, h2, ?_, h4⟩
    obtain ⟨e1, e2⟩ := takeN_inv h3
    rw [takeN_take _ _ (by omega)]
    have := congrArg (List.take m) e1
    rw [bytesV_take, List.take_take, Nat.min_eq_left (by omega)] at this
    rw [this]

theorem Arg_old {s s' : SS} {base : Option Addr} {n : Nat} {l : List UInt8} (h : Arg pr s base n l) (o : Old s s') : Arg pr s' base n l := by
  refine ⟨Rdb_old h.1 o, ?_⟩
  cases base with
  | none => trivial
  | some q =>
    obtain ⟨b, off, sp⟩ := q
    obtain ⟨h1, cc, t, r, h2, h3⟩ := h
    obtain ⟨_, _, h5, _⟩ := h1
    exact ⟨cc, t, r, o.blk _ _ h5 h2, h3⟩

/-- A slice's front: the same place. -/
theorem sl_front {T : TL} {s : SS} {x hi : Operand} {base : Option Addr} {n : Nat} {l : List UInt8} {z : Int} {K : RR → Prop} (m : Nat) (hx : opd T s.gl x = some (.slice base n 0)) (hh : opd T s.gl hi = some (.int .i64 z)) (hr : Arg pr s base n l) (hz : z = (m : Int)) (hm : m ≤ n)
    (h : K (.val (.slice base m 0))) : wN pr (.slL 1 x none (some hi)) T s K := by
  subst hz
  obtain ⟨hr, hg⟩ := hr
  have hn := hr.1
  cases base with
  | none =>
    have hl : l = [] := hr.2
    subst hl
    obtain rfl : m = 0 := by simp at hn; omega
    simp only [wN, hx, opdO, hh, wBnd]
    refine ⟨⟨by omega, by omega⟩, fun m' hm' => ?_⟩
    obtain rfl : m' = 0 := by omega
    exact h
  | some a =>
    obtain ⟨b, off, sp⟩ := a
    obtain ⟨h1, rfl, h0, cc, t, g, r, h2, h3, h4⟩ := hr
    obtain ⟨c', t', r', g1, g2⟩ := hg
    refine slL_open (vh := some (.int .i64 (m : Int))) hx rfl (by simp only [opdO, hh]) g1 g2 ?_
    simp only [wBnd]
    refine ⟨⟨by omega, by omega⟩, fun m' hm' o n' ho hn' => ?_⟩
    simp only [Nat.zero_mul, Nat.add_zero, Nat.sub_zero] at ho hn'
    subst ho; subst hn'
    obtain rfl : n' = m := by omega
    exact h

theorem zeros_open (a : BitVec 32) {j : Nat} (h : j ≤ 8) : openE a (BitVec.ofNat 32 (j + 1)) (List.replicate 30 0) = 11 := by
  unfold openE
  rw [if_neg (by decide), if_neg (by decide), if_neg (by decide), if_pos]
  left
  have e : rd4 (List.replicate 30 0) 2 = 0#32 := by decide
  rw [e]
  intro q
  have := congrArg BitVec.toNat q
  simp only [BitVec.toNat_ofNat] at this
  omega
end Go.Vf.S

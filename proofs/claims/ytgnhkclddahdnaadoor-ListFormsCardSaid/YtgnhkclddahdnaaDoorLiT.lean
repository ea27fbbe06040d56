import Derived.Test.YtgnhkclddahdnaaDoorLiP
import Derived.Test.YtgnhkclddahdnaaDoorLiS
import Derived.Lib.SmallJoins
/- Lists of addresses, pure: lists that are made, each address in one of several forms. -/
namespace Go.Vf.S
open Go Go.Vf
set_option linter.unusedVariables false
set_option linter.unusedSimpArgs false
set_option maxRecDepth 10000

def fk (f k : Nat) : Nat := f / 2 ^ (3 * (k % 10)) % 8
/-- An address's text in a form; and what is read of it. -/
def formF (n : Nat) (t : List UInt8) : List UInt8 := match n with
  | 0 => t
  | 1 => [32, 40, 99, 41, 32] ++ t ++ [32]
  | 2 => [78, 97, 109, 101, 32, 78, 46, 32, 60] ++ t ++ [62]
  | 3 => [34, 113, 44, 32, 92, 34, 32, 120, 34, 40, 121, 41, 60, 32] ++ t ++ [9, 62]
  | 4 => [60, 64, 114, 44, 64, 91, 49, 46, 50, 46, 51, 46, 52, 93, 58] ++ t ++ [62]
  | 5 => [103, 58, 32] ++ t ++ [59]
  | 6 => [103, 32, 104, 58, 44] ++ t ++ [44, 60] ++ t ++ [62, 59]
  | _ => [44]
def tkF (n : Nat) (t : List UInt8) : List Tok := match n with
  | 0 => [.g [], .a t, .g []]
  | 1 => [.g [32, 40, 99, 41, 32], .a t, .g [32]]
  | 2 => [.g [], .g [78, 97, 109, 101], .g [32], .g [78, 46], .g [32], .g [60], .g [], .a t, .g [], .g [62], .g []]
  | 3 => [.g [], .g [34, 113, 44, 32, 92, 34, 32, 120, 34], .g [40, 121, 41], .g [60], .g [32], .a t, .g [9], .g [62], .g []]
  | 4 => [.g [], .g [60], .g [], .g [64], .d [114], .g [44], .g [64], .d [91, 49, 46, 50, 46, 51, 46, 52, 93], .g [58], .g [], .a t, .g [], .g [62], .g []]
  | 5 => [.g [], .g [103], .g [], .g [58], .g [32], .a t, .g [], .g [59], .g []]
  | 6 => [.g [], .g [103], .g [32], .g [104], .g [], .g [58], .g [], .g [44], .g [], .a t, .g [], .g [44], .g [], .g [60], .g [], .a t, .g [], .g [62], .g [], .g [59], .g []]
  | _ => [.g [], .g [44], .g []]
theorem tk_sample : ∀ n, n < 8 → tokF (formF n [97, 64, 120]) = some (tkF n [97, 64, 120])
  | 0, _ => by kernel_rfl
  | 1, _ => by kernel_rfl
  | 2, _ => by kernel_rfl
  | 3, _ => by kernel_rfl
  | 4, _ => by kernel_rfl
  | 5, _ => by kernel_rfl
  | 6, _ => by kernel_rfl
  | 7, _ => by kernel_rfl
  | n + 8, h => by omega
theorem tk_flat (n : Nat) (t : List UInt8) : flT (tkF n t) = formF n t := by
  unfold tkF formF
  split <;> simp [flT, Tok.b]
theorem tk_sub {t : List UInt8} (n : Nat) (h : (parseF t).2.2 ≠ 5) : Sub (tkF n [97, 64, 120]) (tkF n t) := by
  unfold tkF
  split <;> simp [Sub, h]
theorem tk_read {t : List UInt8} {n : Nat} (hn : n < 8) (h : (parseF t).2.2 ≠ 5) : tokF (formF n t) = some (tkF n t) := by
  rw [← tk_flat]
  exact tok_sub (tk_sample n hn) (tk_sub n h)
theorem tk_long {t : List UInt8} (n : Nat) (h : (parseF t).2.2 = 0) : lgT (tkF n t) = false := by
  have e : lgK (.a t) = false := by show decide ((parseF t).2.2 = 3) = false; rw [h]; rfl
  have e1 : lgK (.d [114]) = false := by decide +kernel
  have e2 : lgK (.d [91, 49, 46, 50, 46, 51, 46, 52, 93]) = false := by decide +kernel
  have e3 : ∀ l, lgK (.g l) = false := fun _ => rfl
  unfold tkF
  split <;> simp [lgT, e, e1, e2, e3]
/-- The addresses' texts. -/
def aT : List Tok → List (List UInt8)
  | [] => []
  | .a l :: T => l :: aT T
  | .g _ :: T => aT T
  | .d _ :: T => aT T
theorem aT_app : ∀ (S T : List Tok), aT (S ++ T) = aT S ++ aT T
  | [], T => rfl
  | .a l :: S, T => by rw [List.cons_append, aT, aT, aT_app S T]; rfl
  | .g l :: S, T => by rw [List.cons_append, aT, aT, aT_app S T]
  | .d l :: S, T => by rw [List.cons_append, aT, aT, aT_app S T]
theorem tk_aT : ∀ (n : Nat) (t : List UInt8), aT (tkF n t) = if n = 6 then [t, t] else if n < 7 then [t] else []
  | 0, t => rfl
  | 1, t => rfl
  | 2, t => rfl
  | 3, t => rfl
  | 4, t => rfl
  | 5, t => rfl
  | 6, t => rfl
  | n + 7, t => by rw [if_neg (by omega), if_neg (by omega)]; rfl
/-- What stands in the spots. -/
theorem sp_texts : ∀ (T : List Tok) (p : List UInt8), (spT p.length T).map (fun x => ((p ++ flT T).drop x.f).take (x.t - x.f)) = aT T ∧ (spT p.length T).map (fun x => (x.a, x.d)) = (aT T).map fun l => ((parseF l).1, (parseF l).2.1)
  | [], p => ⟨rfl, rfl⟩
  | .g l :: T, p => by
    have ih := sp_texts T (p ++ l)
    rw [List.length_append] at ih
    refine ⟨?_, ih.2⟩
    have := ih.1
    rw [List.append_assoc] at this
    exact this
  | .d l :: T, p => by
    have ih := sp_texts T (p ++ l)
    rw [List.length_append] at ih
    refine ⟨?_, ih.2⟩
    have := ih.1
    rw [List.append_assoc] at this
    exact this
  | .a l :: T, p => by
    have ih := sp_texts T (p ++ l)
    rw [List.length_append] at ih
    have h1 := ih.1
    rw [List.append_assoc] at h1
    rw [spT, aT, List.map_cons, List.map_cons, List.map_cons, ih.2]
    refine ⟨?_, rfl⟩
    have e0 : p ++ flT (.a l :: T) = p ++ (l ++ flT T) := rfl
    rw [e0, h1]
    congr 1
    show ((p ++ (l ++ flT T)).drop p.length).take (p.length + l.length - p.length) = l
    rw [List.drop_left, Nat.add_sub_cancel_left, List.take_left]

/-- Parts, a comma between. -/
theorem join_two (p q : List UInt8) (r : List (List UInt8)) : Lib.join (p :: q :: r) [44] = p ++ 44 :: Lib.join (q :: r) [44] := by
  rw [Lib.join_cons, Lib.join_cons]
  simp [Lib.joinTail]
theorem join_one (p : List UInt8) : Lib.join [p] [44] = p := by
  rw [Lib.join_cons]
  simp [Lib.joinTail]
def tjF : List (List Tok) → List Tok
  | [] => [.g []]
  | [T] => T
  | T :: S :: R => T ++ .g [44] :: tjF (S :: R)
theorem tok_nil : tokF [] = some [.g []] := by kernel_rfl
theorem tok_parts : ∀ (ps : List (List UInt8)) (Ts : List (List Tok)), ps.length = Ts.length → (∀ (i : Nat) p T, ps[i]? = some p → Ts[i]? = some T → tokF p = some T) → tokF (Lib.join ps [44]) = some (tjF Ts)
  | [], [], _, _ => by
    exact tok_nil
  | [p], [T], _, h => by
    rw [join_one]
    exact h 0 p T rfl rfl
  | p :: q :: r, T :: S :: R, hl, h => by
    rw [join_two, tjF]
    exact tok_join (h 0 p T rfl rfl) (tok_parts (q :: r) (S :: R) (by simpa using hl) fun i x X hx hX => h (i + 1) x X hx hX)
theorem tj_long : ∀ (Ts : List (List Tok)), (∀ T ∈ Ts, lgT T = false) → lgT (tjF Ts) = false
  | [], _ => rfl
  | [T], h => h T (by simp)
  | T :: S :: R, h => by
    rw [tjF, lgT_app, h T (by simp)]
    exact tj_long (S :: R) fun X hX => h X (List.mem_cons_of_mem _ hX)
theorem tj_aT : ∀ (Ts : List (List Tok)), aT (tjF Ts) = (Ts.map aT).flatten
  | [] => rfl
  | [T] => by simp [tjF]
  | T :: S :: R => by
    rw [tjF, aT_app]
    show aT T ++ aT (tjF (S :: R)) = _
    rw [tj_aT (S :: R)]
    simp

/-- The list's text; the addresses that it has. -/
def txF (a : AA) : List UInt8 := textF a.1 a.2
def partsL (f : Nat) (xs : List AA) : List (List UInt8) := xs.mapIdx fun k a => formF (fk f k) (txF a)
def lineF (f : Nat) (xs : List AA) : List UInt8 := Lib.join (partsL f xs) [44]
def wk (f k : Nat) (a : AA) : List AA := if fk f k = 6 then [a, a] else if fk f k < 7 then [a] else []
def wantF (f : Nat) (xs : List AA) : List AA := (xs.mapIdx (wk f)).flatten
theorem fk_lt (f k : Nat) : fk f k < 8 := Nat.mod_lt _ (by omega)
theorem parts_next {f i : Nat} {xs : List AA} {a : AA} (h : xs[i]? = some a) : partsL f (xs.take (i + 1)) = partsL f (xs.take i) ++ [formF (fk f i) (txF a)] := by
  have hi := lt_of_get h
  unfold partsL
  rw [take_next h, List.mapIdx_concat, List.length_take, Nat.min_eq_left (by omega)]
theorem want_next {f i : Nat} {xs : List AA} {a : AA} (h : xs[i]? = some a) : wantF f (xs.take (i + 1)) = wantF f (xs.take i) ++ wk f i a := by
  have hi := lt_of_get h
  unfold wantF
  rw [take_next h, List.mapIdx_concat, List.length_take, Nat.min_eq_left (by omega), List.flatten_append]
  simp
/-- What is found of it. -/
theorem line_find {f : Nat} {xs : List AA} (hm : ∀ a ∈ xs, mayF a.1 a.2 = true) (hn : xs.length ≤ 10) :
    (findF (lineF f xs)).2 = 0 ∧ (findF (lineF f xs)).1.map (fun x => ((lineF f xs).drop x.f).take (x.t - x.f)) = (wantF f xs).map txF ∧ (findF (lineF f xs)).1.map (fun x => (x.a, x.d)) = wantF f xs := by
  have hp : ∀ a ∈ xs, parseF (txF a) = (a.1, a.2, 0) := fun a ha => parse_text (hm a ha)
  obtain ⟨Ts, hTs⟩ : ∃ Ts : List (List Tok), Ts = xs.mapIdx fun k a => tkF (fk f k) (txF a) := ⟨_, rfl⟩
  have hT : tokF (lineF f xs) = some (tjF Ts) := by
    refine tok_parts _ _ (by rw [hTs]; simp [partsL]) fun i p T h1 h2 => ?_
    unfold partsL at h1
    rw [List.getElem?_mapIdx] at h1
    rw [hTs, List.getElem?_mapIdx] at h2
    cases hx : xs[i]? with
    | none => rw [hx] at h1; cases h1
    | some a =>
      rw [hx] at h1 h2
      cases h1
      cases h2
      exact tk_read (fk_lt f i) (by rw [hp a (List.mem_of_getElem? hx)]; simp)
  have hlong : lgT (tjF Ts) = false := tj_long _ fun T h => by
    rw [hTs] at h
    obtain ⟨i, hi, rfl⟩ := List.mem_mapIdx.1 h
    exact tk_long _ (by rw [hp _ (List.getElem_mem hi)])
  have hwant : aT (tjF Ts) = (wantF f xs).map txF := by
    rw [tj_aT, hTs]
    unfold wantF
    rw [List.map_flatten]
    congr 1
    apply List.ext_getElem?
    intro i
    rw [List.getElem?_map, List.getElem?_map, List.getElem?_mapIdx, List.getElem?_mapIdx]
    cases xs[i]? with
    | none => rfl
    | some a =>
      simp only [Option.map_some]
      rw [tk_aT]
      unfold wk
      split
      · rfl
      · split <;> rfl
  have hsp := sp_texts (tjF Ts) []
  have hfl := tok_cat hT
  rw [List.nil_append, hfl, hwant] at hsp
  have hlen : (spT 0 (tjF Ts)).length ≤ 64 := by
    have h1 := congrArg List.length hsp.1
    rw [List.length_map, List.length_map] at h1
    have h2 : (wantF f xs).length ≤ 2 * xs.length := by
      unfold wantF
      rw [List.length_flatten]
      have : ∀ (l : List Nat), (∀ n ∈ l, n ≤ 2) → l.sum ≤ 2 * l.length := by
        intro l
        induction l with
        | nil => simp
        | cons x l ih =>
          intro h
          have h1 := h x (by simp)
          have h2 := ih fun n hn => h n (List.mem_cons_of_mem _ hn)
          rw [List.sum_cons, List.length_cons]
          omega
      refine Nat.le_trans (this _ fun n hn => ?_) (by simp)
      obtain ⟨w, hw, rfl⟩ := List.mem_map.1 hn
      obtain ⟨i, hi, rfl⟩ := List.mem_mapIdx.1 hw
      unfold wk
      split
      · simp
      · split <;> simp
    have : (spT ([] : List UInt8).length (tjF Ts)).length = (spT 0 (tjF Ts)).length := rfl
    omega
  have hfind : findF (lineF f xs) = (spT 0 (tjF Ts), 0) := by
    unfold findF
    rw [hT]
    simp only
    rw [hlong, if_neg (by simp), if_neg (by omega)]
  rw [hfind]
  refine ⟨rfl, hsp.1, ?_⟩
  have h2 := hsp.2
  rw [List.map_map] at h2
  refine Eq.trans h2 ?_
  have : ∀ a ∈ wantF f xs, ((fun l => ((parseF l).1, (parseF l).2.1)) ∘ txF) a = a := fun a ha => by
    have hax : a ∈ xs := by
      unfold wantF at ha
      obtain ⟨w, hw, haw⟩ := List.mem_flatten.1 ha
      obtain ⟨i, hi, rfl⟩ := List.mem_mapIdx.1 hw
      unfold wk at haw
      split at haw
      · simp at haw; rw [haw]; exact List.getElem_mem hi
      · split at haw
        · simp at haw; rw [haw]; exact List.getElem_mem hi
        · simp at haw
    show ((parseF (txF a)).1, (parseF (txF a)).2.1) = a
    rw [hp a hax]
  exact (List.map_congr_left this).trans (List.map_id _)
/-- How long it is. -/
theorem tx_len {a d : List UInt8} (ha : a.length ≤ 64) (hd : d.length ≤ 300) : (textF a d).length ≤ 432 := by
  unfold textF
  split
  · unfold wordF
    have h1 : (if dotF a = true then a else (quoteF a).1).length ≤ 130 := by
      split
      · omega
      · unfold quoteF
        split
        · rw [quoteL_len]
          have := (esc_len a).2
          unfold eL
          omega
        · simp
    rw [List.length_append, List.length_cons]
    omega
  · simp
theorem form_len : ∀ (n : Nat) (t : List UInt8), (formF n t).length ≤ 2 * t.length + 20
  | 0, t => by show t.length ≤ _; omega
  | 1, t => by simp [formF]; omega
  | 2, t => by simp [formF]; omega
  | 3, t => by simp [formF]; omega
  | 4, t => by simp [formF]; omega
  | 5, t => by simp [formF]; omega
  | 6, t => by simp [formF]; omega
  | n + 7, t => by show 1 ≤ _; omega
theorem join_len : ∀ (ls : List (List UInt8)) (B : Nat), (∀ l ∈ ls, l.length ≤ B) → (Lib.join ls [44]).length ≤ ls.length * (B + 1)
  | [], B, _ => Nat.zero_le _
  | [p], B, h => by
    rw [join_one]
    have := h p (by simp)
    simp
    omega
  | p :: q :: r, B, h => by
    have h1 := h p (by simp)
    have ih := join_len (q :: r) B fun l hl => h l (List.mem_cons_of_mem _ hl)
    rw [join_two, List.length_append, List.length_cons]
    rw [show (p :: q :: r).length = (q :: r).length + 1 from rfl, Nat.add_mul, Nat.one_mul]
    omega
theorem and7 {y : Nat} (hy : y < 4294967296) : IntKind.wrap .u32 ((BitVec.ofInt IntKind.u32.bits (y : Int) &&& BitVec.ofInt IntKind.u32.bits 7).toNat : Int) = ((y % 8 : Nat) : Int) := by
  have e1 : (BitVec.ofInt IntKind.u32.bits (y : Int) &&& BitVec.ofInt IntKind.u32.bits 7).toNat = y % 8 := by
    rw [BitVec.toNat_and]
    have a1 : (BitVec.ofInt IntKind.u32.bits (y : Int)).toNat = y := by
      show (BitVec.ofInt 32 (y : Int)).toNat = y
      rw [BitVec.ofInt_natCast, BitVec.toNat_ofNat]
      omega
    have a2 : (BitVec.ofInt IntKind.u32.bits 7).toNat = 7 := by decide
    rw [a1, a2]
    exact Nat.and_two_pow_sub_one_eq_mod y 3
  rw [e1]
  have := Nat.mod_lt y (show 0 < 8 by omega)
  unfold IntKind.wrap
  simp [IntKind.bits, IntKind.signed]
  omega
end Go.Vf.S

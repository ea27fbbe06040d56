import Derived.Test.YtfminjggoaegdaaGreatDoorFn
import Derived.Test.YtfminjggoaegdaaGreatDoorEngBe
import Derived.Lib.Case
section
namespace Go.Vf.S
open Go Go.Vf
attribute [local irreducible] wSeq wRow wp wG
set_option linter.unusedVariables false
set_option linter.unusedSimpArgs false
set_option maxRecDepth 10000
abbrev tS : TypeId := 9
abbrev tB : TypeId := 5
theorem un_S : pr.underlying tS = some .string := by kernel_rfl
abbrev str (l : List UInt8) : Value := .string ⟨⟨l⟩⟩
def plainB (c : UInt8) : Bool := decide (32 ≤ c.toNat ∧ c.toNat ≤ 126)
theorem bool_eq {a b : Bool} (h : a = b) : one [Value.bool a] = Value.bool b := by subst h; rfl
theorem plain_w {s : SS} {r : Nat} (hr : r ≤ 1114111) : CallW pr n_text_plain [.int .i32 r] s fun v s' => v = .bool (decide (32 ≤ r ∧ r ≤ 126)) ∧ s' = s := by
 refine CallW.run good ok_text_plain (by simp) rfl ?_
 (try refine pSeq ?_); (repeat(first|refine sb ?_|refine gOn rfl ?_|refine gOff rfl rfl ?_|refine gTup rfl ?_))
 intro q hq
 by_cases h : 32 ≤ r
 ·obtain rfl : q = true := by rw [hq]; simp; omega
  (repeat(first|refine sb ?_|refine gOn rfl ?_|refine gOff rfl rfl ?_|refine gTup rfl ?_))
  intro q hq
  (repeat(first|refine sb ?_|refine gOn rfl ?_|refine gOff rfl rfl ?_|refine gTup rfl ?_))
  subst hq
  refine ⟨bool_eq ?_, rfl⟩
  rw [decide_eq_decide]
  omega
 ·obtain rfl : q = false := by rw [hq]; simp; omega
  (repeat(first|refine sb ?_|refine gOn rfl ?_|refine gOff rfl rfl ?_|refine gTup rfl ?_))
  exact ⟨bool_eq (by simp [h]), rfl⟩
theorem sprefix_w {s : SS} {a b : List UInt8} : CallW pr n_internal_stringslite_HasPrefix [str a, str b] s fun v s' => v = .bool (decide (a.take b.length = b)) ∧ s' = s := by
 refine CallW.run good ok_internal_stringslite_HasPrefix (by simp) rfl ?_
 (try refine pSeq ?_); (repeat(first|refine sb ?_|refine gOn rfl ?_|refine gOff rfl rfl ?_|refine gTup rfl ?_))
 intro n hn
 (repeat(first|refine sb ?_|refine gOn rfl ?_|refine gOff rfl rfl ?_|refine gTup rfl ?_))
 intro m hm
 (repeat(first|refine sb ?_|refine gOn rfl ?_|refine gOff rfl rfl ?_|refine gTup rfl ?_))
 intro q hq
 by_cases h : b.length ≤ a.length
 ·obtain rfl : q = true := by rw [hq]; simp; omega
  (repeat(first|refine sb ?_|refine gOn rfl ?_|refine gOff rfl rfl ?_|refine gTup rfl ?_))
  intro m hm
  (repeat(first|refine sb ?_|refine gOn rfl ?_|refine gOff rfl rfl ?_|refine gTup rfl ?_))
  refine ⟨by omega, ?_⟩
  intro m2 hm2 z hz
  obtain rfl : m2 = b.length := by omega
  (repeat(first|refine sb ?_|refine gOn rfl ?_|refine gOff rfl rfl ?_|refine gTup rfl ?_))
  intro q hq
  (repeat(first|refine sb ?_|refine gOn rfl ?_|refine gOff rfl rfl ?_|refine gTup rfl ?_))
  subst hq hz
  exact ⟨bool_eq (by simp), rfl⟩
 ·obtain rfl : q = false := by rw [hq]; simp; omega
  (repeat(first|refine sb ?_|refine gOn rfl ?_|refine gOff rfl rfl ?_|refine gTup rfl ?_))
  have : a.take b.length ≠ b := fun e => by have := congrArg List.length e; rw [List.length_take] at this; omega
  exact ⟨bool_eq (by simp [this]), rfl⟩
theorem prefix_w {s : SS} {a b : List UInt8} : CallW pr n_strings_HasPrefix [str a, str b] s fun v s' => v = .bool (decide (a.take b.length = b)) ∧ s' = s := by
 refine CallW.run good ok_strings_HasPrefix (by simp) rfl ?_
 (try refine pSeq ?_); (repeat refine sb ?_)
 refine sprefix_w.mono fun v s q => ?_
 obtain ⟨rfl, rfl⟩ := q
 (repeat refine sb ?_)
 exact ⟨rfl, rfl⟩
theorem all_no {l : List UInt8} {p : Nat} {c : UInt8} {f : UInt8 → Bool} (h : l[p]? = some c) (hf : f c = false) : l.all f = false := by
 rw [List.all_eq_false]
 exact ⟨c, List.mem_of_getElem? h, by simp [hf]⟩
theorem plain_no {c : UInt8} (h : ¬ plainB c = true) : plainB c = false := by simpa using h
theorem plain_hi {c : UInt8} (h : 128 ≤ c.toNat) : plainB c = false := by unfold plainB; simp; omega
theorem Plain_w {s : SS} {l : List UInt8} : CallW pr n_text_Plain [str l] s fun v s' => v = .bool (l.all plainB) ∧ Chg s s' [] := by
 refine CallW.run good ok_text_Plain (by simp) rfl ?_
 (try refine pSeq ?_); (repeat refine sb ?_)
 refine srange_W rfl un_S rfl ?_
 (repeat refine sb ?_)
 refine pLoop (MW.head good (fun x : It => l.length - x.p) (fun x => At s s.next l x ∧ (l.take x.p).all plainB = true) (fun x => [(6, .pointer (some ⟨s.next, 0, none⟩))]) (fun x => x.s) ⟨0, _⟩ ⟨.start s l, rfl⟩ (Wk.same ⟨rfl, trivial⟩) ?_)
 intro ⟨p, s1⟩ ⟨h1, h2⟩
 dsimp only at h1 h2 ⊢
 (repeat refine sb ?_)
 refine snext_L rfl rfl h1.2.2.2 (fun he => ?_) (fun c hc h7 => ?_) (fun c r w hc h7 hr hr2 _ hw _ => ?_)
 ·(repeat refine sb ?_)
  refine ⟨bool_eq ?_, h1.1⟩
  rw [← h2, List.take_of_length_le he]
 ·(repeat refine sb ?_)
  refine (plain_w (by omega)).mono fun v s2 q => ?_
  obtain ⟨rfl, rfl⟩ := q
  (repeat refine sb ?_)
  intro q hq
  have e : decide (32 ≤ c.toNat ∧ c.toNat ≤ 126) = plainB c := rfl
  rw [e] at hq
  by_cases hp : plainB c = true
  ·obtain rfl : q = false := by rw [hq, hp]; rfl
   (repeat refine sb ?_)
   exact ⟨⟨p + 1, _⟩, ⟨h1.go _, by rw [take_next hc]; simp [h2, hp]⟩, by have : p < l.length := lt_of_get hc; show l.length - (p + 1) < l.length - p; omega, Wk.same ⟨rfl, trivial⟩⟩
  ·obtain rfl : q = true := by rw [hq, plain_no hp]; rfl
   (repeat refine sb ?_)
   exact ⟨bool_eq (all_no hc (plain_no hp)).symm, (h1.go _).1⟩
 ·(repeat refine sb ?_)
  refine (plain_w (by omega)).mono fun v s2 q => ?_
  obtain ⟨rfl, rfl⟩ := q
  (repeat refine sb ?_)
  intro q hq
  obtain rfl : q = true := by rw [hq]; simp; omega
  (repeat refine sb ?_)
  exact ⟨bool_eq (all_no hc (plain_hi h7)).symm, (h1.go _).1⟩
end Go.Vf.S
end
section
namespace Go.Vf.S
open Go Go.Vf
attribute [local irreducible] wSeq wRow wp wG
set_option linter.unusedVariables false
set_option linter.unusedSimpArgs false
set_option maxRecDepth 10000
abbrev tA : TypeId := 150
def tab (f : Nat → Bool) : List Value := (List.range 256).map fun i => .bool (f i)
theorem tab_len (f : Nat → Bool) : (tab f).length = 256 := by simp [tab]
theorem tab_get {f : Nat → Bool} {i : Nat} (h : i < 256) : (tab f)[i]? = some (.bool (f i)) := by simp [tab, h]
theorem tab_take (f : Nat → Bool) : takeN 256 ((tab f).drop 0) = some (tab f) := by
 rw [List.drop_zero, takeN_take _ _ (by rw [tab_len]; omega), List.take_of_length_le (by rw [tab_len]; omega)]
theorem setRow_one : ∀ {l : List Value} {i : Nat} {v : Value}, i < l.length → setRow l i [v] = some (l.set i v)
 | x :: l, 0, v, _ => by cases l <;> rfl
 | x :: l, i + 1, v, h => by simp only [setRow, setRow_one (show i < l.length by simpa using h), List.set_cons_succ]
theorem setRow_all : ∀ {l m : List Value}, l.length = m.length → setRow l 0 m = some m
 | [], [], _ => rfl
 | x :: l, y :: m, h => by simp only [setRow, setRow_all (l := l) (m := m) (by simpa using h)]
theorem flat_tab (f : Nat → Bool) : flat (.agg ⟨tab f⟩) = tab f := rfl
theorem tab_set {f : Nat → Bool} {i : Nat} (h : i < 256) : setRow (tab f) i [.bool true] = some (tab fun k => f k || k == i) := by
 rw [setRow_one (by rw [tab_len]; exact h)]
 congr 1
 apply List.ext_getElem? fun j => ?_
 rw [List.getElem?_set, tab_len]
 by_cases q : j < 256
 ·rw [tab_get q]
  by_cases e : i = j
  ·subst e; rw [tab_get h]; simp [h]
  ·rw [if_neg e, tab_get q]; simp [Ne.symm e]
 ·rw [List.getElem?_eq_none (by rw [tab_len]; omega), if_neg (by omega), List.getElem?_eq_none (by rw [tab_len]; omega)]
theorem tab_all1 (f : Nat → Bool) : (Nat.beq (flat (.agg ⟨tab f⟩)).length 256 && all1 (flat (.agg ⟨tab f⟩))) = true := by
 rw [flat_tab, tab_len]
 have : ∀ l : List Nat, all1 (l.map fun i => Value.bool (f i)) = true := fun l => by
  induction l with
  | nil => rfl
  | cons a l ih => exact ih
 exact this _
theorem tab_row (f g : Nat → Bool) : setRow (tab f) 0 (flat (.agg ⟨tab g⟩)) = some (tab g) := by
 rw [flat_tab]
 exact setRow_all (by rw [tab_len, tab_len])
def inB (k : List UInt8) (i : Nat) : Bool := k.any fun c => c.toNat == i
theorem contains_w {s : SS} {f : Nat → Bool} {b : Nat} {g r : Bool} {c : UInt8} (hb : lookH s.heap b = some (.cells (tab f) tA g r)) :
  CallW pr n_strings_asciiSet_contains [.pointer (some ⟨b, 0, none⟩), .int .u8 c.toNat] s fun v s' => v = .bool (f c.toNat) ∧ s' = s := by
 refine CallW.run good ok_strings_asciiSet_contains (by simp) rfl ?_
 (try refine pSeq ?_); (repeat refine sb ?_)
 have hc := c.toNat_lt
 refine ⟨by omega, ?_⟩
 intro m hm o ho
 obtain rfl : m = c.toNat := by omega
 (repeat refine sb ?_)
 refine ldB_is rfl hb (by rw [ho, Nat.zero_add, Nat.mul_one]; exact tab_get (by omega)) ?_
 (repeat refine sb ?_)
 exact ⟨rfl, rfl⟩
structure SIt where
 i : Nat
 s : SS
theorem makeSet_w {s : SS} {k : List UInt8} (hk : k.length ≤ 1000000) (h7 : ∀ c ∈ k, c.toNat < 128) :
  CallW pr n_strings_makeASCIISet [str k] s fun v s' => v = .tuple ⟨[.agg ⟨tab (inB k)⟩, .bool true]⟩ ∧ Chg s s' [] := by
 refine CallW.run good ok_strings_makeASCIISet (by simp) rfl ?_
 (try refine pSeq ?_); (repeat refine sb ?_)
 refine pLoop (MW.head good (fun x : SIt => k.length - x.i) (fun x => x.i ≤ k.length ∧ Chg s x.s [] ∧ s.next < x.s.next ∧ lookH x.s.heap s.next = some (.cells (tab (inB (k.take x.i))) tA false false))
  (fun x => [(0, str k), (2, .pointer (some ⟨s.next, 0, none⟩)), (4, .int .i64 x.i)]) (fun x => x.s) ⟨0, _⟩ ⟨Nat.zero_le _, .new _, Nat.lt_succ_self _, lkH⟩ (Wk.same ⟨rfl, rfl, rfl, trivial⟩) ?_)
 intro ⟨i, s1⟩ ⟨hi, h1, h2, h3⟩
 dsimp only at hi h1 h2 h3 ⊢
 (repeat refine sb ?_)
 intro n hn
 (repeat refine sb ?_)
 intro q hq
 by_cases hlt : i < k.length
 ·obtain rfl : q = true := by rw [hq]; simp <;> omega
  obtain ⟨c, hc⟩ : ∃ c, k[i]? = some c := ⟨_, List.getElem?_eq_getElem hlt⟩
  have hc7 := h7 c (List.mem_of_getElem? hc)
  (repeat refine sb ?_)
  refine ⟨by omega, ?_⟩
  intro m hm
  obtain rfl : m = i := by omega
  refine ⟨c, hc, ?_⟩
  (repeat refine sb ?_)
  intro q hq
  obtain rfl : q = false := by rw [hq]; simp <;> omega
  (repeat refine sb ?_)
  refine ⟨by omega, ?_⟩
  intro m2 hm2 o ho
  obtain rfl : m2 = c.toNat := by omega
  (repeat refine sb ?_)
  refine st_abs rfl rfl h3 h2 rfl (by rw [ho, Nat.zero_add, Nat.mul_one]; exact tab_set (by omega)) fun s2 e2 c2 n2 => ?_
  (repeat refine sb ?_)
  intro z hz
  rw [i64_id (by omega)] at hz
  obtain rfl : z = ((m + 1 : Nat) : Int) := by omega
  (repeat refine sb ?_)
  refine ⟨⟨m + 1, s2⟩, ⟨hlt, h1.fresh c2 (by simp), by show s.next < s2.next; omega, ?_⟩, by show k.length - (m + 1) < k.length - m; omega, Wk.same ⟨rfl, rfl, rfl, trivial⟩⟩
  rw [e2, take_next hc]
  congr 3
  funext j
  simp only [inB, List.any_append, List.any_cons, List.any_nil, Bool.or_false]
  congr 1
  rw [Bool.eq_iff_iff, beq_iff_eq, beq_iff_eq]
  exact eq_comm
 ·obtain rfl : q = false := by rw [hq]; simp <;> omega
  (repeat refine sb ?_)
  refine ldN_is rfl h3 (tab_take _) ?_
  (repeat refine sb ?_)
  refine st_abs rfl rfl h3 h2 (tab_all1 _) (tab_row _ _) fun s2 e2 c2 n2 => ?_
  (repeat refine sb ?_)
  refine ret_cell (n := 256) (by kernel_rfl) (by kernel_rfl) rfl e2 (tab_take _) rfl ⟨?_, h1.fresh c2 (by simp)⟩
  rw [List.take_of_length_le (by omega)]
theorem trimL_w {s : SS} {f : Nat → Bool} {b : Nat} {g r : Bool} {l : List UInt8} (hl : l.length ≤ 1000000) (hb : lookH s.heap b = some (.cells (tab f) tA g r)) :
  CallW pr n_strings_trimLeftASCII [str l, .pointer (some ⟨b, 0, none⟩)] s fun v s' => v = str (l.dropWhile fun c => f c.toNat) ∧ s' = s := by
 refine CallW.run good ok_strings_trimLeftASCII (by simp) rfl ?_
 (try refine pSeq ?_); (repeat refine sb ?_)
 refine pLoop (MW.head good (fun x : List UInt8 => x.length) (fun x => x.length ≤ l.length ∧ (x.dropWhile fun c => f c.toNat) = l.dropWhile fun c => f c.toNat)
  (fun x => [(0, str x), (1, .pointer (some ⟨b, 0, none⟩))]) (fun x => s) l ⟨Nat.le_refl _, rfl⟩ (Wk.same ⟨rfl, rfl, trivial⟩) ?_)
 intro x ⟨hx, h0⟩
 (repeat refine sb ?_)
 intro n hn
 (repeat refine sb ?_)
 intro q hq
 cases x with
 | nil =>
  obtain rfl : q = false := by rw [hq, hn]; rfl
  (repeat refine sb ?_)
  rw [← h0]
  exact ⟨rfl, rfl⟩
 | cons c x =>
  obtain rfl : q = true := by rw [hq, hn]; simp <;> omega
  (repeat refine sb ?_)
  refine ⟨by simp, ?_⟩
  intro m hm
  obtain rfl : m = 0 := by omega
  refine ⟨c, rfl, ?_⟩
  (repeat refine sb ?_)
  refine (contains_w hb).mono fun v s q => ?_
  obtain ⟨rfl, rfl⟩ := q
  (repeat refine sb ?_)
  intro q hq
  rw [List.dropWhile_cons] at h0
  by_cases hf : f c.toNat = true
  ·obtain rfl : q = false := by rw [hq, hf]; rfl
   rw [if_pos hf] at h0
   (repeat refine sb ?_)
   refine ⟨by simp; omega, ?_⟩
   intro m hm r hr
   obtain rfl : m = 1 := by omega
   have er : r = x := by rw [hr]; simp
   subst er
   (repeat refine sb ?_)
   exact ⟨r, ⟨by simp at hx; omega, h0⟩, by show r.length < (c :: r).length; simp, Wk.same ⟨rfl, rfl, trivial⟩⟩
  ·obtain rfl : q = true := by rw [hq]; simp [hf]
   rw [if_neg hf] at h0
   (repeat refine sb ?_)
   rw [← h0]
   exact ⟨rfl, rfl⟩
def wh (c : UInt8) : Bool := decide (c.toNat = 32 ∨ c.toNat = 9)
theorem trimLeft_w {s : SS} {l : List UInt8} (hl : l.length ≤ 1000000) :
  CallW pr n_strings_TrimLeft [str l, .string ⟨#[32, 9]⟩] s fun v s' => v = str (l.dropWhile wh) ∧ Chg s s' [] := by
 refine CallW.run good ok_strings_TrimLeft (by simp) rfl ?_
 (try refine pSeq ?_); (repeat(first|refine sb ?_|refine gOn rfl ?_|refine gOff rfl rfl ?_|refine gTup rfl ?_))
 intro q hq
 by_cases h0 : l = []
 ·subst h0
  obtain rfl : q = true := by rw [hq]; rfl
  (repeat(first|refine sb ?_|refine gOn rfl ?_|refine gOff rfl rfl ?_|refine gTup rfl ?_))
  exact ⟨rfl, .refl _ _⟩
 ·obtain rfl : q = false := by rw [hq]; simp [h0]
  (repeat(first|refine sb ?_|refine gOn rfl ?_|refine gOff rfl rfl ?_|refine gTup rfl ?_))
  intro q hq
  obtain rfl : q = false := by rw [hq]; rfl
  (repeat(first|refine sb ?_|refine gOn rfl ?_|refine gOff rfl rfl ?_|refine gTup rfl ?_))
  intro n hn
  (repeat(first|refine sb ?_|refine gOn rfl ?_|refine gOff rfl rfl ?_|refine gTup rfl ?_))
  intro q hq
  obtain rfl : q = false := by rw [hq, hn]; rfl
  (repeat(first|refine sb ?_|refine gOn rfl ?_|refine gOff rfl rfl ?_|refine gTup rfl ?_))
  refine (makeSet_w (k := [32, 9]) (by simp) (by simp)).mono fun v s1 q => ?_
  obtain ⟨rfl, c1⟩ := q
  (repeat(first|refine sb ?_|refine gOn rfl ?_|refine gOff rfl rfl ?_|refine gTup rfl ?_))
  have n1 := c1.next
  refine st_abs (cs := tab fun _ => false) rfl rfl lkH (Nat.lt_succ_self _) (tab_all1 _) (tab_row _ _) fun s2 e2 c2 n2 => ?_
  (repeat(first|refine sb ?_|refine gOn rfl ?_|refine gOff rfl rfl ?_|refine gTup rfl ?_))
  refine (trimL_w hl e2).mono fun v s q => ?_
  obtain ⟨rfl, rfl⟩ := q
  (repeat(first|refine sb ?_|refine gOn rfl ?_|refine gOff rfl rfl ?_|refine gTup rfl ?_))
  refine ⟨?_, (c1.nil (.new [])).fresh c2 (by simp; omega)⟩
  show str _ = str _
  congr 4
  funext c
  rw [Bool.eq_iff_iff]
  simp only [inB, wh, List.any_cons, List.any_nil, Bool.or_false, Bool.or_eq_true, beq_iff_eq, decide_eq_true_eq]
  have e1 : (32 : UInt8).toNat = 32 := rfl
  have e2 : (9 : UInt8).toNat = 9 := rfl
  omega
end Go.Vf.S
end
section
namespace Go.Vf.S
open Go Go.Vf
attribute [local irreducible] wSeq wRow wp wG
set_option linter.unusedVariables false
set_option linter.unusedSimpArgs false
set_option maxRecDepth 10000
def needs (c : UInt8) : Bool := decide (c.toNat = 34 ∨ c.toNat = 92)
def escB (c : UInt8) : List UInt8 := if needs c then [92, c] else [c]
def quoteL (l : List UInt8) : List UInt8 := 34 :: l.flatMap escB ++ [34]
def quoteF (l : List UInt8) : List UInt8 × Nat := if l.all plainB then (quoteL l, 0) else ([], 5)
theorem flat_next {l : List UInt8} {p : Nat} {c : UInt8} (h : l[p]? = some c) : (l.take (p + 1)).flatMap escB = (l.take p).flatMap escB ++ escB c := by
 rw [take_next h]; simp
theorem esc_len : ∀ l : List UInt8, l.length ≤ (l.flatMap escB).length ∧ (l.flatMap escB).length ≤ 2 * l.length
 | [] => by simp
 | c :: l => by
  have := esc_len l
  have : 1 ≤ (escB c).length ∧ (escB c).length ≤ 2 := by unfold escB; split <;> simp
  simp only [List.flatMap_cons, List.length_append, List.length_cons]
  omega
theorem take_esc {l : List UInt8} (p : Nat) : ((l.take p).flatMap escB).length ≤ 2 * l.length := by
 have := (esc_len (l.take p)).2
 rw [List.length_take] at this
 omega
def qO (l : List UInt8) (p : Nat) : List UInt8 := 34 :: (l.take p).flatMap escB
theorem qO_next {l : List UInt8} {p : Nat} {c : UInt8} (h : l[p]? = some c) : qO l (p + 1) = qO l p ++ escB c := by unfold qO; rw [flat_next h]; rfl
theorem qO_len {l : List UInt8} (p : Nat) : (qO l p).length ≤ 2 * l.length + 1 := Nat.succ_le_succ (take_esc p)
theorem qO_end {l : List UInt8} {p : Nat} (h : l.length ≤ p) : qO l p ++ [34] = quoteL l := by unfold qO quoteL; rw [List.take_of_length_le h]
structure QIt where
 p : Nat
 s : SS
 base : Option Addr
 cap : Nat
def QAt (s0 : SS) (id : Nat) (l : List UInt8) (out : List UInt8) (x : QIt) : Prop :=
 At s0 id l ⟨x.p, x.s⟩ ∧ Buf tB x.s x.base x.cap out ∧ ∀ i ∈ blkOf x.base, s0.next ≤ i ∧ i ≠ id
theorem quote_w {s : SS} {l : List UInt8} (hl : l.length ≤ 1000000) : CallW pr n_text_Quote [str l] s fun v s' => v = .tuple ⟨[str (quoteF l).1, .int .i64 (quoteF l).2]⟩ ∧ Chg s s' [] := by
 refine CallW.run good ok_text_Quote (by simp) rfl ?_
 (try refine pSeq ?_); (repeat(first|refine sb ?_|refine gOn rfl ?_|refine gOff rfl rfl ?_|refine gTup rfl ?_))
 refine srange_W rfl un_S rfl ?_
 (repeat(first|refine sb ?_|refine gOn rfl ?_|refine gOff rfl rfl ?_|refine gTup rfl ?_))
 refine pLoop (MW.head good (fun x : QIt => l.length - x.p) (fun x => (l.take x.p).all plainB = true ∧ QAt s (s.next + 1) l (qO l x.p) x)
  (fun x => [(4, .slice x.base (qO l x.p).length x.cap), (9, .pointer (some ⟨s.next + 1, 0, none⟩))]) (fun x => x.s) ⟨0, _, _, _⟩ ⟨rfl, ⟨(Chg.new _).nil (.new _), Nat.le_succ _, Nat.lt_succ_self _, lkH⟩, .inr ⟨rfl, s.next, false, rfl, ?_, lkT (show s.next + 1 ≠ s.next by omega) lkH⟩, ?_⟩ (Wk.same ⟨rfl, rfl, trivial⟩) ?_)
 ·show s.next < s.next + 1 + 1
  omega
 ·intro i hi
  simp only [blkOf, List.mem_singleton] at hi
  omega
 intro ⟨p, s1, base, cap⟩ ⟨h0, h1, h2, h3⟩
 dsimp only at h0 h1 h2 h3 ⊢
 have hle := qO_len (l := l) p
 generalize hqo : qO l p = out at hle h2 ⊢
 (repeat(first|refine sb ?_|refine gOn rfl ?_|refine gOff rfl rfl ?_|refine gTup rfl ?_))
 refine snext_L rfl rfl h1.2.2.2 (fun he => ?_) (fun c hc h7 => ?_) (fun c r w hc h7 hr hr2 _ hw _ => ?_)
 ·(repeat(first|refine sb ?_|refine gOn rfl ?_|refine gOff rfl rfl ?_|refine gTup rfl ?_))
  refine app_lit (d := 34) h2 rfl rfl rfl rfl (by omega) fun s2 o2 c2 n2 => ?_
  (repeat(first|refine sb ?_|refine gOn rfl ?_|refine gOff rfl rfl ?_|refine gTup rfl ?_))
  refine toStr_Rdb rfl (by have := o2.rdb; rw [List.length_append] at this; exact this) ?_
  (repeat(first|refine sb ?_|refine gOn rfl ?_|refine gOff rfl rfl ?_|refine gTup rfl ?_))
  have e : quoteF l = (out ++ [34], 0) := by
   unfold quoteF
   rw [← hqo, qO_end he]
   rw [List.take_of_length_le he] at h0
   rw [h0]; rfl
  rw [e]
  exact ⟨rfl, h1.1.fresh c2 fun i hi => (h3 i hi).1⟩
 ·(repeat(first|refine sb ?_|refine gOn rfl ?_|refine gOff rfl rfl ?_|refine gTup rfl ?_))
  refine (plain_w (by omega)).mono fun v s2 q => ?_
  obtain ⟨rfl, rfl⟩ := q
  (repeat(first|refine sb ?_|refine gOn rfl ?_|refine gOff rfl rfl ?_|refine gTup rfl ?_))
  intro q hq
  have e : decide (32 ≤ c.toNat ∧ c.toNat ≤ 126) = plainB c := rfl
  rw [e] at hq
  have off : ∀ i ∈ blkOf base, i ∉ [s.next + 1] := fun i hi q => (h3 i hi).2 (List.mem_singleton.1 q)
  by_cases hp : plainB c = true
  ·obtain rfl : q = false := by rw [hq, hp]; rfl
   (repeat(first|refine sb ?_|refine gOn rfl ?_|refine gOff rfl rfl ?_|refine gTup rfl ?_))
   intro q1 hq1
   by_cases h34 : c.toNat = 34
   ·obtain rfl : q1 = true := by rw [hq1]; simp; omega
    have hn : needs c = true := by simp [needs, h34]
    (repeat(first|refine sb ?_|refine gOn rfl ?_|refine gOff rfl rfl ?_|refine gTup rfl ?_))
    refine app_lit (d := 92) (h2.chg (Chg.turn h1.2.2.1) off) rfl rfl rfl rfl (by omega) fun s2 o2 c2 n2 => ?_
    (repeat(first|refine sb ?_|refine gOn rfl ?_|refine gOff rfl rfl ?_|refine gTup rfl ?_))
    intro z hz
    rw [byte_id] at hz
    (repeat(first|refine sb ?_|refine gOn rfl ?_|refine gOff rfl rfl ?_|refine gTup rfl ?_))
    refine app_lit (d := c) o2.buf (by simp) rfl rfl hz (by omega) fun s3 o3 c3 n3 => ?_
    (repeat(first|refine sb ?_|refine gOn rfl ?_|refine gOff rfl rfl ?_|refine gTup rfl ?_))
    have a2 : At s (s.next + 1) l ⟨p + 1, s2⟩ := (h1.go (p + 1)).chg c2 h3
    have a3 : At s (s.next + 1) l ⟨p + 1, s3⟩ := a2.chg c3 fun i hi => by
     simp only [blkOf, List.mem_singleton] at hi
     have := h1.1.next
     have := h1.2.2.1
     dsimp only at *
     omega
    have eo : qO l (p + 1) = out ++ [92] ++ [c] := by rw [qO_next hc, hqo, escB, if_pos hn]; simp
    refine ⟨⟨p + 1, s3, _, 0⟩, ⟨by rw [take_next hc]; simp [h0, hp], a3, by rw [eo]; exact o3.buf, fun i hi => ?_⟩, by have : p < l.length := lt_of_get hc; show l.length - (p + 1) < l.length - p; omega, Wk.same ⟨?_, rfl, trivial⟩⟩
    ·simp only [blkOf, List.mem_singleton] at hi
     have := h1.1.next
     have := h1.2.2.1
     dsimp only at *
     omega
    ·show look _ 4 = _
     rw [eo, List.length_append, List.length_append]
     rfl
   ·obtain rfl : q1 = false := by rw [hq1]; simp; omega
    (repeat(first|refine sb ?_|refine gOn rfl ?_|refine gOff rfl rfl ?_|refine gTup rfl ?_))
    intro q2 hq2
    by_cases h92 : c.toNat = 92
    ·obtain rfl : q2 = true := by rw [hq2]; simp; omega
     have hn : needs c = true := by simp [needs, h92]
     (repeat(first|refine sb ?_|refine gOn rfl ?_|refine gOff rfl rfl ?_|refine gTup rfl ?_))
     refine app_lit (d := 92) (h2.chg (Chg.turn h1.2.2.1) off) rfl rfl rfl rfl (by omega) fun s2 o2 c2 n2 => ?_
     (repeat(first|refine sb ?_|refine gOn rfl ?_|refine gOff rfl rfl ?_|refine gTup rfl ?_))
     intro z hz
     rw [byte_id] at hz
     (repeat(first|refine sb ?_|refine gOn rfl ?_|refine gOff rfl rfl ?_|refine gTup rfl ?_))
     refine app_lit (d := c) o2.buf (by simp) rfl rfl hz (by omega) fun s3 o3 c3 n3 => ?_
     (repeat(first|refine sb ?_|refine gOn rfl ?_|refine gOff rfl rfl ?_|refine gTup rfl ?_))
     have a2 : At s (s.next + 1) l ⟨p + 1, s2⟩ := (h1.go (p + 1)).chg c2 h3
     have a3 : At s (s.next + 1) l ⟨p + 1, s3⟩ := a2.chg c3 fun i hi => by
      simp only [blkOf, List.mem_singleton] at hi
      have := h1.1.next
      have := h1.2.2.1
      dsimp only at *
      omega
     have eo : qO l (p + 1) = out ++ [92] ++ [c] := by rw [qO_next hc, hqo, escB, if_pos hn]; simp
     refine ⟨⟨p + 1, s3, _, 0⟩, ⟨by rw [take_next hc]; simp [h0, hp], a3, by rw [eo]; exact o3.buf, fun i hi => ?_⟩, by have : p < l.length := lt_of_get hc; show l.length - (p + 1) < l.length - p; omega, Wk.same ⟨?_, rfl, trivial⟩⟩
     ·simp only [blkOf, List.mem_singleton] at hi
      have := h1.1.next
      have := h1.2.2.1
      dsimp only at *
      omega
     ·show look _ 4 = _
      rw [eo, List.length_append, List.length_append]
      rfl
    ·obtain rfl : q2 = false := by rw [hq2]; simp; omega
     have hn : needs c = false := by simp [needs, h34, h92]
     (repeat(first|refine sb ?_|refine gOn rfl ?_|refine gOff rfl rfl ?_|refine gTup rfl ?_))
     intro z hz
     rw [byte_id] at hz
     (repeat(first|refine sb ?_|refine gOn rfl ?_|refine gOff rfl rfl ?_|refine gTup rfl ?_))
     refine app_lit (d := c) (h2.chg (Chg.turn h1.2.2.1) off) rfl rfl rfl hz (by omega) fun s2 o2 c2 n2 => ?_
     (repeat(first|refine sb ?_|refine gOn rfl ?_|refine gOff rfl rfl ?_|refine gTup rfl ?_))
     have a2 : At s (s.next + 1) l ⟨p + 1, s2⟩ := (h1.go (p + 1)).chg c2 h3
     have eo : qO l (p + 1) = out ++ [c] := by rw [qO_next hc, hqo, escB, if_neg (by simp [hn])]
     refine ⟨⟨p + 1, s2, _, 0⟩, ⟨by rw [take_next hc]; simp [h0, hp], a2, by rw [eo]; exact o2.buf, fun i hi => ?_⟩, by have : p < l.length := lt_of_get hc; show l.length - (p + 1) < l.length - p; omega, Wk.same ⟨?_, rfl, trivial⟩⟩
     ·simp only [blkOf, List.mem_singleton] at hi
      have := h1.1.next
      have := h1.2.2.1
      dsimp only at *
      omega
     ·show look _ 4 = _
      rw [eo, List.length_append]
      rfl
  ·obtain rfl : q = true := by rw [hq, plain_no hp]; rfl
   (repeat(first|refine sb ?_|refine gOn rfl ?_|refine gOff rfl rfl ?_|refine gTup rfl ?_))
   have e : quoteF l = ([], 5) := by unfold quoteF; rw [all_no hc (plain_no hp)]; rfl
   rw [e]
   exact ⟨rfl, (h1.go _).1⟩
 ·(repeat(first|refine sb ?_|refine gOn rfl ?_|refine gOff rfl rfl ?_|refine gTup rfl ?_))
  refine (plain_w (by omega)).mono fun v s2 q => ?_
  obtain ⟨rfl, rfl⟩ := q
  (repeat(first|refine sb ?_|refine gOn rfl ?_|refine gOff rfl rfl ?_|refine gTup rfl ?_))
  intro q hq
  obtain rfl : q = true := by rw [hq]; simp; omega
  (repeat(first|refine sb ?_|refine gOn rfl ?_|refine gOff rfl rfl ?_|refine gTup rfl ?_))
  have e : quoteF l = ([], 5) := by unfold quoteF; rw [all_no hc (plain_hi h7)]; rfl
  rw [e]
  exact ⟨rfl, (h1.go _).1⟩
end Go.Vf.S
end
section
namespace Go.Vf.S
open Go Go.Vf
attribute [local irreducible] wSeq wRow wp wG
set_option linter.unusedVariables false
set_option linter.unusedSimpArgs false
set_option maxRecDepth 10000
def upB (c : UInt8) : Bool := decide (65 ≤ c.toNat ∧ c.toNat ≤ 90)
def lowB (c : UInt8) : UInt8 := if upB c then c + 32 else c
theorem lowB_up {c : UInt8} (h : upB c = true) : (lowB c).toNat = c.toNat + 32 := by
 unfold lowB
 rw [if_pos h]
 have : 65 ≤ c.toNat ∧ c.toNat ≤ 90 := by simpa [upB] using h
 rw [UInt8.toNat_add]
 have e : (32 : UInt8).toNat = 32 := rfl
 omega
theorem lowB_no {c : UInt8} (h : ¬upB c = true) : lowB c = c := by unfold lowB; rw [if_neg h]
def mixL (l : List UInt8) (p : Nat) : List UInt8 := (l.map lowB).take p ++ l.drop p
theorem mix_len (l : List UInt8) (p : Nat) : (mixL l p).length = l.length := by simp [mixL]; omega
theorem mix_0 (l : List UInt8) : mixL l 0 = l := by simp [mixL]
theorem mix_end {l : List UInt8} {p : Nat} (h : l.length ≤ p) : mixL l p = l.map lowB := by
 unfold mixL
 rw [List.drop_of_length_le h, List.append_nil, List.take_of_length_le (by simpa using h)]
theorem mix_next {l : List UInt8} {p : Nat} {c : UInt8} (h : l[p]? = some c) : mixL l (p + 1) = (mixL l p).set p (lowB c) := by
 have hp := lt_of_get h
 unfold mixL
 rw [drop_next h, take_next (c := lowB c) (by rw [List.getElem?_map, h]; rfl), List.set_append_right _ _ (by simp; omega)]
 have e : ((l.map lowB).take p).length = p := by simp; omega
 rw [e, Nat.sub_self, List.append_assoc]
 rfl
theorem mix_at {l : List UInt8} {p : Nat} {c : UInt8} (h : l[p]? = some c) : (mixL l p)[p]? = some c := by
 have hp := lt_of_get h
 unfold mixL
 have e : ((l.map lowB).take p).length = p := by simp; omega
 rw [List.getElem?_append_right (by omega), e, Nat.sub_self, drop_next h]
 rfl
theorem mix_same {l : List UInt8} {p : Nat} {c : UInt8} (h : l[p]? = some c) (hc : lowB c = c) : mixL l (p + 1) = mixL l p := by
 rw [mix_next h, hc]
 have := mix_at h
 obtain ⟨hp, e⟩ := List.getElem?_eq_some_iff.1 this
 rw [← e]
 exact List.set_getElem_self hp
theorem mix_more {l : List UInt8} {p : Nat} : ∀ {w : Nat}, (∀ j, j < w → ∃ d, l[p + j]? = some d ∧ 128 ≤ d.toNat) → mixL l (p + w) = mixL l p
 | 0, _ => rfl
 | w + 1, h => by
  obtain ⟨d, h1, h2⟩ := h w (Nat.lt_succ_self _)
  rw [← Nat.add_assoc, mix_same h1 (lowB_no (by simp [upB]; omega)), mix_more fun j hj => h j (Nat.lt_succ_of_lt hj)]
theorem lower_w {s : SS} {l : List UInt8} (hl : l.length ≤ 1000000) : CallW pr n_text_Lower [str l] s fun v s' => v = str (l.map lowB) ∧ Chg s s' [] := by
 refine CallW.run good ok_text_Lower (by simp) rfl ?_
 (try refine pSeq ?_); (repeat(first|refine sb ?_|refine gOn rfl ?_|refine gOff rfl rfl ?_|refine gTup rfl ?_))
 refine ⟨by omega, ?_⟩
 (repeat(first|refine sb ?_|refine gOn rfl ?_|refine gOff rfl rfl ?_|refine gTup rfl ?_))
 refine srange_W rfl un_S rfl ?_
 (repeat(first|refine sb ?_|refine gOn rfl ?_|refine gOff rfl rfl ?_|refine gTup rfl ?_))
 refine pLoop (MW.head good (fun x : It => l.length - x.p) (fun x => At s (s.next + 1) l x ∧ lookH x.s.heap s.next = some (.cells (bytesV (mixL l x.p)) tB true false))
  (fun x => [(3, .slice (some ⟨s.next, 0, none⟩) l.length 0), (9, .pointer (some ⟨s.next + 1, 0, none⟩))]) (fun x => x.s) ⟨0, _⟩ ⟨⟨(Chg.new _).nil (.new _), Nat.le_succ _, Nat.lt_succ_self _, lkH⟩, ?_⟩ (Wk.same ⟨rfl, rfl, trivial⟩) ?_)
 ·rw [mix_0]
  exact lkT (show s.next + 1 ≠ s.next by omega) lkH
 intro ⟨p, s1⟩ ⟨h1, h2⟩
 dsimp only at h1 h2 ⊢
 have hn1 := h1.1.next
 have hn2 := h1.2.2.1
 dsimp only at hn1 hn2
 (repeat(first|refine sb ?_|refine gOn rfl ?_|refine gOff rfl rfl ?_|refine gTup rfl ?_))
 refine snext_L rfl rfl (show lookH s1.heap _ = some (.siter ⟨⟨l⟩⟩ p) from h1.2.2.2) (fun he => ?_) (fun c hc h7 => ?_) (fun c r w hc h7 hr hr2 hdec hw _ => ?_)
 ·(repeat(first|refine sb ?_|refine gOn rfl ?_|refine gOff rfl rfl ?_|refine gTup rfl ?_))
  refine toStr_Rdb rfl (by have := rdb_lit h2 (by omega); rw [mix_len] at this; exact this) ?_
  (repeat(first|refine sb ?_|refine gOn rfl ?_|refine gOff rfl rfl ?_|refine gTup rfl ?_))
  rw [mix_end he]
  exact ⟨rfl, h1.1⟩
 ·have hlt : p < l.length := lt_of_get hc
  have h3 : lookH ((s.next + 1, some (ABlk.siter ⟨⟨l⟩⟩ (p + 1))) :: s1.heap) s.next = some (.cells (bytesV (mixL l p)) tB true false) := lkT (by omega) h2
  (repeat(first|refine sb ?_|refine gOn rfl ?_|refine gOff rfl rfl ?_|refine gTup rfl ?_))
  intro q hq
  by_cases hup : upB c = true
  ·have hu : 65 ≤ c.toNat ∧ c.toNat ≤ 90 := by simpa [upB] using hup
   obtain rfl : q = true := by rw [hq]; simp <;> omega
   (repeat(first|refine sb ?_|refine gOn rfl ?_|refine gOff rfl rfl ?_|refine gTup rfl ?_))
   intro q hq; obtain rfl : q = true := (by rw [hq]; simp <;> omega); (repeat(first|refine sb ?_|refine gOn rfl ?_|refine gOff rfl rfl ?_|refine gTup rfl ?_))
   refine ⟨by omega, ?_⟩
   intro m hm o ho
   obtain rfl : m = p := by omega
   (repeat(first|refine sb ?_|refine gOn rfl ?_|refine gOff rfl rfl ?_|refine gTup rfl ?_))
   have hget : (bytesV (mixL l m))[o]? = some (.int .u8 c.toNat) := by
    rw [ho, Nat.zero_add, Nat.mul_one, bytesV, List.getElem?_map, mix_at hc]; rfl
   refine ldI_is rfl h3 hget ?_
   (repeat(first|refine sb ?_|refine gOn rfl ?_|refine gOff rfl rfl ?_|refine gTup rfl ?_))
   intro z hz
   rw [u8_id (by omega)] at hz
   obtain rfl : z = ((lowB c).toNat : Int) := by rw [lowB_up hup]; omega
   (repeat(first|refine sb ?_|refine gOn rfl ?_|refine gOff rfl rfl ?_|refine gTup rfl ?_))
   refine ⟨by omega, ?_⟩
   intro m2 hm2 o2 ho2
   obtain rfl : m2 = m := by omega
   (repeat(first|refine sb ?_|refine gOn rfl ?_|refine gOff rfl rfl ?_|refine gTup rfl ?_))
   refine st_abs (cs' := bytesV (mixL l (m2 + 1))) rfl rfl h3 (by show s.next < s1.next; omega) rfl ?_ fun s2 e2 c2 n2 => ?_
   ·rw [ho2, Nat.zero_add, Nat.mul_one]
    show setRow _ _ [_] = _
    rw [setRow_one (by rw [bytesV_len, mix_len]; exact hlt), mix_next hc]
    congr 1
    simp [bytesV, List.map_set]
   (repeat(first|refine sb ?_|refine gOn rfl ?_|refine gOff rfl rfl ?_|refine gTup rfl ?_))
   exact ⟨⟨m2 + 1, s2⟩, ⟨(h1.go (m2 + 1)).chg c2 (by simp), e2⟩, by show l.length - (m2 + 1) < l.length - m2; omega, Wk.same ⟨rfl, rfl, trivial⟩⟩
  ·have hlow := lowB_no hup
   have fin : At s (s.next + 1) l ⟨p + 1, { s1 with heap := (s.next + 1, some (ABlk.siter ⟨⟨l⟩⟩ (p + 1))) :: s1.heap }⟩ ∧ lookH ((s.next + 1, some (ABlk.siter ⟨⟨l⟩⟩ (p + 1))) :: s1.heap) s.next = some (.cells (bytesV (mixL l (p + 1))) tB true false) := ⟨h1.go _, by rw [mix_same hc hlow]; exact h3⟩
   by_cases h65 : 65 ≤ c.toNat
   ·obtain rfl : q = true := by rw [hq]; simp <;> omega
    have h90 : ¬c.toNat ≤ 90 := fun q => hup (by simp [upB, h65, q])
    (repeat(first|refine sb ?_|refine gOn rfl ?_|refine gOff rfl rfl ?_|refine gTup rfl ?_))
    intro q hq; obtain rfl : q = false := (by rw [hq]; simp <;> omega); (repeat(first|refine sb ?_|refine gOn rfl ?_|refine gOff rfl rfl ?_|refine gTup rfl ?_))
    exact ⟨⟨p + 1, _⟩, fin, by show l.length - (p + 1) < l.length - p; omega, Wk.same ⟨rfl, rfl, trivial⟩⟩
   ·obtain rfl : q = false := by rw [hq]; simp <;> omega
    (repeat(first|refine sb ?_|refine gOn rfl ?_|refine gOff rfl rfl ?_|refine gTup rfl ?_))
    exact ⟨⟨p + 1, _⟩, fin, by show l.length - (p + 1) < l.length - p; omega, Wk.same ⟨rfl, rfl, trivial⟩⟩
 ·have hlt : p < l.length := lt_of_get hc
  (repeat(first|refine sb ?_|refine gOn rfl ?_|refine gOff rfl rfl ?_|refine gTup rfl ?_))
  intro q hq; obtain rfl : q = true := (by rw [hq]; simp <;> omega); (repeat(first|refine sb ?_|refine gOn rfl ?_|refine gOff rfl rfl ?_|refine gTup rfl ?_))
  intro q hq; obtain rfl : q = false := (by rw [hq]; simp <;> omega); (repeat(first|refine sb ?_|refine gOn rfl ?_|refine gOff rfl rfl ?_|refine gTup rfl ?_))
  refine ⟨⟨p + w, _⟩, ⟨h1.go _, ?_⟩, by show l.length - (p + w) < l.length - p; omega, Wk.same ⟨rfl, rfl, trivial⟩⟩
  rw [mix_more (dec_more hdec hc h7)]
  exact lkT (by omega) h2
end Go.Vf.S
end
section
namespace Go.Vf.S
open Go Go.Vf
attribute [local irreducible] wSeq wRow wp wG
set_option linter.unusedVariables false
set_option linter.unusedSimpArgs false
set_option maxRecDepth 10000
def sp (c : UInt8) : List UInt8 → List UInt8 × List (List UInt8)
 | [] => ([], [])
 | x :: r => if x = c then ([], (sp c r).1 :: (sp c r).2) else (x :: (sp c r).1, (sp c r).2)
def splitF (c : UInt8) (l : List UInt8) : List (List UInt8) := (sp c l).1 :: (sp c l).2
theorem sp_first {c : UInt8} {r : List UInt8} : ∀ {f : List UInt8}, c ∉ f → sp c (f ++ c :: r) = (f, (sp c r).1 :: (sp c r).2)
 | [], _ => by simp [sp]
 | x :: f, h => by
  have h1 : ¬x = c := fun e => h (by simp [e])
  rw [List.cons_append, sp, if_neg h1, sp_first (f := f) (fun q => h (by simp [q]))]
theorem split_first {c : UInt8} {r f : List UInt8} (h : c ∉ f) : splitF c (f ++ c :: r) = f :: splitF c r := by unfold splitF; rw [sp_first h]
theorem split_last {c : UInt8} : ∀ {l : List UInt8}, l.count c = 0 → splitF c l = [l]
 | [], _ => rfl
 | x :: l, h => by
  have h1 : ¬x = c := fun e => by subst e; simp at h
  rw [List.count_cons_of_ne h1] at h
  have := split_last (c := c) (l := l) h
  unfold splitF at this ⊢
  rw [sp, if_neg h1]
  simp only [List.cons.injEq] at this ⊢
  exact ⟨⟨trivial, this.1⟩, this.2⟩
theorem split_len {c : UInt8} : ∀ (l : List UInt8), (splitF c l).length = l.count c + 1
 | [] => rfl
 | x :: l => by
  have := split_len (c := c) l
  unfold splitF at this ⊢
  rw [sp]
  by_cases h : x = c
  ·subst h
   rw [if_pos rfl, List.count_cons_self]
   simp only [List.length_cons] at this ⊢
   omega
  ·rw [if_neg h, List.count_cons_of_ne h]
   simp only [List.length_cons] at this ⊢
   omega
theorem index_first {c : UInt8} {r : List UInt8} : ∀ {f : List UInt8}, c ∉ f → Lib.indexByte (f ++ c :: r) c = f.length
 | [], _ => by simp [Lib.indexByte]
 | x :: f, h => by
  have h1 : (x == c) = false := by simp; exact fun e => h (by simp [e])
  have ih := index_first (c := c) (r := r) (f := f) (fun q => h (by simp [q]))
  rw [List.cons_append, Lib.indexByte, h1, ih]
  have : ((f.length : Int) == -1) = false := by simp <;> omega
  rw [this]
  simp
theorem byte_back (c : UInt8) : ((c.toNat : Int).toNat).toUInt8 = c := by simp
theorem indexByte_w {s : SS} {l : List UInt8} {c : UInt8} : CallW pr n_internal_stringslite_IndexByte [str l, .int .u8 c.toNat] s fun v s' => v = .int .i64 (Lib.indexByte l c) ∧ s' = s := by
 refine CallW.run good ok_internal_stringslite_IndexByte (by simp) rfl ?_
 (try refine pSeq ?_); (repeat refine sb ?_)
 refine xtn_W Go.Proofs.Tryz.func189 (by kernel_rfl) (by kernel_rfl) (by kernel_rfl) (by kernel_rfl) rfl rfl rfl rfl (fun w => by rw [Lib.run_indexByteString, byte_back]) ?_
 (repeat refine sb ?_)
 exact ⟨rfl, rfl⟩
theorem count_w {s : SS} {l : List UInt8} {c : UInt8} : CallW pr n_strings_Count [str l, str [c]] s fun v s' => v = .int .i64 (l.count c : Nat) ∧ s' = s := by
 refine CallW.run good ok_strings_Count (by simp) rfl ?_
 (try refine pSeq ?_); (repeat refine sb ?_)
 intro n hn
 (repeat refine sb ?_)
 intro q hq
 obtain rfl : q = false := by rw [hq, hn]; rfl
 (repeat refine sb ?_)
 intro n hn
 (repeat refine sb ?_)
 intro q hq
 obtain rfl : q = true := by rw [hq, hn]; rfl
 (repeat refine sb ?_)
 refine ⟨by simp, ?_⟩
 intro m hm
 obtain rfl : m = 0 := by omega
 refine ⟨c, rfl, ?_⟩
 (repeat refine sb ?_)
 refine xtn_W Go.Proofs.Tryz.func188 (by kernel_rfl) (by kernel_rfl) (by kernel_rfl) (by kernel_rfl) rfl rfl rfl rfl (fun w => by rw [Lib.run_countString, byte_back]) ?_
 (repeat refine sb ?_)
 exact ⟨rfl, rfl⟩
theorem index1_w {s : SS} {l : List UInt8} {c : UInt8} (hne : l ≠ []) : CallW pr n_strings_Index [str l, str [c]] s fun v s' => v = .int .i64 (Lib.indexByte l c) ∧ s' = s := by
 refine CallW.run good ok_strings_Index (by simp) rfl ?_
 (try refine pSeq ?_); (repeat(first|refine sb ?_|refine gOn rfl ?_|refine gOff rfl rfl ?_|refine gTup rfl ?_))
 refine (show CallW pr n_internal_stringslite_Index [str l, str [c]] s fun v s' => v = .int .i64 (Lib.indexByte l c) ∧ s' = s from ?_).mono fun v s q => ?_
 ·refine CallW.run good ok_internal_stringslite_Index (by simp) rfl ?_
  (try refine pSeq ?_); (repeat(first|refine sb ?_|refine gOn rfl ?_|refine gOff rfl rfl ?_|refine gTup rfl ?_))
  intro n hn
  (repeat(first|refine sb ?_|refine gOn rfl ?_|refine gOff rfl rfl ?_|refine gTup rfl ?_))
  intro q hq
  obtain rfl : q = false := by rw [hq, hn]; rfl
  (repeat(first|refine sb ?_|refine gOn rfl ?_|refine gOff rfl rfl ?_|refine gTup rfl ?_))
  intro q hq
  by_cases he : [c] = l
  ·subst he
   obtain rfl : q = true := by rw [hq]; simp
   (repeat(first|refine sb ?_|refine gOn rfl ?_|refine gOff rfl rfl ?_|refine gTup rfl ?_))
   exact ⟨by show Value.int .i64 0 = _; simp [Lib.indexByte], rfl⟩
  ·obtain rfl : q = false := by rw [hq]; simp [he]
   (repeat(first|refine sb ?_|refine gOn rfl ?_|refine gOff rfl rfl ?_|refine gTup rfl ?_))
   intro q hq
   obtain rfl : q = true := by rw [hq, hn]; rfl
   (repeat(first|refine sb ?_|refine gOn rfl ?_|refine gOff rfl rfl ?_|refine gTup rfl ?_))
   refine ⟨by simp, ?_⟩
   intro m hm
   obtain rfl : m = 0 := by omega
   refine ⟨c, rfl, ?_⟩
   (repeat(first|refine sb ?_|refine gOn rfl ?_|refine gOff rfl rfl ?_|refine gTup rfl ?_))
   refine indexByte_w.mono fun v s q => ?_
   obtain ⟨rfl, rfl⟩ := q
   (repeat(first|refine sb ?_|refine gOn rfl ?_|refine gOff rfl rfl ?_|refine gTup rfl ?_))
   exact ⟨rfl, rfl⟩
 obtain ⟨rfl, rfl⟩ := q
 (repeat(first|refine sb ?_|refine gOn rfl ?_|refine gOff rfl rfl ?_|refine gTup rfl ?_))
 exact ⟨rfl, rfl⟩
def strV (ls : List (List UInt8)) : List Value := ls.map str
theorem strV_len (ls : List (List UInt8)) : (strV ls).length = ls.length := by simp [strV]
def StrsAt (s : SS) (base : Option Addr) (ls : List (List UInt8)) : Prop :=
 ∃ b cs t g r, base = some ⟨b, 0, none⟩ ∧ b < s.next ∧ lookH s.heap b = some (.cells cs t g r) ∧ ∀ (i : Nat) x, ls[i]? = some x → cs[i]? = some (str x)
theorem StrsAt.chg {s s' : SS} {base : Option Addr} {ls : List (List UInt8)} {A : List Nat} (h : StrsAt s base ls) (c : Chg s s' A) (hA : ∀ id ∈ blkOf base, id ∉ A) : StrsAt s' base ls := by
 obtain ⟨b, cs, t, g, r, rfl, h1, h2, h3⟩ := h
 exact ⟨b, cs, t, g, r, rfl, Nat.lt_of_lt_of_le h1 c.next, c.blk _ _ h1 (hA b (by simp [blkOf])) h2, h3⟩
structure PIt where
 done : List (List UInt8)
 rest : List UInt8
 s : SS
theorem set_row (done : List (List UInt8)) (f : List UInt8) (k : Nat) : (strV done ++ List.replicate (k + 1) (str [])).set done.length (str f) = strV (done ++ [f]) ++ List.replicate k (str []) := by
 rw [List.set_append_right _ _ (by rw [strV_len]; omega), strV_len, Nat.sub_self, List.replicate_succ, List.set_cons_zero]
 simp [strV]
theorem repeat_str : ∀ n : Nat, repeatL n [str []] = List.replicate n (str [])
 | 0 => rfl
 | n + 1 => by
  show [str []] ++ repeatL n [str []] = _
  rw [repeat_str n, List.replicate_succ]
  rfl
theorem slL_pre {P : Program} {T : TL} {s : SS} {K : RR → Prop} {z n cap m b off : Nat} {cs : List Value} {t : TypeId} {r : Bool} {x hi : Operand} {k : Int} (hx : opd T s.gl x = some (.slice (some ⟨b, off, none⟩) n cap)) (hh : opd T s.gl hi = some (.int .i64 k))
  (hb : lookH s.heap b = some (.cells cs t false r)) (hk : k = (m : Int)) (hm : m ≤ cap) (h : K (.val (.slice (some ⟨b, off, none⟩) m cap))) : wN P (.slL z x none (some hi)) T s K := by
 subst hk
 simp only [wN, hx, opdO, hh, hb, wBnd]
 refine ⟨by omega, fun j hj o n' d ho hn hd => ?_⟩
 obtain rfl : j = m := by omega
 have e : o = off := by
  rw [ho]
  split <;> simp
 rw [e, hn, hd, Nat.sub_zero, Nat.sub_zero]
 exact h
def Full (s : SS) (base : Option Addr) : Prop := ∃ b cs, base = some ⟨b, 0, none⟩ ∧ lookH s.heap b = some (.cells cs tS false false)
theorem split_f {s : SS} {l : List UInt8} {c : UInt8} (hl : l.length ≤ 1000000) : CallW pr n_strings_genSplit [str l, str [c], .int .i64 0, .int .i64 (-1)] s fun v s' => ∃ base cap, v = .slice base (splitF c l).length cap ∧ StrsAt s' base (splitF c l) ∧ Chg s s' [] ∧ (∀ id ∈ blkOf base, s.next ≤ id) ∧ (splitF c l).length ≤ cap ∧ Full s' base := by
 refine CallW.run good ok_strings_genSplit (by simp) rfl ?_
 have hcl : l.count c ≤ l.length := List.count_le_length
 (try refine pSeq ?_); (repeat refine sb ?_)
 intro q hq; obtain rfl : q = false := (by rw [hq]; simp <;> omega); (repeat refine sb ?_)
 intro q hq; obtain rfl : q = false := (by rw [hq]; simp <;> omega); (repeat refine sb ?_)
 intro q hq; obtain rfl : q = true := (by rw [hq]; simp <;> omega); (repeat refine sb ?_)
 refine count_w.mono fun v s q => ?_
 obtain ⟨rfl, rfl⟩ := q
 (repeat refine sb ?_)
 intro z hz
 rw [i64_id (by omega)] at hz
 (repeat refine sb ?_)
 intro n hn
 (repeat refine sb ?_)
 intro z2 hz2
 rw [i64_id (by omega)] at hz2
 (repeat refine sb ?_)
 intro z3 hz3
 obtain rfl : z3 = ((l.count c + 1 : Nat) : Int) := by omega
 (repeat refine sb ?_)
 refine ⟨by omega, ?_⟩
 intro m k hm hk cs hcs
 obtain rfl : m = l.count c + 1 := by omega
 obtain rfl : k = l.count c + 1 := by omega
 rw [repeat_str] at hcs
 subst hcs
 (repeat refine sb ?_)
 intro z4 hz4
 rw [i64_id (by omega)] at hz4
 obtain rfl : z4 = ((l.count c : Nat) : Int) := by omega
 (repeat refine sb ?_)
 refine pLoop (MW.head good (fun x : PIt => x.rest.count c) (fun x => splitF c l = x.done ++ splitF c x.rest ∧ x.rest.length ≤ l.length ∧ l.count c = x.done.length + x.rest.count c ∧ Chg s x.s [] ∧ s.next < x.s.next ∧ lookH x.s.heap s.next = some (.cells (strV x.done ++ List.replicate (x.rest.count c + 1) (str [])) tS false false))
  (fun x => [(0, str x.rest), (1, str [c]), (2, .int .i64 0), (3, .int .i64 (l.count c : Nat)), (9, .slice (some ⟨s.next, 0, none⟩) (l.count c + 1) (l.count c + 1)), (10, .int .i64 x.done.length)]) (fun x => x.s) ⟨[], l, _⟩ ⟨rfl, Nat.le_refl _, by simp, .new _, Nat.lt_succ_self _, lkH⟩ (Wk.same ⟨rfl, rfl, rfl, rfl, rfl, rfl, trivial⟩) ?_)
 intro ⟨done, rest, s1⟩ ⟨h1, h2, h3, c1, h4, h5⟩
 dsimp only at h1 h2 h3 c1 h4 h5 ⊢
 (repeat refine sb ?_)
 intro q hq
 by_cases hlt : 0 < rest.count c
 ·obtain rfl : q = true := by rw [hq]; simp <;> omega
  obtain ⟨f, r, rfl, hf⟩ := List.eq_append_cons_of_mem (List.count_pos_iff.1 hlt)
  have hfc : f.count c = 0 := List.count_eq_zero.2 hf
  have hcount : (f ++ c :: r).count c = r.count c + 1 := by rw [List.count_append, List.count_cons_self, hfc]; omega
  have hlen : (f ++ c :: r).length = f.length + 1 + r.length := by simp; omega
  (repeat refine sb ?_)
  refine (index1_w (by simp)).mono fun v s1 q => ?_
  obtain ⟨rfl, rfl⟩ := q
  rw [index_first hf]
  rw [split_first hf] at h1
  (repeat refine sb ?_)
  intro q hq; obtain rfl : q = false := (by rw [hq]; simp <;> omega); (repeat refine sb ?_)
  intro z hz
  rw [i64_id (by omega)] at hz
  (repeat refine sb ?_)
  refine ⟨by omega, ?_⟩
  intro m hm g hg
  obtain rfl : m = f.length := by omega
  have eg : g = f := by rw [hg]; simp
  clear hg
  subst eg
  (repeat refine sb ?_)
  refine ⟨by omega, ?_⟩
  intro m hm o ho
  obtain rfl : m = done.length := by omega
  (repeat refine sb ?_)
  refine st_abs (cs' := strV (done ++ [g]) ++ List.replicate (r.count c + 1) (str [])) rfl rfl h5 h4 rfl ?_ fun s2 e2 c2 n2 => ?_
  ·rw [ho, Nat.zero_add, Nat.mul_one]
   show setRow _ _ [_] = _
   rw [setRow_one (by rw [List.length_append, strV_len, List.length_replicate]; omega), hcount, set_row]
  (repeat refine sb ?_)
  intro n hn
  (repeat refine sb ?_)
  intro z2 hz2
  have hn1 : n = 1 := by rw [hn]; rfl
  rw [hn1, i64_id (by omega)] at hz2
  (repeat refine sb ?_)
  refine ⟨by omega, ?_⟩
  intro m hm r2 hr2
  obtain rfl : m = g.length + 1 := by omega
  have er : r2 = r := by
   rw [hr2, List.take_of_length_le (by simp <;> omega)]
   rw [show g ++ c :: r = (g ++ [c]) ++ r by simp, show g.length + 1 = (g ++ [c]).length by simp, List.drop_left]
  clear hr2
  subst er
  (repeat refine sb ?_)
  intro z3 hz3
  rw [i64_id (by omega)] at hz3
  obtain rfl : z3 = (((done ++ [g]).length : Nat) : Int) := by simp; omega
  (repeat refine sb ?_)
  refine ⟨⟨done ++ [g], r2, s2⟩, ⟨by rw [h1]; simp, by show r2.length ≤ l.length; omega, by show l.count c = (done ++ [g]).length + r2.count c; simp; omega, c1.fresh c2 (by simp), by show s.next < s2.next; omega, e2⟩, by show r2.count c < (g ++ c :: r2).count c; omega, Wk.same ⟨rfl, rfl, rfl, rfl, rfl, rfl, trivial⟩⟩
 ·obtain rfl : q = false := by rw [hq]; simp <;> omega
  have h0 : rest.count c = 0 := by omega
  rw [split_last h0] at h1
  rw [h0, Nat.add_zero] at h3
  rw [h0] at h5
  (repeat refine sb ?_)
  refine ⟨by omega, ?_⟩
  intro m hm o ho
  obtain rfl : m = done.length := by omega
  (repeat refine sb ?_)
  refine st_abs (cs' := strV (done ++ [rest])) rfl rfl h5 h4 rfl ?_ fun s2 e2 c2 n2 => ?_
  ·rw [show o = done.length by omega]
   show setRow _ _ [_] = _
   rw [setRow_one (by rw [List.length_append, strV_len, List.length_replicate]; omega)]
   exact congrArg some ((set_row done rest 0).trans (by simp [strV]))
  (repeat refine sb ?_)
  intro z hz
  rw [i64_id (by omega)] at hz
  (repeat refine sb ?_)
  refine slL_pre (m := l.count c + 1) rfl rfl e2 (by omega) (Nat.le_refl _) ?_
  (repeat refine sb ?_)
  refine ⟨_, _, by rw [split_len]; rfl, ⟨s.next, _, _, _, _, rfl, by omega, e2, fun i x hx => ?_⟩, c1.fresh c2 (by simp), by simp [blkOf], by rw [split_len]; exact Nat.le_refl _, ⟨_, _, rfl, e2⟩⟩
  rw [h1] at hx
  simp only [strV, List.getElem?_map, hx]
  rfl
theorem split_w {s : SS} {l : List UInt8} {c : UInt8} (hl : l.length ≤ 1000000) : CallW pr n_strings_genSplit [str l, str [c], .int .i64 0, .int .i64 (-1)] s fun v s' => ∃ base cap, v = .slice base (splitF c l).length cap ∧ StrsAt s' base (splitF c l) ∧ Chg s s' [] ∧ (∀ id ∈ blkOf base, s.next ≤ id) ∧ (splitF c l).length ≤ cap := by
 refine (split_f hl).mono fun v s1 q => ?_
 obtain ⟨base, cap, rfl, h1, c1, h2, h3, -⟩ := q
 exact ⟨base, cap, rfl, h1, c1, h2, h3⟩
theorem Split_f {s : SS} {l : List UInt8} {c : UInt8} (hl : l.length ≤ 1000000) : CallW pr n_text_Split [str l, .int .u8 c.toNat] s fun v s' => ∃ base cap, v = .slice base (splitF c l).length cap ∧ StrsAt s' base (splitF c l) ∧ Chg s s' [] ∧ (∀ id ∈ blkOf base, s.next ≤ id) ∧ (splitF c l).length ≤ cap ∧ Full s' base := by
 refine CallW.run good ok_text_Split (by simp) rfl ?_
 (try refine pSeq ?_); (repeat refine sb ?_)
 refine toStr_Rdb rfl (rdb_lit (l := [c]) lkH (Nat.lt_succ_self _)) ?_
 (repeat refine sb ?_)
 refine (show CallW pr n_strings_Split [str l, str [c]] _ fun v s' => ∃ base cap, v = .slice base (splitF c l).length cap ∧ StrsAt s' base (splitF c l) ∧ Chg s s' [] ∧ (∀ id ∈ blkOf base, s.next ≤ id) ∧ (splitF c l).length ≤ cap ∧ Full s' base from ?_).mono fun v s1 q => ?_
 ·refine CallW.run good ok_strings_Split (by simp) rfl ?_
  (try refine pSeq ?_); (repeat refine sb ?_)
  refine (split_f hl).mono fun v s1 q => ?_
  obtain ⟨base, cap, rfl, h1, c1, h2⟩ := q
  (repeat refine sb ?_)
  exact ⟨base, cap, rfl, h1, (Chg.new []).nil c1, fun id hid => Nat.le_trans (Nat.le_succ _) (h2.1 id hid), h2.2⟩
 obtain ⟨base, cap, rfl, h1, c1, h2⟩ := q
 (repeat refine sb ?_)
 exact ⟨base, cap, rfl, h1, c1, h2⟩
theorem Split_w {s : SS} {l : List UInt8} {c : UInt8} (hl : l.length ≤ 1000000) : CallW pr n_text_Split [str l, .int .u8 c.toNat] s fun v s' => ∃ base cap, v = .slice base (splitF c l).length cap ∧ StrsAt s' base (splitF c l) ∧ Chg s s' [] ∧ (∀ id ∈ blkOf base, s.next ≤ id) ∧ (splitF c l).length ≤ cap := by
 refine (Split_f hl).mono fun v s1 q => ?_
 obtain ⟨base, cap, rfl, h1, c1, h2, h3, -⟩ := q
 exact ⟨base, cap, rfl, h1, c1, h2, h3⟩
structure PIt2 where
 i : Nat
 f : Nat
 done : List (List UInt8)
 s : SS
 W : Option Addr
 cw : Nat
theorem StrsAt.at {s : SS} {base : Option Addr} {ls : List (List UInt8)} (h : StrsAt s base ls) : ∃ b, base = some ⟨b, 0, none⟩ ∧ ∃ cs t g r, lookH s.heap b = some (.cells cs t g r) ∧ ∀ (i : Nat) x, ls[i]? = some x → cs[i]? = some (str x) := by
 obtain ⟨b, cs, t, g, r, h1, h2, h3, h4⟩ := h
 exact ⟨b, h1, cs, t, g, r, h3, h4⟩
theorem ldS_is {P : Program} {T : TL} {s : SS} {K : RR → Prop} {x : Operand} {b off : Nat} {cs : List Value} {t : TypeId} {g r : Bool} {l : List UInt8} (hx : opd T s.gl x = some (.pointer (some ⟨b, off, none⟩))) (hb : lookH s.heap b = some (.cells cs t g r)) (hc : cs[off]? = some (str l))
  (h : K (.val (str l))) : wN P (.ldS x) T s K := by
 simp only [wN, hx, hb]
 exact ⟨l, hc, h⟩
theorem idx_no {c : UInt8} : ∀ {l : List UInt8}, c ∉ l → Lib.indexByte l c = -1
 | [], _ => rfl
 | x :: l, h => by
  have h1 : (x == c) = false := by simp; exact fun e => h (by simp [e])
  rw [Lib.indexByte, h1, idx_no (l := l) fun q => h (by simp [q])]
  rfl
end Go.Vf.S
end
section
namespace Go.Vf.S
open Go Go.Vf
attribute [local irreducible] wSeq wRow wp wG
set_option linter.unusedVariables false
set_option linter.unusedSimpArgs false
set_option maxRecDepth 10000
theorem ssuffix_w {s : SS} {a b : List UInt8} (ha : a.length ≤ 1000000) : CallW pr n_internal_stringslite_HasSuffix [str a, str b] s fun v s' => v = .bool (decide (b <:+ a)) ∧ s' = s := by
 refine CallW.run good ok_internal_stringslite_HasSuffix (by simp) rfl ?_
 (try refine pSeq ?_); (repeat(first|refine sb ?_|refine gOn rfl ?_|refine gOff rfl rfl ?_|refine gTup rfl ?_))
 intro n hn
 (repeat(first|refine sb ?_|refine gOn rfl ?_|refine gOff rfl rfl ?_|refine gTup rfl ?_))
 intro m hm
 (repeat(first|refine sb ?_|refine gOn rfl ?_|refine gOff rfl rfl ?_|refine gTup rfl ?_))
 intro q hq
 by_cases h : b.length ≤ a.length
 ·obtain rfl : q = true := by rw [hq]; simp <;> omega
  (repeat(first|refine sb ?_|refine gOn rfl ?_|refine gOff rfl rfl ?_|refine gTup rfl ?_))
  intro n1 hn1
  (repeat(first|refine sb ?_|refine gOn rfl ?_|refine gOff rfl rfl ?_|refine gTup rfl ?_))
  intro m1 hm1
  (repeat(first|refine sb ?_|refine gOn rfl ?_|refine gOff rfl rfl ?_|refine gTup rfl ?_))
  intro z hz
  rw [i64_id (by omega)] at hz
  (repeat(first|refine sb ?_|refine gOn rfl ?_|refine gOff rfl rfl ?_|refine gTup rfl ?_))
  refine ⟨by omega, ?_⟩
  intro k hk r hr
  obtain rfl : k = a.length - b.length := by omega
  (repeat(first|refine sb ?_|refine gOn rfl ?_|refine gOff rfl rfl ?_|refine gTup rfl ?_))
  intro q hq
  (repeat(first|refine sb ?_|refine gOn rfl ?_|refine gOff rfl rfl ?_|refine gTup rfl ?_))
  refine ⟨bool_eq ?_, rfl⟩
  rw [hq, hr, List.take_of_length_le (by simp), decide_eq_decide, List.suffix_iff_eq_drop]
  exact ⟨fun e => e.symm, fun e => e.symm⟩
 ·obtain rfl : q = false := by rw [hq]; simp <;> omega
  (repeat(first|refine sb ?_|refine gOn rfl ?_|refine gOff rfl rfl ?_|refine gTup rfl ?_))
  refine ⟨bool_eq ?_, rfl⟩
  symm
  rw [decide_eq_false_iff_not]
  exact fun q => h q.length_le
theorem cutP_w {s : SS} {a b : List UInt8} : CallW pr n_strings_CutPrefix [str a, str b] s fun v s' => v = .tuple ⟨[str (if a.take b.length = b then a.drop b.length else a), .bool (decide (a.take b.length = b))]⟩ ∧ s' = s := by
 refine CallW.run good ok_strings_CutPrefix (by simp) rfl ?_
 (try refine pSeq ?_); (repeat refine sb ?_)
 refine (show CallW pr n_internal_stringslite_CutPrefix [str a, str b] s fun v s' => v = .tuple ⟨[str (if a.take b.length = b then a.drop b.length else a), .bool (decide (a.take b.length = b))]⟩ ∧ s' = s from ?_).mono fun v s q => ?_
 ·refine CallW.run good ok_internal_stringslite_CutPrefix (by simp) rfl ?_
  (try refine pSeq ?_); (repeat refine sb ?_)
  refine sprefix_w.mono fun v s q => ?_
  obtain ⟨rfl, rfl⟩ := q
  (repeat refine sb ?_)
  intro q hq
  by_cases h : a.take b.length = b
  ·obtain rfl : q = false := by rw [hq]; simp [h]
   have hle : b.length ≤ a.length := by
    have := congrArg List.length h
    rw [List.length_take] at this
    omega
   rw [if_pos h, decide_eq_true h]
   (repeat refine sb ?_)
   intro n hn
   (repeat refine sb ?_)
   refine ⟨by omega, ?_⟩
   intro m hm r hr
   obtain rfl : m = b.length := by omega
   rw [List.take_of_length_le (by simp)] at hr
   subst hr
   (repeat refine sb ?_)
   exact ⟨rfl, rfl⟩
  ·obtain rfl : q = true := by rw [hq]; simp [h]
   rw [if_neg h, decide_eq_false h]
   (repeat refine sb ?_)
   exact ⟨rfl, rfl⟩
 obtain ⟨rfl, rfl⟩ := q
 (repeat refine sb ?_)
 exact ⟨rfl, rfl⟩
theorem cutS_w {s : SS} {a b : List UInt8} (ha : a.length ≤ 1000000) : CallW pr n_strings_CutSuffix [str a, str b] s fun v s' => v = .tuple ⟨[str (if b <:+ a then a.take (a.length - b.length) else a), .bool (decide (b <:+ a))]⟩ ∧ s' = s := by
 refine CallW.run good ok_strings_CutSuffix (by simp) rfl ?_
 (try refine pSeq ?_); (repeat refine sb ?_)
 refine (show CallW pr n_internal_stringslite_CutSuffix [str a, str b] s fun v s' => v = .tuple ⟨[str (if b <:+ a then a.take (a.length - b.length) else a), .bool (decide (b <:+ a))]⟩ ∧ s' = s from ?_).mono fun v s q => ?_
 ·refine CallW.run good ok_internal_stringslite_CutSuffix (by simp) rfl ?_
  (try refine pSeq ?_); (repeat refine sb ?_)
  refine (ssuffix_w ha).mono fun v s q => ?_
  obtain ⟨rfl, rfl⟩ := q
  (repeat refine sb ?_)
  intro q hq
  by_cases h : b <:+ a
  ·obtain rfl : q = false := by rw [hq]; simp [h]
   have hle := h.length_le
   rw [if_pos h, decide_eq_true h]
   (repeat refine sb ?_)
   intro n hn
   (repeat refine sb ?_)
   intro m hm
   (repeat refine sb ?_)
   intro z hz
   rw [i64_id (by omega)] at hz
   (repeat refine sb ?_)
   refine ⟨by omega, ?_⟩
   intro k hk r hr
   obtain rfl : k = a.length - b.length := by omega
   rw [List.drop_zero, Nat.sub_zero] at hr
   subst hr
   (repeat refine sb ?_)
   exact ⟨rfl, rfl⟩
  ·obtain rfl : q = true := by rw [hq]; simp [h]
   rw [if_neg h, decide_eq_false h]
   (repeat refine sb ?_)
   exact ⟨rfl, rfl⟩
 obtain ⟨rfl, rfl⟩ := q
 (repeat refine sb ?_)
 exact ⟨rfl, rfl⟩
theorem sidx_w {s : SS} {l : List UInt8} {c : UInt8} : CallW pr n_internal_stringslite_Index [str l, str [c]] s fun v s' => v = .int .i64 (Lib.indexByte l c) ∧ s' = s := by
 refine CallW.run good ok_internal_stringslite_Index (by simp) rfl ?_
 (try refine pSeq ?_); (repeat(first|refine sb ?_|refine gOn rfl ?_|refine gOff rfl rfl ?_|refine gTup rfl ?_))
 intro n hn
 (repeat(first|refine sb ?_|refine gOn rfl ?_|refine gOff rfl rfl ?_|refine gTup rfl ?_))
 intro q hq
 obtain rfl : q = false := by rw [hq, hn]; rfl
 (repeat(first|refine sb ?_|refine gOn rfl ?_|refine gOff rfl rfl ?_|refine gTup rfl ?_))
 intro q hq
 by_cases he : [c] = l
 ·subst he
  obtain rfl : q = true := by rw [hq]; simp
  (repeat(first|refine sb ?_|refine gOn rfl ?_|refine gOff rfl rfl ?_|refine gTup rfl ?_))
  exact ⟨by show Value.int .i64 0 = _; simp [Lib.indexByte], rfl⟩
 ·obtain rfl : q = false := by rw [hq]; simp [he]
  (repeat(first|refine sb ?_|refine gOn rfl ?_|refine gOff rfl rfl ?_|refine gTup rfl ?_))
  intro q hq
  obtain rfl : q = true := by rw [hq, hn]; rfl
  (repeat(first|refine sb ?_|refine gOn rfl ?_|refine gOff rfl rfl ?_|refine gTup rfl ?_))
  refine ⟨by simp, ?_⟩
  intro m hm
  obtain rfl : m = 0 := by omega
  refine ⟨c, rfl, ?_⟩
  (repeat(first|refine sb ?_|refine gOn rfl ?_|refine gOff rfl rfl ?_|refine gTup rfl ?_))
  refine indexByte_w.mono fun v s q => ?_
  obtain ⟨rfl, rfl⟩ := q
  (repeat(first|refine sb ?_|refine gOn rfl ?_|refine gOff rfl rfl ?_|refine gTup rfl ?_))
  exact ⟨rfl, rfl⟩
def cutF (c : UInt8) (l : List UInt8) : List UInt8 × List UInt8 × Bool := if c ∈ l then (l.takeWhile (· != c), l.drop ((l.takeWhile (· != c)).length + 1), true) else (l, [], false)
theorem while_first {c : UInt8} {f r : List UInt8} (h : c ∉ f) : (f ++ c :: r).takeWhile (· != c) = f := by
 induction f with
 | nil => simp
 | cons x f ih =>
  have : x ≠ c := fun e => h (by simp [e])
  rw [List.cons_append, List.takeWhile_cons, if_pos (by simpa using this), ih fun q => h (by simp [q])]
theorem cut1_w {s : SS} {l : List UInt8} {c : UInt8} (hl : l.length ≤ 1000000) : CallW pr n_strings_Cut [str l, str [c]] s fun v s' => v = .tuple ⟨[str (cutF c l).1, str (cutF c l).2.1, .bool (cutF c l).2.2]⟩ ∧ s' = s := by
 refine CallW.run good ok_strings_Cut (by simp) rfl ?_
 (try refine pSeq ?_); (repeat(first|refine sb ?_|refine kNo ?_))
 refine (show CallW pr n_internal_stringslite_Cut [str l, str [c]] s fun v s' => v = .tuple ⟨[str (cutF c l).1, str (cutF c l).2.1, .bool (cutF c l).2.2]⟩ ∧ s' = s from ?_).mono fun v s q => ?_
 ·refine CallW.run good ok_internal_stringslite_Cut (by simp) rfl ?_
  (try refine pSeq ?_); (repeat(first|refine sb ?_|refine kNo ?_))
  refine sidx_w.mono fun v s q => ?_
  obtain ⟨rfl, rfl⟩ := q
  by_cases hc : c ∈ l
  ·obtain ⟨f, r, rfl, hf⟩ := List.eq_append_cons_of_mem hc
   have e : cutF c (f ++ c :: r) = (f, r, true) := by
    unfold cutF
    rw [if_pos hc, while_first hf, show f ++ c :: r = (f ++ [c]) ++ r by simp, show f.length + 1 = (f ++ [c]).length by simp, List.drop_left]
   have hn : (f ++ c :: r).length = f.length + 1 + r.length := by simp; omega
   rw [index_first hf, e]
   (repeat(first|refine sb ?_|refine kNo ?_))
   intro q hq; obtain rfl : q = true := (by rw [hq]; simp <;> omega); (repeat(first|refine sb ?_|refine kNo ?_))
   refine ⟨by omega, ?_⟩
   intro m hm g hg
   obtain rfl : m = f.length := by omega
   have eg : g = f := by rw [hg]; simp
   subst eg
   (repeat(first|refine sb ?_|refine kNo ?_))
   intro n hn1
   (repeat(first|refine sb ?_|refine kNo ?_))
   intro z hz
   rw [i64_id (by simp at hn1; omega)] at hz
   (repeat(first|refine sb ?_|refine kNo ?_))
   refine ⟨by simp at hn1; omega, ?_⟩
   intro m hm t ht
   obtain rfl : m = g.length + 1 := by simp at hn1; omega
   have et : t = r := by rw [ht, List.take_of_length_le (by simp <;> omega), show g ++ c :: r = (g ++ [c]) ++ r by simp, show g.length + 1 = (g ++ [c]).length by simp, List.drop_left]
   clear ht hg
   subst et
   (repeat(first|refine sb ?_|refine kNo ?_))
   exact ⟨rfl, rfl⟩
  ·have e : cutF c l = (l, [], false) := by unfold cutF; rw [if_neg hc]
   rw [idx_no hc, e]
   (repeat(first|refine sb ?_|refine kNo ?_))
   intro q hq; obtain rfl : q = false := (by rw [hq]; simp <;> omega); (repeat(first|refine sb ?_|refine kNo ?_))
   exact ⟨rfl, rfl⟩
 obtain ⟨rfl, rfl⟩ := q
 (repeat(first|refine sb ?_|refine kNo ?_))
 exact ⟨rfl, rfl⟩
theorem cut_len (c : UInt8) (l : List UInt8) : (cutF c l).1.length ≤ l.length ∧ (cutF c l).2.1.length ≤ l.length := by
 unfold cutF
 split
 ·exact ⟨(List.takeWhile_prefix _).length_le, by simp⟩
 ·simp
theorem idx_in {c : UInt8} {l : List UInt8} : (0 ≤ Lib.indexByte l c) ↔ c ∈ l := by
 constructor
 ·intro h
  refine Classical.byContradiction fun hn => ?_
  rw [idx_no hn] at h
  omega
 ·intro h
  obtain ⟨f, r, rfl, hf⟩ := List.eq_append_cons_of_mem h
  rw [index_first hf]
  omega
theorem contains1_w {s : SS} {l : List UInt8} {c : UInt8} : CallW pr n_strings_Contains [str l, str [c]] s fun v s' => v = .bool (decide (c ∈ l)) ∧ s' = s := by
 refine CallW.run good ok_strings_Contains (by simp) rfl ?_
 (try refine pSeq ?_); (repeat refine sb ?_)
 refine (show CallW pr n_strings_Index [str l, str [c]] s fun v s' => v = .int .i64 (Lib.indexByte l c) ∧ s' = s from ?_).mono fun v s q => ?_
 ·refine CallW.run good ok_strings_Index (by simp) rfl ?_
  (try refine pSeq ?_); (repeat refine sb ?_)
  refine sidx_w.mono fun v s q => ?_
  obtain ⟨rfl, rfl⟩ := q
  (repeat refine sb ?_)
  exact ⟨rfl, rfl⟩
 obtain ⟨rfl, rfl⟩ := q
 (repeat refine sb ?_)
 intro q hq
 (repeat refine sb ?_)
 refine ⟨bool_eq ?_, rfl⟩
 rw [hq, decide_eq_decide]
 exact idx_in
theorem trimSuffix_w {s : SS} {l b : List UInt8} (hl : l.length ≤ 1000000) : CallW pr n_strings_TrimSuffix [str l, str b] s fun v s' => v = str (if b <:+ l then l.take (l.length - b.length) else l) ∧ s' = s := by
 refine CallW.run good ok_strings_TrimSuffix (by simp) rfl ?_
 (try refine pSeq ?_); (repeat refine sb ?_)
 refine (show CallW pr n_internal_stringslite_TrimSuffix [str l, str b] s fun v s' => v = str (if b <:+ l then l.take (l.length - b.length) else l) ∧ s' = s from ?_).mono fun v s q => ?_
 ·refine CallW.run good ok_internal_stringslite_TrimSuffix (by simp) rfl ?_
  (try refine pSeq ?_); (repeat refine sb ?_)
  refine (ssuffix_w hl).mono fun v s q => ?_
  obtain ⟨rfl, rfl⟩ := q
  by_cases h : b <:+ l
  ·have := h.length_le
   rw [decide_eq_true h, if_pos h]
   (repeat refine sb ?_)
   intro n hn
   (repeat refine sb ?_)
   intro n2 hn2
   (repeat refine sb ?_)
   intro z hz
   rw [i64_id (by omega)] at hz
   (repeat refine sb ?_)
   refine ⟨by omega, ?_⟩
   intro m hm r hr
   obtain rfl : m = l.length - b.length := by omega
   rw [List.drop_zero, Nat.sub_zero] at hr
   subst hr
   (repeat refine sb ?_)
   exact ⟨rfl, rfl⟩
  ·rw [decide_eq_false h, if_neg h]
   (repeat refine sb ?_)
   exact ⟨rfl, rfl⟩
 obtain ⟨rfl, rfl⟩ := q
 (repeat refine sb ?_)
 exact ⟨rfl, rfl⟩
end Go.Vf.S
end
section
namespace Go.Vf.S
open Go Go.Vf
attribute [local irreducible] wSeq wRow wp wG
set_option linter.unusedVariables false
set_option linter.unusedSimpArgs false
set_option maxRecDepth 10000
def digB (c : UInt8) : Bool := decide (48 ≤ c.toNat ∧ c.toNat ≤ 57)
def numFrom (a : Nat) (l : List UInt8) : Nat := l.foldl (fun n c => 10 * n + (c.toNat - 48)) a
def numL (l : List UInt8) : Nat := numFrom 0 l
def clamp (d : Int) : Nat := (min (max d 1) 15).toNat
def numberF (l : List UInt8) (d : Int) : Nat × Nat := if 1 ≤ l.length ∧ l.length ≤ clamp d ∧ l.all digB = true then (numL l, 0) else (0, 5)
theorem numFrom_lt : ∀ (l : List UInt8) (a : Nat), l.all digB = true → numFrom a l < (a + 1) * 10 ^ l.length
 | [], a, _ => by simp [numFrom]
 | c :: l, a, h => by
  rw [List.all_cons, Bool.and_eq_true] at h
  have hc : 48 ≤ c.toNat ∧ c.toNat ≤ 57 := by simpa [digB] using h.1
  have := numFrom_lt l (10 * a + (c.toNat - 48)) h.2
  show numFrom (10 * a + (c.toNat - 48)) l < _
  rw [List.length_cons, Nat.pow_succ, Nat.mul_comm (10 ^ l.length) 10, ← Nat.mul_assoc]
  exact Nat.lt_of_lt_of_le this (Nat.mul_le_mul_right _ (by omega))
theorem num_lt {l : List UInt8} (h : l.all digB = true) (hl : l.length ≤ 15) : numL l < 1000000000000000 := by
 have h1 := numFrom_lt l 0 h
 have h2 : 10 ^ l.length ≤ 10 ^ 15 := Nat.pow_le_pow_right (by omega) hl
 unfold numL
 omega
theorem num_next {l : List UInt8} {p : Nat} {c : UInt8} (h : l[p]? = some c) : numL (l.take (p + 1)) = 10 * numL (l.take p) + (c.toNat - 48) := by
 rw [take_next h]
 simp [numL, numFrom]
theorem all_next {l : List UInt8} {p : Nat} {c : UInt8} {f : UInt8 → Bool} (h : l[p]? = some c) (h1 : (l.take p).all f = true) (h2 : f c = true) : (l.take (p + 1)).all f = true := by
 rw [take_next h]
 simp [h1, h2]
theorem number_no {l : List UInt8} {d : Int} (h : ¬(1 ≤ l.length ∧ l.length ≤ clamp d ∧ l.all digB = true)) : numberF l d = (0, 5) := by unfold numberF; rw [if_neg h]
theorem number_ok {l : List UInt8} {d : Int} (h1 : 1 ≤ l.length) (h2 : l.length ≤ clamp d) (h3 : l.all digB = true) : numberF l d = (numL l, 0) := by unfold numberF; rw [if_pos ⟨h1, h2, h3⟩]
abbrev nRes (q : Nat × Nat) : Value := .tuple ⟨[.int .i64 q.1, .int .i64 q.2]⟩
theorem number_w {s : SS} {l : List UInt8} {d : Int} (hl : l.length ≤ 1000000) : CallW pr n_text_Number [str l, .int .i64 d] s fun v s' => v = nRes (numberF l d) ∧ Chg s s' [] := by
 refine CallW.run good ok_text_Number (by simp) rfl ?_
 have hcl : (clamp d : Int) = min (max d 1) 15 := by unfold clamp; omega
 (try refine pSeq ?_); (repeat(first|refine sb ?_|refine gOn rfl ?_|refine gOff rfl rfl ?_|refine gTup rfl ?_))
 intro q hq
 by_cases h0 : l = []
 ·subst h0
  obtain rfl : q = true := by rw [hq]; rfl
  (repeat(first|refine sb ?_|refine gOn rfl ?_|refine gOff rfl rfl ?_|refine gTup rfl ?_))
  rw [number_no (by simp)]
  exact ⟨rfl, .refl _ _⟩
 ·obtain rfl : q = false := by rw [hq]; simp [h0]
  have h1 : 1 ≤ l.length := by cases l with
   | nil => exact absurd rfl h0
   | cons a b => simp
  (repeat(first|refine sb ?_|refine gOn rfl ?_|refine gOff rfl rfl ?_|refine gTup rfl ?_))
  intro n hn
  (repeat(first|refine sb ?_|refine gOn rfl ?_|refine gOff rfl rfl ?_|refine gTup rfl ?_))
  intro z1 hz1
  (repeat(first|refine sb ?_|refine gOn rfl ?_|refine gOff rfl rfl ?_|refine gTup rfl ?_))
  intro z2 hz2
  (repeat(first|refine sb ?_|refine gOn rfl ?_|refine gOff rfl rfl ?_|refine gTup rfl ?_))
  intro q hq
  by_cases h2 : l.length ≤ clamp d
  ·obtain rfl : q = false := by rw [hq]; simp; omega
   (repeat(first|refine sb ?_|refine gOn rfl ?_|refine gOff rfl rfl ?_|refine gTup rfl ?_))
   refine srange_W rfl un_S rfl ?_
   (repeat(first|refine sb ?_|refine gOn rfl ?_|refine gOff rfl rfl ?_|refine gTup rfl ?_))
   refine pLoop (MW.head good (fun x : It => l.length - x.p) (fun x => At s s.next l x ∧ (l.take x.p).all digB = true) (fun x => [(6, .int .i64 (numL (l.take x.p))), (20, .pointer (some ⟨s.next, 0, none⟩))]) (fun x => x.s) ⟨0, _⟩ ⟨.start s l, rfl⟩ (Wk.same ⟨rfl, rfl, trivial⟩) ?_)
   intro ⟨p, s1⟩ ⟨h4, h5⟩
   dsimp only at h4 h5 ⊢
   have hlt2 := num_lt h5 (by simp; omega)
   (repeat(first|refine sb ?_|refine gOn rfl ?_|refine gOff rfl rfl ?_|refine gTup rfl ?_))
   refine snext_L rfl rfl (show lookH s1.heap _ = some (.siter ⟨⟨l⟩⟩ p) from h4.2.2.2) (fun he => ?_) (fun c hc h7 => ?_) (fun c r w hc h7 hr hr2 _ hw _ => ?_)
   ·(repeat(first|refine sb ?_|refine gOn rfl ?_|refine gOff rfl rfl ?_|refine gTup rfl ?_))
    rw [List.take_of_length_le he] at h5 ⊢
    rw [number_ok h1 h2 h5]
    exact ⟨rfl, h4.1⟩
   ·have hlt : p < l.length := lt_of_get hc
    (repeat(first|refine sb ?_|refine gOn rfl ?_|refine gOff rfl rfl ?_|refine gTup rfl ?_))
    intro q hq
    by_cases h48 : 48 ≤ c.toNat
    ·obtain rfl : q = false := by rw [hq]; simp; omega
     (repeat(first|refine sb ?_|refine gOn rfl ?_|refine gOff rfl rfl ?_|refine gTup rfl ?_))
     intro q hq
     by_cases h57 : c.toNat ≤ 57
     ·obtain rfl : q = false := by rw [hq]; simp; omega
      (repeat(first|refine sb ?_|refine gOn rfl ?_|refine gOff rfl rfl ?_|refine gTup rfl ?_))
      intro z3 hz3
      rw [i64_id (by omega)] at hz3
      (repeat(first|refine sb ?_|refine gOn rfl ?_|refine gOff rfl rfl ?_|refine gTup rfl ?_))
      intro z4 hz4
      rw [wrap_i32] at hz4
      (repeat(first|refine sb ?_|refine gOn rfl ?_|refine gOff rfl rfl ?_|refine gTup rfl ?_))
      intro z5 hz5
      rw [i64_id (by omega)] at hz5
      (repeat(first|refine sb ?_|refine gOn rfl ?_|refine gOff rfl rfl ?_|refine gTup rfl ?_))
      intro z6 hz6
      rw [i64_id (by omega)] at hz6
      (repeat(first|refine sb ?_|refine gOn rfl ?_|refine gOff rfl rfl ?_|refine gTup rfl ?_))
      refine ⟨⟨p + 1, _⟩, ⟨h4.go _, all_next hc h5 (by simp [digB, h48, h57])⟩, by show l.length - (p + 1) < l.length - p; omega, Wk.same ⟨?_, rfl, trivial⟩⟩
      show some (Value.int .i64 z6) = some (.int .i64 (numL (l.take (p + 1))))
      rw [num_next hc]
      congr 2
      omega
     ·obtain rfl : q = true := by rw [hq]; simp; omega
      (repeat(first|refine sb ?_|refine gOn rfl ?_|refine gOff rfl rfl ?_|refine gTup rfl ?_))
      rw [number_no (fun q => by have := all_no (f := digB) hc (by simp [digB]; omega); rw [q.2.2] at this; cases this)]
      exact ⟨rfl, (h4.go _).1⟩
    ·obtain rfl : q = true := by rw [hq]; simp; omega
     (repeat(first|refine sb ?_|refine gOn rfl ?_|refine gOff rfl rfl ?_|refine gTup rfl ?_))
     rw [number_no (fun q => by have := all_no (f := digB) hc (by simp [digB]; omega); rw [q.2.2] at this; cases this)]
     exact ⟨rfl, (h4.go _).1⟩
   ·(repeat(first|refine sb ?_|refine gOn rfl ?_|refine gOff rfl rfl ?_|refine gTup rfl ?_))
    intro q hq
    obtain rfl : q = false := by rw [hq]; simp; omega
    (repeat(first|refine sb ?_|refine gOn rfl ?_|refine gOff rfl rfl ?_|refine gTup rfl ?_))
    intro q hq
    obtain rfl : q = true := by rw [hq]; simp; omega
    (repeat(first|refine sb ?_|refine gOn rfl ?_|refine gOff rfl rfl ?_|refine gTup rfl ?_))
    rw [number_no (fun q => by have := all_no (f := digB) hc (by simp [digB]; omega); rw [q.2.2] at this; cases this)]
    exact ⟨rfl, (h4.go _).1⟩
  ·obtain rfl : q = true := by rw [hq]; simp; omega
   (repeat(first|refine sb ?_|refine gOn rfl ?_|refine gOff rfl rfl ?_|refine gTup rfl ?_))
   rw [number_no (fun q => h2 q.2.1)]
   exact ⟨rfl, .refl _ _⟩
end Go.Vf.S
end
section
namespace Go.Vf.S
open Go Go.Vf
attribute [local irreducible] wSeq wRow wp wG
set_option linter.unusedVariables false
set_option linter.unusedSimpArgs false
set_option maxRecDepth 10000
def alnN (n : Nat) : Bool := decide (97 ≤ n ∧ n ≤ 122 ∨ 65 ≤ n ∧ n ≤ 90 ∨ 48 ≤ n ∧ n ≤ 57)
def labN (n : Nat) : Bool := alnN n || n == 45
def labB (c : UInt8) : Bool := labN c.toNat
theorem labelLetter_w {s : SS} {r : Nat} (hr : r ≤ 1114111) : CallW pr n_addr_labelLetter [.int .i32 r] s fun v s' => v = .bool (labN r) ∧ s' = s := by
 refine CallW.run good ok_addr_labelLetter (by simp) rfl ?_
 (repeat' (first | refine pSeq ?_ | refine pReg ?_ | refine sRaw ?_ | refine sCons ?_ | refine sNil ?_ | refine rCons ?_ | refine rNil ?_ | refine kNo ?_ | refine pRow ?_ | refine pBlock ?_ | refine pSkip ?_ | refine pExit ?_ | refine pRet ?_ | refine pCond ?_ | refine gNone ?_ | refine gOn rfl ?_ | refine gOff rfl rfl ?_ | refine gTup rfl ?_ | (intro q hq; cases q <;> simp only [true_eq_decide_iff, false_eq_decide_iff, Bool.not_true, Bool.not_false, Bool.true_eq, Bool.false_eq, decide_eq_true_eq, decide_eq_false_iff_not, reduceCtorEq] at hq)))
 all_goals (refine ⟨bool_eq ?_, rfl⟩; unfold labN alnN; rw [Bool.eq_iff_iff]; simp only [Bool.or_eq_true, decide_eq_true_eq, beq_iff_eq, true_iff, false_iff, reduceCtorEq]; omega)
end Go.Vf.S
end
section
namespace Go.Vf.S
open Go Go.Vf
attribute [local irreducible] wSeq wRow wp wG
set_option linter.unusedVariables false
set_option linter.unusedSimpArgs false
set_option maxRecDepth 10000
def endsF (l : List UInt8) : Bool := !l.isEmpty && (decide (l.head? ≠ some 45) && decide (l.getLast? ≠ some 45))
def labelF (l : List UInt8) : Bool := l.all labB && endsF l
def octF (l : List UInt8) : Bool := decide ((numberF l 3).2 = 0 ∧ (numberF l 3).1 ≤ 255 ∧ (l = [48] ∨ l.head? ≠ some 48))
theorem lab_hi {r : Nat} (h : 128 ≤ r) : labN r = false := by
 unfold labN alnN
 simp only [Bool.or_eq_false_iff, decide_eq_false_iff_not, beq_eq_false_iff_ne]
 omega
theorem _root_.Go.Vf.Chg.same {a b c : SS} {A : List Nat} (h : Chg a b A) (k : Chg b c A) : Chg a c A := h.trans' k (fun _ q _ => q) fun _ q _ => q
theorem byte_ne {c d : UInt8} (h : c ≠ d) : c.toNat ≠ d.toNat := fun e => h (UInt8.toNat_inj.1 e)
theorem mayLabel_w {s : SS} {l : List UInt8} (hl : l.length ≤ 1000000) : CallW pr n_addr_mayLabel [str l] s fun v s' => v = .bool (labelF l) ∧ Chg s s' [] := by
 refine CallW.run good ok_addr_mayLabel (by simp) rfl ?_
 (try refine pSeq ?_); (repeat(first|refine sb ?_|refine gOn rfl ?_|refine gOff rfl rfl ?_|refine gTup rfl ?_))
 refine srange_W rfl un_S rfl ?_
 (repeat(first|refine sb ?_|refine gOn rfl ?_|refine gOff rfl rfl ?_|refine gTup rfl ?_))
 refine pLoop (MW.head good (fun x : It => l.length - x.p) (fun x => At s s.next l x ∧ (l.take x.p).all labB = true) (fun x => [(0, str l), (6, .pointer (some ⟨s.next, 0, none⟩))]) (fun x => x.s) ⟨0, _⟩ ⟨.start s l, rfl⟩ (Wk.same ⟨rfl, rfl, trivial⟩) ?_)
 intro ⟨p, s1⟩ ⟨h1, h2⟩
 dsimp only at h1 h2 ⊢
 (repeat(first|refine sb ?_|refine gOn rfl ?_|refine gOff rfl rfl ?_|refine gTup rfl ?_))
 refine snext_L rfl rfl h1.2.2.2 (fun he => ?_) (fun c hc h7 => ?_) (fun c r w hc h7 hr hr2 _ hw _ => ?_)
 ·rw [List.take_of_length_le he] at h2
  (repeat(first|refine sb ?_|refine gOn rfl ?_|refine gOff rfl rfl ?_|refine gTup rfl ?_))
  intro q hq
  have e : labelF l = endsF l := by unfold labelF; rw [h2]; rfl
  rw [e]
  rcases hcl : l with _ | ⟨c, r⟩
  ·subst hcl
   obtain rfl : q = false := by rw [hq]; rfl
   (repeat(first|refine sb ?_|refine gOn rfl ?_|refine gOff rfl rfl ?_|refine gTup rfl ?_))
   exact ⟨rfl, h1.1⟩
  ·have hn : l.length = r.length + 1 := by rw [hcl]; rfl
   obtain rfl : q = true := by rw [hq, hcl]; simp
   (repeat(first|refine sb ?_|refine gOn rfl ?_|refine gOff rfl rfl ?_|refine gTup rfl ?_))
   refine ⟨by simp, ?_⟩
   intro m hm
   obtain rfl : m = 0 := by omega
   refine ⟨c, rfl, ?_⟩
   (repeat(first|refine sb ?_|refine gOn rfl ?_|refine gOff rfl rfl ?_|refine gTup rfl ?_))
   intro q hq
   by_cases h45 : c = 45
   ·obtain rfl : q = false := by rw [hq, h45]; rfl
    (repeat(first|refine sb ?_|refine gOn rfl ?_|refine gOff rfl rfl ?_|refine gTup rfl ?_))
    exact ⟨bool_eq (by simp [endsF, h45]), h1.1⟩
   ·have : c.toNat ≠ 45 := byte_ne h45
    obtain rfl : q = true := by rw [hq]; simp; omega
    (repeat(first|refine sb ?_|refine gOn rfl ?_|refine gOff rfl rfl ?_|refine gTup rfl ?_))
    intro n hn1
    (repeat(first|refine sb ?_|refine gOn rfl ?_|refine gOff rfl rfl ?_|refine gTup rfl ?_))
    intro z hz
    rw [i64_id (by simp at hn1; omega)] at hz
    (repeat(first|refine sb ?_|refine gOn rfl ?_|refine gOff rfl rfl ?_|refine gTup rfl ?_))
    refine ⟨by simp at hn1 ⊢; omega, ?_⟩
    intro m hm
    obtain rfl : m = r.length := by simp at hn1; omega
    obtain ⟨d, hd⟩ : ∃ d, (c :: r)[r.length]? = some d := ⟨_, List.getElem?_eq_getElem (by simp)⟩
    have hlast : (c :: r).getLast? = some d := by rw [List.getLast?_eq_getElem?, ← hd]; simp
    refine ⟨d, hd, ?_⟩
    (repeat(first|refine sb ?_|refine gOn rfl ?_|refine gOff rfl rfl ?_|refine gTup rfl ?_))
    intro q hq
    (repeat(first|refine sb ?_|refine gOn rfl ?_|refine gOff rfl rfl ?_|refine gTup rfl ?_))
    refine ⟨bool_eq ?_, h1.1⟩
    rw [hq]
    unfold endsF
    rw [hlast]
    by_cases hd45 : d = 45
    ·simp [hd45]
    ·have : d.toNat ≠ 45 := byte_ne hd45
     simp [hd45, h45]
     omega
 ·(repeat(first|refine sb ?_|refine gOn rfl ?_|refine gOff rfl rfl ?_|refine gTup rfl ?_))
  refine (labelLetter_w (by omega)).mono fun v s2 q => ?_
  obtain ⟨rfl, rfl⟩ := q
  (repeat(first|refine sb ?_|refine gOn rfl ?_|refine gOff rfl rfl ?_|refine gTup rfl ?_))
  intro q hq
  rw [show labN c.toNat = labB c from rfl] at hq
  by_cases hp : labB c = true
  ·obtain rfl : q = false := by rw [hq, hp]; rfl
   (repeat(first|refine sb ?_|refine gOn rfl ?_|refine gOff rfl rfl ?_|refine gTup rfl ?_))
   exact ⟨⟨p + 1, _⟩, ⟨h1.go _, by rw [take_next hc]; simp [h2, hp]⟩, by have : p < l.length := lt_of_get hc; show l.length - (p + 1) < l.length - p; omega, Wk.same ⟨rfl, rfl, trivial⟩⟩
  ·obtain rfl : q = true := by rw [hq, Bool.eq_false_iff.2 hp]; rfl
   (repeat(first|refine sb ?_|refine gOn rfl ?_|refine gOff rfl rfl ?_|refine gTup rfl ?_))
   exact ⟨bool_eq (by unfold labelF; rw [all_no hc (Bool.eq_false_iff.2 hp)]; rfl), (h1.go _).1⟩
 ·(repeat(first|refine sb ?_|refine gOn rfl ?_|refine gOff rfl rfl ?_|refine gTup rfl ?_))
  refine (labelLetter_w (by omega)).mono fun v s2 q => ?_
  obtain ⟨rfl, rfl⟩ := q
  (repeat(first|refine sb ?_|refine gOn rfl ?_|refine gOff rfl rfl ?_|refine gTup rfl ?_))
  intro q hq
  obtain rfl : q = true := by rw [hq, lab_hi hr]; rfl
  (repeat(first|refine sb ?_|refine gOn rfl ?_|refine gOff rfl rfl ?_|refine gTup rfl ?_))
  exact ⟨bool_eq (by unfold labelF; rw [all_no hc (show labB c = false from lab_hi h7)]; rfl), (h1.go _).1⟩
theorem head_at {l : List UInt8} {c : UInt8} (h : l[0]? = some c) : l.head? = some c := by rw [List.head?_eq_getElem?]; exact h
theorem mayNumber_w {s : SS} {l : List UInt8} (hl : l.length ≤ 1000000) : CallW pr n_addr_mayNumber [str l] s fun v s' => v = .bool (octF l) ∧ Chg s s' [] := by
 refine CallW.run good ok_addr_mayNumber (by simp) rfl ?_
 (try refine pSeq ?_); (repeat(first|refine sb ?_|refine gOn rfl ?_|refine gOff rfl rfl ?_|refine gTup rfl ?_))
 refine (number_w (d := 3) hl).mono fun v s1 q => ?_
 obtain ⟨rfl, c1⟩ := q
 have h0 : (numberF l 3).2 = 0 → l ≠ [] := fun h e => by subst e; simp [numberF] at h
 generalize hN : numberF l 3 = N at *
 obtain ⟨a, b⟩ := N
 have hF : octF l = decide (b = 0 ∧ a ≤ 255 ∧ (l = [48] ∨ l.head? ≠ some 48)) := by unfold octF; rw [hN]
 rw [hF]
 dsimp only [nRes] at *
 (repeat(first|refine sb ?_|refine gOn rfl ?_|refine gOff rfl rfl ?_|refine gTup rfl ?_))
 intro q hq
 by_cases hb : b = 0
 ·subst hb
  obtain rfl : q = true := by rw [hq]; rfl
  (repeat(first|refine sb ?_|refine gOn rfl ?_|refine gOff rfl rfl ?_|refine gTup rfl ?_))
  intro q hq
  by_cases ha : a ≤ 255
  ·obtain rfl : q = true := by rw [hq]; simp <;> omega
   (repeat(first|refine sb ?_|refine gOn rfl ?_|refine gOff rfl rfl ?_|refine gTup rfl ?_))
   intro q hq
   by_cases he : l = [48]
   ·obtain rfl : q = true := by rw [hq]; simp [he]
    (repeat(first|refine sb ?_|refine gOn rfl ?_|refine gOff rfl rfl ?_|refine gTup rfl ?_))
    exact ⟨bool_eq (by simp [ha, he]), c1⟩
   ·obtain rfl : q = false := by rw [hq]; simp [he]
    (repeat(first|refine sb ?_|refine gOn rfl ?_|refine gOff rfl rfl ?_|refine gTup rfl ?_))
    have hne := h0 rfl
    have hpos : 0 < l.length := List.length_pos_iff.2 hne
    obtain ⟨c, hc⟩ : ∃ c, l[0]? = some c := ⟨_, List.getElem?_eq_getElem hpos⟩
    refine ⟨by omega, ?_⟩
    intro m hm
    obtain rfl : m = 0 := by omega
    refine ⟨c, hc, ?_⟩
    (repeat(first|refine sb ?_|refine gOn rfl ?_|refine gOff rfl rfl ?_|refine gTup rfl ?_))
    intro q hq
    (repeat(first|refine sb ?_|refine gOn rfl ?_|refine gOff rfl rfl ?_|refine gTup rfl ?_))
    refine ⟨bool_eq ?_, c1⟩
    rw [hq, head_at hc]
    by_cases hc48 : c = 48
    ·simp [hc48, he]
    ·have : c.toNat ≠ 48 := byte_ne hc48
     simp [ha, hc48]
     omega
  ·obtain rfl : q = false := by rw [hq]; simp <;> omega
   (repeat(first|refine sb ?_|refine gOn rfl ?_|refine gOff rfl rfl ?_|refine gTup rfl ?_))
   exact ⟨bool_eq (by simp [ha]), c1⟩
 ·obtain rfl : q = false := by rw [hq]; simp; omega
  (repeat(first|refine sb ?_|refine gOn rfl ?_|refine gOff rfl rfl ?_|refine gTup rfl ?_))
  exact ⟨bool_eq (by simp [hb]), c1⟩
theorem madeOf_w {s : SS} {l : List UInt8} {f : FuncId} {c : Value} {b : Nat} {g : List UInt8 → Bool} (J : Nat → SS → Prop) (hl : l.length ≤ 1000000)
  (hf : ∀ x, callV pr (.func (.func f) ⟨[]⟩ ⟨[c]⟩) [x] = some (.enter f [x, c])) (hb : b < s.next) (h0 : J 0 s) (hJ : ∀ k s1 s2, J k s1 → Chg s1 s2 [] → b < s1.next → J k s2)
  (hc : ∀ k x s1, (splitF 46 l)[k]? = some x → J k s1 → b < s1.next → CallW pr f [str x, c] s1 fun v s2 => v = .bool (g x) ∧ J (k + 1) s2 ∧ Chg s1 s2 [b]) :
  CallW pr n_addr_madeOf [str l, .func (.func f) ⟨[]⟩ ⟨[c]⟩] s fun v s' => v = .bool ((splitF 46 l).all g) ∧ Chg s s' [b] ∧ ((splitF 46 l).all g = true → J (splitF 46 l).length s') := by
 refine CallW.run good ok_addr_madeOf (by simp) rfl ?_
 (try refine pSeq ?_); (repeat refine sb ?_)
 refine (Split_w (c := 46) hl).mono fun v s1 q => ?_
 obtain ⟨base, cap, rfl, h1, c1, hB⟩ := q
 have hlen : (splitF 46 l).length ≤ 1000001 := by
  rw [split_len]
  have := List.count_le_length (a := (46 : UInt8)) (l := l)
  omega
 have hJ1 := hJ 0 _ _ h0 c1 hb
 generalize hls : splitF 46 l = ls at *
 obtain ⟨b1, rfl, cs, t, g1, r, h2, h3⟩ := h1.at
 have hb1 : s.next ≤ b1 := hB.1 b1 (by simp [blkOf])
 have hb2 : b1 < s1.next := by obtain ⟨_, _, _, _, _, e, q, _⟩ := h1; cases e; exact q
 (repeat refine sb ?_)
 refine pLoop (MW.head good (fun x : SIt => ls.length - x.i) (fun x => x.i ≤ ls.length ∧ Chg s1 x.s [b] ∧ J x.i x.s ∧ (ls.take x.i).all g = true) (fun x => [(1, .func (.func f) ⟨[]⟩ ⟨[c]⟩), (8, .slice (some ⟨b1, 0, none⟩) ls.length cap), (9, .int .i64 ls.length), (10, .int .i64 x.i)]) (fun x => x.s) ⟨0, s1⟩ ⟨Nat.zero_le _, .refl _ _, hJ1, rfl⟩ (Wk.same ⟨rfl, rfl, rfl, rfl, trivial⟩) ?_)
 intro ⟨i, s2⟩ ⟨hi, c12, h4, h5⟩
 dsimp only at hi c12 h4 h5 ⊢
 have hs2 := c12.next
 have hs1 := c1.next
 have cc : Chg s s2 [b] := c1.nil c12
 (repeat refine sb ?_)
 intro q hq
 by_cases hlt : i < ls.length
 ·obtain rfl : q = true := by rw [hq]; simp <;> omega
  obtain ⟨x, hx⟩ : ∃ x, ls[i]? = some x := ⟨_, List.getElem?_eq_getElem hlt⟩
  (repeat refine sb ?_)
  refine ⟨by omega, ?_⟩
  intro m hm o ho
  obtain rfl : m = i := by omega
  (repeat refine sb ?_)
  have hk := c12.blk b1 _ hb2 (by simp; omega) h2
  refine ldS_is rfl hk (by rw [ho, Nat.zero_add, Nat.mul_one]; exact h3 m x hx) ?_
  (repeat refine sb ?_)
  refine ⟨.call f [str x, c], ?_, ?_⟩
  ·exact hf (str x)
  refine (hc m x s2 hx h4 (by omega)).mono fun v s3 q => ?_
  obtain ⟨rfl, j3, c3⟩ := q
  (repeat refine sb ?_)
  intro q hq
  by_cases ha : g x = true
  ·obtain rfl : q = false := by rw [hq, ha]; rfl
   (repeat refine sb ?_)
   intro z hz
   rw [i64_id (by omega)] at hz
   obtain rfl : z = ((m + 1 : Nat) : Int) := by omega
   (repeat refine sb ?_)
   exact ⟨⟨m + 1, s3⟩, ⟨hlt, c12.same c3, j3, by rw [take_next hx]; simp [h5, ha]⟩, by show ls.length - (m + 1) < ls.length - m; omega, Wk.same ⟨rfl, rfl, rfl, rfl, trivial⟩⟩
  ·obtain rfl : q = true := by rw [hq]; simp [ha]
   (repeat refine sb ?_)
   have hno : ls.all g = false := by rw [List.all_eq_false]; exact ⟨x, List.mem_of_getElem? hx, by simp [ha]⟩
   rw [hno]
   exact ⟨rfl, cc.same c3, fun q => by cases q⟩
 ·obtain rfl : q = false := by rw [hq]; simp <;> omega
  (repeat refine sb ?_)
  obtain rfl : i = ls.length := by omega
  rw [List.take_of_length_le (Nat.le_refl _)] at h5
  rw [h5]
  exact ⟨rfl, cc, fun _ => h4⟩
end Go.Vf.S
end
section
namespace Go.Vf.S
open Go Go.Vf
attribute [local irreducible] wSeq wRow wp wG
set_option linter.unusedVariables false
set_option linter.unusedSimpArgs false
set_option maxRecDepth 10000
theorem callV_of {f : FuncId} {m : MF} (h : compF pr f = some m) (c x : Value) : callV pr (.func (.func f) ⟨[]⟩ ⟨[c]⟩) [x] = some (.enter f [x, c]) := by
 unfold compF at h
 split at h
 ·cases h
 ·rename_i fn hfn
  split at h
  ·cases h
  ·rename_i b hb
   have e : pr.funcs[f]? = some fn := hfn
   simp only [callV, e, hb, Option.isSome_some, cond_true]
   rfl
def inner (l : List UInt8) : List UInt8 := (l.drop 1).take (l.length - 2)
def litF (l : List UInt8) : Bool := decide (l.take 1 = [91] ∧ [93] <:+ l.drop 1) && ((splitF 46 (inner l)).all octF && (splitF 46 (inner l)).length == 4)
def longF (l : List UInt8) : Bool := decide (255 < l.length) || (splitF 46 l).any fun p => decide (63 < p.length)
def domF (l : List UInt8) : Nat := if litF l = true then 0 else if (splitF 46 l).all labelF = true then (if longF l = true then 3 else 0) else 5
theorem part_len {l p : List UInt8} (h : p ∈ splitF 46 l) : p.length ≤ l.length := by
 have key : ∀ l : List UInt8, (sp 46 l).1.length ≤ l.length ∧ ∀ p ∈ (sp 46 l).2, p.length ≤ l.length := by
  intro l
  induction l with
  | nil => simp [sp]
  | cons x l ih =>
   rw [sp]
   split
   ·refine ⟨by simp, fun p hp => ?_⟩
    rcases List.mem_cons.1 hp with rfl | hp
    ·have := ih.1; simp; omega
    ·have := ih.2 p hp; simp; omega
   ·refine ⟨by have := ih.1; simp; omega, fun p hp => ?_⟩
    have := ih.2 p hp; simp; omega
 rcases List.mem_cons.1 h with rfl | h
 ·exact (key l).1
 ·exact (key l).2 p h
theorem literal_w {s : SS} {l : List UInt8} (hl : l.length ≤ 1000000) : CallW pr n_addr_literal [str l] s fun v s' => v = .bool (litF l) ∧ Chg s s' [] := by
 refine CallW.run good ok_addr_literal (by simp) rfl ?_
 (try refine pSeq ?_); (repeat(first|refine sb ?_|refine gOn rfl ?_|refine gOff rfl rfl ?_|refine gTup rfl ?_))
 refine cutP_w.mono fun v s q => ?_
 obtain ⟨rfl, rfl⟩ := q
 (repeat(first|refine sb ?_|refine gOn rfl ?_|refine gOff rfl rfl ?_|refine gTup rfl ?_))
 refine (cutS_w (by split <;> (try rw [List.length_drop]) <;> omega)).mono fun v s q => ?_
 obtain ⟨rfl, rfl⟩ := q
 by_cases h1 : l.take 1 = [91]
 ·have e1 : l.take [(91 : UInt8)].length = [91] := h1
  rw [if_pos e1, decide_eq_true e1]
  by_cases h2 : [93] <:+ l.drop 1
  ·have e2 : [(93 : UInt8)] <:+ l.drop [(91 : UInt8)].length := h2
   rw [if_pos e2, decide_eq_true e2]
   have e3 : ((l.drop [(91 : UInt8)].length).take ((l.drop [(91 : UInt8)].length).length - [(93 : UInt8)].length)) = inner l := by
    unfold inner
    simp
    congr 1
    omega
   rw [e3]
   have hil : (inner l).length ≤ 1000000 := by unfold inner; simp; omega
   have eL : litF l = ((splitF 46 (inner l)).all octF && (splitF 46 (inner l)).length == 4) := by
    unfold litF
    rw [decide_eq_true ⟨h1, h2⟩, Bool.true_and]
   rw [eL]
   generalize inner l = m at *
   (repeat(first|refine sb ?_|refine gOn rfl ?_|refine gOff rfl rfl ?_|refine gTup rfl ?_))
   intro q hq; obtain rfl : q = false := (by rw [hq]; simp <;> omega); (repeat(first|refine sb ?_|refine gOn rfl ?_|refine gOff rfl rfl ?_|refine gTup rfl ?_))
   intro q hq; obtain rfl : q = false := (by rw [hq]; simp <;> omega); (repeat(first|refine sb ?_|refine gOn rfl ?_|refine gOff rfl rfl ?_|refine gTup rfl ?_))
   refine st_abs (cs' := [.int .i64 0]) rfl rfl lkH (Nat.lt_succ_self _) rfl rfl fun s2 e2 c2 n2 => ?_
   (repeat(first|refine sb ?_|refine gOn rfl ?_|refine gOff rfl rfl ?_|refine gTup rfl ?_))
   refine ⟨.val (.func (.func n_addr_literal_1) ⟨[]⟩ ⟨[.pointer (some ⟨s.next, 0, none⟩)]⟩), rfl, ?_⟩
   (repeat(first|refine sb ?_|refine gOn rfl ?_|refine gOff rfl rfl ?_|refine gTup rfl ?_))
   have hb : s.next < s2.next := by rw [n2]; exact Nat.lt_succ_self _
   refine (madeOf_w (b := s.next) (g := octF) (fun k x => lookH x.heap s.next = some (.cells [.int .i64 k] 3 false false)) hil (callV_of ok_addr_literal_1 _) hb e2 (fun k s3 s4 h c hb => c.blk _ _ hb (by simp) h) (fun k x s3 hx hJ hb3 => ?_)).mono fun v s3 q => ?_
   ·have hk : k ≤ 1000001 := by
     have := lt_of_get hx
     rw [split_len] at this
     have := List.count_le_length (a := (46 : UInt8)) (l := m)
     omega
    have hxl := part_len (List.mem_of_getElem? hx)
    refine CallW.run good ok_addr_literal_1 (by simp) rfl ?_
    (try refine pSeq ?_); (repeat(first|refine sb ?_|refine gOn rfl ?_|refine gOff rfl rfl ?_|refine gTup rfl ?_))
    refine ldI_is rfl hJ rfl ?_
    (repeat(first|refine sb ?_|refine gOn rfl ?_|refine gOff rfl rfl ?_|refine gTup rfl ?_))
    intro z hz
    rw [i64_id (by omega)] at hz
    obtain rfl : z = ((k + 1 : Nat) : Int) := by omega
    (repeat(first|refine sb ?_|refine gOn rfl ?_|refine gOff rfl rfl ?_|refine gTup rfl ?_))
    refine st_abs (cs' := [.int .i64 (k + 1 : Nat)]) rfl rfl hJ hb3 rfl rfl fun s4 e4 c4 n4 => ?_
    (repeat(first|refine sb ?_|refine gOn rfl ?_|refine gOff rfl rfl ?_|refine gTup rfl ?_))
    refine (mayNumber_w (by omega)).mono fun v s5 q => ?_
    obtain ⟨rfl, c5⟩ := q
    (repeat(first|refine sb ?_|refine gOn rfl ?_|refine gOff rfl rfl ?_|refine gTup rfl ?_))
    exact ⟨rfl, c5.blk _ _ (by rw [n4]; exact hb3) (by simp) e4, c4.trans' c5 (fun _ q _ => q) (by simp)⟩
   ·obtain ⟨rfl, c3, hJ⟩ := q
    have cc : Chg s s3 [] := ((Chg.new []).fresh c2 (by simp)).fresh c3 (by simp)
    (repeat(first|refine sb ?_|refine gOn rfl ?_|refine gOff rfl rfl ?_|refine gTup rfl ?_))
    cases ha : (splitF 46 m).all octF with
    | false =>
     (repeat(first|refine sb ?_|refine gOn rfl ?_|refine gOff rfl rfl ?_|refine gTup rfl ?_))
     exact ⟨rfl, cc⟩
    | true =>
     (repeat(first|refine sb ?_|refine gOn rfl ?_|refine gOff rfl rfl ?_|refine gTup rfl ?_))
     refine ldI_is rfl (hJ ha) rfl ?_
     (repeat(first|refine sb ?_|refine gOn rfl ?_|refine gOff rfl rfl ?_|refine gTup rfl ?_))
     intro q hq
     (repeat(first|refine sb ?_|refine gOn rfl ?_|refine gOff rfl rfl ?_|refine gTup rfl ?_))
     refine ⟨bool_eq ?_, cc⟩
     rw [hq, Bool.true_and, Bool.eq_iff_iff]
     simp
     omega
  ·have e2 : ¬[(93 : UInt8)] <:+ l.drop [(91 : UInt8)].length := h2
   rw [if_neg e2, decide_eq_false e2]
   (repeat(first|refine sb ?_|refine gOn rfl ?_|refine gOff rfl rfl ?_|refine gTup rfl ?_))
   intro q hq; obtain rfl : q = false := (by rw [hq]; simp <;> omega); (repeat(first|refine sb ?_|refine gOn rfl ?_|refine gOff rfl rfl ?_|refine gTup rfl ?_))
   intro q hq; obtain rfl : q = true := (by rw [hq]; simp <;> omega); (repeat(first|refine sb ?_|refine gOn rfl ?_|refine gOff rfl rfl ?_|refine gTup rfl ?_))
   exact ⟨bool_eq (by unfold litF; rw [decide_eq_false (fun q => h2 q.2)]; rfl), .refl _ _⟩
 ·have e1 : ¬l.take [(91 : UInt8)].length = [91] := h1
  rw [if_neg e1, decide_eq_false e1]
  (repeat(first|refine sb ?_|refine gOn rfl ?_|refine gOff rfl rfl ?_|refine gTup rfl ?_))
  intro q hq; obtain rfl : q = true := (by rw [hq]; simp <;> omega); (repeat(first|refine sb ?_|refine gOn rfl ?_|refine gOff rfl rfl ?_|refine gTup rfl ?_))
  exact ⟨bool_eq (by unfold litF; rw [decide_eq_false (fun q => h1 q.1)]; rfl), .refl _ _⟩
theorem domErr_w {s : SS} {l : List UInt8} (hl : l.length ≤ 1000000) : CallW pr n_addr_domainError [str l] s fun v s' => v = .int .i64 (domF l) ∧ Chg s s' [] := by
 refine CallW.run good ok_addr_domainError (by simp) rfl ?_
 (try refine pSeq ?_); (repeat(first|refine sb ?_|refine gOn rfl ?_|refine gOff rfl rfl ?_|refine gTup rfl ?_))
 refine (literal_w hl).mono fun v s1 q => ?_
 obtain ⟨rfl, c1⟩ := q
 cases hli : litF l with
 | true =>
  (repeat(first|refine sb ?_|refine gOn rfl ?_|refine gOff rfl rfl ?_|refine gTup rfl ?_))
  refine ⟨?_, c1⟩
  unfold domF
  rw [if_pos hli]
  rfl
 | false =>
  have eD : domF l = if (splitF 46 l).all labelF = true then (if longF l = true then 3 else 0) else 5 := by unfold domF; rw [if_neg (by simp [hli])]
  rw [eD]
  (repeat(first|refine sb ?_|refine gOn rfl ?_|refine gOff rfl rfl ?_|refine gTup rfl ?_))
  intro n hn
  (repeat(first|refine sb ?_|refine gOn rfl ?_|refine gOff rfl rfl ?_|refine gTup rfl ?_))
  intro q hq
  have eq : q = decide (255 < l.length) := by rw [hq, decide_eq_decide]; omega
  (repeat(first|refine sb ?_|refine gOn rfl ?_|refine gOff rfl rfl ?_|refine gTup rfl ?_))
  refine st_abs (cs' := [.bool q]) rfl rfl lkH (Nat.lt_succ_self _) rfl rfl fun s2 e2 c2 n2 => ?_
  (repeat(first|refine sb ?_|refine gOn rfl ?_|refine gOff rfl rfl ?_|refine gTup rfl ?_))
  refine ⟨.val (.func (.func n_addr_domainError_1) ⟨[]⟩ ⟨[.pointer (some ⟨s1.next, 0, none⟩)]⟩), rfl, ?_⟩
  (repeat(first|refine sb ?_|refine gOn rfl ?_|refine gOff rfl rfl ?_|refine gTup rfl ?_))
  have hb : s1.next < s2.next := by rw [n2]; exact Nat.lt_succ_self _
  refine (madeOf_w (b := s1.next) (g := labelF) (fun k x => lookH x.heap s1.next = some (.cells [.bool (decide (255 < l.length) || ((splitF 46 l).take k).any fun p => decide (63 < p.length))] 4 false false)) hl (callV_of ok_addr_domainError_1 _) hb (by rw [e2, eq]; simp) (fun k s3 s4 h c hb => c.blk _ _ hb (by simp) h) (fun k x s3 hx hJ hb3 => ?_)).mono fun v s3 q => ?_
  ·have hxl := part_len (List.mem_of_getElem? hx)
   refine CallW.run good ok_addr_domainError_1 (by simp) rfl ?_
   (try refine pSeq ?_); (repeat(first|refine sb ?_|refine gOn rfl ?_|refine gOff rfl rfl ?_|refine gTup rfl ?_))
   refine ldB_is rfl hJ rfl ?_
   have fin : ∀ (r : Bool), r = ((decide (255 < l.length) || ((splitF 46 l).take k).any fun p => decide (63 < p.length)) || decide (63 < x.length)) → r = (decide (255 < l.length) || ((splitF 46 l).take (k + 1)).any fun p => decide (63 < p.length)) := fun r hr => by
    rw [hr, take_next hx, List.any_append, Bool.or_assoc]
    simp
   cases hcur : (decide (255 < l.length) || ((splitF 46 l).take k).any fun p => decide (63 < p.length)) with
   | true =>
    rw [hcur] at hJ fin
    (repeat(first|refine sb ?_|refine gOn rfl ?_|refine gOff rfl rfl ?_|refine gTup rfl ?_))
    refine st_abs (cs' := [.bool true]) rfl rfl hJ hb3 rfl rfl fun s4 e4 c4 n4 => ?_
    (repeat(first|refine sb ?_|refine gOn rfl ?_|refine gOff rfl rfl ?_|refine gTup rfl ?_))
    refine (mayLabel_w (by omega)).mono fun v s5 q => ?_
    obtain ⟨rfl, c5⟩ := q
    (repeat(first|refine sb ?_|refine gOn rfl ?_|refine gOff rfl rfl ?_|refine gTup rfl ?_))
    exact ⟨rfl, by rw [← fin true rfl]; exact c5.blk _ _ (by rw [n4]; exact hb3) (by simp) e4, c4.trans' c5 (fun _ q _ => q) (by simp)⟩
   | false =>
    rw [hcur] at hJ fin
    (repeat(first|refine sb ?_|refine gOn rfl ?_|refine gOff rfl rfl ?_|refine gTup rfl ?_))
    intro n hn
    (repeat(first|refine sb ?_|refine gOn rfl ?_|refine gOff rfl rfl ?_|refine gTup rfl ?_))
    intro q hq
    have hq' : q = decide (63 < x.length) := by rw [hq, decide_eq_decide]; omega
    (repeat(first|refine sb ?_|refine gOn rfl ?_|refine gOff rfl rfl ?_|refine gTup rfl ?_))
    refine st_abs (cs' := [.bool q]) rfl rfl hJ hb3 rfl rfl fun s4 e4 c4 n4 => ?_
    (repeat(first|refine sb ?_|refine gOn rfl ?_|refine gOff rfl rfl ?_|refine gTup rfl ?_))
    refine (mayLabel_w (by omega)).mono fun v s5 q => ?_
    obtain ⟨rfl, c5⟩ := q
    (repeat(first|refine sb ?_|refine gOn rfl ?_|refine gOff rfl rfl ?_|refine gTup rfl ?_))
    exact ⟨rfl, by rw [← fin q (by rw [hq', Bool.false_or])]; exact c5.blk _ _ (by rw [n4]; exact hb3) (by simp) e4, c4.trans' c5 (fun _ q _ => q) (by simp)⟩
  ·obtain ⟨rfl, c3, hJ⟩ := q
   have cc : Chg s s3 [] := c1.nil (((Chg.new []).fresh c2 (by simp)).fresh c3 (by simp))
   cases ha : (splitF 46 l).all labelF with
   | false =>
    (repeat(first|refine sb ?_|refine gOn rfl ?_|refine gOff rfl rfl ?_|refine gTup rfl ?_))
    intro q hq; obtain rfl : q = true := (by rw [hq]; simp <;> omega); (repeat(first|refine sb ?_|refine gOn rfl ?_|refine gOff rfl rfl ?_|refine gTup rfl ?_))
    exact ⟨rfl, cc⟩
   | true =>
    (repeat(first|refine sb ?_|refine gOn rfl ?_|refine gOff rfl rfl ?_|refine gTup rfl ?_))
    intro q hq; obtain rfl : q = false := (by rw [hq]; simp <;> omega); (repeat(first|refine sb ?_|refine gOn rfl ?_|refine gOff rfl rfl ?_|refine gTup rfl ?_))
    have hJ1 := hJ ha
    rw [List.take_of_length_le (Nat.le_refl _)] at hJ1
    refine ldB_is rfl hJ1 rfl ?_
    rw [if_pos rfl]
    cases hlo : longF l with
    | true =>
     have e : (decide (255 < l.length) || (splitF 46 l).any fun p => decide (63 < p.length)) = true := hlo
     rw [e]
     (repeat(first|refine sb ?_|refine gOn rfl ?_|refine gOff rfl rfl ?_|refine gTup rfl ?_))
     exact ⟨rfl, cc⟩
    | false =>
     have e : (decide (255 < l.length) || (splitF 46 l).any fun p => decide (63 < p.length)) = false := hlo
     rw [e]
     (repeat(first|refine sb ?_|refine gOn rfl ?_|refine gOff rfl rfl ?_|refine gTup rfl ?_))
     exact ⟨rfl, cc⟩
theorem mayDomain_w {s : SS} {l : List UInt8} (hl : l.length ≤ 1000000) : CallW pr n_addr_MayDomain [str l] s fun v s' => v = .bool (decide (domF l = 0)) ∧ Chg s s' [] := by
 refine CallW.run good ok_addr_MayDomain (by simp) rfl ?_
 (try refine pSeq ?_); (repeat refine sb ?_)
 refine (domErr_w hl).mono fun v s1 q => ?_
 obtain ⟨rfl, c1⟩ := q
 (repeat refine sb ?_)
 intro q hq
 (repeat refine sb ?_)
 refine ⟨bool_eq ?_, c1⟩
 rw [hq, decide_eq_decide]
 omega
end Go.Vf.S
end
section
namespace Go.Vf.S
open Go Go.Vf
attribute [local irreducible] wSeq wRow wp wG
set_option linter.unusedVariables false
set_option linter.unusedSimpArgs false
set_option maxRecDepth 10000
end Go.Vf.S
end
section
namespace Go.Vf.S
open Go Go.Vf
attribute [local irreducible] wSeq wRow wp wG
set_option linter.unusedVariables false
set_option linter.unusedSimpArgs false
set_option maxRecDepth 10000
theorem mem_part {c : UInt8} (hc : c ≠ 46) : ∀ {l : List UInt8}, c ∈ l → ∃ p ∈ splitF 46 l, c ∈ p
 | x :: l, h => by
  unfold splitF
  rw [sp]
  by_cases hx : x = 46
  ·rw [if_pos hx]
   have h1 : c ∈ l := by
    rcases List.mem_cons.1 h with rfl | h
    ·exact absurd hx hc
    ·exact h
   obtain ⟨p, hp, hq⟩ := mem_part hc h1
   exact ⟨p, List.mem_cons_of_mem _ hp, hq⟩
  ·rw [if_neg hx]
   rcases List.mem_cons.1 h with rfl | h
   ·exact ⟨_, List.mem_cons_self .., List.mem_cons_self ..⟩
   ·obtain ⟨p, hp, hq⟩ := mem_part hc h
    rcases List.mem_cons.1 hp with rfl | hp
    ·exact ⟨_, List.mem_cons_self .., List.mem_cons_of_mem _ hq⟩
    ·exact ⟨p, List.mem_cons_of_mem _ hp, hq⟩
structure DIt where
 i : Nat
 f : Nat
 done : List (List UInt8)
 long : Bool
end Go.Vf.S
end

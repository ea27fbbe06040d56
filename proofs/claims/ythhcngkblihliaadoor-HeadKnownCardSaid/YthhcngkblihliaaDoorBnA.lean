import Derived.Test.YthhcngkblihliaaDoorFn
import Derived.Test.YthhcngkblihliaaDoorEngBe
import Derived.Lib.Replace
import Derived.Lib.CountLaws
import Derived.Test.YthhcngkblihliaaDoorEngBd
/- TxA -/
section
/- Plain bytes; what a text begins with. -/
namespace Go.Vf.S
open Go Go.Vf
attribute [local irreducible] wSeq wRow wp wG
set_option linter.unusedVariables false
set_option linter.unusedSimpArgs false
set_option maxRecDepth 10000

abbrev tS : TypeId := 9
abbrev tB : TypeId := 5
theorem sz_B : sizeB pr tB = some 1 := by kernel_rfl
theorem un_S : pr.underlying tS = some .string := by kernel_rfl

/-- A text. -/
abbrev str (l : List UInt8) : Value := .string ⟨⟨l⟩⟩
def plainB (c : UInt8) : Bool := decide (32 ≤ c.toNat ∧ c.toNat ≤ 126)
theorem bool_eq {a b : Bool} (h : a = b) : one [Value.bool a] = Value.bool b := by subst h; rfl

theorem all_no {l : List UInt8} {p : Nat} {c : UInt8} {f : UInt8 → Bool} (h : l[p]? = some c) (hf : f c = false) : l.all f = false := by
  rw [List.all_eq_false]
  exact ⟨c, List.mem_of_getElem? h, by simp [hf]⟩
theorem plain_no {c : UInt8} (h : ¬ plainB c = true) : plainB c = false := by simpa using h
theorem plain_hi {c : UInt8} (h : 128 ≤ c.toNat) : plainB c = false := by unfold plainB; simp; omega

end Go.Vf.S
end
/- TxB -/
section
/- A text, quoted. -/
namespace Go.Vf.S
open Go Go.Vf
attribute [local irreducible] wSeq wRow wp wG
set_option linter.unusedVariables false
set_option linter.unusedSimpArgs false
set_option maxRecDepth 10000

def needs (c : UInt8) : Bool := decide (c.toNat = 34 ∨ c.toNat = 92)
def escB (c : UInt8) : List UInt8 := if needs c then [92, c] else [c]
def quoteL (l : List UInt8) : List UInt8 := 34 :: l.flatMap escB ++ [34]
/-- What Quote tells. -/
def quoteF (l : List UInt8) : List UInt8 × Nat := if l.all plainB then (quoteL l, 0) else ([], 5)

theorem flat_next {l : List UInt8} {p : Nat} {c : UInt8} (h : l[p]? = some c) : (l.take (p + 1)).flatMap escB = (l.take p).flatMap escB ++ escB c := by
  rw [take_next h]; simp
theorem esc_len : ∀ l : List UInt8, l.length ≤ (l.flatMap escB).length ∧ (l.flatMap escB).length ≤ 2 * l.length
  | [] => by simp
  | c :: l => by
    have := esc_len l
    have : 1 ≤ (escB c).length ∧ (escB c).length ≤ 2 := by unfold escB; split <;> simp
    simp only [List.flatMap_cons, List.length_append, List.length_cons]
    omega
theorem take_esc {l : List UInt8} (p : Nat) : ((l.take p).flatMap escB).length ≤ 2 * l.length := by
  have := (esc_len (l.take p)).2
  rw [List.length_take] at this
  omega

/-- What stands behind so many bytes of a text. -/
def qO (l : List UInt8) (p : Nat) : List UInt8 := 34 :: (l.take p).flatMap escB
theorem qO_next {l : List UInt8} {p : Nat} {c : UInt8} (h : l[p]? = some c) : qO l (p + 1) = qO l p ++ escB c := by unfold qO; rw [flat_next h]; rfl
theorem qO_len {l : List UInt8} (p : Nat) : (qO l p).length ≤ 2 * l.length + 1 := Nat.succ_le_succ (take_esc p)
theorem qO_end {l : List UInt8} {p : Nat} (h : l.length ≤ p) : qO l p ++ [34] = quoteL l := by unfold qO quoteL; rw [List.take_of_length_le h]

structure QIt where
  p : Nat
  s : SS
  base : Option Addr
  cap : Nat

def QAt (s0 : SS) (id : Nat) (l : List UInt8) (out : List UInt8) (x : QIt) : Prop :=
  At s0 id l ⟨x.p, x.s⟩ ∧ Buf tB x.s x.base x.cap out ∧ ∀ i ∈ blkOf x.base, s0.next ≤ i ∧ i ≠ id

end Go.Vf.S
end
/- TxF -/
section
/- Sets of bytes; what is taken off a text's ends. -/
namespace Go.Vf.S
open Go Go.Vf
attribute [local irreducible] wSeq wRow wp wG
set_option linter.unusedVariables false
set_option linter.unusedSimpArgs false
set_option maxRecDepth 10000

abbrev tA : TypeId := 95
/-- A set of bytes, laid out. -/
def tab (f : Nat → Bool) : List Value := (List.range 256).map fun i => .bool (f i)
theorem tab_len (f : Nat → Bool) : (tab f).length = 256 := by simp [tab]
theorem tab_get {f : Nat → Bool} {i : Nat} (h : i < 256) : (tab f)[i]? = some (.bool (f i)) := by simp [tab, h]
theorem tab_take (f : Nat → Bool) : takeN 256 ((tab f).drop 0) = some (tab f) := by
  rw [List.drop_zero, takeN_take _ _ (by rw [tab_len]; omega), List.take_of_length_le (by rw [tab_len]; omega)]
theorem setRow_one : ∀ {l : List Value} {i : Nat} {v : Value}, i < l.length → setRow l i [v] = some (l.set i v)
  | x :: l, 0, v, _ => by cases l <;> rfl
  | x :: l, i + 1, v, h => by simp only [setRow, setRow_one (show i < l.length by simpa using h), List.set_cons_succ]
theorem setRow_all : ∀ {l m : List Value}, l.length = m.length → setRow l 0 m = some m
  | [], [], _ => rfl
  | x :: l, y :: m, h => by simp only [setRow, setRow_all (l := l) (m := m) (by simpa using h)]
theorem flat_tab (f : Nat → Bool) : flat (.agg ⟨tab f⟩) = tab f := rfl
theorem tab_set {f : Nat → Bool} {i : Nat} (h : i < 256) : setRow (tab f) i [.bool true] = some (tab fun k => f k || k == i) := by
  rw [setRow_one (by rw [tab_len]; exact h)]
  congr 1
  apply List.ext_getElem? fun j => ?_
  rw [List.getElem?_set, tab_len]
  by_cases q : j < 256
  · rw [tab_get q]
    by_cases e : i = j
    · subst e; rw [tab_get h]; simp [h]
    · rw [if_neg e, tab_get q]; simp [Ne.symm e]
  · rw [List.getElem?_eq_none (by rw [tab_len]; omega), if_neg (by omega), List.getElem?_eq_none (by rw [tab_len]; omega)]
theorem tab_all1 (f : Nat → Bool) : (Nat.beq (flat (.agg ⟨tab f⟩)).length 256 && all1 (flat (.agg ⟨tab f⟩))) = true := by
  rw [flat_tab, tab_len]
  have : ∀ l : List Nat, all1 (l.map fun i => Value.bool (f i)) = true := fun l => by
    induction l with
    | nil => rfl
    | cons a l ih => exact ih
  exact this _
theorem tab_row (f g : Nat → Bool) : setRow (tab f) 0 (flat (.agg ⟨tab g⟩)) = some (tab g) := by
  rw [flat_tab]
  exact setRow_all (by rw [tab_len, tab_len])

def inB (k : List UInt8) (i : Nat) : Bool := k.any fun c => c.toNat == i

theorem contains_w {s : SS} {f : Nat → Bool} {b : Nat} {g r : Bool} {c : UInt8} (hb : lookH s.heap b = some (.cells (tab f) tA g r)) :
    CallW pr n_strings_asciiSet_contains [.pointer (some ⟨b, 0, none⟩), .int .u8 c.toNat] s fun v s' => v = .bool (f c.toNat) ∧ s' = s := by
  refine CallW.run good ok_strings_asciiSet_contains (by simp) rfl ?_
  (repeat(first|refine pSeq ?_|refine pReg ?_|refine sCons ?_|refine sNil ?_|refine pRet ?_|refine gNone ?_))
  have hc := c.toNat_lt
  refine ⟨by omega, ?_⟩
  intro m hm o ho
  obtain rfl : m = c.toNat := by omega
  (repeat(first|refine pSeq ?_|refine pReg ?_|refine sCons ?_|refine sNil ?_|refine pRet ?_|refine gNone ?_))
  refine ldB_is rfl hb (by rw [ho, Nat.zero_add, Nat.mul_one]; exact tab_get (by omega)) ?_
  (repeat(first|refine pSeq ?_|refine pReg ?_|refine sCons ?_|refine sNil ?_|refine pRet ?_|refine gNone ?_))
  exact ⟨rfl, rfl⟩

structure SIt where
  i : Nat
  s : SS

theorem makeSet_w {s : SS} {k : List UInt8} (hk : k.length ≤ 1000000) (h7 : ∀ c ∈ k, c.toNat < 128) :
    CallW pr n_strings_makeASCIISet [str k] s fun v s' => v = .tuple ⟨[.agg ⟨tab (inB k)⟩, .bool true]⟩ ∧ Chg s s' [] := by
  refine CallW.run good ok_strings_makeASCIISet (by simp) rfl ?_
  (repeat(first|refine pSeq ?_|refine pReg ?_|refine sCons ?_|refine sNil ?_|refine pBlock ?_|refine pSkip ?_|refine pExit ?_|refine pRet ?_|refine pCond ?_|refine gNone ?_))
  refine pLoop (MW.head good (fun x : SIt => k.length - x.i) (fun x => x.i ≤ k.length ∧ Chg s x.s [] ∧ s.next < x.s.next ∧ lookH x.s.heap s.next = some (.cells (tab (inB (k.take x.i))) tA false false))
    (fun x => [(0, str k), (2, .pointer (some ⟨s.next, 0, none⟩)), (4, .int .i64 x.i)]) (fun x => x.s) ⟨0, _⟩ ⟨Nat.zero_le _, .new _, Nat.lt_succ_self _, lkH⟩ (Wk.same ⟨rfl, rfl, rfl, trivial⟩) ?_)
  intro ⟨i, s1⟩ ⟨hi, h1, h2, h3⟩
  dsimp only at hi h1 h2 h3 ⊢
  (repeat(first|refine pSeq ?_|refine pReg ?_|refine sCons ?_|refine sNil ?_|refine pBlock ?_|refine pSkip ?_|refine pExit ?_|refine pRet ?_|refine pCond ?_|refine gNone ?_))
  intro n hn
  (repeat(first|refine pSeq ?_|refine pReg ?_|refine sCons ?_|refine sNil ?_|refine pBlock ?_|refine pSkip ?_|refine pExit ?_|refine pRet ?_|refine pCond ?_|refine gNone ?_))
  intro q hq
  by_cases hlt : i < k.length
  · obtain rfl : q = true := by rw [hq]; simp <;> omega
    obtain ⟨c, hc⟩ : ∃ c, k[i]? = some c := ⟨_, List.getElem?_eq_getElem hlt⟩
    have hc7 := h7 c (List.mem_of_getElem? hc)
    (repeat(first|refine pSeq ?_|refine pReg ?_|refine sCons ?_|refine sNil ?_|refine pBlock ?_|refine pSkip ?_|refine pExit ?_|refine pRet ?_|refine pCond ?_|refine gNone ?_))
    refine ⟨by omega, ?_⟩
    intro m hm
    obtain rfl : m = i := by omega
    refine ⟨c, hc, ?_⟩
    (repeat(first|refine pSeq ?_|refine pReg ?_|refine sCons ?_|refine sNil ?_|refine pBlock ?_|refine pSkip ?_|refine pExit ?_|refine pRet ?_|refine pCond ?_|refine gNone ?_))
    intro q hq
    obtain rfl : q = false := by rw [hq]; simp <;> omega
    (repeat(first|refine pSeq ?_|refine pReg ?_|refine sCons ?_|refine sNil ?_|refine pBlock ?_|refine pSkip ?_|refine pExit ?_|refine pRet ?_|refine pCond ?_|refine gNone ?_))
    refine ⟨by omega, ?_⟩
    intro m2 hm2 o ho
    obtain rfl : m2 = c.toNat := by omega
    (repeat(first|refine pSeq ?_|refine pReg ?_|refine sCons ?_|refine sNil ?_|refine pBlock ?_|refine pSkip ?_|refine pExit ?_|refine pRet ?_|refine pCond ?_|refine gNone ?_))
    refine st_abs rfl rfl h3 h2 rfl (by rw [ho, Nat.zero_add, Nat.mul_one]; exact tab_set (by omega)) fun s2 e2 c2 n2 => ?_
    (repeat(first|refine pSeq ?_|refine pReg ?_|refine sCons ?_|refine sNil ?_|refine pBlock ?_|refine pSkip ?_|refine pExit ?_|refine pRet ?_|refine pCond ?_|refine gNone ?_))
    intro z hz
    rw [i64_id (by omega)] at hz
    obtain rfl : z = ((m + 1 : Nat) : Int) := by omega
    (repeat(first|refine pSeq ?_|refine pReg ?_|refine sCons ?_|refine sNil ?_|refine pBlock ?_|refine pSkip ?_|refine pExit ?_|refine pRet ?_|refine pCond ?_|refine gNone ?_))
    refine ⟨⟨m + 1, s2⟩, ⟨hlt, h1.fresh c2 (by simp), by show s.next < s2.next; omega, ?_⟩, by show k.length - (m + 1) < k.length - m; omega, Wk.same ⟨rfl, rfl, rfl, trivial⟩⟩
    rw [e2, take_next hc]
    congr 3
    funext j
    simp only [inB, List.any_append, List.any_cons, List.any_nil, Bool.or_false]
    congr 1
    rw [Bool.eq_iff_iff, beq_iff_eq, beq_iff_eq]
    exact eq_comm
  · obtain rfl : q = false := by rw [hq]; simp <;> omega
    (repeat(first|refine pSeq ?_|refine pReg ?_|refine sCons ?_|refine sNil ?_|refine pBlock ?_|refine pSkip ?_|refine pExit ?_|refine pRet ?_|refine pCond ?_|refine gNone ?_))
    refine ldN_is rfl h3 (tab_take _) ?_
    (repeat(first|refine pSeq ?_|refine pReg ?_|refine sCons ?_|refine sNil ?_|refine pBlock ?_|refine pSkip ?_|refine pExit ?_|refine pRet ?_|refine pCond ?_|refine gNone ?_))
    refine st_abs rfl rfl h3 h2 (tab_all1 _) (tab_row _ _) fun s2 e2 c2 n2 => ?_
    (repeat(first|refine pSeq ?_|refine pReg ?_|refine sCons ?_|refine sNil ?_|refine pBlock ?_|refine pSkip ?_|refine pExit ?_|refine pRet ?_|refine pCond ?_|refine gNone ?_))
    refine ret_cell (n := 256) (by kernel_rfl) (by kernel_rfl) rfl e2 (tab_take _) rfl ⟨?_, h1.fresh c2 (by simp)⟩
    rw [List.take_of_length_le (by omega)]

theorem trimL_w {s : SS} {f : Nat → Bool} {b : Nat} {g r : Bool} {l : List UInt8} (hl : l.length ≤ 1000000) (hb : lookH s.heap b = some (.cells (tab f) tA g r)) :
    CallW pr n_strings_trimLeftASCII [str l, .pointer (some ⟨b, 0, none⟩)] s fun v s' => v = str (l.dropWhile fun c => f c.toNat) ∧ s' = s := by
  refine CallW.run good ok_strings_trimLeftASCII (by simp) rfl ?_
  (repeat(first|refine pSeq ?_|refine pReg ?_|refine sCons ?_|refine sNil ?_|refine pBlock ?_|refine pSkip ?_|refine pExit ?_|refine pRet ?_|refine pCond ?_|refine gNone ?_))
  refine pLoop (MW.head good (fun x : List UInt8 => x.length) (fun x => x.length ≤ l.length ∧ (x.dropWhile fun c => f c.toNat) = l.dropWhile fun c => f c.toNat)
    (fun x => [(0, str x), (1, .pointer (some ⟨b, 0, none⟩))]) (fun x => s) l ⟨Nat.le_refl _, rfl⟩ (Wk.same ⟨rfl, rfl, trivial⟩) ?_)
  intro x ⟨hx, h0⟩
  (repeat(first|refine pSeq ?_|refine pReg ?_|refine sCons ?_|refine sNil ?_|refine pBlock ?_|refine pSkip ?_|refine pExit ?_|refine pRet ?_|refine pCond ?_|refine gNone ?_))
  intro n hn
  (repeat(first|refine pSeq ?_|refine pReg ?_|refine sCons ?_|refine sNil ?_|refine pBlock ?_|refine pSkip ?_|refine pExit ?_|refine pRet ?_|refine pCond ?_|refine gNone ?_))
  intro q hq
  cases x with
  | nil =>
    obtain rfl : q = false := by rw [hq, hn]; rfl
    (repeat(first|refine pSeq ?_|refine pReg ?_|refine sCons ?_|refine sNil ?_|refine pBlock ?_|refine pSkip ?_|refine pExit ?_|refine pRet ?_|refine pCond ?_|refine gNone ?_))
    rw [← h0]
    exact ⟨rfl, rfl⟩
  | cons c x =>
    obtain rfl : q = true := by rw [hq, hn]; simp <;> omega
    (repeat(first|refine pSeq ?_|refine pReg ?_|refine sCons ?_|refine sNil ?_|refine pBlock ?_|refine pSkip ?_|refine pExit ?_|refine pRet ?_|refine pCond ?_|refine gNone ?_))
    refine ⟨by simp, ?_⟩
    intro m hm
    obtain rfl : m = 0 := by omega
    refine ⟨c, rfl, ?_⟩
    (repeat(first|refine pSeq ?_|refine pReg ?_|refine sCons ?_|refine sNil ?_|refine pBlock ?_|refine pSkip ?_|refine pExit ?_|refine pRet ?_|refine pCond ?_|refine gNone ?_))
    refine (contains_w hb).mono fun v s q => ?_
    obtain ⟨rfl, rfl⟩ := q
    (repeat(first|refine pSeq ?_|refine pReg ?_|refine sCons ?_|refine sNil ?_|refine pBlock ?_|refine pSkip ?_|refine pExit ?_|refine pRet ?_|refine pCond ?_|refine gNone ?_))
    intro q hq
    rw [List.dropWhile_cons] at h0
    by_cases hf : f c.toNat = true
    · obtain rfl : q = false := by rw [hq, hf]; rfl
      rw [if_pos hf] at h0
      (repeat(first|refine pSeq ?_|refine pReg ?_|refine sCons ?_|refine sNil ?_|refine pBlock ?_|refine pSkip ?_|refine pExit ?_|refine pRet ?_|refine pCond ?_|refine gNone ?_))
      refine ⟨by simp; omega, ?_⟩
      intro m hm r hr
      obtain rfl : m = 1 := by omega
      have er : r = x := by rw [hr]; simp
      subst er
      (repeat(first|refine pSeq ?_|refine pReg ?_|refine sCons ?_|refine sNil ?_|refine pBlock ?_|refine pSkip ?_|refine pExit ?_|refine pRet ?_|refine pCond ?_|refine gNone ?_))
      exact ⟨r, ⟨by simp at hx; omega, h0⟩, by show r.length < (c :: r).length; simp, Wk.same ⟨rfl, rfl, trivial⟩⟩
    · obtain rfl : q = true := by rw [hq]; simp [hf]
      rw [if_neg hf] at h0
      (repeat(first|refine pSeq ?_|refine pReg ?_|refine sCons ?_|refine sNil ?_|refine pBlock ?_|refine pSkip ?_|refine pExit ?_|refine pRet ?_|refine pCond ?_|refine gNone ?_))
      rw [← h0]
      exact ⟨rfl, rfl⟩

/-- White space. -/
def wh (c : UInt8) : Bool := decide (c.toNat = 32 ∨ c.toNat = 9)

end Go.Vf.S
end
/- TxL -/
section
/- Lower case; numbers. -/
namespace Go.Vf.S
open Go Go.Vf
attribute [local irreducible] wSeq wRow wp wG
set_option linter.unusedVariables false
set_option linter.unusedSimpArgs false
set_option maxRecDepth 10000

def upB (c : UInt8) : Bool := decide (65 ≤ c.toNat ∧ c.toNat ≤ 90)
def lowB (c : UInt8) : UInt8 := if upB c then c + 32 else c
theorem lowB_up {c : UInt8} (h : upB c = true) : (lowB c).toNat = c.toNat + 32 := by
  unfold lowB
  rw [if_pos h]
  have : 65 ≤ c.toNat ∧ c.toNat ≤ 90 := by simpa [upB] using h
  rw [UInt8.toNat_add]
  have e : (32 : UInt8).toNat = 32 := rfl
  omega
theorem lowB_no {c : UInt8} (h : ¬upB c = true) : lowB c = c := by unfold lowB; rw [if_neg h]

/-- Lower so far. -/
def mixL (l : List UInt8) (p : Nat) : List UInt8 := (l.map lowB).take p ++ l.drop p
theorem mix_len (l : List UInt8) (p : Nat) : (mixL l p).length = l.length := by simp [mixL]; omega
theorem mix_0 (l : List UInt8) : mixL l 0 = l := by simp [mixL]
theorem mix_end {l : List UInt8} {p : Nat} (h : l.length ≤ p) : mixL l p = l.map lowB := by
  unfold mixL
  rw [List.drop_of_length_le h, List.append_nil, List.take_of_length_le (by simpa using h)]
theorem mix_next {l : List UInt8} {p : Nat} {c : UInt8} (h : l[p]? = some c) : mixL l (p + 1) = (mixL l p).set p (lowB c) := by
  have hp := lt_of_get h
  unfold mixL
  rw [drop_next h, take_next (c := lowB c) (by rw [List.getElem?_map, h]; rfl), List.set_append_right _ _ (by simp; omega)]
  have e : ((l.map lowB).take p).length = p := by simp; omega
  rw [e, Nat.sub_self, List.append_assoc]
  rfl
theorem mix_at {l : List UInt8} {p : Nat} {c : UInt8} (h : l[p]? = some c) : (mixL l p)[p]? = some c := by
  have hp := lt_of_get h
  unfold mixL
  have e : ((l.map lowB).take p).length = p := by simp; omega
  rw [List.getElem?_append_right (by omega), e, Nat.sub_self, drop_next h]
  rfl
theorem mix_same {l : List UInt8} {p : Nat} {c : UInt8} (h : l[p]? = some c) (hc : lowB c = c) : mixL l (p + 1) = mixL l p := by
  rw [mix_next h, hc]
  have := mix_at h
  obtain ⟨hp, e⟩ := List.getElem?_eq_some_iff.1 this
  rw [← e]
  exact List.set_getElem_self hp
theorem mix_more {l : List UInt8} {p : Nat} : ∀ {w : Nat}, (∀ j, j < w → ∃ d, l[p + j]? = some d ∧ 128 ≤ d.toNat) → mixL l (p + w) = mixL l p
  | 0, _ => rfl
  | w + 1, h => by
    obtain ⟨d, h1, h2⟩ := h w (Nat.lt_succ_self _)
    rw [← Nat.add_assoc, mix_same h1 (lowB_no (by simp [upB]; omega)), mix_more fun j hj => h j (Nat.lt_succ_of_lt hj)]

theorem lower_w {s : SS} {l : List UInt8} (hl : l.length ≤ 1000000) : CallW pr n_text_Lower [str l] s fun v s' => v = str (l.map lowB) ∧ Chg s s' [] := by
  refine CallW.run good ok_text_Lower (by simp) rfl ?_
  (repeat(first|refine pSeq ?_|refine pReg ?_|refine sRaw ?_|refine sCons ?_|refine sNil ?_|refine pBlock ?_|refine pSkip ?_|refine pExit ?_|refine pRet ?_|refine pCond ?_|refine gNone ?_|refine gOn rfl ?_|refine gOff rfl rfl ?_|refine gTup rfl ?_))
  refine ⟨by omega, ?_⟩
  (repeat(first|refine pSeq ?_|refine pReg ?_|refine sRaw ?_|refine sCons ?_|refine sNil ?_|refine pBlock ?_|refine pSkip ?_|refine pExit ?_|refine pRet ?_|refine pCond ?_|refine gNone ?_|refine gOn rfl ?_|refine gOff rfl rfl ?_|refine gTup rfl ?_))
  refine srange_W rfl un_S rfl ?_
  (repeat(first|refine pSeq ?_|refine pReg ?_|refine sRaw ?_|refine sCons ?_|refine sNil ?_|refine pBlock ?_|refine pSkip ?_|refine pExit ?_|refine pRet ?_|refine pCond ?_|refine gNone ?_|refine gOn rfl ?_|refine gOff rfl rfl ?_|refine gTup rfl ?_))
  refine pLoop (MW.head good (fun x : It => l.length - x.p) (fun x => At s (s.next + 1) l x ∧ lookH x.s.heap s.next = some (.cells (bytesV (mixL l x.p)) tB true false))
    (fun x => [(3, .slice (some ⟨s.next, 0, none⟩) l.length 0), (9, .pointer (some ⟨s.next + 1, 0, none⟩))]) (fun x => x.s) ⟨0, _⟩ ⟨⟨(Chg.new _).nil (.new _), Nat.le_succ _, Nat.lt_succ_self _, lkH⟩, ?_⟩ (Wk.same ⟨rfl, rfl, trivial⟩) ?_)
  · rw [mix_0]
    exact lkT (show s.next + 1 ≠ s.next by omega) lkH
  intro ⟨p, s1⟩ ⟨h1, h2⟩
  dsimp only at h1 h2 ⊢
  have hn1 := h1.1.next
  have hn2 := h1.2.2.1
  dsimp only at hn1 hn2
  (repeat(first|refine pSeq ?_|refine pReg ?_|refine sRaw ?_|refine sCons ?_|refine sNil ?_|refine pBlock ?_|refine pSkip ?_|refine pExit ?_|refine pRet ?_|refine pCond ?_|refine gNone ?_|refine gOn rfl ?_|refine gOff rfl rfl ?_|refine gTup rfl ?_))
  refine snext_L rfl rfl (show lookH s1.heap _ = some (.siter ⟨⟨l⟩⟩ p) from h1.2.2.2) (fun he => ?_) (fun c hc h7 => ?_) (fun c r w hc h7 hr hr2 hdec hw _ => ?_)
  · (repeat(first|refine pSeq ?_|refine pReg ?_|refine sRaw ?_|refine sCons ?_|refine sNil ?_|refine pBlock ?_|refine pSkip ?_|refine pExit ?_|refine pRet ?_|refine pCond ?_|refine gNone ?_|refine gOn rfl ?_|refine gOff rfl rfl ?_|refine gTup rfl ?_))
    refine toStr_Rdb rfl (by have := rdb_lit h2 (by omega); rw [mix_len] at this; exact this) ?_
    (repeat(first|refine pSeq ?_|refine pReg ?_|refine sRaw ?_|refine sCons ?_|refine sNil ?_|refine pBlock ?_|refine pSkip ?_|refine pExit ?_|refine pRet ?_|refine pCond ?_|refine gNone ?_|refine gOn rfl ?_|refine gOff rfl rfl ?_|refine gTup rfl ?_))
    rw [mix_end he]
    exact ⟨rfl, h1.1⟩
  · have hlt : p < l.length := lt_of_get hc
    have h3 : lookH ((s.next + 1, some (ABlk.siter ⟨⟨l⟩⟩ (p + 1))) :: s1.heap) s.next = some (.cells (bytesV (mixL l p)) tB true false) := lkT (by omega) h2
    (repeat(first|refine pSeq ?_|refine pReg ?_|refine sRaw ?_|refine sCons ?_|refine sNil ?_|refine pBlock ?_|refine pSkip ?_|refine pExit ?_|refine pRet ?_|refine pCond ?_|refine gNone ?_|refine gOn rfl ?_|refine gOff rfl rfl ?_|refine gTup rfl ?_))
    intro q hq
    by_cases hup : upB c = true
    · have hu : 65 ≤ c.toNat ∧ c.toNat ≤ 90 := by simpa [upB] using hup
      obtain rfl : q = true := by rw [hq]; simp <;> omega
      (repeat(first|refine pSeq ?_|refine pReg ?_|refine sRaw ?_|refine sCons ?_|refine sNil ?_|refine pBlock ?_|refine pSkip ?_|refine pExit ?_|refine pRet ?_|refine pCond ?_|refine gNone ?_|refine gOn rfl ?_|refine gOff rfl rfl ?_|refine gTup rfl ?_))
      intro q hq; obtain rfl : q = true := (by rw [hq]; simp <;> omega); (repeat(first|refine pSeq ?_|refine pReg ?_|refine sRaw ?_|refine sCons ?_|refine sNil ?_|refine pBlock ?_|refine pSkip ?_|refine pExit ?_|refine pRet ?_|refine pCond ?_|refine gNone ?_|refine gOn rfl ?_|refine gOff rfl rfl ?_|refine gTup rfl ?_))
      refine ⟨by omega, ?_⟩
      intro m hm o ho
      obtain rfl : m = p := by omega
      (repeat(first|refine pSeq ?_|refine pReg ?_|refine sRaw ?_|refine sCons ?_|refine sNil ?_|refine pBlock ?_|refine pSkip ?_|refine pExit ?_|refine pRet ?_|refine pCond ?_|refine gNone ?_|refine gOn rfl ?_|refine gOff rfl rfl ?_|refine gTup rfl ?_))
      have hget : (bytesV (mixL l m))[o]? = some (.int .u8 c.toNat) := by
        rw [ho, Nat.zero_add, Nat.mul_one, bytesV, List.getElem?_map, mix_at hc]; rfl
      refine ldI_is rfl h3 hget ?_
      (repeat(first|refine pSeq ?_|refine pReg ?_|refine sRaw ?_|refine sCons ?_|refine sNil ?_|refine pBlock ?_|refine pSkip ?_|refine pExit ?_|refine pRet ?_|refine pCond ?_|refine gNone ?_|refine gOn rfl ?_|refine gOff rfl rfl ?_|refine gTup rfl ?_))
      intro z hz
      rw [u8_id (by omega)] at hz
      obtain rfl : z = ((lowB c).toNat : Int) := by rw [lowB_up hup]; omega
      (repeat(first|refine pSeq ?_|refine pReg ?_|refine sRaw ?_|refine sCons ?_|refine sNil ?_|refine pBlock ?_|refine pSkip ?_|refine pExit ?_|refine pRet ?_|refine pCond ?_|refine gNone ?_|refine gOn rfl ?_|refine gOff rfl rfl ?_|refine gTup rfl ?_))
      refine ⟨by omega, ?_⟩
      intro m2 hm2 o2 ho2
      obtain rfl : m2 = m := by omega
      (repeat(first|refine pSeq ?_|refine pReg ?_|refine sRaw ?_|refine sCons ?_|refine sNil ?_|refine pBlock ?_|refine pSkip ?_|refine pExit ?_|refine pRet ?_|refine pCond ?_|refine gNone ?_|refine gOn rfl ?_|refine gOff rfl rfl ?_|refine gTup rfl ?_))
      refine st_abs (cs' := bytesV (mixL l (m2 + 1))) rfl rfl h3 (by show s.next < s1.next; omega) rfl ?_ fun s2 e2 c2 n2 => ?_
      · rw [ho2, Nat.zero_add, Nat.mul_one]
        show setRow _ _ [_] = _
        rw [setRow_one (by rw [bytesV_len, mix_len]; exact hlt), mix_next hc]
        congr 1
        simp [bytesV, List.map_set]
      (repeat(first|refine pSeq ?_|refine pReg ?_|refine sRaw ?_|refine sCons ?_|refine sNil ?_|refine pBlock ?_|refine pSkip ?_|refine pExit ?_|refine pRet ?_|refine pCond ?_|refine gNone ?_|refine gOn rfl ?_|refine gOff rfl rfl ?_|refine gTup rfl ?_))
      exact ⟨⟨m2 + 1, s2⟩, ⟨(h1.go (m2 + 1)).chg c2 (by simp), e2⟩, by show l.length - (m2 + 1) < l.length - m2; omega, Wk.same ⟨rfl, rfl, trivial⟩⟩
    · have hlow := lowB_no hup
      have fin : At s (s.next + 1) l ⟨p + 1, { s1 with heap := (s.next + 1, some (ABlk.siter ⟨⟨l⟩⟩ (p + 1))) :: s1.heap }⟩ ∧ lookH ((s.next + 1, some (ABlk.siter ⟨⟨l⟩⟩ (p + 1))) :: s1.heap) s.next = some (.cells (bytesV (mixL l (p + 1))) tB true false) := ⟨h1.go _, by rw [mix_same hc hlow]; exact h3⟩
      by_cases h65 : 65 ≤ c.toNat
      · obtain rfl : q = true := by rw [hq]; simp <;> omega
        have h90 : ¬c.toNat ≤ 90 := fun q => hup (by simp [upB, h65, q])
        (repeat(first|refine pSeq ?_|refine pReg ?_|refine sRaw ?_|refine sCons ?_|refine sNil ?_|refine pBlock ?_|refine pSkip ?_|refine pExit ?_|refine pRet ?_|refine pCond ?_|refine gNone ?_|refine gOn rfl ?_|refine gOff rfl rfl ?_|refine gTup rfl ?_))
        intro q hq; obtain rfl : q = false := (by rw [hq]; simp <;> omega); (repeat(first|refine pSeq ?_|refine pReg ?_|refine sRaw ?_|refine sCons ?_|refine sNil ?_|refine pBlock ?_|refine pSkip ?_|refine pExit ?_|refine pRet ?_|refine pCond ?_|refine gNone ?_|refine gOn rfl ?_|refine gOff rfl rfl ?_|refine gTup rfl ?_))
        exact ⟨⟨p + 1, _⟩, fin, by show l.length - (p + 1) < l.length - p; omega, Wk.same ⟨rfl, rfl, trivial⟩⟩
      · obtain rfl : q = false := by rw [hq]; simp <;> omega
        (repeat(first|refine pSeq ?_|refine pReg ?_|refine sRaw ?_|refine sCons ?_|refine sNil ?_|refine pBlock ?_|refine pSkip ?_|refine pExit ?_|refine pRet ?_|refine pCond ?_|refine gNone ?_|refine gOn rfl ?_|refine gOff rfl rfl ?_|refine gTup rfl ?_))
        exact ⟨⟨p + 1, _⟩, fin, by show l.length - (p + 1) < l.length - p; omega, Wk.same ⟨rfl, rfl, trivial⟩⟩
  · have hlt : p < l.length := lt_of_get hc
    (repeat(first|refine pSeq ?_|refine pReg ?_|refine sRaw ?_|refine sCons ?_|refine sNil ?_|refine pBlock ?_|refine pSkip ?_|refine pExit ?_|refine pRet ?_|refine pCond ?_|refine gNone ?_|refine gOn rfl ?_|refine gOff rfl rfl ?_|refine gTup rfl ?_))
    intro q hq; obtain rfl : q = true := (by rw [hq]; simp <;> omega); (repeat(first|refine pSeq ?_|refine pReg ?_|refine sRaw ?_|refine sCons ?_|refine sNil ?_|refine pBlock ?_|refine pSkip ?_|refine pExit ?_|refine pRet ?_|refine pCond ?_|refine gNone ?_|refine gOn rfl ?_|refine gOff rfl rfl ?_|refine gTup rfl ?_))
    intro q hq; obtain rfl : q = false := (by rw [hq]; simp <;> omega); (repeat(first|refine pSeq ?_|refine pReg ?_|refine sRaw ?_|refine sCons ?_|refine sNil ?_|refine pBlock ?_|refine pSkip ?_|refine pExit ?_|refine pRet ?_|refine pCond ?_|refine gNone ?_|refine gOn rfl ?_|refine gOff rfl rfl ?_|refine gTup rfl ?_))
    refine ⟨⟨p + w, _⟩, ⟨h1.go _, ?_⟩, by show l.length - (p + w) < l.length - p; omega, Wk.same ⟨rfl, rfl, trivial⟩⟩
    rw [mix_more (dec_more hdec hc h7)]
    exact lkT (by omega) h2

theorem same_w {s : SS} {l t : List UInt8} (hl : l.length ≤ 1000000) (ht : t.length ≤ 1000000) : CallW pr n_text_Same [str l, str t] s fun v s' => v = .bool (decide (l.map lowB = t.map lowB)) ∧ Chg s s' [] := by
  refine CallW.run good ok_text_Same (by simp) rfl ?_
  (repeat(first|refine pSeq ?_|refine pReg ?_|refine sCons ?_|refine sNil ?_|refine pRet ?_|refine gNone ?_))
  refine (lower_w hl).mono fun v s1 q => ?_
  obtain ⟨rfl, c1⟩ := q
  (repeat(first|refine pSeq ?_|refine pReg ?_|refine sCons ?_|refine sNil ?_|refine pRet ?_|refine gNone ?_))
  refine (lower_w ht).mono fun v s2 q => ?_
  obtain ⟨rfl, c2⟩ := q
  (repeat(first|refine pSeq ?_|refine pReg ?_|refine sCons ?_|refine sNil ?_|refine pRet ?_|refine gNone ?_))
  intro q hq
  (repeat(first|refine pSeq ?_|refine pReg ?_|refine sCons ?_|refine sNil ?_|refine pRet ?_|refine gNone ?_))
  subst hq
  exact ⟨rfl, c1.nil c2⟩
end Go.Vf.S
end
/- TxM -/
section
/- Numbers. -/
namespace Go.Vf.S
open Go Go.Vf
attribute [local irreducible] wSeq wRow wp wG
set_option linter.unusedVariables false
set_option linter.unusedSimpArgs false
set_option maxRecDepth 10000

def digB (c : UInt8) : Bool := decide (48 ≤ c.toNat ∧ c.toNat ≤ 57)
def numFrom (a : Nat) (l : List UInt8) : Nat := l.foldl (fun n c => 10 * n + (c.toNat - 48)) a
def numL (l : List UInt8) : Nat := numFrom 0 l
def clamp (d : Int) : Nat := (min (max d 1) 15).toNat
def numberF (l : List UInt8) (d : Int) : Nat × Nat := if 1 ≤ l.length ∧ l.length ≤ clamp d ∧ l.all digB = true then (numL l, 0) else (0, 5)

theorem numFrom_lt : ∀ (l : List UInt8) (a : Nat), l.all digB = true → numFrom a l < (a + 1) * 10 ^ l.length
  | [], a, _ => by simp [numFrom]
  | c :: l, a, h => by
    rw [List.all_cons, Bool.and_eq_true] at h
    have hc : 48 ≤ c.toNat ∧ c.toNat ≤ 57 := by simpa [digB] using h.1
    have := numFrom_lt l (10 * a + (c.toNat - 48)) h.2
    show numFrom (10 * a + (c.toNat - 48)) l < _
    rw [List.length_cons, Nat.pow_succ, Nat.mul_comm (10 ^ l.length) 10, ← Nat.mul_assoc]
    exact Nat.lt_of_lt_of_le this (Nat.mul_le_mul_right _ (by omega))
theorem num_lt {l : List UInt8} (h : l.all digB = true) (hl : l.length ≤ 15) : numL l < 1000000000000000 := by
  have h1 := numFrom_lt l 0 h
  have h2 : 10 ^ l.length ≤ 10 ^ 15 := Nat.pow_le_pow_right (by omega) hl
  unfold numL
  omega
theorem num_next {l : List UInt8} {p : Nat} {c : UInt8} (h : l[p]? = some c) : numL (l.take (p + 1)) = 10 * numL (l.take p) + (c.toNat - 48) := by
  rw [take_next h]
  simp [numL, numFrom]
theorem all_next {l : List UInt8} {p : Nat} {c : UInt8} {f : UInt8 → Bool} (h : l[p]? = some c) (h1 : (l.take p).all f = true) (h2 : f c = true) : (l.take (p + 1)).all f = true := by
  rw [take_next h]
  simp [h1, h2]
theorem number_no {l : List UInt8} {d : Int} (h : ¬(1 ≤ l.length ∧ l.length ≤ clamp d ∧ l.all digB = true)) : numberF l d = (0, 5) := by unfold numberF; rw [if_neg h]
theorem number_ok {l : List UInt8} {d : Int} (h1 : 1 ≤ l.length) (h2 : l.length ≤ clamp d) (h3 : l.all digB = true) : numberF l d = (numL l, 0) := by unfold numberF; rw [if_pos ⟨h1, h2, h3⟩]
abbrev nRes (q : Nat × Nat) : Value := .tuple ⟨[.int .i64 q.1, .int .i64 q.2]⟩

end Go.Vf.S
end
/- TxN -/
section
/- Atoms. -/
namespace Go.Vf.S
open Go Go.Vf
attribute [local irreducible] wSeq wRow wp wG
set_option linter.unusedVariables false
set_option linter.unusedSimpArgs false
set_option maxRecDepth 10000

def signsL : List UInt8 := [33, 35, 36, 37, 38, 39, 42, 43, 45, 47, 61, 63, 94, 95, 96, 123, 124, 125, 126]
def letN (n : Nat) : Bool := decide (97 ≤ n ∧ n ≤ 122) || (decide (65 ≤ n ∧ n ≤ 90) || (decide (48 ≤ n ∧ n ≤ 57) || signsL.any fun c => c.toNat == n))
def letB (c : UInt8) : Bool := letN c.toNat
def atomsV : List Value := (List.range 128).map fun i => .bool (letN i)
theorem atoms_get {i : Nat} (h : i < 128) : atomsV[i]? = some (.bool (letN i)) := by simp [atomsV, h]
def gA : ABlk := .cells atomsV 4 false true
theorem signs_lt : ∀ c ∈ signsL, c.toNat < 127 := by decide
theorem let_hi {n : Nat} (h : 127 ≤ n) : letN n = false := by
  have : (signsL.any fun c => c.toNat == n) = false := by
    rw [List.any_eq_false]
    intro c hc
    have := signs_lt c hc
    simp
    omega
  unfold letN
  rw [this]
  simp
  omega

theorem ixaG {P : Program} {T : TL} {s : SS} {K : RR → Prop} {len z g : Nat} {i : Operand} {k : IntKind} {iv : Int} (hg : g < s.gl) (hi : opd T s.gl i = some (.int k iv)) (h : wIdx (.int k iv) len fun m => ∀ o, o = 0 + m * z → K (.val (.pointer (some ⟨g, o, none⟩)))) : wN P (.ixaA len z (.global g) i) T s K := by
  have e : opd T s.gl (.global g) = some (.pointer (some ⟨g, 0, none⟩)) := by
    have hb : Nat.blt g s.gl = true := by rw [Nat.blt_eq]; exact hg
    simp only [opd, hb, cond_true]
  simp only [wN, e, hi]
  exact h

def atomF (l : List UInt8) : Bool := l.all letB && !l.isEmpty

end Go.Vf.S
end
/- TxO -/
section
/- Parts of a text. -/
namespace Go.Vf.S
open Go Go.Vf
attribute [local irreducible] wSeq wRow wp wG
set_option linter.unusedVariables false
set_option linter.unusedSimpArgs false
set_option maxRecDepth 10000

/-- The first part, and the others. -/
def sp (c : UInt8) : List UInt8 → List UInt8 × List (List UInt8)
  | [] => ([], [])
  | x :: r => if x = c then ([], (sp c r).1 :: (sp c r).2) else (x :: (sp c r).1, (sp c r).2)
def splitF (c : UInt8) (l : List UInt8) : List (List UInt8) := (sp c l).1 :: (sp c l).2
theorem sp_first {c : UInt8} {r : List UInt8} : ∀ {f : List UInt8}, c ∉ f → sp c (f ++ c :: r) = (f, (sp c r).1 :: (sp c r).2)
  | [], _ => by simp [sp]
  | x :: f, h => by
    have h1 : ¬x = c := fun e => h (by simp [e])
    rw [List.cons_append, sp, if_neg h1, sp_first (f := f) (fun q => h (by simp [q]))]
theorem split_first {c : UInt8} {r f : List UInt8} (h : c ∉ f) : splitF c (f ++ c :: r) = f :: splitF c r := by unfold splitF; rw [sp_first h]
theorem split_last {c : UInt8} : ∀ {l : List UInt8}, l.count c = 0 → splitF c l = [l]
  | [], _ => rfl
  | x :: l, h => by
    have h1 : ¬x = c := fun e => by subst e; simp at h
    rw [List.count_cons_of_ne h1] at h
    have := split_last (c := c) (l := l) h
    unfold splitF at this ⊢
    rw [sp, if_neg h1]
    simp only [List.cons.injEq] at this ⊢
    exact ⟨⟨trivial, this.1⟩, this.2⟩
theorem split_len {c : UInt8} : ∀ (l : List UInt8), (splitF c l).length = l.count c + 1
  | [] => rfl
  | x :: l => by
    have := split_len (c := c) l
    unfold splitF at this ⊢
    rw [sp]
    by_cases h : x = c
    · subst h
      rw [if_pos rfl, List.count_cons_self]
      simp only [List.length_cons] at this ⊢
      omega
    · rw [if_neg h, List.count_cons_of_ne h]
      simp only [List.length_cons] at this ⊢
      omega
theorem index_first {c : UInt8} {r : List UInt8} : ∀ {f : List UInt8}, c ∉ f → Lib.indexByte (f ++ c :: r) c = f.length
  | [], _ => by simp [Lib.indexByte]
  | x :: f, h => by
    have h1 : (x == c) = false := by simp; exact fun e => h (by simp [e])
    have ih := index_first (c := c) (r := r) (f := f) (fun q => h (by simp [q]))
    rw [List.cons_append, Lib.indexByte, h1, ih]
    have : ((f.length : Int) == -1) = false := by simp <;> omega
    rw [this]
    simp

theorem byte_back (c : UInt8) : ((c.toNat : Int).toNat).toUInt8 = c := by simp

theorem indexByte_w {s : SS} {l : List UInt8} {c : UInt8} : CallW pr n_internal_stringslite_IndexByte [str l, .int .u8 c.toNat] s fun v s' => v = .int .i64 (Lib.indexByte l c) ∧ s' = s := by
  refine CallW.run good ok_internal_stringslite_IndexByte (by simp) rfl ?_
  (repeat(first|refine pSeq ?_|refine pReg ?_|refine sRaw ?_|refine sCons ?_|refine sNil ?_|refine pRet ?_|refine gNone ?_))
  refine xtn_W Go.Proofs.Tryd.func113 (by kernel_rfl) (by kernel_rfl) (by kernel_rfl) (by kernel_rfl) rfl rfl rfl rfl (fun w => by rw [Lib.run_indexByteString, byte_back]) ?_
  (repeat(first|refine pSeq ?_|refine pReg ?_|refine sRaw ?_|refine sCons ?_|refine sNil ?_|refine pRet ?_|refine gNone ?_))
  exact ⟨rfl, rfl⟩

theorem index1_w {s : SS} {l : List UInt8} {c : UInt8} (hne : l ≠ []) : CallW pr n_strings_Index [str l, str [c]] s fun v s' => v = .int .i64 (Lib.indexByte l c) ∧ s' = s := by
  refine CallW.run good ok_strings_Index (by simp) rfl ?_
  (repeat(first|refine pSeq ?_|refine pReg ?_|refine sRaw ?_|refine sCons ?_|refine sNil ?_|refine pBlock ?_|refine pSkip ?_|refine pExit ?_|refine pRet ?_|refine pCond ?_|refine gNone ?_|refine gOn rfl ?_|refine gOff rfl rfl ?_|refine gTup rfl ?_))
  refine (show CallW pr n_internal_stringslite_Index [str l, str [c]] s fun v s' => v = .int .i64 (Lib.indexByte l c) ∧ s' = s from ?_).mono fun v s q => ?_
  · refine CallW.run good ok_internal_stringslite_Index (by simp) rfl ?_
    (repeat(first|refine pSeq ?_|refine pReg ?_|refine sRaw ?_|refine sCons ?_|refine sNil ?_|refine pBlock ?_|refine pSkip ?_|refine pExit ?_|refine pRet ?_|refine pCond ?_|refine gNone ?_|refine gOn rfl ?_|refine gOff rfl rfl ?_|refine gTup rfl ?_))
    intro n hn
    (repeat(first|refine pSeq ?_|refine pReg ?_|refine sRaw ?_|refine sCons ?_|refine sNil ?_|refine pBlock ?_|refine pSkip ?_|refine pExit ?_|refine pRet ?_|refine pCond ?_|refine gNone ?_|refine gOn rfl ?_|refine gOff rfl rfl ?_|refine gTup rfl ?_))
    intro q hq
    obtain rfl : q = false := by rw [hq, hn]; rfl
    (repeat(first|refine pSeq ?_|refine pReg ?_|refine sRaw ?_|refine sCons ?_|refine sNil ?_|refine pBlock ?_|refine pSkip ?_|refine pExit ?_|refine pRet ?_|refine pCond ?_|refine gNone ?_|refine gOn rfl ?_|refine gOff rfl rfl ?_|refine gTup rfl ?_))
    intro q hq
    by_cases he : [c] = l
    · subst he
      obtain rfl : q = true := by rw [hq]; simp
      (repeat(first|refine pSeq ?_|refine pReg ?_|refine sRaw ?_|refine sCons ?_|refine sNil ?_|refine pBlock ?_|refine pSkip ?_|refine pExit ?_|refine pRet ?_|refine pCond ?_|refine gNone ?_|refine gOn rfl ?_|refine gOff rfl rfl ?_|refine gTup rfl ?_))
      exact ⟨by show Value.int .i64 0 = _; simp [Lib.indexByte], rfl⟩
    · obtain rfl : q = false := by rw [hq]; simp [he]
      (repeat(first|refine pSeq ?_|refine pReg ?_|refine sRaw ?_|refine sCons ?_|refine sNil ?_|refine pBlock ?_|refine pSkip ?_|refine pExit ?_|refine pRet ?_|refine pCond ?_|refine gNone ?_|refine gOn rfl ?_|refine gOff rfl rfl ?_|refine gTup rfl ?_))
      intro q hq
      obtain rfl : q = true := by rw [hq, hn]; rfl
      (repeat(first|refine pSeq ?_|refine pReg ?_|refine sRaw ?_|refine sCons ?_|refine sNil ?_|refine pBlock ?_|refine pSkip ?_|refine pExit ?_|refine pRet ?_|refine pCond ?_|refine gNone ?_|refine gOn rfl ?_|refine gOff rfl rfl ?_|refine gTup rfl ?_))
      refine ⟨by simp, ?_⟩
      intro m hm
      obtain rfl : m = 0 := by omega
      refine ⟨c, rfl, ?_⟩
      (repeat(first|refine pSeq ?_|refine pReg ?_|refine sRaw ?_|refine sCons ?_|refine sNil ?_|refine pBlock ?_|refine pSkip ?_|refine pExit ?_|refine pRet ?_|refine pCond ?_|refine gNone ?_|refine gOn rfl ?_|refine gOff rfl rfl ?_|refine gTup rfl ?_))
      refine indexByte_w.mono fun v s q => ?_
      obtain ⟨rfl, rfl⟩ := q
      (repeat(first|refine pSeq ?_|refine pReg ?_|refine sRaw ?_|refine sCons ?_|refine sNil ?_|refine pBlock ?_|refine pSkip ?_|refine pExit ?_|refine pRet ?_|refine pCond ?_|refine gNone ?_|refine gOn rfl ?_|refine gOff rfl rfl ?_|refine gTup rfl ?_))
      exact ⟨rfl, rfl⟩
  obtain ⟨rfl, rfl⟩ := q
  (repeat(first|refine pSeq ?_|refine pReg ?_|refine sRaw ?_|refine sCons ?_|refine sNil ?_|refine pBlock ?_|refine pSkip ?_|refine pExit ?_|refine pRet ?_|refine pCond ?_|refine gNone ?_|refine gOn rfl ?_|refine gOff rfl rfl ?_|refine gTup rfl ?_))
  exact ⟨rfl, rfl⟩

def strV (ls : List (List UInt8)) : List Value := ls.map str
theorem strV_len (ls : List (List UInt8)) : (strV ls).length = ls.length := by simp [strV]
theorem all1_strV : ∀ ls : List (List UInt8), all1 (strV ls) = true
  | [] => rfl
  | _ :: ls => all1_strV ls
/-- A row of texts that a slice reads. -/
def StrsAt (s : SS) (base : Option Addr) (ls : List (List UInt8)) : Prop :=
  ∃ b cs t g r, base = some ⟨b, 0, none⟩ ∧ b < s.next ∧ lookH s.heap b = some (.cells cs t g r) ∧ ∀ (i : Nat) x, ls[i]? = some x → cs[i]? = some (str x)
theorem StrsAt.chg {s s' : SS} {base : Option Addr} {ls : List (List UInt8)} {A : List Nat} (h : StrsAt s base ls) (c : Chg s s' A) (hA : ∀ id ∈ blkOf base, id ∉ A) : StrsAt s' base ls := by
  obtain ⟨b, cs, t, g, r, rfl, h1, h2, h3⟩ := h
  exact ⟨b, cs, t, g, r, rfl, Nat.lt_of_lt_of_le h1 c.next, c.blk _ _ h1 (hA b (by simp [blkOf])) h2, h3⟩

structure PIt where
  done : List (List UInt8)
  rest : List UInt8
  s : SS

theorem set_row (done : List (List UInt8)) (f : List UInt8) (k : Nat) : (strV done ++ List.replicate (k + 1) (str [])).set done.length (str f) = strV (done ++ [f]) ++ List.replicate k (str []) := by
  rw [List.set_append_right _ _ (by rw [strV_len]; omega), strV_len, Nat.sub_self, List.replicate_succ, List.set_cons_zero]
  simp [strV]

theorem repeat_str : ∀ n : Nat, repeatL n [str []] = List.replicate n (str [])
  | 0 => rfl
  | n + 1 => by
    show [str []] ++ repeatL n [str []] = _
    rw [repeat_str n, List.replicate_succ]
    rfl

theorem slL_pre {P : Program} {T : TL} {s : SS} {K : RR → Prop} {z n cap m b off : Nat} {cs : List Value} {t : TypeId} {r : Bool} {x hi : Operand} {k : Int} (hx : opd T s.gl x = some (.slice (some ⟨b, off, none⟩) n cap)) (hh : opd T s.gl hi = some (.int .i64 k))
    (hb : lookH s.heap b = some (.cells cs t false r)) (hk : k = (m : Int)) (hm : m ≤ cap) (h : K (.val (.slice (some ⟨b, off, none⟩) m cap))) : wN P (.slL z x none (some hi)) T s K := by
  subst hk
  simp only [wN, hx, opdO, hh, hb, wBnd]
  refine ⟨by omega, fun j hj o n' d ho hn hd => ?_⟩
  obtain rfl : j = m := by omega
  have e : o = off := by
    rw [ho]
    split <;> simp
  rw [e, hn, hd, Nat.sub_zero, Nat.sub_zero]
  exact h

/-- A row whose room is all its own. -/
def Full (s : SS) (base : Option Addr) : Prop := ∃ b cs, base = some ⟨b, 0, none⟩ ∧ lookH s.heap b = some (.cells cs tS false false)
structure PIt2 where
  i : Nat
  f : Nat
  done : List (List UInt8)
  s : SS
  W : Option Addr
  cw : Nat

/-- Behind so many bytes: what stands since the last byte to part at, and all behind it. -/
theorem sp_step {c : UInt8} {l : List UInt8} {f i : Nat} (hf : f ≤ i) (hi : i ≤ l.length) (h : c ∉ (l.drop f).take (i - f)) :
    (∀ x, l[i]? = some x → x = c → splitF c (l.drop f) = (l.drop f).take (i - f) :: splitF c (l.drop (i + 1))) ∧ (i = l.length → splitF c (l.drop f) = [l.drop f]) := by
  constructor
  · intro x hx hxc
    subst hxc
    have e : l.drop f = (l.drop f).take (i - f) ++ x :: l.drop (i + 1) := by
      conv => lhs; rw [← List.take_append_drop (i - f) (l.drop f)]
      rw [List.drop_drop, show f + (i - f) = i by omega, drop_next hx]
    conv => lhs; rw [e]
    exact split_first h
  · intro he
    rw [List.take_of_length_le (by simp; omega)] at h
    exact split_last (List.count_eq_zero.2 h)

theorem StrsAt.at {s : SS} {base : Option Addr} {ls : List (List UInt8)} (h : StrsAt s base ls) : ∃ b, base = some ⟨b, 0, none⟩ ∧ ∃ cs t g r, lookH s.heap b = some (.cells cs t g r) ∧ ∀ (i : Nat) x, ls[i]? = some x → cs[i]? = some (str x) := by
  obtain ⟨b, cs, t, g, r, h1, h2, h3, h4⟩ := h
  exact ⟨b, h1, cs, t, g, r, h3, h4⟩

theorem ldS_is {P : Program} {T : TL} {s : SS} {K : RR → Prop} {x : Operand} {b off : Nat} {cs : List Value} {t : TypeId} {g r : Bool} {l : List UInt8} (hx : opd T s.gl x = some (.pointer (some ⟨b, off, none⟩))) (hb : lookH s.heap b = some (.cells cs t g r)) (hc : cs[off]? = some (str l))
    (h : K (.val (str l))) : wN P (.ldS x) T s K := by
  simp only [wN, hx, hb]
  exact ⟨l, hc, h⟩

theorem idx_no {c : UInt8} : ∀ {l : List UInt8}, c ∉ l → Lib.indexByte l c = -1
  | [], _ => rfl
  | x :: l, h => by
    have h1 : (x == c) = false := by simp; exact fun e => h (by simp [e])
    rw [Lib.indexByte, h1, idx_no (l := l) fun q => h (by simp [q])]
    rfl
theorem IndexByte_w {s : SS} {l : List UInt8} {c : UInt8} : CallW pr n_strings_IndexByte [str l, .int .u8 c.toNat] s fun v s' => v = .int .i64 (Lib.indexByte l c) ∧ s' = s := by
  refine CallW.run good ok_strings_IndexByte (by simp) rfl ?_
  (repeat(first|refine pSeq ?_|refine pReg ?_|refine sCons ?_|refine sNil ?_|refine pRet ?_|refine gNone ?_))
  refine indexByte_w.mono fun v s q => ?_
  obtain ⟨rfl, rfl⟩ := q
  (repeat(first|refine pSeq ?_|refine pReg ?_|refine sCons ?_|refine sNil ?_|refine pRet ?_|refine gNone ?_))
  exact ⟨rfl, rfl⟩
end Go.Vf.S
end
/- TxP -/
section
/- Dot-atoms; white space at both ends. -/
namespace Go.Vf.S
open Go Go.Vf
attribute [local irreducible] wSeq wRow wp wG
set_option linter.unusedVariables false
set_option linter.unusedSimpArgs false
set_option maxRecDepth 10000

def dotF (l : List UInt8) : Bool := (splitF 46 l).all atomF

/-- The document's way: was the byte ahead a point? -/
def da : Bool → List UInt8 → Bool
  | p, [] => !p
  | p, c :: r => if c = 46 then (if p then false else da true r) else if letB c then da false r else false
theorem da_is : ∀ (l : List UInt8) (p : Bool), da p l = ((sp 46 l).1.all letB && (!p || !(sp 46 l).1.isEmpty) && (sp 46 l).2.all atomF)
  | [], p => by cases p <;> rfl
  | c :: r, p => by
    have i1 := da_is r true
    have i2 := da_is r false
    rw [da, sp]
    by_cases h : c = 46
    · rw [if_pos h, if_pos h, i1]
      cases p <;> simp [atomF, Bool.and_assoc]
    · rw [if_neg h, if_neg h, i2]
      simp only [List.all_cons, List.isEmpty_cons, Bool.not_false, Bool.or_true, Bool.and_true, Bool.true_or]
      cases hb : letB c
      · rfl
      · simp only [if_true, Bool.true_and]
theorem dot_da (l : List UInt8) : dotF l = da true l := by
  rw [da_is]
  simp [dotF, splitF, atomF]

/-- Off the end. -/
def dropR (l : List UInt8) : List UInt8 := (l.reverse.dropWhile wh).reverse
def trimF (l : List UInt8) : List UInt8 := dropR (l.dropWhile wh)
theorem dropR_nil : dropR [] = [] := rfl
theorem dropR_wh {l : List UInt8} {c : UInt8} (h : wh c = true) : dropR (l ++ [c]) = dropR l := by
  unfold dropR
  rw [List.reverse_append, List.reverse_singleton, List.singleton_append, List.dropWhile_cons, if_pos h]
theorem dropR_no {l : List UInt8} {c : UInt8} (h : wh c = false) : dropR (l ++ [c]) = l ++ [c] := by
  unfold dropR
  rw [List.reverse_append, List.reverse_singleton, List.singleton_append, List.dropWhile_cons, if_neg (by simp [h])]
  simp
theorem take_last {l : List UInt8} {n : Nat} {c : UInt8} (hn : l.length = n + 1) (h : l[n]? = some c) : l = l.take n ++ [c] := by
  rw [← take_next h, List.take_of_length_le (by omega)]

theorem in_wh (c : UInt8) : inB [32, 9] c.toNat = wh c := by
  rw [Bool.eq_iff_iff]
  simp only [inB, wh, List.any_cons, List.any_nil, Bool.or_false, Bool.or_eq_true, beq_iff_eq, decide_eq_true_eq]
  have e1 : (32 : UInt8).toNat = 32 := rfl
  have e2 : (9 : UInt8).toNat = 9 := rfl
  omega

theorem dropR_cons (c : UInt8) (l : List UInt8) : dropR (c :: l) = if dropR l = [] then (if wh c then [] else [c]) else c :: dropR l := by
  unfold dropR
  rw [List.reverse_cons, List.dropWhile_append]
  by_cases h : l.reverse.dropWhile wh = []
  · rw [h]
    cases hc : wh c <;> simp [hc]
  · have h2 : (l.reverse.dropWhile wh).isEmpty = false := by cases q : l.reverse.dropWhile wh with
      | nil => exact absurd q h
      | cons a b => rfl
    rw [h2]
    simp [h]
/-- A text's ends may be taken off in either order. -/
theorem trim_comm (l : List UInt8) : trimF l = (dropR l).dropWhile wh := by
  unfold trimF
  induction l with
  | nil => rfl
  | cons c l ih =>
    rw [dropR_cons]
    cases hc : wh c with
    | true =>
      rw [List.dropWhile_cons, if_pos hc, ih]
      by_cases h : dropR l = []
      · rw [if_pos h, h]; rfl
      · rw [if_neg h, List.dropWhile_cons, if_pos hc]
    | false =>
      rw [List.dropWhile_cons, if_neg (by simp [hc]), dropR_cons, hc]
      by_cases h : dropR l = []
      · rw [if_pos h]; simp [hc]
      · rw [if_neg h, List.dropWhile_cons, if_neg (by simp [hc])]

theorem trimR_w {s : SS} {b : Nat} {g r : Bool} {l : List UInt8} (hl : l.length ≤ 1000000) (hb : lookH s.heap b = some (.cells (tab (inB [32, 9])) tA g r)) :
    CallW pr n_strings_trimRightASCII [str l, .pointer (some ⟨b, 0, none⟩)] s fun v s' => v = str (dropR l) ∧ s' = s := by
  refine CallW.run good ok_strings_trimRightASCII (by simp) rfl ?_
  (repeat(first|refine pSeq ?_|refine pReg ?_|refine sCons ?_|refine sNil ?_|refine pBlock ?_|refine pSkip ?_|refine pExit ?_|refine pRet ?_|refine pCond ?_|refine gNone ?_))
  refine pLoop (MW.head good (fun x : List UInt8 => x.length) (fun x => x.length ≤ l.length ∧ dropR x = dropR l)
    (fun x => [(0, str x), (1, .pointer (some ⟨b, 0, none⟩))]) (fun x => s) l ⟨Nat.le_refl _, rfl⟩ (Wk.same ⟨rfl, rfl, trivial⟩) ?_)
  intro x ⟨hx, h0⟩
  (repeat(first|refine pSeq ?_|refine pReg ?_|refine sCons ?_|refine sNil ?_|refine pBlock ?_|refine pSkip ?_|refine pExit ?_|refine pRet ?_|refine pCond ?_|refine gNone ?_))
  intro n hn
  (repeat(first|refine pSeq ?_|refine pReg ?_|refine sCons ?_|refine sNil ?_|refine pBlock ?_|refine pSkip ?_|refine pExit ?_|refine pRet ?_|refine pCond ?_|refine gNone ?_))
  intro q hq
  rcases Nat.eq_zero_or_pos x.length with h | h
  · have : x = [] := List.eq_nil_of_length_eq_zero h
    subst this
    obtain rfl : q = false := by rw [hq, hn]; rfl
    (repeat(first|refine pSeq ?_|refine pReg ?_|refine sCons ?_|refine sNil ?_|refine pBlock ?_|refine pSkip ?_|refine pExit ?_|refine pRet ?_|refine pCond ?_|refine gNone ?_))
    rw [← h0]
    exact ⟨rfl, rfl⟩
  · obtain ⟨k, hk⟩ : ∃ k, x.length = k + 1 := ⟨x.length - 1, by omega⟩
    obtain ⟨c, hc⟩ : ∃ c, x[k]? = some c := ⟨_, List.getElem?_eq_getElem (by omega)⟩
    have hx2 := take_last hk hc
    obtain rfl : q = true := by rw [hq, hn]; simp; omega
    (repeat(first|refine pSeq ?_|refine pReg ?_|refine sCons ?_|refine sNil ?_|refine pBlock ?_|refine pSkip ?_|refine pExit ?_|refine pRet ?_|refine pCond ?_|refine gNone ?_))
    intro n2 hn2
    (repeat(first|refine pSeq ?_|refine pReg ?_|refine sCons ?_|refine sNil ?_|refine pBlock ?_|refine pSkip ?_|refine pExit ?_|refine pRet ?_|refine pCond ?_|refine gNone ?_))
    intro z hz
    rw [i64_id (by omega)] at hz
    (repeat(first|refine pSeq ?_|refine pReg ?_|refine sCons ?_|refine sNil ?_|refine pBlock ?_|refine pSkip ?_|refine pExit ?_|refine pRet ?_|refine pCond ?_|refine gNone ?_))
    refine ⟨by omega, ?_⟩
    intro m hm
    obtain rfl : m = k := by omega
    refine ⟨c, hc, ?_⟩
    (repeat(first|refine pSeq ?_|refine pReg ?_|refine sCons ?_|refine sNil ?_|refine pBlock ?_|refine pSkip ?_|refine pExit ?_|refine pRet ?_|refine pCond ?_|refine gNone ?_))
    refine (contains_w hb).mono fun v s q => ?_
    obtain ⟨rfl, rfl⟩ := q
    rw [show inB [32, 9] c.toNat = wh c from in_wh c]
    (repeat(first|refine pSeq ?_|refine pReg ?_|refine sCons ?_|refine sNil ?_|refine pBlock ?_|refine pSkip ?_|refine pExit ?_|refine pRet ?_|refine pCond ?_|refine gNone ?_))
    intro q hq
    by_cases hf : wh c = true
    · obtain rfl : q = false := by rw [hq, hf]; rfl
      rw [hx2, dropR_wh hf] at h0
      (repeat(first|refine pSeq ?_|refine pReg ?_|refine sCons ?_|refine sNil ?_|refine pBlock ?_|refine pSkip ?_|refine pExit ?_|refine pRet ?_|refine pCond ?_|refine gNone ?_))
      intro n3 hn3
      (repeat(first|refine pSeq ?_|refine pReg ?_|refine sCons ?_|refine sNil ?_|refine pBlock ?_|refine pSkip ?_|refine pExit ?_|refine pRet ?_|refine pCond ?_|refine gNone ?_))
      intro z2 hz2
      rw [i64_id (by omega)] at hz2
      (repeat(first|refine pSeq ?_|refine pReg ?_|refine sCons ?_|refine sNil ?_|refine pBlock ?_|refine pSkip ?_|refine pExit ?_|refine pRet ?_|refine pCond ?_|refine gNone ?_))
      refine ⟨by omega, ?_⟩
      intro m2 hm2 y hy
      obtain rfl : m2 = m := by omega
      have ey : y = x.take m2 := by rw [hy]; simp
      clear hy
      subst ey
      (repeat(first|refine pSeq ?_|refine pReg ?_|refine sCons ?_|refine sNil ?_|refine pBlock ?_|refine pSkip ?_|refine pExit ?_|refine pRet ?_|refine pCond ?_|refine gNone ?_))
      exact ⟨x.take m2, ⟨by simp; omega, h0⟩, by show (x.take m2).length < x.length; simp; omega, Wk.same ⟨rfl, rfl, trivial⟩⟩
    · obtain rfl : q = true := by rw [hq]; simp [hf]
      rw [hx2, dropR_no (by simpa using hf), ← hx2] at h0
      (repeat(first|refine pSeq ?_|refine pReg ?_|refine sCons ?_|refine sNil ?_|refine pBlock ?_|refine pSkip ?_|refine pExit ?_|refine pRet ?_|refine pCond ?_|refine gNone ?_))
      rw [← h0]
      exact ⟨rfl, rfl⟩

theorem Trim_w {s : SS} {l : List UInt8} (hl : l.length ≤ 1000000) : CallW pr n_strings_Trim [str l, .string ⟨#[32, 9]⟩] s fun v s' => v = str (trimF l) ∧ Chg s s' [] := by
  refine CallW.run good ok_strings_Trim (by simp) rfl ?_
  (repeat(first|refine pSeq ?_|refine pReg ?_|refine sCons ?_|refine sNil ?_|refine rCons ?_|refine rNil ?_|refine kNo ?_|refine pRow ?_|refine pSkip ?_|refine pRet ?_|refine pCond ?_|refine gNone ?_|refine gOn rfl ?_|refine gOff rfl rfl ?_|refine gTup rfl ?_))
  intro q hq
  by_cases h0 : l = []
  · subst h0
    obtain rfl : q = true := by rw [hq]; rfl
    (repeat(first|refine pSeq ?_|refine pReg ?_|refine sCons ?_|refine sNil ?_|refine rCons ?_|refine rNil ?_|refine kNo ?_|refine pRow ?_|refine pSkip ?_|refine pRet ?_|refine pCond ?_|refine gNone ?_|refine gOn rfl ?_|refine gOff rfl rfl ?_|refine gTup rfl ?_))
    exact ⟨rfl, .refl _ _⟩
  · obtain rfl : q = false := by rw [hq]; simp [h0]
    (repeat(first|refine pSeq ?_|refine pReg ?_|refine sCons ?_|refine sNil ?_|refine rCons ?_|refine rNil ?_|refine kNo ?_|refine pRow ?_|refine pSkip ?_|refine pRet ?_|refine pCond ?_|refine gNone ?_|refine gOn rfl ?_|refine gOff rfl rfl ?_|refine gTup rfl ?_))
    intro q hq
    obtain rfl : q = false := by rw [hq]; rfl
    (repeat(first|refine pSeq ?_|refine pReg ?_|refine sCons ?_|refine sNil ?_|refine rCons ?_|refine rNil ?_|refine kNo ?_|refine pRow ?_|refine pSkip ?_|refine pRet ?_|refine pCond ?_|refine gNone ?_|refine gOn rfl ?_|refine gOff rfl rfl ?_|refine gTup rfl ?_))
    intro n hn
    (repeat(first|refine pSeq ?_|refine pReg ?_|refine sCons ?_|refine sNil ?_|refine rCons ?_|refine rNil ?_|refine kNo ?_|refine pRow ?_|refine pSkip ?_|refine pRet ?_|refine pCond ?_|refine gNone ?_|refine gOn rfl ?_|refine gOff rfl rfl ?_|refine gTup rfl ?_))
    intro q hq
    obtain rfl : q = false := by rw [hq, hn]; rfl
    (repeat(first|refine pSeq ?_|refine pReg ?_|refine sCons ?_|refine sNil ?_|refine rCons ?_|refine rNil ?_|refine kNo ?_|refine pRow ?_|refine pSkip ?_|refine pRet ?_|refine pCond ?_|refine gNone ?_|refine gOn rfl ?_|refine gOff rfl rfl ?_|refine gTup rfl ?_))
    refine (makeSet_w (k := [32, 9]) (by simp) (by simp)).mono fun v s1 q => ?_
    obtain ⟨rfl, c1⟩ := q
    (repeat(first|refine pSeq ?_|refine pReg ?_|refine sCons ?_|refine sNil ?_|refine rCons ?_|refine rNil ?_|refine kNo ?_|refine pRow ?_|refine pSkip ?_|refine pRet ?_|refine pCond ?_|refine gNone ?_|refine gOn rfl ?_|refine gOff rfl rfl ?_|refine gTup rfl ?_))
    have n1 := c1.next
    refine st_abs (cs := tab fun _ => false) rfl rfl lkH (Nat.lt_succ_self _) (tab_all1 _) (tab_row _ _) fun s2 e2 c2 n2 => ?_
    (repeat(first|refine pSeq ?_|refine pReg ?_|refine sCons ?_|refine sNil ?_|refine rCons ?_|refine rNil ?_|refine kNo ?_|refine pRow ?_|refine pSkip ?_|refine pRet ?_|refine pCond ?_|refine gNone ?_|refine gOn rfl ?_|refine gOff rfl rfl ?_|refine gTup rfl ?_))
    refine (trimR_w hl e2).mono fun v s2 q => ?_
    obtain ⟨rfl, rfl⟩ := q
    have hlen : (dropR l).length ≤ l.length := by
      unfold dropR
      have := (List.dropWhile_sublist (l := l.reverse) wh).length_le
      simp at this ⊢
      exact this
    (repeat(first|refine pSeq ?_|refine pReg ?_|refine sCons ?_|refine sNil ?_|refine rCons ?_|refine rNil ?_|refine kNo ?_|refine pRow ?_|refine pSkip ?_|refine pRet ?_|refine pCond ?_|refine gNone ?_|refine gOn rfl ?_|refine gOff rfl rfl ?_|refine gTup rfl ?_))
    refine (trimL_w (by omega) e2).mono fun v s2 q => ?_
    obtain ⟨rfl, rfl⟩ := q
    (repeat(first|refine pSeq ?_|refine pReg ?_|refine sCons ?_|refine sNil ?_|refine rCons ?_|refine rNil ?_|refine kNo ?_|refine pRow ?_|refine pSkip ?_|refine pRet ?_|refine pCond ?_|refine gNone ?_|refine gOn rfl ?_|refine gOff rfl rfl ?_|refine gTup rfl ?_))
    refine ⟨?_, (c1.nil (.new [])).fresh c2 (by simp; omega)⟩
    rw [trim_comm]
    show str _ = str _
    congr 4
    funext c
    exact in_wh c

theorem textTrim_w {s : SS} {l : List UInt8} (hl : l.length ≤ 1000000) : CallW pr n_text_Trim [str l] s fun v s' => v = str (trimF l) ∧ Chg s s' [] := by
  refine CallW.run good ok_text_Trim (by simp) rfl ?_
  (repeat(first|refine pSeq ?_|refine pReg ?_|refine sCons ?_|refine sNil ?_|refine pRet ?_|refine gNone ?_))
  refine (Trim_w hl).mono fun v s1 q => ?_
  obtain ⟨rfl, c1⟩ := q
  (repeat(first|refine pSeq ?_|refine pReg ?_|refine sCons ?_|refine sNil ?_|refine pRet ?_|refine gNone ?_))
  exact ⟨rfl, c1⟩

end Go.Vf.S
end
/- LbA -/
section
/- Parts of a text, by the library's calls. -/
namespace Go.Vf.S
open Go Go.Vf
attribute [local irreducible] wSeq wRow wp wG
set_option linter.unusedVariables false
set_option linter.unusedSimpArgs false
set_option maxRecDepth 10000

theorem ssuffix_w {s : SS} {a b : List UInt8} (ha : a.length ≤ 1000000) : CallW pr n_internal_stringslite_HasSuffix [str a, str b] s fun v s' => v = .bool (decide (b <:+ a)) ∧ s' = s := by
  refine CallW.run good ok_internal_stringslite_HasSuffix (by simp) rfl ?_
  (repeat(first|refine pSeq ?_|refine pReg ?_|refine sCons ?_|refine sNil ?_|refine pRet ?_|refine gNone ?_|refine gOn rfl ?_|refine gOff rfl rfl ?_|refine gTup rfl ?_))
  intro n hn
  (repeat(first|refine pSeq ?_|refine pReg ?_|refine sCons ?_|refine sNil ?_|refine pRet ?_|refine gNone ?_|refine gOn rfl ?_|refine gOff rfl rfl ?_|refine gTup rfl ?_))
  intro m hm
  (repeat(first|refine pSeq ?_|refine pReg ?_|refine sCons ?_|refine sNil ?_|refine pRet ?_|refine gNone ?_|refine gOn rfl ?_|refine gOff rfl rfl ?_|refine gTup rfl ?_))
  intro q hq
  by_cases h : b.length ≤ a.length
  · obtain rfl : q = true := by rw [hq]; simp <;> omega
    (repeat(first|refine pSeq ?_|refine pReg ?_|refine sCons ?_|refine sNil ?_|refine pRet ?_|refine gNone ?_|refine gOn rfl ?_|refine gOff rfl rfl ?_|refine gTup rfl ?_))
    intro n1 hn1
    (repeat(first|refine pSeq ?_|refine pReg ?_|refine sCons ?_|refine sNil ?_|refine pRet ?_|refine gNone ?_|refine gOn rfl ?_|refine gOff rfl rfl ?_|refine gTup rfl ?_))
    intro m1 hm1
    (repeat(first|refine pSeq ?_|refine pReg ?_|refine sCons ?_|refine sNil ?_|refine pRet ?_|refine gNone ?_|refine gOn rfl ?_|refine gOff rfl rfl ?_|refine gTup rfl ?_))
    intro z hz
    rw [i64_id (by omega)] at hz
    (repeat(first|refine pSeq ?_|refine pReg ?_|refine sCons ?_|refine sNil ?_|refine pRet ?_|refine gNone ?_|refine gOn rfl ?_|refine gOff rfl rfl ?_|refine gTup rfl ?_))
    refine ⟨by omega, ?_⟩
    intro k hk r hr
    obtain rfl : k = a.length - b.length := by omega
    (repeat(first|refine pSeq ?_|refine pReg ?_|refine sCons ?_|refine sNil ?_|refine pRet ?_|refine gNone ?_|refine gOn rfl ?_|refine gOff rfl rfl ?_|refine gTup rfl ?_))
    intro q hq
    (repeat(first|refine pSeq ?_|refine pReg ?_|refine sCons ?_|refine sNil ?_|refine pRet ?_|refine gNone ?_|refine gOn rfl ?_|refine gOff rfl rfl ?_|refine gTup rfl ?_))
    refine ⟨bool_eq ?_, rfl⟩
    rw [hq, hr, List.take_of_length_le (by simp), decide_eq_decide, List.suffix_iff_eq_drop]
    exact ⟨fun e => e.symm, fun e => e.symm⟩
  · obtain rfl : q = false := by rw [hq]; simp <;> omega
    (repeat(first|refine pSeq ?_|refine pReg ?_|refine sCons ?_|refine sNil ?_|refine pRet ?_|refine gNone ?_|refine gOn rfl ?_|refine gOff rfl rfl ?_|refine gTup rfl ?_))
    refine ⟨bool_eq ?_, rfl⟩
    symm
    rw [decide_eq_false_iff_not]
    exact fun q => h q.length_le

theorem cutS_w {s : SS} {a b : List UInt8} (ha : a.length ≤ 1000000) : CallW pr n_strings_CutSuffix [str a, str b] s fun v s' => v = .tuple ⟨[str (if b <:+ a then a.take (a.length - b.length) else a), .bool (decide (b <:+ a))]⟩ ∧ s' = s := by
  refine CallW.run good ok_strings_CutSuffix (by simp) rfl ?_
  (repeat(first|refine pSeq ?_|refine pReg ?_|refine sCons ?_|refine sNil ?_|refine pSkip ?_|refine pRet ?_|refine pCond ?_|refine gNone ?_))
  refine (show CallW pr n_internal_stringslite_CutSuffix [str a, str b] s fun v s' => v = .tuple ⟨[str (if b <:+ a then a.take (a.length - b.length) else a), .bool (decide (b <:+ a))]⟩ ∧ s' = s from ?_).mono fun v s q => ?_
  · refine CallW.run good ok_internal_stringslite_CutSuffix (by simp) rfl ?_
    (repeat(first|refine pSeq ?_|refine pReg ?_|refine sCons ?_|refine sNil ?_|refine pSkip ?_|refine pRet ?_|refine pCond ?_|refine gNone ?_))
    refine (ssuffix_w ha).mono fun v s q => ?_
    obtain ⟨rfl, rfl⟩ := q
    (repeat(first|refine pSeq ?_|refine pReg ?_|refine sCons ?_|refine sNil ?_|refine pSkip ?_|refine pRet ?_|refine pCond ?_|refine gNone ?_))
    intro q hq
    by_cases h : b <:+ a
    · obtain rfl : q = false := by rw [hq]; simp [h]
      have hle := h.length_le
      rw [if_pos h, decide_eq_true h]
      (repeat(first|refine pSeq ?_|refine pReg ?_|refine sCons ?_|refine sNil ?_|refine pSkip ?_|refine pRet ?_|refine pCond ?_|refine gNone ?_))
      intro n hn
      (repeat(first|refine pSeq ?_|refine pReg ?_|refine sCons ?_|refine sNil ?_|refine pSkip ?_|refine pRet ?_|refine pCond ?_|refine gNone ?_))
      intro m hm
      (repeat(first|refine pSeq ?_|refine pReg ?_|refine sCons ?_|refine sNil ?_|refine pSkip ?_|refine pRet ?_|refine pCond ?_|refine gNone ?_))
      intro z hz
      rw [i64_id (by omega)] at hz
      (repeat(first|refine pSeq ?_|refine pReg ?_|refine sCons ?_|refine sNil ?_|refine pSkip ?_|refine pRet ?_|refine pCond ?_|refine gNone ?_))
      refine ⟨by omega, ?_⟩
      intro k hk r hr
      obtain rfl : k = a.length - b.length := by omega
      rw [List.drop_zero, Nat.sub_zero] at hr
      subst hr
      (repeat(first|refine pSeq ?_|refine pReg ?_|refine sCons ?_|refine sNil ?_|refine pSkip ?_|refine pRet ?_|refine pCond ?_|refine gNone ?_))
      exact ⟨rfl, rfl⟩
    · obtain rfl : q = true := by rw [hq]; simp [h]
      rw [if_neg h, decide_eq_false h]
      (repeat(first|refine pSeq ?_|refine pReg ?_|refine sCons ?_|refine sNil ?_|refine pSkip ?_|refine pRet ?_|refine pCond ?_|refine gNone ?_))
      exact ⟨rfl, rfl⟩
  obtain ⟨rfl, rfl⟩ := q
  (repeat(first|refine pSeq ?_|refine pReg ?_|refine sCons ?_|refine sNil ?_|refine pSkip ?_|refine pRet ?_|refine pCond ?_|refine gNone ?_))
  exact ⟨rfl, rfl⟩

theorem sidx_w {s : SS} {l : List UInt8} {c : UInt8} : CallW pr n_internal_stringslite_Index [str l, str [c]] s fun v s' => v = .int .i64 (Lib.indexByte l c) ∧ s' = s := by
  refine CallW.run good ok_internal_stringslite_Index (by simp) rfl ?_
  (repeat(first|refine pSeq ?_|refine pReg ?_|refine sRaw ?_|refine sCons ?_|refine sNil ?_|refine pBlock ?_|refine pSkip ?_|refine pExit ?_|refine pRet ?_|refine pCond ?_|refine gNone ?_|refine gOn rfl ?_|refine gOff rfl rfl ?_|refine gTup rfl ?_))
  intro n hn
  (repeat(first|refine pSeq ?_|refine pReg ?_|refine sRaw ?_|refine sCons ?_|refine sNil ?_|refine pBlock ?_|refine pSkip ?_|refine pExit ?_|refine pRet ?_|refine pCond ?_|refine gNone ?_|refine gOn rfl ?_|refine gOff rfl rfl ?_|refine gTup rfl ?_))
  intro q hq
  obtain rfl : q = false := by rw [hq, hn]; rfl
  (repeat(first|refine pSeq ?_|refine pReg ?_|refine sRaw ?_|refine sCons ?_|refine sNil ?_|refine pBlock ?_|refine pSkip ?_|refine pExit ?_|refine pRet ?_|refine pCond ?_|refine gNone ?_|refine gOn rfl ?_|refine gOff rfl rfl ?_|refine gTup rfl ?_))
  intro q hq
  by_cases he : [c] = l
  · subst he
    obtain rfl : q = true := by rw [hq]; simp
    (repeat(first|refine pSeq ?_|refine pReg ?_|refine sRaw ?_|refine sCons ?_|refine sNil ?_|refine pBlock ?_|refine pSkip ?_|refine pExit ?_|refine pRet ?_|refine pCond ?_|refine gNone ?_|refine gOn rfl ?_|refine gOff rfl rfl ?_|refine gTup rfl ?_))
    exact ⟨by show Value.int .i64 0 = _; simp [Lib.indexByte], rfl⟩
  · obtain rfl : q = false := by rw [hq]; simp [he]
    (repeat(first|refine pSeq ?_|refine pReg ?_|refine sRaw ?_|refine sCons ?_|refine sNil ?_|refine pBlock ?_|refine pSkip ?_|refine pExit ?_|refine pRet ?_|refine pCond ?_|refine gNone ?_|refine gOn rfl ?_|refine gOff rfl rfl ?_|refine gTup rfl ?_))
    intro q hq
    obtain rfl : q = true := by rw [hq, hn]; rfl
    (repeat(first|refine pSeq ?_|refine pReg ?_|refine sRaw ?_|refine sCons ?_|refine sNil ?_|refine pBlock ?_|refine pSkip ?_|refine pExit ?_|refine pRet ?_|refine pCond ?_|refine gNone ?_|refine gOn rfl ?_|refine gOff rfl rfl ?_|refine gTup rfl ?_))
    refine ⟨by simp, ?_⟩
    intro m hm
    obtain rfl : m = 0 := by omega
    refine ⟨c, rfl, ?_⟩
    (repeat(first|refine pSeq ?_|refine pReg ?_|refine sRaw ?_|refine sCons ?_|refine sNil ?_|refine pBlock ?_|refine pSkip ?_|refine pExit ?_|refine pRet ?_|refine pCond ?_|refine gNone ?_|refine gOn rfl ?_|refine gOff rfl rfl ?_|refine gTup rfl ?_))
    refine indexByte_w.mono fun v s q => ?_
    obtain ⟨rfl, rfl⟩ := q
    (repeat(first|refine pSeq ?_|refine pReg ?_|refine sRaw ?_|refine sCons ?_|refine sNil ?_|refine pBlock ?_|refine pSkip ?_|refine pExit ?_|refine pRet ?_|refine pCond ?_|refine gNone ?_|refine gOn rfl ?_|refine gOff rfl rfl ?_|refine gTup rfl ?_))
    exact ⟨rfl, rfl⟩

def cutF (c : UInt8) (l : List UInt8) : List UInt8 × List UInt8 × Bool := if c ∈ l then (l.takeWhile (· != c), l.drop ((l.takeWhile (· != c)).length + 1), true) else (l, [], false)
theorem while_first {c : UInt8} {f r : List UInt8} (h : c ∉ f) : (f ++ c :: r).takeWhile (· != c) = f := by
  induction f with
  | nil => simp
  | cons x f ih =>
    have : x ≠ c := fun e => h (by simp [e])
    rw [List.cons_append, List.takeWhile_cons, if_pos (by simpa using this), ih fun q => h (by simp [q])]

theorem cut1_w {s : SS} {l : List UInt8} {c : UInt8} (hl : l.length ≤ 1000000) : CallW pr n_strings_Cut [str l, str [c]] s fun v s' => v = .tuple ⟨[str (cutF c l).1, str (cutF c l).2.1, .bool (cutF c l).2.2]⟩ ∧ s' = s := by
  refine CallW.run good ok_strings_Cut (by simp) rfl ?_
  (repeat(first|refine pSeq ?_|refine pReg ?_|refine sCons ?_|refine sNil ?_|refine rCons ?_|refine rNil ?_|refine kNo ?_|refine pRow ?_|refine pSkip ?_|refine pRet ?_|refine pCond ?_|refine gNone ?_))
  refine (show CallW pr n_internal_stringslite_Cut [str l, str [c]] s fun v s' => v = .tuple ⟨[str (cutF c l).1, str (cutF c l).2.1, .bool (cutF c l).2.2]⟩ ∧ s' = s from ?_).mono fun v s q => ?_
  · refine CallW.run good ok_internal_stringslite_Cut (by simp) rfl ?_
    (repeat(first|refine pSeq ?_|refine pReg ?_|refine sCons ?_|refine sNil ?_|refine rCons ?_|refine rNil ?_|refine kNo ?_|refine pRow ?_|refine pSkip ?_|refine pRet ?_|refine pCond ?_|refine gNone ?_))
    refine sidx_w.mono fun v s q => ?_
    obtain ⟨rfl, rfl⟩ := q
    by_cases hc : c ∈ l
    · obtain ⟨f, r, rfl, hf⟩ := List.eq_append_cons_of_mem hc
      have e : cutF c (f ++ c :: r) = (f, r, true) := by
        unfold cutF
        rw [if_pos hc, while_first hf, show f ++ c :: r = (f ++ [c]) ++ r by simp, show f.length + 1 = (f ++ [c]).length by simp, List.drop_left]
      have hn : (f ++ c :: r).length = f.length + 1 + r.length := by simp; omega
      rw [index_first hf, e]
      (repeat(first|refine pSeq ?_|refine pReg ?_|refine sCons ?_|refine sNil ?_|refine rCons ?_|refine rNil ?_|refine kNo ?_|refine pRow ?_|refine pSkip ?_|refine pRet ?_|refine pCond ?_|refine gNone ?_))
      intro q hq; obtain rfl : q = true := (by rw [hq]; simp <;> omega); (repeat(first|refine pSeq ?_|refine pReg ?_|refine sCons ?_|refine sNil ?_|refine rCons ?_|refine rNil ?_|refine kNo ?_|refine pRow ?_|refine pSkip ?_|refine pRet ?_|refine pCond ?_|refine gNone ?_))
      refine ⟨by omega, ?_⟩
      intro m hm g hg
      obtain rfl : m = f.length := by omega
      have eg : g = f := by rw [hg]; simp
      subst eg
      (repeat(first|refine pSeq ?_|refine pReg ?_|refine sCons ?_|refine sNil ?_|refine rCons ?_|refine rNil ?_|refine kNo ?_|refine pRow ?_|refine pSkip ?_|refine pRet ?_|refine pCond ?_|refine gNone ?_))
      intro n hn1
      (repeat(first|refine pSeq ?_|refine pReg ?_|refine sCons ?_|refine sNil ?_|refine rCons ?_|refine rNil ?_|refine kNo ?_|refine pRow ?_|refine pSkip ?_|refine pRet ?_|refine pCond ?_|refine gNone ?_))
      intro z hz
      rw [i64_id (by simp at hn1; omega)] at hz
      (repeat(first|refine pSeq ?_|refine pReg ?_|refine sCons ?_|refine sNil ?_|refine rCons ?_|refine rNil ?_|refine kNo ?_|refine pRow ?_|refine pSkip ?_|refine pRet ?_|refine pCond ?_|refine gNone ?_))
      refine ⟨by simp at hn1; omega, ?_⟩
      intro m hm t ht
      obtain rfl : m = g.length + 1 := by simp at hn1; omega
      have et : t = r := by rw [ht, List.take_of_length_le (by simp <;> omega), show g ++ c :: r = (g ++ [c]) ++ r by simp, show g.length + 1 = (g ++ [c]).length by simp, List.drop_left]
      clear ht hg
      subst et
      (repeat(first|refine pSeq ?_|refine pReg ?_|refine sCons ?_|refine sNil ?_|refine rCons ?_|refine rNil ?_|refine kNo ?_|refine pRow ?_|refine pSkip ?_|refine pRet ?_|refine pCond ?_|refine gNone ?_))
      exact ⟨rfl, rfl⟩
    · have e : cutF c l = (l, [], false) := by unfold cutF; rw [if_neg hc]
      rw [idx_no hc, e]
      (repeat(first|refine pSeq ?_|refine pReg ?_|refine sCons ?_|refine sNil ?_|refine rCons ?_|refine rNil ?_|refine kNo ?_|refine pRow ?_|refine pSkip ?_|refine pRet ?_|refine pCond ?_|refine gNone ?_))
      intro q hq; obtain rfl : q = false := (by rw [hq]; simp <;> omega); (repeat(first|refine pSeq ?_|refine pReg ?_|refine sCons ?_|refine sNil ?_|refine rCons ?_|refine rNil ?_|refine kNo ?_|refine pRow ?_|refine pSkip ?_|refine pRet ?_|refine pCond ?_|refine gNone ?_))
      exact ⟨rfl, rfl⟩
  obtain ⟨rfl, rfl⟩ := q
  (repeat(first|refine pSeq ?_|refine pReg ?_|refine sCons ?_|refine sNil ?_|refine rCons ?_|refine rNil ?_|refine kNo ?_|refine pRow ?_|refine pSkip ?_|refine pRet ?_|refine pCond ?_|refine gNone ?_))
  exact ⟨rfl, rfl⟩

theorem cut_len (c : UInt8) (l : List UInt8) : (cutF c l).1.length ≤ l.length ∧ (cutF c l).2.1.length ≤ l.length := by
  unfold cutF
  split
  · exact ⟨(List.takeWhile_prefix _).length_le, by simp⟩
  · simp
theorem idx_in {c : UInt8} {l : List UInt8} : (0 ≤ Lib.indexByte l c) ↔ c ∈ l := by
  constructor
  · intro h
    refine Classical.byContradiction fun hn => ?_
    rw [idx_no hn] at h
    omega
  · intro h
    obtain ⟨f, r, rfl, hf⟩ := List.eq_append_cons_of_mem h
    rw [index_first hf]
    omega
theorem contains1_w {s : SS} {l : List UInt8} {c : UInt8} : CallW pr n_strings_Contains [str l, str [c]] s fun v s' => v = .bool (decide (c ∈ l)) ∧ s' = s := by
  refine CallW.run good ok_strings_Contains (by simp) rfl ?_
  (repeat(first|refine pSeq ?_|refine pReg ?_|refine sCons ?_|refine sNil ?_|refine pRet ?_|refine gNone ?_))
  refine (show CallW pr n_strings_Index [str l, str [c]] s fun v s' => v = .int .i64 (Lib.indexByte l c) ∧ s' = s from ?_).mono fun v s q => ?_
  · refine CallW.run good ok_strings_Index (by simp) rfl ?_
    (repeat(first|refine pSeq ?_|refine pReg ?_|refine sCons ?_|refine sNil ?_|refine pRet ?_|refine gNone ?_))
    refine sidx_w.mono fun v s q => ?_
    obtain ⟨rfl, rfl⟩ := q
    (repeat(first|refine pSeq ?_|refine pReg ?_|refine sCons ?_|refine sNil ?_|refine pRet ?_|refine gNone ?_))
    exact ⟨rfl, rfl⟩
  obtain ⟨rfl, rfl⟩ := q
  (repeat(first|refine pSeq ?_|refine pReg ?_|refine sCons ?_|refine sNil ?_|refine pRet ?_|refine gNone ?_))
  intro q hq
  (repeat(first|refine pSeq ?_|refine pReg ?_|refine sCons ?_|refine sNil ?_|refine pRet ?_|refine gNone ?_))
  refine ⟨bool_eq ?_, rfl⟩
  rw [hq, decide_eq_decide]
  exact idx_in
end Go.Vf.S
end
/- LbB -/
section
/- Two bytes replaced. -/
namespace Go.Vf.S
open Go Go.Vf
set_option linter.unusedVariables false
set_option linter.unusedSimpArgs false
set_option maxRecDepth 10000

/-- Two bytes replaced, from the left. -/
def rep (a b : UInt8) (new : List UInt8) : List UInt8 → List UInt8
  | x :: y :: r => if x = a ∧ y = b then new ++ rep a b new r else x :: rep a b new (y :: r)
  | l => l

theorem pre_two (a b x : UInt8) (l : List UInt8) : [a, b].isPrefixOf (x :: l) = decide (x = a ∧ l.head? = some b) := by
  cases l with
  | nil => simp [List.isPrefixOf]
  | cons y r =>
    simp only [List.isPrefixOf, List.head?_cons, Bool.and_true]
    rw [Bool.eq_iff_iff]
    simp only [Bool.and_eq_true, beq_iff_eq, decide_eq_true_eq, Option.some.injEq]
    exact ⟨fun h => ⟨h.1.symm, h.2.symm⟩, fun h => ⟨h.1.symm, h.2.symm⟩⟩

theorem repK_skip {a b x : UInt8} {l new : List UInt8} (h : ¬(x = a ∧ l.head? = some b)) : ∀ k, Lib.replaceK [a, b] new k (x :: l) = x :: Lib.replaceK [a, b] new k l
  | 0 => rfl
  | k + 1 => by
    have hp : [a, b].isPrefixOf (x :: l) = false := by rw [pre_two]; exact decide_eq_false h
    have hge := Lib.index_ge l [a, b]
    have hi : Lib.index (x :: l) [a, b] = if Lib.index l [a, b] == -1 then -1 else Lib.index l [a, b] + 1 := by
      rw [Lib.index, hp]
      simp
    rw [Lib.replaceK, Lib.replaceK, hi]
    by_cases hm : Lib.index l [a, b] = -1
    · rw [hm]
      simp
    · have e1 : (Lib.index l [a, b] == -1) = false := by simpa using hm
      have e2 : ((Lib.index l [a, b] + 1) == -1) = false := by simp; omega
      rw [e1]
      simp only [Bool.false_eq_true, if_false, e2]
      rw [show (Lib.index l [a, b] + 1).toNat = (Lib.index l [a, b]).toNat + 1 by omega, List.take_succ_cons, show (Lib.index l [a, b]).toNat + 1 + [a, b].length = ((Lib.index l [a, b]).toNat + [a, b].length) + 1 by omega, List.drop_succ_cons]
      rfl
theorem count_skip {a b x : UInt8} {l : List UInt8} (h : ¬(x = a ∧ l.head? = some b)) : Lib.count (x :: l) [a, b] = Lib.count l [a, b] := by
  have hp : [a, b].isPrefixOf (x :: l) = false := by rw [pre_two]; exact decide_eq_false h
  have hge := Lib.index_ge l [a, b]
  have hi : Lib.index (x :: l) [a, b] = if Lib.index l [a, b] == -1 then -1 else Lib.index l [a, b] + 1 := by
    rw [Lib.index, hp]
    simp
  by_cases hm : Lib.index l [a, b] = -1
  · rw [Lib.count_miss hm, Lib.count_miss (by rw [hi, hm]; rfl)]
  · have e1 : (Lib.index l [a, b] == -1) = false := by simpa using hm
    obtain ⟨i, hi2⟩ : ∃ i : Nat, Lib.index l [a, b] = i := ⟨(Lib.index l [a, b]).toNat, by omega⟩
    rw [Lib.count_hit (i := i) (by simp) hi2, Lib.count_hit (i := i + 1) (by simp) (by rw [hi, e1, hi2]; simp)]
    rw [show i + 1 + [a, b].length = (i + [a, b].length) + 1 by omega, List.drop_succ_cons]

theorem repK_rep {a b : UInt8} {new : List UInt8} : ∀ (n : Nat) (l : List UInt8), l.length ≤ n → Lib.replaceK [a, b] new (Lib.count l [a, b]) l = rep a b new l
  | 0, l, h => by
    obtain rfl : l = [] := List.length_eq_zero_iff.1 (by omega)
    rfl
  | n + 1, [], _ => rfl
  | n + 1, [x], _ => by
    rw [count_skip (by simp), repK_skip (by simp)]
    rfl
  | n + 1, x :: y :: r, h => by
    simp only [List.length_cons] at h
    rw [rep]
    by_cases hxy : x = a ∧ y = b
    · obtain ⟨rfl, rfl⟩ := hxy
      rw [if_pos ⟨rfl, rfl⟩]
      have hi : Lib.index (x :: y :: r) [x, y] = (0 : Nat) := by
        rw [Lib.index, pre_two]
        simp
      rw [Lib.count_hit (by simp) hi, Nat.add_comm, Lib.replaceK_hit _ _ _ _ 0 hi]
      simp only [List.take_zero, List.nil_append, Nat.zero_add, List.length_cons, List.length_nil]
      rw [show (x :: y :: r).drop 2 = r from rfl, repK_rep n r (by omega)]
    · rw [if_neg hxy]
      have hno : ¬(x = a ∧ (y :: r).head? = some b) := by simpa using hxy
      rw [count_skip hno, repK_skip hno, repK_rep n (y :: r) (by simp; omega)]

theorem replace_rep {a b : UInt8} {new l : List UInt8} (h : [a, b] ≠ new) : Lib.replaceAll l [a, b] new = rep a b new l := by
  unfold Lib.replaceAll Lib.replace Lib.replaceNum
  rw [if_neg (by simpa using h), if_pos (.inl (by omega))]
  exact repK_rep _ l (Nat.le_refl _)

theorem rep_cons {a b : UInt8} {new : List UInt8} {x y : UInt8} {r : List UInt8} : rep a b new (x :: y :: r) = if x = a ∧ y = b then new ++ rep a b new r else x :: rep a b new (y :: r) := by rw [rep]

end Go.Vf.S
end
/- LbC -/
section
/- What a call of the library's is told. -/
namespace Go.Vf.S
open Go Go.Vf Go.Proofs Go.RowKit
set_option linter.unusedVariables false
set_option linter.unusedSimpArgs false
set_option maxRecDepth 10000

theorem tyNe {H : List (Nat × Option ABlk)} {i j : Nat} {c c' : List Value} {t t' : TypeId} {g g' r r' : Bool} (h : lookH H i = some (.cells c t g r)) (h' : lookH H j = some (.cells c' t' g' r')) (ht : t ≠ t') : i ≠ j := by
  intro e
  subst e
  rw [h] at h'
  cases h'
  exact ht rfl

abbrev gMx : Nat := 0
/-- The library's own number lies there. -/
def Gx (s : SS) : Prop := gMx < s.gl ∧ gMx < s.next ∧ ∃ m, lookH s.heap gMx = some (.cells [.int .i64 m] 3 false true)
theorem Gx.chg {s s' : SS} (h : Gx s) (c : Chg s s' []) : Gx s' := by
  obtain ⟨h1, h2, m, h3⟩ := h
  exact ⟨by rw [c.gl]; exact h1, Nat.lt_of_lt_of_le h2 c.next, m, c.blk _ _ h2 (by simp) h3⟩

theorem lrel_1 {ρ : Ren} {a : Value} {args' : List Value} (h : LRel ρ [a] args') : ∃ v1, args' = [v1] ∧ VRel ρ a v1 := by
  obtain ⟨h1, h2⟩ := h
  match args', h1 with
  | [v1], _ => exact ⟨v1, rfl, h2 0 _ _ rfl rfl⟩
theorem lrel_2 {ρ : Ren} {a b : Value} {args' : List Value} (h : LRel ρ [a, b] args') : ∃ v1 v2, args' = [v1, v2] ∧ VRel ρ a v1 ∧ VRel ρ b v2 := by
  obtain ⟨h1, h2⟩ := h
  match args', h1 with
  | [v1, v2], _ => exact ⟨v1, v2, rfl, h2 0 _ _ rfl rfl, h2 1 _ _ rfl rfl⟩
theorem lrel_3 {ρ : Ren} {a b c : Value} {args' : List Value} (h : LRel ρ [a, b, c] args') : ∃ v1 v2 v3, args' = [v1, v2, v3] ∧ VRel ρ a v1 ∧ VRel ρ b v2 ∧ VRel ρ c v3 := by
  obtain ⟨h1, h2⟩ := h
  match args', h1 with
  | [v1, v2, v3], _ => exact ⟨v1, v2, v3, rfl, h2 0 _ _ rfl rfl, h2 1 _ _ rfl rfl, h2 2 _ _ rfl rfl⟩

def asc (l : List UInt8) : Prop := ∀ c ∈ l, c.toNat < 128
theorem asc_at {l : List UInt8} (h : asc l) : ∀ (j : Nat) (b : UInt8), (⟨⟨l⟩⟩ : ByteArray).data.toList[j]? = some b → b.toNat < 128 := fun j b hb => h b (List.mem_of_getElem? hb)

end Go.Vf.S
end

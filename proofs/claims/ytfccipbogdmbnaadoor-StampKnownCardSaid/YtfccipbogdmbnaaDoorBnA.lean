import Derived.Test.YtfccipbogdmbnaaDoorFn
import Derived.Test.YtfccipbogdmbnaaDoorEngBe
import Derived.Lib.Replace
import Derived.Lib.CountLaws
import Derived.Test.YtfccipbogdmbnaaDoorEngBd
/- TxA -/
section
/- Plain bytes; what a text begins with. -/
namespace Go.Vf.S
open Go Go.Vf
attribute [local irreducible] wSeq wRow wp wG
set_option linter.unusedVariables false
set_option linter.unusedSimpArgs false
set_option maxRecDepth 10000

abbrev tS : TypeId := 9
abbrev tB : TypeId := 5
theorem sz_B : sizeB pr tB = some 1 := by kernel_rfl
theorem un_S : pr.underlying tS = some .string := by kernel_rfl

/-- A text. -/
abbrev str (l : List UInt8) : Value := .string ⟨⟨l⟩⟩
def plainB (c : UInt8) : Bool := decide (32 ≤ c.toNat ∧ c.toNat ≤ 126)
theorem bool_eq {a b : Bool} (h : a = b) : one [Value.bool a] = Value.bool b := by subst h; rfl

theorem sprefix_w {s : SS} {a b : List UInt8} : CallW pr n_internal_stringslite_HasPrefix [str a, str b] s fun v s' => v = .bool (decide (a.take b.length = b)) ∧ s' = s := by
  refine CallW.run good ok_internal_stringslite_HasPrefix (by simp) rfl ?_
  (repeat(first|refine pSeq ?_|refine pReg ?_|refine sCons ?_|refine sNil ?_|refine pRet ?_|refine gNone ?_|refine gOn rfl ?_|refine gOff rfl rfl ?_|refine gTup rfl ?_))
  intro n hn
  (repeat(first|refine pSeq ?_|refine pReg ?_|refine sCons ?_|refine sNil ?_|refine pRet ?_|refine gNone ?_|refine gOn rfl ?_|refine gOff rfl rfl ?_|refine gTup rfl ?_))
  intro m hm
  (repeat(first|refine pSeq ?_|refine pReg ?_|refine sCons ?_|refine sNil ?_|refine pRet ?_|refine gNone ?_|refine gOn rfl ?_|refine gOff rfl rfl ?_|refine gTup rfl ?_))
  intro q hq
  by_cases h : b.length ≤ a.length
  · obtain rfl : q = true := by rw [hq]; simp; omega
    (repeat(first|refine pSeq ?_|refine pReg ?_|refine sCons ?_|refine sNil ?_|refine pRet ?_|refine gNone ?_|refine gOn rfl ?_|refine gOff rfl rfl ?_|refine gTup rfl ?_))
    intro m hm
    (repeat(first|refine pSeq ?_|refine pReg ?_|refine sCons ?_|refine sNil ?_|refine pRet ?_|refine gNone ?_|refine gOn rfl ?_|refine gOff rfl rfl ?_|refine gTup rfl ?_))
    refine ⟨by omega, ?_⟩
    intro m2 hm2 z hz
    obtain rfl : m2 = b.length := by omega
    (repeat(first|refine pSeq ?_|refine pReg ?_|refine sCons ?_|refine sNil ?_|refine pRet ?_|refine gNone ?_|refine gOn rfl ?_|refine gOff rfl rfl ?_|refine gTup rfl ?_))
    intro q hq
    (repeat(first|refine pSeq ?_|refine pReg ?_|refine sCons ?_|refine sNil ?_|refine pRet ?_|refine gNone ?_|refine gOn rfl ?_|refine gOff rfl rfl ?_|refine gTup rfl ?_))
    subst hq hz
    exact ⟨bool_eq (by simp), rfl⟩
  · obtain rfl : q = false := by rw [hq]; simp; omega
    (repeat(first|refine pSeq ?_|refine pReg ?_|refine sCons ?_|refine sNil ?_|refine pRet ?_|refine gNone ?_|refine gOn rfl ?_|refine gOff rfl rfl ?_|refine gTup rfl ?_))
    have : a.take b.length ≠ b := fun e => by have := congrArg List.length e; rw [List.length_take] at this; omega
    exact ⟨bool_eq (by simp [this]), rfl⟩

theorem prefix_w {s : SS} {a b : List UInt8} : CallW pr n_strings_HasPrefix [str a, str b] s fun v s' => v = .bool (decide (a.take b.length = b)) ∧ s' = s := by
  refine CallW.run good ok_strings_HasPrefix (by simp) rfl ?_
  (repeat(first|refine pSeq ?_|refine pReg ?_|refine sCons ?_|refine sNil ?_|refine pRet ?_|refine gNone ?_))
  refine sprefix_w.mono fun v s q => ?_
  obtain ⟨rfl, rfl⟩ := q
  (repeat(first|refine pSeq ?_|refine pReg ?_|refine sCons ?_|refine sNil ?_|refine pRet ?_|refine gNone ?_))
  exact ⟨rfl, rfl⟩

theorem all_no {l : List UInt8} {p : Nat} {c : UInt8} {f : UInt8 → Bool} (h : l[p]? = some c) (hf : f c = false) : l.all f = false := by
  rw [List.all_eq_false]
  exact ⟨c, List.mem_of_getElem? h, by simp [hf]⟩
theorem plain_no {c : UInt8} (h : ¬ plainB c = true) : plainB c = false := by simpa using h
theorem plain_hi {c : UInt8} (h : 128 ≤ c.toNat) : plainB c = false := by unfold plainB; simp; omega

end Go.Vf.S
end
/- TxB -/
section
/- A text, quoted. -/
namespace Go.Vf.S
open Go Go.Vf
attribute [local irreducible] wSeq wRow wp wG
set_option linter.unusedVariables false
set_option linter.unusedSimpArgs false
set_option maxRecDepth 10000

def needs (c : UInt8) : Bool := decide (c.toNat = 34 ∨ c.toNat = 92)
def escB (c : UInt8) : List UInt8 := if needs c then [92, c] else [c]
def quoteL (l : List UInt8) : List UInt8 := 34 :: l.flatMap escB ++ [34]
/-- What Quote tells. -/
def quoteF (l : List UInt8) : List UInt8 × Nat := if l.all plainB then (quoteL l, 0) else ([], 5)

theorem flat_next {l : List UInt8} {p : Nat} {c : UInt8} (h : l[p]? = some c) : (l.take (p + 1)).flatMap escB = (l.take p).flatMap escB ++ escB c := by
  rw [take_next h]; simp
theorem esc_len : ∀ l : List UInt8, l.length ≤ (l.flatMap escB).length ∧ (l.flatMap escB).length ≤ 2 * l.length
  | [] => by simp
  | c :: l => by
    have := esc_len l
    have : 1 ≤ (escB c).length ∧ (escB c).length ≤ 2 := by unfold escB; split <;> simp
    simp only [List.flatMap_cons, List.length_append, List.length_cons]
    omega
theorem take_esc {l : List UInt8} (p : Nat) : ((l.take p).flatMap escB).length ≤ 2 * l.length := by
  have := (esc_len (l.take p)).2
  rw [List.length_take] at this
  omega

/-- What stands behind so many bytes of a text. -/
def qO (l : List UInt8) (p : Nat) : List UInt8 := 34 :: (l.take p).flatMap escB
theorem qO_next {l : List UInt8} {p : Nat} {c : UInt8} (h : l[p]? = some c) : qO l (p + 1) = qO l p ++ escB c := by unfold qO; rw [flat_next h]; rfl
theorem qO_len {l : List UInt8} (p : Nat) : (qO l p).length ≤ 2 * l.length + 1 := Nat.succ_le_succ (take_esc p)
theorem qO_end {l : List UInt8} {p : Nat} (h : l.length ≤ p) : qO l p ++ [34] = quoteL l := by unfold qO quoteL; rw [List.take_of_length_le h]

structure QIt where
  p : Nat
  s : SS
  base : Option Addr
  cap : Nat

def QAt (s0 : SS) (id : Nat) (l : List UInt8) (out : List UInt8) (x : QIt) : Prop :=
  At s0 id l ⟨x.p, x.s⟩ ∧ Buf tB x.s x.base x.cap out ∧ ∀ i ∈ blkOf x.base, s0.next ≤ i ∧ i ≠ id

end Go.Vf.S
end
/- TxC -/
section
/- What a quoted string at the front stands for. -/
namespace Go.Vf.S
open Go Go.Vf
attribute [local irreducible] wSeq wRow wp wG
set_option linter.unusedVariables false
set_option linter.unusedSimpArgs false
set_option maxRecDepth 10000

/-- Behind the first quote, byte by byte. -/
def qd : List UInt8 → Bool → List UInt8 → Nat → List UInt8 × Nat × Nat
  | [], _, _, _ => ([], 0, 4)
  | c :: r, e, o, i => if plainB c = true then
      (if e = false ∧ c.toNat = 34 then (o, i + 2, 0) else if e = false ∧ c.toNat = 92 then qd r true o (i + 1) else qd r false (o ++ [c]) (i + 1))
    else ([], 0, 5)
def quotedF (l : List UInt8) : List UInt8 × Nat × Nat := if l.take 1 = [34] then qd (l.drop 1) false [] 0 else ([], 0, 5)
abbrev qRes (q : List UInt8 × Nat × Nat) : Value := .tuple ⟨[str q.1, .int .i64 q.2.1, .int .i64 q.2.2]⟩

structure RIt where
  p : Nat
  s : SS
  base : Option Addr
  out : List UInt8
  e : Bool

end Go.Vf.S
end
/- TxD -/
section
/- A comment at the front. -/
namespace Go.Vf.S
open Go Go.Vf
attribute [local irreducible] wSeq wRow wp wG
set_option linter.unusedVariables false
set_option linter.unusedSimpArgs false
set_option maxRecDepth 10000

/-- Byte by byte: so deep, behind a backslash or not. -/
def cm : List UInt8 → Nat → Bool → Nat → Nat × Nat
  | [], _, _, _ => (0, 4)
  | c :: r, d, e, i =>
    if plainB c = false ∧ (e = true ∨ c.toNat ≠ 9) then (0, 5)
    else if e = true then cm r d false (i + 1)
    else if c.toNat = 92 then cm r d true (i + 1)
    else if c.toNat = 40 ∧ d = 8 then (0, 3)
    else if c.toNat = 40 then cm r (d + 1) false (i + 1)
    else if c.toNat = 41 ∧ d = 1 then (i + 1, 0)
    else if c.toNat = 41 then cm r (d - 1) false (i + 1)
    else cm r d false (i + 1)
def commentF (l : List UInt8) : Nat × Nat := if l.take 1 = [40] then cm l 0 false 0 else (0, 5)
abbrev cRes (q : Nat × Nat) : Value := .tuple ⟨[.int .i64 q.1, .int .i64 q.2]⟩

structure CIt where
  p : Nat
  s : SS
  d : Nat
  e : Bool

end Go.Vf.S
end
/- TxE -/
section
/- The document's comment at the front. -/
namespace Go.Vf.S
open Go Go.Vf
attribute [local irreducible] wSeq wRow wp wG
set_option linter.unusedVariables false
set_option linter.unusedSimpArgs false
set_option maxRecDepth 10000

/-- What the document's own way tells of a comment that begins at a place, so deep. -/
def CmAt (l : List UInt8) (a d n e : Nat) : Prop :=
  if d ≤ 8 then (if e = 0 then a < n ∧ n ≤ l.length ∧ cm (l.drop (a + 1)) d false (a + 1) = (if d = 1 then (n, 0) else cm (l.drop n) (d - 1) false n) else n = 0 ∧ cm (l.drop (a + 1)) d false (a + 1) = (0, e)) else n = 0 ∧ e = 3

theorem CmAt.err {l : List UInt8} {a d e : Nat} (hd : d ≤ 8) (he : e ≠ 0) (h : cm (l.drop (a + 1)) d false (a + 1) = (0, e)) : CmAt l a d 0 e := by
  unfold CmAt
  rw [if_pos hd, if_neg he]
  exact ⟨rfl, h⟩

end Go.Vf.S
end
/- TxF -/
section
/- Sets of bytes; what is taken off a text's ends. -/
namespace Go.Vf.S
open Go Go.Vf
attribute [local irreducible] wSeq wRow wp wG
set_option linter.unusedVariables false
set_option linter.unusedSimpArgs false
set_option maxRecDepth 10000

/-- A set of bytes, laid out. -/
def tab (f : Nat → Bool) : List Value := (List.range 256).map fun i => .bool (f i)
theorem tab_len (f : Nat → Bool) : (tab f).length = 256 := by simp [tab]
theorem tab_get {f : Nat → Bool} {i : Nat} (h : i < 256) : (tab f)[i]? = some (.bool (f i)) := by simp [tab, h]
theorem tab_take (f : Nat → Bool) : takeN 256 ((tab f).drop 0) = some (tab f) := by
  rw [List.drop_zero, takeN_take _ _ (by rw [tab_len]; omega), List.take_of_length_le (by rw [tab_len]; omega)]
theorem setRow_one : ∀ {l : List Value} {i : Nat} {v : Value}, i < l.length → setRow l i [v] = some (l.set i v)
  | x :: l, 0, v, _ => by cases l <;> rfl
  | x :: l, i + 1, v, h => by simp only [setRow, setRow_one (show i < l.length by simpa using h), List.set_cons_succ]
theorem setRow_all : ∀ {l m : List Value}, l.length = m.length → setRow l 0 m = some m
  | [], [], _ => rfl
  | x :: l, y :: m, h => by simp only [setRow, setRow_all (l := l) (m := m) (by simpa using h)]
theorem flat_tab (f : Nat → Bool) : flat (.agg ⟨tab f⟩) = tab f := rfl
theorem tab_set {f : Nat → Bool} {i : Nat} (h : i < 256) : setRow (tab f) i [.bool true] = some (tab fun k => f k || k == i) := by
  rw [setRow_one (by rw [tab_len]; exact h)]
  congr 1
  apply List.ext_getElem? fun j => ?_
  rw [List.getElem?_set, tab_len]
  by_cases q : j < 256
  · rw [tab_get q]
    by_cases e : i = j
    · subst e; rw [tab_get h]; simp [h]
    · rw [if_neg e, tab_get q]; simp [Ne.symm e]
  · rw [List.getElem?_eq_none (by rw [tab_len]; omega), if_neg (by omega), List.getElem?_eq_none (by rw [tab_len]; omega)]
theorem tab_all1 (f : Nat → Bool) : (Nat.beq (flat (.agg ⟨tab f⟩)).length 256 && all1 (flat (.agg ⟨tab f⟩))) = true := by
  rw [flat_tab, tab_len]
  have : ∀ l : List Nat, all1 (l.map fun i => Value.bool (f i)) = true := fun l => by
    induction l with
    | nil => rfl
    | cons a l ih => exact ih
  exact this _
theorem tab_row (f g : Nat → Bool) : setRow (tab f) 0 (flat (.agg ⟨tab g⟩)) = some (tab g) := by
  rw [flat_tab]
  exact setRow_all (by rw [tab_len, tab_len])

def inB (k : List UInt8) (i : Nat) : Bool := k.any fun c => c.toNat == i

structure SIt where
  i : Nat
  s : SS

/-- White space. -/
def wh (c : UInt8) : Bool := decide (c.toNat = 32 ∨ c.toNat = 9)

end Go.Vf.S
end
/- TxG -/
section
/- White space and comments at the front. -/
namespace Go.Vf.S
open Go Go.Vf
attribute [local irreducible] wSeq wRow wp wG
set_option linter.unusedVariables false
set_option linter.unusedSimpArgs false
set_option maxRecDepth 10000

def bl : Nat → List UInt8 → Nat → Nat × Nat
  | 0, _, a => (a, 0)
  | f + 1, l, a =>
    if (l.dropWhile wh).take 1 = [40] then
      (if (commentF (l.dropWhile wh)).2 = 0 then bl f ((l.dropWhile wh).drop (commentF (l.dropWhile wh)).1) (a + (l.length - (l.dropWhile wh).length) + (commentF (l.dropWhile wh)).1) else (0, (commentF (l.dropWhile wh)).2))
    else (a + (l.length - (l.dropWhile wh).length), 0)
def blankF (l : List UInt8) : Nat × Nat := bl (l.length + 1) l 0

theorem dropW_len (l : List UInt8) : (l.dropWhile wh).length ≤ l.length := (List.dropWhile_sublist wh).length_le
theorem dropW (l : List UInt8) : l.dropWhile wh = l.drop (l.length - (l.dropWhile wh).length) := by
  obtain ⟨t, ht⟩ := List.dropWhile_suffix (l := l) wh
  have e := congrArg List.length ht
  rw [List.length_append] at e
  rw [show l.length - (l.dropWhile wh).length = t.length by omega]
  conv => rhs; rw [← ht]
  rw [List.drop_left]

theorem cm_pos : ∀ (l : List UInt8) (d : Nat) (e : Bool) (i n : Nat), cm l d e i = (n, 0) → i < n ∧ n ≤ i + l.length
  | [], d, e, i, n, h => by simp [cm] at h
  | c :: r, d, e, i, n, h => by
    have ih := fun d e n h => cm_pos r d e (i + 1) n h
    rw [cm] at h
    simp only [List.length_cons]
    split at h
    · cases h
    · repeat' split at h
      all_goals first | (have := ih _ _ _ h; omega) | (cases h; omega) | cases h
theorem comment_pos {l : List UInt8} (h : (commentF l).2 = 0) : 0 < (commentF l).1 ∧ (commentF l).1 ≤ l.length := by
  unfold commentF at h ⊢
  split at h
  · rename_i q
    rw [if_pos q]
    have := cm_pos l 0 false 0 (cm l 0 false 0).1 (Prod.ext rfl h)
    omega
  · cases h

theorem bl_nil {f a : Nat} (hf : 0 < f) : bl f [] a = (a, 0) := by
  cases f with
  | zero => omega
  | succ f => simp [bl]
theorem bl_wh {f a : Nat} {c : UInt8} {r : List UInt8} (hf : 0 < f) (h : wh c = true) : bl f (c :: r) a = bl f r (a + 1) := by
  cases f with
  | zero => omega
  | succ f =>
    have e : (c :: r).dropWhile wh = r.dropWhile wh := by rw [List.dropWhile_cons, if_pos h]
    have := dropW_len r
    rw [bl, bl, e, List.length_cons, show a + (r.length + 1 - (r.dropWhile wh).length) = a + 1 + (r.length - (r.dropWhile wh).length) by omega]
theorem bl_no {f a : Nat} {c : UInt8} {r : List UInt8} (hf : 0 < f) (h : wh c = false) (h40 : c.toNat ≠ 40) : bl f (c :: r) a = (a, 0) := by
  cases f with
  | zero => omega
  | succ f =>
    have e : (c :: r).dropWhile wh = c :: r := by rw [List.dropWhile_cons, if_neg (by simp [h])]
    rw [bl, e, if_neg (by simp; intro q; exact h40 (by rw [q]; rfl))]
    simp
theorem bl_open {f a : Nat} {c : UInt8} {r : List UInt8} (h40 : c.toNat = 40) : bl (f + 1) (c :: r) a = if (commentF (c :: r)).2 = 0 then bl f ((c :: r).drop (commentF (c :: r)).1) (a + (commentF (c :: r)).1) else (0, (commentF (c :: r)).2) := by
  have hw : wh c = false := by unfold wh; simp; omega
  have e : (c :: r).dropWhile wh = c :: r := by rw [List.dropWhile_cons, if_neg (by simp [hw])]
  rw [bl, e, if_pos (by simp; exact UInt8.toNat_inj.1 h40), Nat.sub_self, Nat.add_zero]

structure BIt where
  f : Nat
  m : Nat
  s : SS

end Go.Vf.S
end
/- TxH -/
section
/- The chapter's rows. -/
namespace Go.Vf.S
open Go Go.Vf
attribute [local irreducible] wSeq wRow wp wG
set_option linter.unusedVariables false
set_option linter.unusedSimpArgs false
set_option maxRecDepth 10000

end Go.Vf.S
end
/- TxJ -/
section
/- There and back. -/
namespace Go.Vf.S
open Go Go.Vf
attribute [local irreducible] wSeq wRow wp wG
set_option linter.unusedVariables false
set_option linter.unusedSimpArgs false
set_option maxRecDepth 10000

def eL (l : List UInt8) : Nat := (l.flatMap escB).length
theorem esc_one (c : UInt8) : (escB c).length = if needs c then 2 else 1 := by unfold escB; split <;> rfl
theorem eL_cons (c : UInt8) (l : List UInt8) : eL (c :: l) = (escB c).length + eL l := by simp [eL]
theorem eL_append (a b : List UInt8) : eL (a ++ b) = eL a + eL b := by simp [eL]
theorem plain_34 {c : UInt8} (h : c.toNat = 34) : plainB c = true := by unfold plainB; simp; omega
theorem plain_92 {c : UInt8} (h : c.toNat = 92) : plainB c = true := by unfold plainB; simp; omega

/-- What was quoted, read again. -/
theorem qd_esc : ∀ (l o r : List UInt8) (i : Nat), l.all plainB = true → qd (l.flatMap escB ++ 34 :: r) false o i = (o ++ l, i + eL l + 2, 0)
  | [], o, r, i, _ => by
    have h34 : (34 : UInt8).toNat = 34 := rfl
    show qd (34 :: r) false o i = _
    rw [qd, if_pos (plain_34 h34), if_pos ⟨rfl, h34⟩, List.append_nil]
    rfl
  | c :: l, o, r, i, h => by
    rw [List.all_cons, Bool.and_eq_true] at h
    rw [List.flatMap_cons, List.append_assoc, eL_cons]
    by_cases hn : needs c = true
    · have e : escB c = [92, c] := by unfold escB; rw [if_pos hn]
      have h92 : (92 : UInt8).toNat = 92 := rfl
      rw [e]
      show qd (92 :: c :: (l.flatMap escB ++ 34 :: r)) false o i = _
      rw [qd, if_pos (plain_92 h92), if_neg (fun q => by omega), if_pos ⟨rfl, h92⟩, qd, if_pos h.1, if_neg (fun q => by cases q.1), if_neg (fun q => by cases q.1), qd_esc l _ r _ h.2]
      simp only [List.append_assoc, List.singleton_append, List.length_cons, List.length_nil, Prod.mk.injEq, true_and, and_true]
      omega
    · have e : escB c = [c] := by unfold escB; rw [if_neg hn]
      have hc : ¬c.toNat = 34 ∧ ¬c.toNat = 92 := by simpa [needs] using hn
      rw [e]
      show qd (c :: (l.flatMap escB ++ 34 :: r)) false o i = _
      rw [qd, if_pos h.1, if_neg (fun q => hc.1 q.2), if_neg (fun q => hc.2 q.2), qd_esc l _ r _ h.2]
      simp only [List.append_assoc, List.singleton_append, List.length_cons, List.length_nil, Prod.mk.injEq, true_and, and_true]
      omega

/-- What was quoted, cut short. -/
theorem qd_cut : ∀ (l o : List UInt8) (i k : Nat), l.all plainB = true → k ≤ eL l → qd ((l.flatMap escB ++ [34]).take k) false o i = ([], 0, 4)
  | l, o, i, 0, _, _ => by rw [List.take_zero, qd]
  | [], o, i, k + 1, _, hk => by simp [eL] at hk
  | c :: l, o, i, k + 1, h, hk => by
    rw [List.all_cons, Bool.and_eq_true] at h
    rw [eL_cons] at hk
    rw [List.flatMap_cons, List.append_assoc]
    by_cases hn : needs c = true
    · have e : escB c = [92, c] := by unfold escB; rw [if_pos hn]
      have h92 : (92 : UInt8).toNat = 92 := rfl
      rw [e] at hk ⊢
      show qd (92 :: (c :: (l.flatMap escB ++ [34])).take k) false o i = _
      rw [qd, if_pos (plain_92 h92), if_neg (fun q => by omega), if_pos ⟨rfl, h92⟩]
      cases k with
      | zero => rw [List.take_zero, qd]
      | succ k =>
        rw [List.take_succ_cons, qd, if_pos h.1, if_neg (fun q => by cases q.1), if_neg (fun q => by cases q.1), qd_cut l _ _ k h.2 (by simp only [List.length_cons, List.length_nil] at hk; omega)]
    · have e : escB c = [c] := by unfold escB; rw [if_neg hn]
      have hc : ¬c.toNat = 34 ∧ ¬c.toNat = 92 := by simpa [needs] using hn
      rw [e] at hk ⊢
      show qd (c :: (l.flatMap escB ++ [34]).take k) false o i = _
      rw [qd, if_pos h.1, if_neg (fun q => hc.1 q.2), if_neg (fun q => hc.2 q.2), qd_cut l _ _ k h.2 (by simp only [List.length_cons, List.length_nil] at hk; omega)]

/-- What is told of a text that is quoted: plain, no longer than it stood there. -/
theorem qd_is : ∀ (l : List UInt8) (e : Bool) (o : List UInt8) (i : Nat) (t : List UInt8) (n : Nat), o.all plainB = true → qd l e o i = (t, n, 0) →
    t.all plainB = true ∧ i + 2 ≤ n ∧ n ≤ i + 1 + l.length ∧ l[n - 2 - i]? = some 34 ∧ eL t + i + (if e then 1 else 2) ≤ n + eL o
  | [], e, o, i, t, n, ho, h => by rw [qd] at h; cases h
  | c :: l, e, o, i, t, n, ho, h => by
    rw [qd] at h
    by_cases hp : plainB c = true
    · rw [if_pos hp] at h
      have next : ∀ (e' : Bool) (o' : List UInt8), o'.all plainB = true → qd l e' o' (i + 1) = (t, n, 0) → (eL o' + (if e then 1 else 2) ≤ eL o + 1 + (if e' then 1 else 2)) →
          t.all plainB = true ∧ i + 2 ≤ n ∧ n ≤ i + 1 + (c :: l).length ∧ (c :: l)[n - 2 - i]? = some 34 ∧ eL t + i + (if e then 1 else 2) ≤ n + eL o := fun e' o' ho' h' he => by
        obtain ⟨q1, q2, q3, q4, q5⟩ := qd_is l e' o' (i + 1) t n ho' h'
        refine ⟨q1, by omega, by simp; omega, ?_, by omega⟩
        rw [show n - 2 - i = n - 2 - (i + 1) + 1 by omega, List.getElem?_cons_succ]
        exact q4
      by_cases h34 : e = false ∧ c.toNat = 34
      · rw [if_pos h34] at h
        obtain ⟨rfl, hc⟩ := h34
        cases h
        refine ⟨ho, Nat.le_refl _, by simp only [List.length_cons]; omega, ?_, by show eL o + i + 2 ≤ i + 2 + eL o; omega⟩
        rw [show i + 2 - 2 - i = 0 by omega, List.getElem?_cons_zero, UInt8.toNat_inj.1 (show c.toNat = (34 : UInt8).toNat from hc)]
      · rw [if_neg h34] at h
        by_cases h92 : e = false ∧ c.toNat = 92
        · rw [if_pos h92] at h
          obtain ⟨rfl, hc⟩ := h92
          exact next true o ho h (by simp only [if_true, Bool.false_eq_true, if_false]; omega)
        · rw [if_neg h92] at h
          refine next false (o ++ [c]) (by rw [List.all_append, ho]; simp [hp]) h ?_
          have : eL (o ++ [c]) = eL o + (escB c).length := by rw [eL_append, eL_cons]; rfl
          rw [this, esc_one]
          cases e with
          | false =>
            have hn : needs c = false := by simp only [needs, decide_eq_false_iff_not]; intro q; rcases q with q | q; exact h34 ⟨rfl, q⟩; exact h92 ⟨rfl, q⟩
            rw [hn]
            simp only [Bool.false_eq_true, if_false]
            omega
          | true => simp only [if_true, Bool.false_eq_true, if_false]; split <;> omega
    · rw [if_neg hp] at h; cases h

theorem quoteL_len (l : List UInt8) : (quoteL l).length = eL l + 2 := by simp [quoteL, eL]
theorem quoted_of {l : List UInt8} (r : List UInt8) (h : l.all plainB = true) : quotedF (quoteL l ++ r) = (l, (quoteL l).length, 0) := by
  have e : quoteL l ++ r = 34 :: (l.flatMap escB ++ 34 :: r) := by simp [quoteL]
  unfold quotedF
  rw [e, if_pos (by rfl), quoteL_len]
  show qd (l.flatMap escB ++ 34 :: r) false [] 0 = _
  rw [qd_esc l [] r 0 h, List.nil_append, Nat.zero_add]
theorem quoted_cut {l : List UInt8} {k : Nat} (h : l.all plainB = true) (h0 : 0 < k) (hk : k < (quoteL l).length) : quotedF ((quoteL l).take k) = ([], 0, 4) := by
  cases k with
  | zero => omega
  | succ k =>
    rw [quoteL_len] at hk
    unfold quotedF quoteL
    rw [List.cons_append, List.take_succ_cons, if_pos (by rfl)]
    show qd ((l.flatMap escB ++ [34]).take k) false [] 0 = _
    exact qd_cut l [] 0 k h (by omega)
theorem quoted_is {l t : List UInt8} {n : Nat} (h : quotedF l = (t, n, 0)) : t.all plainB = true ∧ 2 ≤ n ∧ n ≤ l.length ∧ l[n - 1]? = some 34 ∧ (quoteL t).length ≤ n := by
  unfold quotedF at h
  split at h
  · rename_i hf
    cases l with
    | nil => simp at hf
    | cons c l =>
      obtain ⟨q1, q2, q3, q4, q5⟩ := qd_is l false [] 0 t n rfl h
      refine ⟨q1, q2, by simp; omega, ?_, ?_⟩
      · rw [show n - 1 = n - 2 - 0 + 1 by omega, List.getElem?_cons_succ]
        exact q4
      · rw [quoteL_len]
        have e0 : eL [] = 0 := rfl
        simp only [Bool.false_eq_true, if_false, e0, Nat.add_zero] at q5
        exact q5
  · cases h

theorem qd_err : ∀ (l : List UInt8) (e : Bool) (o : List UInt8) (i : Nat), (qd l e o i).2.2 ≠ 0 → (qd l e o i).1 = [] ∧ (qd l e o i).2.1 = 0
  | [], e, o, i, _ => ⟨rfl, rfl⟩
  | c :: l, e, o, i, h => by
    rw [qd] at h ⊢
    by_cases h1 : plainB c = true
    · rw [if_pos h1] at h ⊢
      by_cases h2 : e = false ∧ c.toNat = 34
      · rw [if_pos h2] at h; exact absurd rfl h
      · rw [if_neg h2] at h ⊢
        by_cases h3 : e = false ∧ c.toNat = 92
        · rw [if_pos h3] at h ⊢; exact qd_err l _ _ _ h
        · rw [if_neg h3] at h ⊢; exact qd_err l _ _ _ h
    · rw [if_neg h1]; exact ⟨rfl, rfl⟩
theorem quoted_err {l t : List UInt8} {n e : Nat} (h : quotedF l = (t, n, e)) (he : e ≠ 0) : t = [] ∧ n = 0 := by
  unfold quotedF at h
  split at h
  · have := qd_err (l.drop 1) false [] 0 (by rw [h]; exact he)
    rw [h] at this
    exact this
  · cases h; exact ⟨rfl, rfl⟩
end Go.Vf.S
end
/- TxL -/
section
/- Lower case; numbers. -/
namespace Go.Vf.S
open Go Go.Vf
attribute [local irreducible] wSeq wRow wp wG
set_option linter.unusedVariables false
set_option linter.unusedSimpArgs false
set_option maxRecDepth 10000

def upB (c : UInt8) : Bool := decide (65 ≤ c.toNat ∧ c.toNat ≤ 90)
def lowB (c : UInt8) : UInt8 := if upB c then c + 32 else c
theorem lowB_up {c : UInt8} (h : upB c = true) : (lowB c).toNat = c.toNat + 32 := by
  unfold lowB
  rw [if_pos h]
  have : 65 ≤ c.toNat ∧ c.toNat ≤ 90 := by simpa [upB] using h
  rw [UInt8.toNat_add]
  have e : (32 : UInt8).toNat = 32 := rfl
  omega
theorem lowB_no {c : UInt8} (h : ¬upB c = true) : lowB c = c := by unfold lowB; rw [if_neg h]

/-- Lower so far. -/
def mixL (l : List UInt8) (p : Nat) : List UInt8 := (l.map lowB).take p ++ l.drop p
theorem mix_len (l : List UInt8) (p : Nat) : (mixL l p).length = l.length := by simp [mixL]; omega
theorem mix_0 (l : List UInt8) : mixL l 0 = l := by simp [mixL]
theorem mix_end {l : List UInt8} {p : Nat} (h : l.length ≤ p) : mixL l p = l.map lowB := by
  unfold mixL
  rw [List.drop_of_length_le h, List.append_nil, List.take_of_length_le (by simpa using h)]
theorem mix_next {l : List UInt8} {p : Nat} {c : UInt8} (h : l[p]? = some c) : mixL l (p + 1) = (mixL l p).set p (lowB c) := by
  have hp := lt_of_get h
  unfold mixL
  rw [drop_next h, take_next (c := lowB c) (by rw [List.getElem?_map, h]; rfl), List.set_append_right _ _ (by simp; omega)]
  have e : ((l.map lowB).take p).length = p := by simp; omega
  rw [e, Nat.sub_self, List.append_assoc]
  rfl
theorem mix_at {l : List UInt8} {p : Nat} {c : UInt8} (h : l[p]? = some c) : (mixL l p)[p]? = some c := by
  have hp := lt_of_get h
  unfold mixL
  have e : ((l.map lowB).take p).length = p := by simp; omega
  rw [List.getElem?_append_right (by omega), e, Nat.sub_self, drop_next h]
  rfl
theorem mix_same {l : List UInt8} {p : Nat} {c : UInt8} (h : l[p]? = some c) (hc : lowB c = c) : mixL l (p + 1) = mixL l p := by
  rw [mix_next h, hc]
  have := mix_at h
  obtain ⟨hp, e⟩ := List.getElem?_eq_some_iff.1 this
  rw [← e]
  exact List.set_getElem_self hp
theorem mix_more {l : List UInt8} {p : Nat} : ∀ {w : Nat}, (∀ j, j < w → ∃ d, l[p + j]? = some d ∧ 128 ≤ d.toNat) → mixL l (p + w) = mixL l p
  | 0, _ => rfl
  | w + 1, h => by
    obtain ⟨d, h1, h2⟩ := h w (Nat.lt_succ_self _)
    rw [← Nat.add_assoc, mix_same h1 (lowB_no (by simp [upB]; omega)), mix_more fun j hj => h j (Nat.lt_succ_of_lt hj)]

end Go.Vf.S
end
/- TxM -/
section
/- Numbers. -/
namespace Go.Vf.S
open Go Go.Vf
attribute [local irreducible] wSeq wRow wp wG
set_option linter.unusedVariables false
set_option linter.unusedSimpArgs false
set_option maxRecDepth 10000

def digB (c : UInt8) : Bool := decide (48 ≤ c.toNat ∧ c.toNat ≤ 57)
def numFrom (a : Nat) (l : List UInt8) : Nat := l.foldl (fun n c => 10 * n + (c.toNat - 48)) a
def numL (l : List UInt8) : Nat := numFrom 0 l
def clamp (d : Int) : Nat := (min (max d 1) 15).toNat
def numberF (l : List UInt8) (d : Int) : Nat × Nat := if 1 ≤ l.length ∧ l.length ≤ clamp d ∧ l.all digB = true then (numL l, 0) else (0, 5)

theorem numFrom_lt : ∀ (l : List UInt8) (a : Nat), l.all digB = true → numFrom a l < (a + 1) * 10 ^ l.length
  | [], a, _ => by simp [numFrom]
  | c :: l, a, h => by
    rw [List.all_cons, Bool.and_eq_true] at h
    have hc : 48 ≤ c.toNat ∧ c.toNat ≤ 57 := by simpa [digB] using h.1
    have := numFrom_lt l (10 * a + (c.toNat - 48)) h.2
    show numFrom (10 * a + (c.toNat - 48)) l < _
    rw [List.length_cons, Nat.pow_succ, Nat.mul_comm (10 ^ l.length) 10, ← Nat.mul_assoc]
    exact Nat.lt_of_lt_of_le this (Nat.mul_le_mul_right _ (by omega))
theorem num_lt {l : List UInt8} (h : l.all digB = true) (hl : l.length ≤ 15) : numL l < 1000000000000000 := by
  have h1 := numFrom_lt l 0 h
  have h2 : 10 ^ l.length ≤ 10 ^ 15 := Nat.pow_le_pow_right (by omega) hl
  unfold numL
  omega
theorem num_next {l : List UInt8} {p : Nat} {c : UInt8} (h : l[p]? = some c) : numL (l.take (p + 1)) = 10 * numL (l.take p) + (c.toNat - 48) := by
  rw [take_next h]
  simp [numL, numFrom]
theorem all_next {l : List UInt8} {p : Nat} {c : UInt8} {f : UInt8 → Bool} (h : l[p]? = some c) (h1 : (l.take p).all f = true) (h2 : f c = true) : (l.take (p + 1)).all f = true := by
  rw [take_next h]
  simp [h1, h2]
theorem number_no {l : List UInt8} {d : Int} (h : ¬(1 ≤ l.length ∧ l.length ≤ clamp d ∧ l.all digB = true)) : numberF l d = (0, 5) := by unfold numberF; rw [if_neg h]
theorem number_ok {l : List UInt8} {d : Int} (h1 : 1 ≤ l.length) (h2 : l.length ≤ clamp d) (h3 : l.all digB = true) : numberF l d = (numL l, 0) := by unfold numberF; rw [if_pos ⟨h1, h2, h3⟩]
abbrev nRes (q : Nat × Nat) : Value := .tuple ⟨[.int .i64 q.1, .int .i64 q.2]⟩

end Go.Vf.S
end
/- TxN -/
section
/- Atoms. -/
namespace Go.Vf.S
open Go Go.Vf
attribute [local irreducible] wSeq wRow wp wG
set_option linter.unusedVariables false
set_option linter.unusedSimpArgs false
set_option maxRecDepth 10000

def signsL : List UInt8 := [33, 35, 36, 37, 38, 39, 42, 43, 45, 47, 61, 63, 94, 95, 96, 123, 124, 125, 126]
def letN (n : Nat) : Bool := decide (97 ≤ n ∧ n ≤ 122) || (decide (65 ≤ n ∧ n ≤ 90) || (decide (48 ≤ n ∧ n ≤ 57) || signsL.any fun c => c.toNat == n))
def letB (c : UInt8) : Bool := letN c.toNat
def atomsV : List Value := (List.range 128).map fun i => .bool (letN i)
theorem atoms_get {i : Nat} (h : i < 128) : atomsV[i]? = some (.bool (letN i)) := by simp [atomsV, h]
def gA : ABlk := .cells atomsV 4 false true
theorem signs_lt : ∀ c ∈ signsL, c.toNat < 127 := by decide
theorem let_hi {n : Nat} (h : 127 ≤ n) : letN n = false := by
  have : (signsL.any fun c => c.toNat == n) = false := by
    rw [List.any_eq_false]
    intro c hc
    have := signs_lt c hc
    simp
    omega
  unfold letN
  rw [this]
  simp
  omega

theorem ixaG {P : Program} {T : TL} {s : SS} {K : RR → Prop} {len z g : Nat} {i : Operand} {k : IntKind} {iv : Int} (hg : g < s.gl) (hi : opd T s.gl i = some (.int k iv)) (h : wIdx (.int k iv) len fun m => ∀ o, o = 0 + m * z → K (.val (.pointer (some ⟨g, o, none⟩)))) : wN P (.ixaA len z (.global g) i) T s K := by
  have e : opd T s.gl (.global g) = some (.pointer (some ⟨g, 0, none⟩)) := by
    have hb : Nat.blt g s.gl = true := by rw [Nat.blt_eq]; exact hg
    simp only [opd, hb, cond_true]
  simp only [wN, e, hi]
  exact h

def atomF (l : List UInt8) : Bool := l.all letB && !l.isEmpty

end Go.Vf.S
end
/- TxO -/
section
/- Parts of a text. -/
namespace Go.Vf.S
open Go Go.Vf
attribute [local irreducible] wSeq wRow wp wG
set_option linter.unusedVariables false
set_option linter.unusedSimpArgs false
set_option maxRecDepth 10000

/-- The first part, and the others. -/
def sp (c : UInt8) : List UInt8 → List UInt8 × List (List UInt8)
  | [] => ([], [])
  | x :: r => if x = c then ([], (sp c r).1 :: (sp c r).2) else (x :: (sp c r).1, (sp c r).2)
def splitF (c : UInt8) (l : List UInt8) : List (List UInt8) := (sp c l).1 :: (sp c l).2
theorem sp_first {c : UInt8} {r : List UInt8} : ∀ {f : List UInt8}, c ∉ f → sp c (f ++ c :: r) = (f, (sp c r).1 :: (sp c r).2)
  | [], _ => by simp [sp]
  | x :: f, h => by
    have h1 : ¬x = c := fun e => h (by simp [e])
    rw [List.cons_append, sp, if_neg h1, sp_first (f := f) (fun q => h (by simp [q]))]
theorem split_first {c : UInt8} {r f : List UInt8} (h : c ∉ f) : splitF c (f ++ c :: r) = f :: splitF c r := by unfold splitF; rw [sp_first h]
theorem split_last {c : UInt8} : ∀ {l : List UInt8}, l.count c = 0 → splitF c l = [l]
  | [], _ => rfl
  | x :: l, h => by
    have h1 : ¬x = c := fun e => by subst e; simp at h
    rw [List.count_cons_of_ne h1] at h
    have := split_last (c := c) (l := l) h
    unfold splitF at this ⊢
    rw [sp, if_neg h1]
    simp only [List.cons.injEq] at this ⊢
    exact ⟨⟨trivial, this.1⟩, this.2⟩
theorem split_len {c : UInt8} : ∀ (l : List UInt8), (splitF c l).length = l.count c + 1
  | [] => rfl
  | x :: l => by
    have := split_len (c := c) l
    unfold splitF at this ⊢
    rw [sp]
    by_cases h : x = c
    · subst h
      rw [if_pos rfl, List.count_cons_self]
      simp only [List.length_cons] at this ⊢
      omega
    · rw [if_neg h, List.count_cons_of_ne h]
      simp only [List.length_cons] at this ⊢
      omega
theorem index_first {c : UInt8} {r : List UInt8} : ∀ {f : List UInt8}, c ∉ f → Lib.indexByte (f ++ c :: r) c = f.length
  | [], _ => by simp [Lib.indexByte]
  | x :: f, h => by
    have h1 : (x == c) = false := by simp; exact fun e => h (by simp [e])
    have ih := index_first (c := c) (r := r) (f := f) (fun q => h (by simp [q]))
    rw [List.cons_append, Lib.indexByte, h1, ih]
    have : ((f.length : Int) == -1) = false := by simp <;> omega
    rw [this]
    simp

theorem byte_back (c : UInt8) : ((c.toNat : Int).toNat).toUInt8 = c := by simp

theorem indexByte_w {s : SS} {l : List UInt8} {c : UInt8} : CallW pr n_internal_stringslite_IndexByte [str l, .int .u8 c.toNat] s fun v s' => v = .int .i64 (Lib.indexByte l c) ∧ s' = s := by
  refine CallW.run good ok_internal_stringslite_IndexByte (by simp) rfl ?_
  (repeat(first|refine pSeq ?_|refine pReg ?_|refine sRaw ?_|refine sCons ?_|refine sNil ?_|refine pRet ?_|refine gNone ?_))
  refine xtn_W Go.Proofs.Tryd.func78 (by kernel_rfl) (by kernel_rfl) (by kernel_rfl) (by kernel_rfl) rfl rfl rfl rfl (fun w => by rw [Lib.run_indexByteString, byte_back]) ?_
  (repeat(first|refine pSeq ?_|refine pReg ?_|refine sRaw ?_|refine sCons ?_|refine sNil ?_|refine pRet ?_|refine gNone ?_))
  exact ⟨rfl, rfl⟩

theorem index1_w {s : SS} {l : List UInt8} {c : UInt8} (hne : l ≠ []) : CallW pr n_strings_Index [str l, str [c]] s fun v s' => v = .int .i64 (Lib.indexByte l c) ∧ s' = s := by
  refine CallW.run good ok_strings_Index (by simp) rfl ?_
  (repeat(first|refine pSeq ?_|refine pReg ?_|refine sRaw ?_|refine sCons ?_|refine sNil ?_|refine pBlock ?_|refine pSkip ?_|refine pExit ?_|refine pRet ?_|refine pCond ?_|refine gNone ?_|refine gOn rfl ?_|refine gOff rfl rfl ?_|refine gTup rfl ?_))
  refine (show CallW pr n_internal_stringslite_Index [str l, str [c]] s fun v s' => v = .int .i64 (Lib.indexByte l c) ∧ s' = s from ?_).mono fun v s q => ?_
  · refine CallW.run good ok_internal_stringslite_Index (by simp) rfl ?_
    (repeat(first|refine pSeq ?_|refine pReg ?_|refine sRaw ?_|refine sCons ?_|refine sNil ?_|refine pBlock ?_|refine pSkip ?_|refine pExit ?_|refine pRet ?_|refine pCond ?_|refine gNone ?_|refine gOn rfl ?_|refine gOff rfl rfl ?_|refine gTup rfl ?_))
    intro n hn
    (repeat(first|refine pSeq ?_|refine pReg ?_|refine sRaw ?_|refine sCons ?_|refine sNil ?_|refine pBlock ?_|refine pSkip ?_|refine pExit ?_|refine pRet ?_|refine pCond ?_|refine gNone ?_|refine gOn rfl ?_|refine gOff rfl rfl ?_|refine gTup rfl ?_))
    intro q hq
    obtain rfl : q = false := by rw [hq, hn]; rfl
    (repeat(first|refine pSeq ?_|refine pReg ?_|refine sRaw ?_|refine sCons ?_|refine sNil ?_|refine pBlock ?_|refine pSkip ?_|refine pExit ?_|refine pRet ?_|refine pCond ?_|refine gNone ?_|refine gOn rfl ?_|refine gOff rfl rfl ?_|refine gTup rfl ?_))
    intro q hq
    by_cases he : [c] = l
    · subst he
      obtain rfl : q = true := by rw [hq]; simp
      (repeat(first|refine pSeq ?_|refine pReg ?_|refine sRaw ?_|refine sCons ?_|refine sNil ?_|refine pBlock ?_|refine pSkip ?_|refine pExit ?_|refine pRet ?_|refine pCond ?_|refine gNone ?_|refine gOn rfl ?_|refine gOff rfl rfl ?_|refine gTup rfl ?_))
      exact ⟨by show Value.int .i64 0 = _; simp [Lib.indexByte], rfl⟩
    · obtain rfl : q = false := by rw [hq]; simp [he]
      (repeat(first|refine pSeq ?_|refine pReg ?_|refine sRaw ?_|refine sCons ?_|refine sNil ?_|refine pBlock ?_|refine pSkip ?_|refine pExit ?_|refine pRet ?_|refine pCond ?_|refine gNone ?_|refine gOn rfl ?_|refine gOff rfl rfl ?_|refine gTup rfl ?_))
      intro q hq
      obtain rfl : q = true := by rw [hq, hn]; rfl
      (repeat(first|refine pSeq ?_|refine pReg ?_|refine sRaw ?_|refine sCons ?_|refine sNil ?_|refine pBlock ?_|refine pSkip ?_|refine pExit ?_|refine pRet ?_|refine pCond ?_|refine gNone ?_|refine gOn rfl ?_|refine gOff rfl rfl ?_|refine gTup rfl ?_))
      refine ⟨by simp, ?_⟩
      intro m hm
      obtain rfl : m = 0 := by omega
      refine ⟨c, rfl, ?_⟩
      (repeat(first|refine pSeq ?_|refine pReg ?_|refine sRaw ?_|refine sCons ?_|refine sNil ?_|refine pBlock ?_|refine pSkip ?_|refine pExit ?_|refine pRet ?_|refine pCond ?_|refine gNone ?_|refine gOn rfl ?_|refine gOff rfl rfl ?_|refine gTup rfl ?_))
      refine indexByte_w.mono fun v s q => ?_
      obtain ⟨rfl, rfl⟩ := q
      (repeat(first|refine pSeq ?_|refine pReg ?_|refine sRaw ?_|refine sCons ?_|refine sNil ?_|refine pBlock ?_|refine pSkip ?_|refine pExit ?_|refine pRet ?_|refine pCond ?_|refine gNone ?_|refine gOn rfl ?_|refine gOff rfl rfl ?_|refine gTup rfl ?_))
      exact ⟨rfl, rfl⟩
  obtain ⟨rfl, rfl⟩ := q
  (repeat(first|refine pSeq ?_|refine pReg ?_|refine sRaw ?_|refine sCons ?_|refine sNil ?_|refine pBlock ?_|refine pSkip ?_|refine pExit ?_|refine pRet ?_|refine pCond ?_|refine gNone ?_|refine gOn rfl ?_|refine gOff rfl rfl ?_|refine gTup rfl ?_))
  exact ⟨rfl, rfl⟩

def strV (ls : List (List UInt8)) : List Value := ls.map str
theorem strV_len (ls : List (List UInt8)) : (strV ls).length = ls.length := by simp [strV]
theorem all1_strV : ∀ ls : List (List UInt8), all1 (strV ls) = true
  | [] => rfl
  | _ :: ls => all1_strV ls
/-- A row of texts that a slice reads. -/
def StrsAt (s : SS) (base : Option Addr) (ls : List (List UInt8)) : Prop :=
  ∃ b cs t g r, base = some ⟨b, 0, none⟩ ∧ b < s.next ∧ lookH s.heap b = some (.cells cs t g r) ∧ ∀ (i : Nat) x, ls[i]? = some x → cs[i]? = some (str x)
theorem StrsAt.chg {s s' : SS} {base : Option Addr} {ls : List (List UInt8)} {A : List Nat} (h : StrsAt s base ls) (c : Chg s s' A) (hA : ∀ id ∈ blkOf base, id ∉ A) : StrsAt s' base ls := by
  obtain ⟨b, cs, t, g, r, rfl, h1, h2, h3⟩ := h
  exact ⟨b, cs, t, g, r, rfl, Nat.lt_of_lt_of_le h1 c.next, c.blk _ _ h1 (hA b (by simp [blkOf])) h2, h3⟩

structure PIt where
  done : List (List UInt8)
  rest : List UInt8
  s : SS

theorem set_row (done : List (List UInt8)) (f : List UInt8) (k : Nat) : (strV done ++ List.replicate (k + 1) (str [])).set done.length (str f) = strV (done ++ [f]) ++ List.replicate k (str []) := by
  rw [List.set_append_right _ _ (by rw [strV_len]; omega), strV_len, Nat.sub_self, List.replicate_succ, List.set_cons_zero]
  simp [strV]

theorem repeat_str : ∀ n : Nat, repeatL n [str []] = List.replicate n (str [])
  | 0 => rfl
  | n + 1 => by
    show [str []] ++ repeatL n [str []] = _
    rw [repeat_str n, List.replicate_succ]
    rfl

theorem slL_pre {P : Program} {T : TL} {s : SS} {K : RR → Prop} {z n cap m b off : Nat} {cs : List Value} {t : TypeId} {r : Bool} {x hi : Operand} {k : Int} (hx : opd T s.gl x = some (.slice (some ⟨b, off, none⟩) n cap)) (hh : opd T s.gl hi = some (.int .i64 k))
    (hb : lookH s.heap b = some (.cells cs t false r)) (hk : k = (m : Int)) (hm : m ≤ cap) (h : K (.val (.slice (some ⟨b, off, none⟩) m cap))) : wN P (.slL z x none (some hi)) T s K := by
  subst hk
  simp only [wN, hx, opdO, hh, hb, wBnd]
  refine ⟨by omega, fun j hj o n' d ho hn hd => ?_⟩
  obtain rfl : j = m := by omega
  have e : o = off := by
    rw [ho]
    split <;> simp
  rw [e, hn, hd, Nat.sub_zero, Nat.sub_zero]
  exact h

/-- A row whose room is all its own. -/
def Full (s : SS) (base : Option Addr) : Prop := ∃ b cs, base = some ⟨b, 0, none⟩ ∧ lookH s.heap b = some (.cells cs tS false false)
structure PIt2 where
  i : Nat
  f : Nat
  done : List (List UInt8)
  s : SS
  W : Option Addr
  cw : Nat

/-- Behind so many bytes: what stands since the last byte to part at, and all behind it. -/
theorem sp_step {c : UInt8} {l : List UInt8} {f i : Nat} (hf : f ≤ i) (hi : i ≤ l.length) (h : c ∉ (l.drop f).take (i - f)) :
    (∀ x, l[i]? = some x → x = c → splitF c (l.drop f) = (l.drop f).take (i - f) :: splitF c (l.drop (i + 1))) ∧ (i = l.length → splitF c (l.drop f) = [l.drop f]) := by
  constructor
  · intro x hx hxc
    subst hxc
    have e : l.drop f = (l.drop f).take (i - f) ++ x :: l.drop (i + 1) := by
      conv => lhs; rw [← List.take_append_drop (i - f) (l.drop f)]
      rw [List.drop_drop, show f + (i - f) = i by omega, drop_next hx]
    conv => lhs; rw [e]
    exact split_first h
  · intro he
    rw [List.take_of_length_le (by simp; omega)] at h
    exact split_last (List.count_eq_zero.2 h)

theorem StrsAt.at {s : SS} {base : Option Addr} {ls : List (List UInt8)} (h : StrsAt s base ls) : ∃ b, base = some ⟨b, 0, none⟩ ∧ ∃ cs t g r, lookH s.heap b = some (.cells cs t g r) ∧ ∀ (i : Nat) x, ls[i]? = some x → cs[i]? = some (str x) := by
  obtain ⟨b, cs, t, g, r, h1, h2, h3, h4⟩ := h
  exact ⟨b, h1, cs, t, g, r, h3, h4⟩

theorem ldS_is {P : Program} {T : TL} {s : SS} {K : RR → Prop} {x : Operand} {b off : Nat} {cs : List Value} {t : TypeId} {g r : Bool} {l : List UInt8} (hx : opd T s.gl x = some (.pointer (some ⟨b, off, none⟩))) (hb : lookH s.heap b = some (.cells cs t g r)) (hc : cs[off]? = some (str l))
    (h : K (.val (str l))) : wN P (.ldS x) T s K := by
  simp only [wN, hx, hb]
  exact ⟨l, hc, h⟩

theorem idx_no {c : UInt8} : ∀ {l : List UInt8}, c ∉ l → Lib.indexByte l c = -1
  | [], _ => rfl
  | x :: l, h => by
    have h1 : (x == c) = false := by simp; exact fun e => h (by simp [e])
    rw [Lib.indexByte, h1, idx_no (l := l) fun q => h (by simp [q])]
    rfl
theorem IndexByte_w {s : SS} {l : List UInt8} {c : UInt8} : CallW pr n_strings_IndexByte [str l, .int .u8 c.toNat] s fun v s' => v = .int .i64 (Lib.indexByte l c) ∧ s' = s := by
  refine CallW.run good ok_strings_IndexByte (by simp) rfl ?_
  (repeat(first|refine pSeq ?_|refine pReg ?_|refine sCons ?_|refine sNil ?_|refine pRet ?_|refine gNone ?_))
  refine indexByte_w.mono fun v s q => ?_
  obtain ⟨rfl, rfl⟩ := q
  (repeat(first|refine pSeq ?_|refine pReg ?_|refine sCons ?_|refine sNil ?_|refine pRet ?_|refine gNone ?_))
  exact ⟨rfl, rfl⟩
end Go.Vf.S
end
/- TxP -/
section
/- Dot-atoms; white space at both ends. -/
namespace Go.Vf.S
open Go Go.Vf
attribute [local irreducible] wSeq wRow wp wG
set_option linter.unusedVariables false
set_option linter.unusedSimpArgs false
set_option maxRecDepth 10000

def dotF (l : List UInt8) : Bool := (splitF 46 l).all atomF

/-- The document's way: was the byte ahead a point? -/
def da : Bool → List UInt8 → Bool
  | p, [] => !p
  | p, c :: r => if c = 46 then (if p then false else da true r) else if letB c then da false r else false
theorem da_is : ∀ (l : List UInt8) (p : Bool), da p l = ((sp 46 l).1.all letB && (!p || !(sp 46 l).1.isEmpty) && (sp 46 l).2.all atomF)
  | [], p => by cases p <;> rfl
  | c :: r, p => by
    have i1 := da_is r true
    have i2 := da_is r false
    rw [da, sp]
    by_cases h : c = 46
    · rw [if_pos h, if_pos h, i1]
      cases p <;> simp [atomF, Bool.and_assoc]
    · rw [if_neg h, if_neg h, i2]
      simp only [List.all_cons, List.isEmpty_cons, Bool.not_false, Bool.or_true, Bool.and_true, Bool.true_or]
      cases hb : letB c
      · rfl
      · simp only [if_true, Bool.true_and]
theorem dot_da (l : List UInt8) : dotF l = da true l := by
  rw [da_is]
  simp [dotF, splitF, atomF]

/-- Off the end. -/
def dropR (l : List UInt8) : List UInt8 := (l.reverse.dropWhile wh).reverse
def trimF (l : List UInt8) : List UInt8 := dropR (l.dropWhile wh)
theorem dropR_nil : dropR [] = [] := rfl
theorem dropR_wh {l : List UInt8} {c : UInt8} (h : wh c = true) : dropR (l ++ [c]) = dropR l := by
  unfold dropR
  rw [List.reverse_append, List.reverse_singleton, List.singleton_append, List.dropWhile_cons, if_pos h]
theorem dropR_no {l : List UInt8} {c : UInt8} (h : wh c = false) : dropR (l ++ [c]) = l ++ [c] := by
  unfold dropR
  rw [List.reverse_append, List.reverse_singleton, List.singleton_append, List.dropWhile_cons, if_neg (by simp [h])]
  simp
theorem take_last {l : List UInt8} {n : Nat} {c : UInt8} (hn : l.length = n + 1) (h : l[n]? = some c) : l = l.take n ++ [c] := by
  rw [← take_next h, List.take_of_length_le (by omega)]

theorem in_wh (c : UInt8) : inB [32, 9] c.toNat = wh c := by
  rw [Bool.eq_iff_iff]
  simp only [inB, wh, List.any_cons, List.any_nil, Bool.or_false, Bool.or_eq_true, beq_iff_eq, decide_eq_true_eq]
  have e1 : (32 : UInt8).toNat = 32 := rfl
  have e2 : (9 : UInt8).toNat = 9 := rfl
  omega

theorem dropR_cons (c : UInt8) (l : List UInt8) : dropR (c :: l) = if dropR l = [] then (if wh c then [] else [c]) else c :: dropR l := by
  unfold dropR
  rw [List.reverse_cons, List.dropWhile_append]
  by_cases h : l.reverse.dropWhile wh = []
  · rw [h]
    cases hc : wh c <;> simp [hc]
  · have h2 : (l.reverse.dropWhile wh).isEmpty = false := by cases q : l.reverse.dropWhile wh with
      | nil => exact absurd q h
      | cons a b => rfl
    rw [h2]
    simp [h]
/-- A text's ends may be taken off in either order. -/
theorem trim_comm (l : List UInt8) : trimF l = (dropR l).dropWhile wh := by
  unfold trimF
  induction l with
  | nil => rfl
  | cons c l ih =>
    rw [dropR_cons]
    cases hc : wh c with
    | true =>
      rw [List.dropWhile_cons, if_pos hc, ih]
      by_cases h : dropR l = []
      · rw [if_pos h, h]; rfl
      · rw [if_neg h, List.dropWhile_cons, if_pos hc]
    | false =>
      rw [List.dropWhile_cons, if_neg (by simp [hc]), dropR_cons, hc]
      by_cases h : dropR l = []
      · rw [if_pos h]; simp [hc]
      · rw [if_neg h, List.dropWhile_cons, if_neg (by simp [hc])]

end Go.Vf.S
end
/- LbA -/
section
/- Parts of a text, by the library's calls. -/
namespace Go.Vf.S
open Go Go.Vf
attribute [local irreducible] wSeq wRow wp wG
set_option linter.unusedVariables false
set_option linter.unusedSimpArgs false
set_option maxRecDepth 10000

theorem ssuffix_w {s : SS} {a b : List UInt8} (ha : a.length ≤ 1000000) : CallW pr n_internal_stringslite_HasSuffix [str a, str b] s fun v s' => v = .bool (decide (b <:+ a)) ∧ s' = s := by
  refine CallW.run good ok_internal_stringslite_HasSuffix (by simp) rfl ?_
  (repeat(first|refine pSeq ?_|refine pReg ?_|refine sCons ?_|refine sNil ?_|refine pRet ?_|refine gNone ?_|refine gOn rfl ?_|refine gOff rfl rfl ?_|refine gTup rfl ?_))
  intro n hn
  (repeat(first|refine pSeq ?_|refine pReg ?_|refine sCons ?_|refine sNil ?_|refine pRet ?_|refine gNone ?_|refine gOn rfl ?_|refine gOff rfl rfl ?_|refine gTup rfl ?_))
  intro m hm
  (repeat(first|refine pSeq ?_|refine pReg ?_|refine sCons ?_|refine sNil ?_|refine pRet ?_|refine gNone ?_|refine gOn rfl ?_|refine gOff rfl rfl ?_|refine gTup rfl ?_))
  intro q hq
  by_cases h : b.length ≤ a.length
  · obtain rfl : q = true := by rw [hq]; simp <;> omega
    (repeat(first|refine pSeq ?_|refine pReg ?_|refine sCons ?_|refine sNil ?_|refine pRet ?_|refine gNone ?_|refine gOn rfl ?_|refine gOff rfl rfl ?_|refine gTup rfl ?_))
    intro n1 hn1
    (repeat(first|refine pSeq ?_|refine pReg ?_|refine sCons ?_|refine sNil ?_|refine pRet ?_|refine gNone ?_|refine gOn rfl ?_|refine gOff rfl rfl ?_|refine gTup rfl ?_))
    intro m1 hm1
    (repeat(first|refine pSeq ?_|refine pReg ?_|refine sCons ?_|refine sNil ?_|refine pRet ?_|refine gNone ?_|refine gOn rfl ?_|refine gOff rfl rfl ?_|refine gTup rfl ?_))
    intro z hz
    rw [i64_id (by omega)] at hz
    (repeat(first|refine pSeq ?_|refine pReg ?_|refine sCons ?_|refine sNil ?_|refine pRet ?_|refine gNone ?_|refine gOn rfl ?_|refine gOff rfl rfl ?_|refine gTup rfl ?_))
    refine ⟨by omega, ?_⟩
    intro k hk r hr
    obtain rfl : k = a.length - b.length := by omega
    (repeat(first|refine pSeq ?_|refine pReg ?_|refine sCons ?_|refine sNil ?_|refine pRet ?_|refine gNone ?_|refine gOn rfl ?_|refine gOff rfl rfl ?_|refine gTup rfl ?_))
    intro q hq
    (repeat(first|refine pSeq ?_|refine pReg ?_|refine sCons ?_|refine sNil ?_|refine pRet ?_|refine gNone ?_|refine gOn rfl ?_|refine gOff rfl rfl ?_|refine gTup rfl ?_))
    refine ⟨bool_eq ?_, rfl⟩
    rw [hq, hr, List.take_of_length_le (by simp), decide_eq_decide, List.suffix_iff_eq_drop]
    exact ⟨fun e => e.symm, fun e => e.symm⟩
  · obtain rfl : q = false := by rw [hq]; simp <;> omega
    (repeat(first|refine pSeq ?_|refine pReg ?_|refine sCons ?_|refine sNil ?_|refine pRet ?_|refine gNone ?_|refine gOn rfl ?_|refine gOff rfl rfl ?_|refine gTup rfl ?_))
    refine ⟨bool_eq ?_, rfl⟩
    symm
    rw [decide_eq_false_iff_not]
    exact fun q => h q.length_le

theorem cutP_w {s : SS} {a b : List UInt8} : CallW pr n_strings_CutPrefix [str a, str b] s fun v s' => v = .tuple ⟨[str (if a.take b.length = b then a.drop b.length else a), .bool (decide (a.take b.length = b))]⟩ ∧ s' = s := by
  refine CallW.run good ok_strings_CutPrefix (by simp) rfl ?_
  (repeat(first|refine pSeq ?_|refine pReg ?_|refine sCons ?_|refine sNil ?_|refine pSkip ?_|refine pRet ?_|refine pCond ?_|refine gNone ?_))
  refine (show CallW pr n_internal_stringslite_CutPrefix [str a, str b] s fun v s' => v = .tuple ⟨[str (if a.take b.length = b then a.drop b.length else a), .bool (decide (a.take b.length = b))]⟩ ∧ s' = s from ?_).mono fun v s q => ?_
  · refine CallW.run good ok_internal_stringslite_CutPrefix (by simp) rfl ?_
    (repeat(first|refine pSeq ?_|refine pReg ?_|refine sCons ?_|refine sNil ?_|refine pSkip ?_|refine pRet ?_|refine pCond ?_|refine gNone ?_))
    refine sprefix_w.mono fun v s q => ?_
    obtain ⟨rfl, rfl⟩ := q
    (repeat(first|refine pSeq ?_|refine pReg ?_|refine sCons ?_|refine sNil ?_|refine pSkip ?_|refine pRet ?_|refine pCond ?_|refine gNone ?_))
    intro q hq
    by_cases h : a.take b.length = b
    · obtain rfl : q = false := by rw [hq]; simp [h]
      have hle : b.length ≤ a.length := by
        have := congrArg List.length h
        rw [List.length_take] at this
        omega
      rw [if_pos h, decide_eq_true h]
      (repeat(first|refine pSeq ?_|refine pReg ?_|refine sCons ?_|refine sNil ?_|refine pSkip ?_|refine pRet ?_|refine pCond ?_|refine gNone ?_))
      intro n hn
      (repeat(first|refine pSeq ?_|refine pReg ?_|refine sCons ?_|refine sNil ?_|refine pSkip ?_|refine pRet ?_|refine pCond ?_|refine gNone ?_))
      refine ⟨by omega, ?_⟩
      intro m hm r hr
      obtain rfl : m = b.length := by omega
      rw [List.take_of_length_le (by simp)] at hr
      subst hr
      (repeat(first|refine pSeq ?_|refine pReg ?_|refine sCons ?_|refine sNil ?_|refine pSkip ?_|refine pRet ?_|refine pCond ?_|refine gNone ?_))
      exact ⟨rfl, rfl⟩
    · obtain rfl : q = true := by rw [hq]; simp [h]
      rw [if_neg h, decide_eq_false h]
      (repeat(first|refine pSeq ?_|refine pReg ?_|refine sCons ?_|refine sNil ?_|refine pSkip ?_|refine pRet ?_|refine pCond ?_|refine gNone ?_))
      exact ⟨rfl, rfl⟩
  obtain ⟨rfl, rfl⟩ := q
  (repeat(first|refine pSeq ?_|refine pReg ?_|refine sCons ?_|refine sNil ?_|refine pSkip ?_|refine pRet ?_|refine pCond ?_|refine gNone ?_))
  exact ⟨rfl, rfl⟩

theorem sidx_w {s : SS} {l : List UInt8} {c : UInt8} : CallW pr n_internal_stringslite_Index [str l, str [c]] s fun v s' => v = .int .i64 (Lib.indexByte l c) ∧ s' = s := by
  refine CallW.run good ok_internal_stringslite_Index (by simp) rfl ?_
  (repeat(first|refine pSeq ?_|refine pReg ?_|refine sRaw ?_|refine sCons ?_|refine sNil ?_|refine pBlock ?_|refine pSkip ?_|refine pExit ?_|refine pRet ?_|refine pCond ?_|refine gNone ?_|refine gOn rfl ?_|refine gOff rfl rfl ?_|refine gTup rfl ?_))
  intro n hn
  (repeat(first|refine pSeq ?_|refine pReg ?_|refine sRaw ?_|refine sCons ?_|refine sNil ?_|refine pBlock ?_|refine pSkip ?_|refine pExit ?_|refine pRet ?_|refine pCond ?_|refine gNone ?_|refine gOn rfl ?_|refine gOff rfl rfl ?_|refine gTup rfl ?_))
  intro q hq
  obtain rfl : q = false := by rw [hq, hn]; rfl
  (repeat(first|refine pSeq ?_|refine pReg ?_|refine sRaw ?_|refine sCons ?_|refine sNil ?_|refine pBlock ?_|refine pSkip ?_|refine pExit ?_|refine pRet ?_|refine pCond ?_|refine gNone ?_|refine gOn rfl ?_|refine gOff rfl rfl ?_|refine gTup rfl ?_))
  intro q hq
  by_cases he : [c] = l
  · subst he
    obtain rfl : q = true := by rw [hq]; simp
    (repeat(first|refine pSeq ?_|refine pReg ?_|refine sRaw ?_|refine sCons ?_|refine sNil ?_|refine pBlock ?_|refine pSkip ?_|refine pExit ?_|refine pRet ?_|refine pCond ?_|refine gNone ?_|refine gOn rfl ?_|refine gOff rfl rfl ?_|refine gTup rfl ?_))
    exact ⟨by show Value.int .i64 0 = _; simp [Lib.indexByte], rfl⟩
  · obtain rfl : q = false := by rw [hq]; simp [he]
    (repeat(first|refine pSeq ?_|refine pReg ?_|refine sRaw ?_|refine sCons ?_|refine sNil ?_|refine pBlock ?_|refine pSkip ?_|refine pExit ?_|refine pRet ?_|refine pCond ?_|refine gNone ?_|refine gOn rfl ?_|refine gOff rfl rfl ?_|refine gTup rfl ?_))
    intro q hq
    obtain rfl : q = true := by rw [hq, hn]; rfl
    (repeat(first|refine pSeq ?_|refine pReg ?_|refine sRaw ?_|refine sCons ?_|refine sNil ?_|refine pBlock ?_|refine pSkip ?_|refine pExit ?_|refine pRet ?_|refine pCond ?_|refine gNone ?_|refine gOn rfl ?_|refine gOff rfl rfl ?_|refine gTup rfl ?_))
    refine ⟨by simp, ?_⟩
    intro m hm
    obtain rfl : m = 0 := by omega
    refine ⟨c, rfl, ?_⟩
    (repeat(first|refine pSeq ?_|refine pReg ?_|refine sRaw ?_|refine sCons ?_|refine sNil ?_|refine pBlock ?_|refine pSkip ?_|refine pExit ?_|refine pRet ?_|refine pCond ?_|refine gNone ?_|refine gOn rfl ?_|refine gOff rfl rfl ?_|refine gTup rfl ?_))
    refine indexByte_w.mono fun v s q => ?_
    obtain ⟨rfl, rfl⟩ := q
    (repeat(first|refine pSeq ?_|refine pReg ?_|refine sRaw ?_|refine sCons ?_|refine sNil ?_|refine pBlock ?_|refine pSkip ?_|refine pExit ?_|refine pRet ?_|refine pCond ?_|refine gNone ?_|refine gOn rfl ?_|refine gOff rfl rfl ?_|refine gTup rfl ?_))
    exact ⟨rfl, rfl⟩

def cutF (c : UInt8) (l : List UInt8) : List UInt8 × List UInt8 × Bool := if c ∈ l then (l.takeWhile (· != c), l.drop ((l.takeWhile (· != c)).length + 1), true) else (l, [], false)
theorem while_first {c : UInt8} {f r : List UInt8} (h : c ∉ f) : (f ++ c :: r).takeWhile (· != c) = f := by
  induction f with
  | nil => simp
  | cons x f ih =>
    have : x ≠ c := fun e => h (by simp [e])
    rw [List.cons_append, List.takeWhile_cons, if_pos (by simpa using this), ih fun q => h (by simp [q])]

theorem cut_len (c : UInt8) (l : List UInt8) : (cutF c l).1.length ≤ l.length ∧ (cutF c l).2.1.length ≤ l.length := by
  unfold cutF
  split
  · exact ⟨(List.takeWhile_prefix _).length_le, by simp⟩
  · simp
theorem idx_in {c : UInt8} {l : List UInt8} : (0 ≤ Lib.indexByte l c) ↔ c ∈ l := by
  constructor
  · intro h
    refine Classical.byContradiction fun hn => ?_
    rw [idx_no hn] at h
    omega
  · intro h
    obtain ⟨f, r, rfl, hf⟩ := List.eq_append_cons_of_mem h
    rw [index_first hf]
    omega
theorem hasSuffix_w {s : SS} {a b : List UInt8} (ha : a.length ≤ 1000000) : CallW pr n_strings_HasSuffix [str a, str b] s fun v s' => v = .bool (decide (b <:+ a)) ∧ s' = s := by
  refine CallW.run good ok_strings_HasSuffix (by simp) rfl ?_
  (repeat(first|refine pSeq ?_|refine pReg ?_|refine sCons ?_|refine sNil ?_|refine pRet ?_|refine gNone ?_))
  refine (ssuffix_w ha).mono fun v s q => ?_
  obtain ⟨rfl, rfl⟩ := q
  (repeat(first|refine pSeq ?_|refine pReg ?_|refine sCons ?_|refine sNil ?_|refine pRet ?_|refine gNone ?_))
  exact ⟨rfl, rfl⟩

end Go.Vf.S
end
/- LbB -/
section
/- Two bytes replaced. -/
namespace Go.Vf.S
open Go Go.Vf
set_option linter.unusedVariables false
set_option linter.unusedSimpArgs false
set_option maxRecDepth 10000

/-- Two bytes replaced, from the left. -/
def rep (a b : UInt8) (new : List UInt8) : List UInt8 → List UInt8
  | x :: y :: r => if x = a ∧ y = b then new ++ rep a b new r else x :: rep a b new (y :: r)
  | l => l

theorem pre_two (a b x : UInt8) (l : List UInt8) : [a, b].isPrefixOf (x :: l) = decide (x = a ∧ l.head? = some b) := by
  cases l with
  | nil => simp [List.isPrefixOf]
  | cons y r =>
    simp only [List.isPrefixOf, List.head?_cons, Bool.and_true]
    rw [Bool.eq_iff_iff]
    simp only [Bool.and_eq_true, beq_iff_eq, decide_eq_true_eq, Option.some.injEq]
    exact ⟨fun h => ⟨h.1.symm, h.2.symm⟩, fun h => ⟨h.1.symm, h.2.symm⟩⟩

theorem repK_skip {a b x : UInt8} {l new : List UInt8} (h : ¬(x = a ∧ l.head? = some b)) : ∀ k, Lib.replaceK [a, b] new k (x :: l) = x :: Lib.replaceK [a, b] new k l
  | 0 => rfl
  | k + 1 => by
    have hp : [a, b].isPrefixOf (x :: l) = false := by rw [pre_two]; exact decide_eq_false h
    have hge := Lib.index_ge l [a, b]
    have hi : Lib.index (x :: l) [a, b] = if Lib.index l [a, b] == -1 then -1 else Lib.index l [a, b] + 1 := by
      rw [Lib.index, hp]
      simp
    rw [Lib.replaceK, Lib.replaceK, hi]
    by_cases hm : Lib.index l [a, b] = -1
    · rw [hm]
      simp
    · have e1 : (Lib.index l [a, b] == -1) = false := by simpa using hm
      have e2 : ((Lib.index l [a, b] + 1) == -1) = false := by simp; omega
      rw [e1]
      simp only [Bool.false_eq_true, if_false, e2]
      rw [show (Lib.index l [a, b] + 1).toNat = (Lib.index l [a, b]).toNat + 1 by omega, List.take_succ_cons, show (Lib.index l [a, b]).toNat + 1 + [a, b].length = ((Lib.index l [a, b]).toNat + [a, b].length) + 1 by omega, List.drop_succ_cons]
      rfl
theorem count_skip {a b x : UInt8} {l : List UInt8} (h : ¬(x = a ∧ l.head? = some b)) : Lib.count (x :: l) [a, b] = Lib.count l [a, b] := by
  have hp : [a, b].isPrefixOf (x :: l) = false := by rw [pre_two]; exact decide_eq_false h
  have hge := Lib.index_ge l [a, b]
  have hi : Lib.index (x :: l) [a, b] = if Lib.index l [a, b] == -1 then -1 else Lib.index l [a, b] + 1 := by
    rw [Lib.index, hp]
    simp
  by_cases hm : Lib.index l [a, b] = -1
  · rw [Lib.count_miss hm, Lib.count_miss (by rw [hi, hm]; rfl)]
  · have e1 : (Lib.index l [a, b] == -1) = false := by simpa using hm
    obtain ⟨i, hi2⟩ : ∃ i : Nat, Lib.index l [a, b] = i := ⟨(Lib.index l [a, b]).toNat, by omega⟩
    rw [Lib.count_hit (i := i) (by simp) hi2, Lib.count_hit (i := i + 1) (by simp) (by rw [hi, e1, hi2]; simp)]
    rw [show i + 1 + [a, b].length = (i + [a, b].length) + 1 by omega, List.drop_succ_cons]

theorem repK_rep {a b : UInt8} {new : List UInt8} : ∀ (n : Nat) (l : List UInt8), l.length ≤ n → Lib.replaceK [a, b] new (Lib.count l [a, b]) l = rep a b new l
  | 0, l, h => by
    obtain rfl : l = [] := List.length_eq_zero_iff.1 (by omega)
    rfl
  | n + 1, [], _ => rfl
  | n + 1, [x], _ => by
    rw [count_skip (by simp), repK_skip (by simp)]
    rfl
  | n + 1, x :: y :: r, h => by
    simp only [List.length_cons] at h
    rw [rep]
    by_cases hxy : x = a ∧ y = b
    · obtain ⟨rfl, rfl⟩ := hxy
      rw [if_pos ⟨rfl, rfl⟩]
      have hi : Lib.index (x :: y :: r) [x, y] = (0 : Nat) := by
        rw [Lib.index, pre_two]
        simp
      rw [Lib.count_hit (by simp) hi, Nat.add_comm, Lib.replaceK_hit _ _ _ _ 0 hi]
      simp only [List.take_zero, List.nil_append, Nat.zero_add, List.length_cons, List.length_nil]
      rw [show (x :: y :: r).drop 2 = r from rfl, repK_rep n r (by omega)]
    · rw [if_neg hxy]
      have hno : ¬(x = a ∧ (y :: r).head? = some b) := by simpa using hxy
      rw [count_skip hno, repK_skip hno, repK_rep n (y :: r) (by simp; omega)]

theorem replace_rep {a b : UInt8} {new l : List UInt8} (h : [a, b] ≠ new) : Lib.replaceAll l [a, b] new = rep a b new l := by
  unfold Lib.replaceAll Lib.replace Lib.replaceNum
  rw [if_neg (by simpa using h), if_pos (.inl (by omega))]
  exact repK_rep _ l (Nat.le_refl _)

theorem rep_cons {a b : UInt8} {new : List UInt8} {x y : UInt8} {r : List UInt8} : rep a b new (x :: y :: r) = if x = a ∧ y = b then new ++ rep a b new r else x :: rep a b new (y :: r) := by rw [rep]

end Go.Vf.S
end
/- LbC -/
section
/- What a call of the library's is told. -/
namespace Go.Vf.S
open Go Go.Vf Go.Proofs Go.RowKit
set_option linter.unusedVariables false
set_option linter.unusedSimpArgs false
set_option maxRecDepth 10000

theorem tyNe {H : List (Nat × Option ABlk)} {i j : Nat} {c c' : List Value} {t t' : TypeId} {g g' r r' : Bool} (h : lookH H i = some (.cells c t g r)) (h' : lookH H j = some (.cells c' t' g' r')) (ht : t ≠ t') : i ≠ j := by
  intro e
  subst e
  rw [h] at h'
  cases h'
  exact ht rfl

abbrev gMx : Nat := 2
/-- The library's own number lies there. -/
def Gx (s : SS) : Prop := gMx < s.gl ∧ gMx < s.next ∧ ∃ m, lookH s.heap gMx = some (.cells [.int .i64 m] 3 false true)
theorem Gx.chg {s s' : SS} (h : Gx s) (c : Chg s s' []) : Gx s' := by
  obtain ⟨h1, h2, m, h3⟩ := h
  exact ⟨by rw [c.gl]; exact h1, Nat.lt_of_lt_of_le h2 c.next, m, c.blk _ _ h2 (by simp) h3⟩

theorem lrel_1 {ρ : Ren} {a : Value} {args' : List Value} (h : LRel ρ [a] args') : ∃ v1, args' = [v1] ∧ VRel ρ a v1 := by
  obtain ⟨h1, h2⟩ := h
  match args', h1 with
  | [v1], _ => exact ⟨v1, rfl, h2 0 _ _ rfl rfl⟩
theorem lrel_2 {ρ : Ren} {a b : Value} {args' : List Value} (h : LRel ρ [a, b] args') : ∃ v1 v2, args' = [v1, v2] ∧ VRel ρ a v1 ∧ VRel ρ b v2 := by
  obtain ⟨h1, h2⟩ := h
  match args', h1 with
  | [v1, v2], _ => exact ⟨v1, v2, rfl, h2 0 _ _ rfl rfl, h2 1 _ _ rfl rfl⟩
theorem lrel_3 {ρ : Ren} {a b c : Value} {args' : List Value} (h : LRel ρ [a, b, c] args') : ∃ v1 v2 v3, args' = [v1, v2, v3] ∧ VRel ρ a v1 ∧ VRel ρ b v2 ∧ VRel ρ c v3 := by
  obtain ⟨h1, h2⟩ := h
  match args', h1 with
  | [v1, v2, v3], _ => exact ⟨v1, v2, v3, rfl, h2 0 _ _ rfl rfl, h2 1 _ _ rfl rfl, h2 2 _ _ rfl rfl⟩

def asc (l : List UInt8) : Prop := ∀ c ∈ l, c.toNat < 128
theorem asc_at {l : List UInt8} (h : asc l) : ∀ (j : Nat) (b : UInt8), (⟨⟨l⟩⟩ : ByteArray).data.toList[j]? = some b → b.toNat < 128 := fun j b hb => h b (List.mem_of_getElem? hb)

end Go.Vf.S
end

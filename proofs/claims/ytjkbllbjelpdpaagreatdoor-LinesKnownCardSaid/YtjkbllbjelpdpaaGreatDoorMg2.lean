import Derived.Test.YtjkbllbjelpdpaaGreatDoorMg1
import Derived.Test.YtjkbllbjelpdpaaGreatDoorAdS
section
/- Tables as texts, pure: values; entries; lines; there and back. -/
namespace Go.Vf.S
open Go Go.Vf
set_option linter.unusedVariables false
set_option linter.unusedSimpArgs false
set_option maxRecDepth 10000

/-! ### Values -/
def txB (c : UInt8) : Bool := c == 9 || (decide (32 ≤ c.toNat) && decide (c.toNat ≤ 126))
def vsF : Nat → List UInt8 → Option (List (List UInt8))
  | 0, _ => none
  | n + 1, l => match wdF 44 l with
    | none => none
    | some (w, none) => some [w]
    | some (w, some r) => (vsF n r).map (w :: ·)
def vluF (l : List UInt8) : List (List UInt8) × Nat :=
  if l.all txB = true then (match vsF (l.length + 1) l with
    | none => ([], 5)
    | some ws => if 16 < ws.length then ([], 7) else (ws, 0)) else ([], 5)
section
variable {p q : List UInt8} (hp : p.all wsB = true) (hq : q.all wsB = true)
include hp hq
end
/-! ### Entries -/
structure Ent where
  n : Nat
  k : List UInt8
  vs : List (List UInt8)
deriving DecidableEq
structure Sai where
  n : Nat
  t : List UInt8
  al : Bool
def enF (values : Bool) (x : Sai) : Ent × Nat :=
  if x.al = true ∨ x.t.all txB = false then (⟨0, [], []⟩, 5)
  else if values = false then (if (34 : UInt8) ∈ x.t then (⟨0, [], []⟩, 5) else (⟨x.n, trB x.t, []⟩, 0))
  else match wdF 58 x.t with
    | some (k, some r) => if k = [] then (⟨0, [], []⟩, 5) else if (vluF r).2 = 0 then (⟨x.n, k, (vluF r).1⟩, 0) else (⟨0, [], []⟩, (vluF r).2)
    | _ => (⟨0, [], []⟩, 5)
/-! ### Lines -/
def lnE (l : List UInt8) : List UInt8 := if l.getLast? = some 13 then l.dropLast else l
def flS : Option (Nat × List UInt8) → List Sai
  | none => []
  | some (n, t) => [⟨n, t, false⟩]
def ctB (l : List UInt8) : Bool := match l.head? with
  | some c => wsB c
  | none => false
/-- What goes on, what goes on nothing. -/
def onS (cur : Option (Nat × List UInt8)) (b : List UInt8) : Option (Nat × List UInt8) := cur.map fun x => (x.1, x.2 ++ 32 :: b)
def alS (n : Nat) (cur : Option (Nat × List UInt8)) : List Sai := match cur with
  | none => [⟨n, [], true⟩]
  | some _ => []
def saG : Nat → Option (Nat × List UInt8) → List (List UInt8) → List Sai
  | _, cur, [] => flS cur
  | n, cur, l :: r =>
    if trB (lnE l) = [] ∨ (trB (lnE l)).head? = some 35 then saG (n + 1) cur r
    else if ctB (lnE l) = true then alS n cur ++ saG (n + 1) (onS cur (trB (lnE l))) r
    else flS cur ++ saG (n + 1) (some (n, lnE l)) r
def saF (text : List UInt8) : List Sai := saG 1 none (splitF 10 text)
def lwF (l : List UInt8) : List UInt8 := l.map lowB
def hasK (es : List Ent) (k : List UInt8) : Bool := es.any fun z => decide (lwF z.k = lwF k)
def tbG (values : Bool) : List Sai → List Ent → List (Nat × Nat) → List Ent × List (Nat × Nat)
  | [], es, fs => (es, fs)
  | x :: r, es, fs =>
    if (enF values x).2 ≠ 0 then tbG values r es (fs ++ [(x.n, (enF values x).2)])
    else if 64 ≤ es.length then tbG values r es (fs ++ [(x.n, 7)])
    else if hasK es (enF values x).1.k = true then tbG values r es (fs ++ [(x.n, 9)])
    else tbG values r (es ++ [(enF values x).1]) fs
def tabF (text : List UInt8) (values : Bool) : List Ent × List (Nat × Nat) := if 8192 < text.length then ([], [(0, 3)]) else tbG values (saF text) [] []

/-! ### There and back -/
inductive Itm where
  | ent (k : List UInt8) (vs : List (List UInt8))
  | pass (l : List UInt8)
  | bad (l : List UInt8)
structure EntOk (k : List UInt8) (vs : List (List UInt8)) : Prop where
  ak : k.all txB = true
  k0 : k ≠ []
  av : ∀ w ∈ vs, w.all txB = true
  v0 : vs ≠ []
  v16 : vs.length ≤ 16
def Itm.ok : Itm → Prop
  | .ent k vs => EntOk k vs
  | .pass l => (10 : UInt8) ∉ l ∧ (trB (lnE l) = [] ∨ (trB (lnE l)).head? = some 35)
  | .bad l => (10 : UInt8) ∉ l ∧ lnE l = l ∧ bareB l ∧ l.head? ≠ some 35 ∧ ∀ n, (enF true ⟨n, l, false⟩).2 = 5
end Go.Vf.S
end
section
/- Parts of a text, by the library's calls. -/
namespace Go.Vf.S
open Go Go.Vf
attribute [local irreducible] wSeq wRow wp wG
set_option linter.unusedVariables false
set_option linter.unusedSimpArgs false
set_option maxRecDepth 10000

theorem ssuffix_w {s : SS} {a b : List UInt8} (ha : a.length ≤ 1000000) : CallW pr n_internal_stringslite_HasSuffix [str a, str b] s fun v s' => v = .bool (decide (b <:+ a)) ∧ s' = s := by
  refine CallW.run good ok_internal_stringslite_HasSuffix (by simp) rfl ?_
  (try refine pSeq ?_); (repeat(first|refine sb ?_|refine gOn rfl ?_|refine gOff rfl rfl ?_|refine gTup rfl ?_))
  intro n hn
  (repeat(first|refine sb ?_|refine gOn rfl ?_|refine gOff rfl rfl ?_|refine gTup rfl ?_))
  intro m hm
  (repeat(first|refine sb ?_|refine gOn rfl ?_|refine gOff rfl rfl ?_|refine gTup rfl ?_))
  intro q hq
  by_cases h : b.length ≤ a.length
  · obtain rfl : q = true := by rw [hq]; simp <;> omega
    (repeat(first|refine sb ?_|refine gOn rfl ?_|refine gOff rfl rfl ?_|refine gTup rfl ?_))
    intro n1 hn1
    (repeat(first|refine sb ?_|refine gOn rfl ?_|refine gOff rfl rfl ?_|refine gTup rfl ?_))
    intro m1 hm1
    (repeat(first|refine sb ?_|refine gOn rfl ?_|refine gOff rfl rfl ?_|refine gTup rfl ?_))
    intro z hz
    rw [i64_id (by omega)] at hz
    (repeat(first|refine sb ?_|refine gOn rfl ?_|refine gOff rfl rfl ?_|refine gTup rfl ?_))
    refine ⟨by omega, ?_⟩
    intro k hk r hr
    obtain rfl : k = a.length - b.length := by omega
    (repeat(first|refine sb ?_|refine gOn rfl ?_|refine gOff rfl rfl ?_|refine gTup rfl ?_))
    intro q hq
    (repeat(first|refine sb ?_|refine gOn rfl ?_|refine gOff rfl rfl ?_|refine gTup rfl ?_))
    refine ⟨bool_eq ?_, rfl⟩
    rw [hq, hr, List.take_of_length_le (by simp), decide_eq_decide, List.suffix_iff_eq_drop]
    exact ⟨fun e => e.symm, fun e => e.symm⟩
  · obtain rfl : q = false := by rw [hq]; simp <;> omega
    (repeat(first|refine sb ?_|refine gOn rfl ?_|refine gOff rfl rfl ?_|refine gTup rfl ?_))
    refine ⟨bool_eq ?_, rfl⟩
    symm
    rw [decide_eq_false_iff_not]
    exact fun q => h q.length_le

theorem sidx_w {s : SS} {l : List UInt8} {c : UInt8} : CallW pr n_internal_stringslite_Index [str l, str [c]] s fun v s' => v = .int .i64 (Lib.indexByte l c) ∧ s' = s := by
  refine CallW.run good ok_internal_stringslite_Index (by simp) rfl ?_
  (try refine pSeq ?_); (repeat(first|refine sb ?_|refine gOn rfl ?_|refine gOff rfl rfl ?_|refine gTup rfl ?_))
  intro n hn
  (repeat(first|refine sb ?_|refine gOn rfl ?_|refine gOff rfl rfl ?_|refine gTup rfl ?_))
  intro q hq
  obtain rfl : q = false := by rw [hq, hn]; rfl
  (repeat(first|refine sb ?_|refine gOn rfl ?_|refine gOff rfl rfl ?_|refine gTup rfl ?_))
  intro q hq
  by_cases he : [c] = l
  · subst he
    obtain rfl : q = true := by rw [hq]; simp
    (repeat(first|refine sb ?_|refine gOn rfl ?_|refine gOff rfl rfl ?_|refine gTup rfl ?_))
    exact ⟨by show Value.int .i64 0 = _; simp [Lib.indexByte], rfl⟩
  · obtain rfl : q = false := by rw [hq]; simp [he]
    (repeat(first|refine sb ?_|refine gOn rfl ?_|refine gOff rfl rfl ?_|refine gTup rfl ?_))
    intro q hq
    obtain rfl : q = true := by rw [hq, hn]; rfl
    (repeat(first|refine sb ?_|refine gOn rfl ?_|refine gOff rfl rfl ?_|refine gTup rfl ?_))
    refine ⟨by simp, ?_⟩
    intro m hm
    obtain rfl : m = 0 := by omega
    refine ⟨c, rfl, ?_⟩
    (repeat(first|refine sb ?_|refine gOn rfl ?_|refine gOff rfl rfl ?_|refine gTup rfl ?_))
    refine indexByte_w.mono fun v s q => ?_
    obtain ⟨rfl, rfl⟩ := q
    (repeat(first|refine sb ?_|refine gOn rfl ?_|refine gOff rfl rfl ?_|refine gTup rfl ?_))
    exact ⟨rfl, rfl⟩

def cutF (c : UInt8) (l : List UInt8) : List UInt8 × List UInt8 × Bool := if c ∈ l then (l.takeWhile (· != c), l.drop ((l.takeWhile (· != c)).length + 1), true) else (l, [], false)
theorem while_first {c : UInt8} {f r : List UInt8} (h : c ∉ f) : (f ++ c :: r).takeWhile (· != c) = f := by
  induction f with
  | nil => simp
  | cons x f ih =>
    have : x ≠ c := fun e => h (by simp [e])
    rw [List.cons_append, List.takeWhile_cons, if_pos (by simpa using this), ih fun q => h (by simp [q])]

theorem cut1_w {s : SS} {l : List UInt8} {c : UInt8} (hl : l.length ≤ 1000000) : CallW pr n_strings_Cut [str l, str [c]] s fun v s' => v = .tuple ⟨[str (cutF c l).1, str (cutF c l).2.1, .bool (cutF c l).2.2]⟩ ∧ s' = s := by
  refine CallW.run good ok_strings_Cut (by simp) rfl ?_
  (try refine pSeq ?_); (repeat(first|refine sb ?_|refine kNo ?_))
  refine (show CallW pr n_internal_stringslite_Cut [str l, str [c]] s fun v s' => v = .tuple ⟨[str (cutF c l).1, str (cutF c l).2.1, .bool (cutF c l).2.2]⟩ ∧ s' = s from ?_).mono fun v s q => ?_
  · refine CallW.run good ok_internal_stringslite_Cut (by simp) rfl ?_
    (try refine pSeq ?_); (repeat(first|refine sb ?_|refine kNo ?_))
    refine sidx_w.mono fun v s q => ?_
    obtain ⟨rfl, rfl⟩ := q
    by_cases hc : c ∈ l
    · obtain ⟨f, r, rfl, hf⟩ := List.eq_append_cons_of_mem hc
      have e : cutF c (f ++ c :: r) = (f, r, true) := by
        unfold cutF
        rw [if_pos hc, while_first hf, show f ++ c :: r = (f ++ [c]) ++ r by simp, show f.length + 1 = (f ++ [c]).length by simp, List.drop_left]
      have hn : (f ++ c :: r).length = f.length + 1 + r.length := by simp; omega
      rw [index_first hf, e]
      (repeat(first|refine sb ?_|refine kNo ?_))
      intro q hq; obtain rfl : q = true := (by rw [hq]; simp <;> omega); (repeat(first|refine sb ?_|refine kNo ?_))
      refine ⟨by omega, ?_⟩
      intro m hm g hg
      obtain rfl : m = f.length := by omega
      have eg : g = f := by rw [hg]; simp
      subst eg
      (repeat(first|refine sb ?_|refine kNo ?_))
      intro n hn1
      (repeat(first|refine sb ?_|refine kNo ?_))
      intro z hz
      rw [i64_id (by simp at hn1; omega)] at hz
      (repeat(first|refine sb ?_|refine kNo ?_))
      refine ⟨by simp at hn1; omega, ?_⟩
      intro m hm t ht
      obtain rfl : m = g.length + 1 := by simp at hn1; omega
      have et : t = r := by rw [ht, List.take_of_length_le (by simp <;> omega), show g ++ c :: r = (g ++ [c]) ++ r by simp, show g.length + 1 = (g ++ [c]).length by simp, List.drop_left]
      clear ht hg
      subst et
      (repeat(first|refine sb ?_|refine kNo ?_))
      exact ⟨rfl, rfl⟩
    · have e : cutF c l = (l, [], false) := by unfold cutF; rw [if_neg hc]
      rw [idx_no hc, e]
      (repeat(first|refine sb ?_|refine kNo ?_))
      intro q hq; obtain rfl : q = false := (by rw [hq]; simp <;> omega); (repeat(first|refine sb ?_|refine kNo ?_))
      exact ⟨rfl, rfl⟩
  obtain ⟨rfl, rfl⟩ := q
  (repeat(first|refine sb ?_|refine kNo ?_))
  exact ⟨rfl, rfl⟩

theorem idx_in {c : UInt8} {l : List UInt8} : (0 ≤ Lib.indexByte l c) ↔ c ∈ l := by
  constructor
  · intro h
    refine Classical.byContradiction fun hn => ?_
    rw [idx_no hn] at h
    omega
  · intro h
    obtain ⟨f, r, rfl, hf⟩ := List.eq_append_cons_of_mem h
    rw [index_first hf]
    omega
theorem contains1_w {s : SS} {l : List UInt8} {c : UInt8} : CallW pr n_strings_Contains [str l, str [c]] s fun v s' => v = .bool (decide (c ∈ l)) ∧ s' = s := by
  refine CallW.run good ok_strings_Contains (by simp) rfl ?_
  (try refine pSeq ?_); (repeat refine sb ?_)
  refine (show CallW pr n_strings_Index [str l, str [c]] s fun v s' => v = .int .i64 (Lib.indexByte l c) ∧ s' = s from ?_).mono fun v s q => ?_
  · refine CallW.run good ok_strings_Index (by simp) rfl ?_
    (try refine pSeq ?_); (repeat refine sb ?_)
    refine sidx_w.mono fun v s q => ?_
    obtain ⟨rfl, rfl⟩ := q
    (repeat refine sb ?_)
    exact ⟨rfl, rfl⟩
  obtain ⟨rfl, rfl⟩ := q
  (repeat refine sb ?_)
  intro q hq
  (repeat refine sb ?_)
  refine ⟨bool_eq ?_, rfl⟩
  rw [hq, decide_eq_decide]
  exact idx_in
theorem trimSuffix_w {s : SS} {l b : List UInt8} (hl : l.length ≤ 1000000) : CallW pr n_strings_TrimSuffix [str l, str b] s fun v s' => v = str (if b <:+ l then l.take (l.length - b.length) else l) ∧ s' = s := by
  refine CallW.run good ok_strings_TrimSuffix (by simp) rfl ?_
  (try refine pSeq ?_); (repeat refine sb ?_)
  refine (show CallW pr n_internal_stringslite_TrimSuffix [str l, str b] s fun v s' => v = str (if b <:+ l then l.take (l.length - b.length) else l) ∧ s' = s from ?_).mono fun v s q => ?_
  · refine CallW.run good ok_internal_stringslite_TrimSuffix (by simp) rfl ?_
    (try refine pSeq ?_); (repeat refine sb ?_)
    refine (ssuffix_w hl).mono fun v s q => ?_
    obtain ⟨rfl, rfl⟩ := q
    by_cases h : b <:+ l
    · have := h.length_le
      rw [decide_eq_true h, if_pos h]
      (repeat refine sb ?_)
      intro n hn
      (repeat refine sb ?_)
      intro n2 hn2
      (repeat refine sb ?_)
      intro z hz
      rw [i64_id (by omega)] at hz
      (repeat refine sb ?_)
      refine ⟨by omega, ?_⟩
      intro m hm r hr
      obtain rfl : m = l.length - b.length := by omega
      rw [List.drop_zero, Nat.sub_zero] at hr
      subst hr
      (repeat refine sb ?_)
      exact ⟨rfl, rfl⟩
    · rw [decide_eq_false h, if_neg h]
      (repeat refine sb ?_)
      exact ⟨rfl, rfl⟩
  obtain ⟨rfl, rfl⟩ := q
  (repeat refine sb ?_)
  exact ⟨rfl, rfl⟩

end Go.Vf.S
end
section
/- Tables as texts, pure: what the program's loops hold: parts, values, rows, tables. -/
namespace Go.Vf.S
open Go Go.Vf
set_option linter.unusedVariables false
set_option linter.unusedSimpArgs false
set_option maxRecDepth 10000

/-! ### A part -/
theorem trR_nil {l : List UInt8} : trR l = [] ↔ l.all wsB = true := by
  have hr : ∀ l : List UInt8, l.dropWhile wsB = [] ↔ l.all wsB = true := by
    intro l
    induction l with
    | nil => simp
    | cons c l ih =>
      rw [List.dropWhile_cons, List.all_cons]
      by_cases h : wsB c = true
      · rw [if_pos h, ih, h]; simp
      · rw [if_neg h]; simp [h]
  unfold trR
  rw [List.reverse_eq_nil_iff, hr, List.all_reverse]
theorem trL_dec (l : List UInt8) : ∃ p, p.all wsB = true ∧ l = p ++ trL l ∧ (trL l = [] ∨ ∃ c r, trL l = c :: r ∧ wsB c = false) := by
  induction l with
  | nil => exact ⟨[], rfl, rfl, .inl rfl⟩
  | cons c l ih =>
    by_cases h : wsB c = true
    · obtain ⟨p, h1, h2, h3⟩ := ih
      have e : trL (c :: l) = trL l := by unfold trL; rw [List.dropWhile_cons, if_pos h]
      exact ⟨c :: p, by rw [List.all_cons, h, h1]; rfl, by rw [e, List.cons_append, ← h2], by rw [e]; exact h3⟩
    · have h : wsB c = false := by simpa using h
      exact ⟨[], rfl, (trL_not h).symm, .inr ⟨c, l, trL_not h, h⟩⟩
theorem trR_dec (l : List UInt8) : ∃ p, p.all wsB = true ∧ l = trR l ++ p := by
  obtain ⟨p, h1, h2, _⟩ := trL_dec l.reverse
  refine ⟨p.reverse, by rw [List.all_reverse]; exact h1, ?_⟩
  have : trR l = (trL l.reverse).reverse := rfl
  rw [this, ← List.reverse_append, ← h2, List.reverse_reverse]
theorem mem_trR {c : UInt8} {l : List UInt8} (h : wsB c = false) : c ∈ trR l ↔ c ∈ l := by
  obtain ⟨p, h1, h2⟩ := trR_dec l
  constructor
  · intro q; rw [h2]; exact List.mem_append.2 (.inl q)
  · intro q
    rw [h2] at q
    rcases List.mem_append.1 q with q | q
    · exact q
    · rw [List.all_eq_true.1 h1 c q] at h; cases h
theorem cut_no {e : UInt8} {l : List UInt8} (h : e ∉ l) : cutF e l = (l, [], false) := by unfold cutF; rw [if_neg h]
theorem cut_yea {e : UInt8} {l r : List UInt8} (h : e ∉ l) : cutF e (l ++ e :: r) = (l, r, true) := by
  unfold cutF
  rw [if_pos (by simp), while_first h]
  congr 2
  rw [show l ++ e :: r = l ++ [e] ++ r by simp, show l.length + 1 = (l ++ [e]).length by simp, List.drop_left]
theorem cut_two (e : UInt8) (l : List UInt8) : (e ∉ l ∧ cutF e l = (l, [], false)) ∨ ∃ a r, e ∉ a ∧ l = a ++ e :: r ∧ cutF e l = (a, r, true) := by
  by_cases h : e ∈ l
  · obtain ⟨a, r, rfl, ha⟩ := List.append_of_mem h |> fun ⟨a, r, q⟩ => (List.eq_append_cons_of_mem h)
    exact .inr ⟨a, r, ha, rfl, cut_yea ha⟩
  · exact .inl ⟨h, cut_no h⟩
/-- A part, as it is read: its text, what is left, whether the row ended, whether something else stood there. -/
def lpF (e : UInt8) (l : List UInt8) : List UInt8 × List UInt8 × Bool × Bool :=
  if (trL l).head? = some 34 then
    match quF (trL l).tail with
    | none => ([], (cutF e (trL l)).2.1, !(cutF e (trL l)).2.2, true)
    | some (w, t) => if trR (cutF e t).1 = [] then (w, (cutF e t).2.1, !(cutF e t).2.2, false) else ([], (cutF e t).2.1, !(cutF e t).2.2, true)
  else if trR (cutF e (trL l)).1 = [] ∨ (34 : UInt8) ∈ trR (cutF e (trL l)).1 then ([], (cutF e (trL l)).2.1, !(cutF e (trL l)).2.2, true)
  else (trR (cutF e (trL l)).1, (cutF e (trL l)).2.1, !(cutF e (trL l)).2.2, false)
theorem lp_wd {e : UInt8} (he : wsB e = false) (l : List UInt8) : match wdF e l with
    | some (w, t) => lpF e l = (w, t.getD [], t.isNone, false)
    | none => (lpF e l).2.2.2 = true := by
  obtain ⟨p, _, _, hT⟩ := trL_dec l
  unfold wdF lpF
  generalize trL l = T at *
  have plain : T.head? ≠ some 34 → match (if (34 : UInt8) ∈ T.takeWhile (· != e) ∨ trB (T.takeWhile (· != e)) = [] then none else some (trB (T.takeWhile (· != e)), if T.takeWhile (· != e) = T then none else some (T.drop ((T.takeWhile (· != e)).length + 1)))) with
      | some (w, t) => (if T.head? = some 34 then (match quF T.tail with
        | none => ([], (cutF e T).2.1, !(cutF e T).2.2, true)
        | some (w, t) => if trR (cutF e t).1 = [] then (w, (cutF e t).2.1, !(cutF e t).2.2, false) else ([], (cutF e t).2.1, !(cutF e t).2.2, true))
        else if trR (cutF e T).1 = [] ∨ (34 : UInt8) ∈ trR (cutF e T).1 then ([], (cutF e T).2.1, !(cutF e T).2.2, true)
        else (trR (cutF e T).1, (cutF e T).2.1, !(cutF e T).2.2, false)) = (w, t.getD [], t.isNone, false)
      | none => (if T.head? = some 34 then (match quF T.tail with
        | none => ([], (cutF e T).2.1, !(cutF e T).2.2, true)
        | some (w, t) => if trR (cutF e t).1 = [] then (w, (cutF e t).2.1, !(cutF e t).2.2, false) else ([], (cutF e t).2.1, !(cutF e t).2.2, true))
        else if trR (cutF e T).1 = [] ∨ (34 : UInt8) ∈ trR (cutF e T).1 then ([], (cutF e T).2.1, !(cutF e T).2.2, true)
        else (trR (cutF e T).1, (cutF e T).2.1, !(cutF e T).2.2, false)).2.2.2 = true := by
    intro h34
    simp only [if_neg h34]
    have hm := fun l => mem_trR (c := 34) (l := l) (by decide)
    have hb : ∀ a r, T = a ++ r → (a = [] ∨ ∃ c b, a = c :: b ∧ wsB c = false) := by
      intro a r q
      cases a with
      | nil => exact .inl rfl
      | cons c b =>
        right
        refine ⟨c, b, rfl, ?_⟩
        rcases hT with h | ⟨c', r', h, hc⟩
        · rw [h] at q; cases q
        · rw [h, List.cons_append] at q
          rw [← (List.cons.inj q).1]; exact hc
    have hB : ∀ a r, T = a ++ r → trB a = trR a := by
      intro a r q
      unfold trB
      rcases hb a r q with rfl | ⟨c, b, rfl, hc⟩
      · rfl
      · rw [trL_not hc]
    rcases cut_two e T with ⟨h1, h2⟩ | ⟨a, r, h1, h2, h3⟩
    · rw [h2, tw_all (fun c hc (q : c = e) => h1 (by rw [← q]; exact hc)), hB T [] (by simp)]
      dsimp only
      by_cases hx : (34 : UInt8) ∈ T ∨ trR T = []
      · rw [if_pos hx]
        dsimp only
        rw [if_pos (by rw [hm]; exact hx.symm)]
      · rw [if_neg hx]
        dsimp only
        rw [if_neg (by rw [hm]; exact fun q => hx q.symm), if_pos rfl]
        rfl
    · have e1 : T.takeWhile (· != e) = a := by rw [h2]; exact while_first h1
      have e2 : T.drop (a.length + 1) = r := by rw [h2, show a ++ e :: r = a ++ [e] ++ r by simp, show a.length + 1 = (a ++ [e]).length by simp, List.drop_left]
      have e3 : ¬a = T := fun q => by
        have := congrArg List.length (q.trans h2)
        rw [List.length_append, List.length_cons] at this
        omega
      rw [h3, e1, e2, if_neg e3, hB a _ h2]
      dsimp only
      by_cases hx : (34 : UInt8) ∈ a ∨ trR a = []
      · rw [if_pos hx]
        dsimp only
        rw [if_pos (by rw [hm]; exact hx.symm)]
      · rw [if_neg hx]
        dsimp only
        rw [if_neg (by rw [hm]; exact fun q => hx q.symm)]
        rfl
  by_cases h34 : T.head? = some 34
  · obtain ⟨r, rfl⟩ : ∃ r, T = 34 :: r := by
      cases T with
      | nil => cases h34
      | cons c r => exact ⟨r, by rw [Option.some.inj h34]⟩
    rw [if_pos h34, List.tail_cons]
    show (match (match quF r with
      | none => none
      | some (w, t) => match trL t with
        | [] => some (w, none)
        | c :: u => if c = e then some (w, some u) else none : Option (List UInt8 × Option (List UInt8))) with
      | some (w, t) => _
      | none => _)
    cases hq : quF r with
    | none => rfl
    | some x =>
      obtain ⟨w, t⟩ := x
      dsimp only
      obtain ⟨p, h1, h2, h3⟩ := trL_dec t
      have hep : e ∉ p := fun q => by rw [List.all_eq_true.1 h1 e q] at he; cases he
      rcases h3 with h3 | ⟨c, u, h3, hc⟩
      · rw [h3, List.append_nil] at h2
        rw [h3]
        dsimp only
        rw [h2, cut_no hep, if_pos (trR_nil.2 h1)]
        rfl
      · rw [h3]
        dsimp only
        rw [h3] at h2
        by_cases hce : c = e
        · subst hce
          rw [if_pos rfl]
          dsimp only
          rw [h2, cut_yea hep, if_pos (trR_nil.2 h1)]
          rfl
        · rw [if_neg hce]
          dsimp only
          rw [if_neg]
          intro q
          have q := trR_nil.1 q
          have : c ∈ (cutF e t).1 := by
            rcases cut_two e t with ⟨_, g2⟩ | ⟨a, r', g1, g2, g3⟩
            · rw [g2]
              show c ∈ t
              rw [h2]; simp
            · rw [g3]
              show c ∈ a
              rw [h2] at g2
              rcases List.append_eq_append_iff.1 g2 with ⟨hs, x1, x2⟩ | ⟨bs, x1, x2⟩
              · cases hs with
                | nil => exact absurd (List.cons.inj (by simpa using x2)).1 hce
                | cons y ys => rw [x1, (List.cons.inj x2).1]; simp
              · cases bs with
                | nil => exact absurd (List.cons.inj (by simpa using x2)).1.symm hce
                | cons y ys => exact absurd (show e ∈ p by rw [x1, (List.cons.inj x2).1]; simp) hep
          rw [List.all_eq_true.1 q c this] at hc
          cases hc
  · have := plain h34
    split
    · rename_i heq
      split at heq
      · rename_i r; exact absurd rfl h34
      · rw [heq] at this; exact this
    · rename_i heq
      split at heq
      · rename_i r; exact absurd rfl h34
      · rw [heq] at this; exact this
theorem cutF_len (e : UInt8) (l : List UInt8) : (cutF e l).1.length ≤ l.length ∧ (cutF e l).2.1.length ≤ l.length ∧ ((cutF e l).2.2 = true → (cutF e l).2.1.length < l.length) := by
  rcases cut_two e l with ⟨h1, h2⟩ | ⟨a, r, h1, h2, h3⟩
  · rw [h2]; exact ⟨Nat.le_refl _, Nat.zero_le _, by simp⟩
  · rw [h3, h2]; simp; omega
theorem trL_len (l : List UInt8) : (trL l).length ≤ l.length := (List.dropWhile_sublist _).length_le
theorem trR_len (l : List UInt8) : (trR l).length ≤ l.length := by
  unfold trR
  rw [List.length_reverse]
  have := trL_len l.reverse
  rw [List.length_reverse] at this
  exact this
theorem qg_len : ∀ (b : Bool) (l w t : List UInt8), quG b l = some (w, t) → w.length + t.length ≤ l.length
  | _, [], w, t, h => by simp [quG] at h
  | true, c :: r, w, t, h => by
    rw [quG] at h
    obtain ⟨x, h1, h2⟩ := Option.map_eq_some_iff.1 h
    have := qg_len false r x.1 x.2 h1
    cases h2
    simp only [List.length_cons]
    omega
  | false, c :: r, w, t, h => by
    rw [quG] at h
    split at h
    · cases h; simp
    · split at h
      · have := qg_len true r w t h
        simp only [List.length_cons]; omega
      · obtain ⟨x, h1, h2⟩ := Option.map_eq_some_iff.1 h
        have := qg_len false r x.1 x.2 h1
        cases h2
        simp only [List.length_cons]
        omega
theorem lp_len (e : UInt8) (l : List UInt8) : (lpF e l).1.length ≤ l.length ∧ (lpF e l).2.1.length ≤ l.length ∧ ((lpF e l).2.2.1 = false → (lpF e l).2.1.length < l.length) := by
  have h0 := trL_len l
  obtain ⟨a1, a2, a3⟩ := cutF_len e (trL l)
  have a4 := trR_len (cutF e (trL l)).1
  unfold lpF
  split
  · cases hq : quF (trL l).tail with
    | none => exact ⟨Nat.zero_le _, by dsimp only; omega, fun h => by have := a3 (by simpa using h); dsimp only; omega⟩
    | some x =>
      obtain ⟨w, t⟩ := x
      have h1 := qg_len _ _ _ _ hq
      have h2 : (trL l).tail.length ≤ (trL l).length := by simp
      obtain ⟨b1, b2, b3⟩ := cutF_len e t
      dsimp only
      split
      · exact ⟨by dsimp only; omega, by dsimp only; omega, fun h => by have := b3 (by simpa using h); dsimp only; omega⟩
      · exact ⟨Nat.zero_le _, by dsimp only; omega, fun h => by have := b3 (by simpa using h); dsimp only; omega⟩
  · split
    · exact ⟨Nat.zero_le _, by dsimp only; omega, fun h => by have := a3 (by simpa using h); dsimp only; omega⟩
    · exact ⟨by dsimp only; omega, by dsimp only; omega, fun h => by have := a3 (by simpa using h); dsimp only; omega⟩

/-! ### Values -/
/-- All parts up to the end, and whether one of them was wrong. -/
def vwF : Nat → List UInt8 → List (List UInt8) × Bool
  | 0, _ => ([], true)
  | n + 1, l => if (lpF 44 l).2.2.1 = true then ([(lpF 44 l).1], (lpF 44 l).2.2.2) else ((lpF 44 l).1 :: (vwF n (lpF 44 l).2.1).1, (lpF 44 l).2.2.2 || (vwF n (lpF 44 l).2.1).2)
def vwA (l : List UInt8) : List (List UInt8) × Bool := vwF (l.length + 1) l
theorem vw_fuel : ∀ (n : Nat) (l : List UInt8), l.length < n → vwF n l = vwA l
  | 0, _, h => by omega
  | n + 1, l, h => by
    unfold vwA
    rw [vwF, vwF]
    by_cases hc : (lpF 44 l).2.2.1 = true
    · rw [if_pos hc, if_pos hc]
    · have hl := (lp_len 44 l).2.2 (by simpa using hc)
      rw [if_neg hc, if_neg hc, vw_fuel n _ (by omega)]
      rw [show vwF l.length (lpF 44 l).2.1 = vwA (lpF 44 l).2.1 from ?_]
      by_cases hn : l.length ≤ n
      · rw [vw_fuel l.length _ hl]
      · omega
termination_by n l => (n, l.length)
theorem vw_step (l : List UInt8) : vwA l = if (lpF 44 l).2.2.1 = true then ([(lpF 44 l).1], (lpF 44 l).2.2.2) else ((lpF 44 l).1 :: (vwA (lpF 44 l).2.1).1, (lpF 44 l).2.2.2 || (vwA (lpF 44 l).2.1).2) := by
  by_cases hc : (lpF 44 l).2.2.1 = true
  · unfold vwA
    rw [vwF, if_pos hc, if_pos hc]
  · have hl := (lp_len 44 l).2.2 (by simpa using hc)
    rw [if_neg hc, ← vw_fuel l.length _ hl]
    unfold vwA
    rw [vwF, if_neg hc]
theorem vs_vw : ∀ (n : Nat) (l : List UInt8), l.length < n → vsF n l = if (vwF n l).2 = true then none else some (vwF n l).1
  | 0, _, h => by omega
  | n + 1, l, h => by
    have hw := lp_wd (e := 44) (by decide) l
    rw [vsF, vwF]
    cases hx : wdF 44 l with
    | none =>
      rw [hx] at hw
      dsimp only at hw ⊢
      by_cases hc : (lpF 44 l).2.2.1 = true
      · rw [if_pos hc, hw]; rfl
      · rw [if_neg hc, hw, Bool.true_or]; rfl
    | some x =>
      obtain ⟨w, t⟩ := x
      rw [hx] at hw
      dsimp only at hw ⊢
      cases t with
      | none =>
        rw [hw]
        rfl
      | some u =>
        have hl : u.length < l.length := by
          have := (lp_len 44 l).2.2 (by rw [hw]; rfl)
          rw [hw] at this
          exact this
        have e : (if (lpF 44 l).2.2.1 = true then ([(lpF 44 l).1], (lpF 44 l).2.2.2) else ((lpF 44 l).1 :: (vwF n (lpF 44 l).2.1).1, (lpF 44 l).2.2.2 || (vwF n (lpF 44 l).2.1).2)) = (w :: (vwF n u).1, (vwF n u).2) := by rw [hw]; rfl
        rw [e]
        show (vsF n u).map (w :: ·) = if (vwF n u).2 = true then none else some (w :: (vwF n u).1)
        rw [vs_vw n u (by omega)]
        by_cases hv : (vwF n u).2 = true
        · rw [if_pos hv, if_pos hv]; rfl
        · rw [if_neg hv, if_neg hv]; rfl
/-- What is answered of values, all of them read. -/
def vwE (w : Bool) (ws : List (List UInt8)) : List (List UInt8) × Nat := if w = true then ([], 5) else if 16 < ws.length then ([], 7) else (ws, 0)
theorem vlu_vw (l : List UInt8) : vluF l = vwE (!(l.all txB) || (vwA l).2) (vwA l).1 := by
  unfold vluF vwE
  by_cases h : l.all txB = true
  · rw [if_pos h, vs_vw _ l (Nat.lt_succ_self _), h, Bool.not_true, Bool.false_or]
    show (match (if (vwA l).2 = true then none else some (vwA l).1) with
      | none => _
      | some ws => _) = _
    by_cases hv : (vwA l).2 = true
    · rw [if_pos hv, if_pos hv]
    · rw [if_neg hv, if_neg hv]
  · rw [if_neg h, if_pos (by simp [h])]
/-! ### An entry -/
/-- What a row says, as the program reads it: key, values and error. -/
def keF (x : Sai) : List UInt8 × Bool := (((lpF 58 x.t).1), (lpF 58 x.t).2.2.2 || decide ((lpF 58 x.t).1 = []) || (lpF 58 x.t).2.2.1)
theorem all_lp {l : List UInt8} {e : UInt8} {p : UInt8 → Bool} (h : l.all p = true) : (lpF e l).2.1.all p = true := by
  have sub : ∀ m : List UInt8, (∀ c ∈ m, c ∈ l) → m.all p = true := fun m hm => List.all_eq_true.2 fun c hc => List.all_eq_true.1 h c (hm c hc)
  have cutm : ∀ m : List UInt8, ∀ c ∈ (cutF e m).2.1, c ∈ m := by
    intro m c hc
    rcases cut_two e m with ⟨_, g2⟩ | ⟨a, r, _, g2, g3⟩
    · rw [g2] at hc; cases hc
    · rw [g3] at hc; rw [g2]; exact List.mem_append.2 (.inr (List.mem_cons_of_mem _ hc))
  have trm : ∀ c ∈ trL l, c ∈ l := fun c hc => (List.dropWhile_sublist _).subset hc
  have qum : ∀ (b : Bool) (m w t : List UInt8), quG b m = some (w, t) → ∀ c ∈ t, c ∈ m := by
    intro b m
    induction m generalizing b with
    | nil => intro w t q; simp [quG] at q
    | cons x r ih =>
      intro w t q c hc
      cases b with
      | true =>
        rw [quG] at q
        obtain ⟨y, h1, h2⟩ := Option.map_eq_some_iff.1 q
        cases h2
        exact List.mem_cons_of_mem _ (ih _ _ _ h1 c hc)
      | false =>
        rw [quG] at q
        split at q
        · cases q; exact List.mem_cons_of_mem _ hc
        · split at q
          · exact List.mem_cons_of_mem _ (ih _ _ _ q c hc)
          · obtain ⟨y, h1, h2⟩ := Option.map_eq_some_iff.1 q
            cases h2
            exact List.mem_cons_of_mem _ (ih _ _ _ h1 c hc)
  refine sub _ fun c hc => ?_
  unfold lpF at hc
  split at hc
  · cases hq : quF (trL l).tail with
    | none => rw [hq] at hc; exact trm c (cutm _ c hc)
    | some y =>
      obtain ⟨w, t⟩ := y
      rw [hq] at hc
      dsimp only at hc
      have : c ∈ (cutF e t).2.1 := by split at hc <;> exact hc
      exact trm c (List.mem_of_mem_tail (qum _ _ _ _ hq c (cutm _ c this)))
  · split at hc <;> exact trm c (cutm _ c hc)
theorem en_true {x : Sai} : enF true x = (if ((x.al || !(x.t.all txB)) || (keF x).2) = true then (⟨0, [], []⟩, 5)
    else match vwE (vwA (lpF 58 x.t).2.1).2 (vwA (lpF 58 x.t).2.1).1 with
      | (ws, 0) => (⟨x.n, (keF x).1, ws⟩, 0)
      | (_, e) => (⟨0, [], []⟩, e)) := by
  unfold enF
  by_cases h1 : x.al = true ∨ x.t.all txB = false
  · rw [if_pos h1, if_pos (by rcases h1 with h | h <;> simp [h])]
  · have h2 : x.al = false := by cases hx : x.al <;> simp_all
    have h3 : x.t.all txB = true := by cases hx : x.t.all txB <;> simp_all
    rw [if_neg h1, if_neg (by simp), h2, h3]
    have hw := lp_wd (e := 58) (by decide) x.t
    cases hx : wdF 58 x.t with
    | none =>
      rw [hx] at hw
      dsimp only at hw ⊢
      rw [if_pos (by unfold keF; rw [hw]; simp)]
    | some y =>
      obtain ⟨k, t⟩ := y
      rw [hx] at hw
      dsimp only at hw
      have ha : (lpF 58 x.t).2.1.all txB = true := all_lp h3
      unfold keF
      rw [hw] at ha ⊢
      cases t with
      | none =>
        dsimp only [Option.isNone]
        rw [if_pos (by simp)]
      | some r =>
        dsimp only [Option.isNone, Option.getD] at ha ⊢
        by_cases hk : k = []
        · rw [if_pos hk, if_pos (by simp [hk])]
        · rw [if_neg hk, vlu_vw, ha, Bool.not_true, Bool.false_or]
          have e : (false || false || (false || decide (k = []) || false)) = false := by simp [hk]
          generalize vwE (vwA r).2 (vwA r).1 = V
          obtain ⟨ws, n⟩ := V
          refine Eq.trans ?_ (if_neg (by simp [hk])).symm
          cases n with
          | zero => rfl
          | succ e => rfl
theorem en_false {x : Sai} : enF false x = if (x.al || !(x.t.all txB)) = true ∨ (34 : UInt8) ∈ trB x.t then (⟨0, [], []⟩, 5) else (⟨x.n, trB x.t, []⟩, 0) := by
  unfold enF
  have hm : (34 : UInt8) ∈ trB x.t ↔ (34 : UInt8) ∈ x.t := by
    unfold trB
    rw [mem_trR (by decide)]
    obtain ⟨p, h1, h2, _⟩ := trL_dec x.t
    constructor
    · intro q; rw [h2]; exact List.mem_append.2 (.inr q)
    · intro q
      rw [h2] at q
      rcases List.mem_append.1 q with q | q
      · have := List.all_eq_true.1 h1 _ q
        cases this
      · exact q
  by_cases h1 : x.al = true ∨ x.t.all txB = false
  · rw [if_pos h1, if_pos (by rcases h1 with h | h <;> simp [h])]
  · have h2 : x.al = false := by cases hx : x.al <;> simp_all
    have h3 : x.t.all txB = true := by cases hx : x.t.all txB <;> simp_all
    rw [if_neg h1, if_pos rfl, h2, h3]
    by_cases h : (34 : UInt8) ∈ x.t
    · rw [if_pos h, if_pos (by rw [hm]; exact .inr h)]
    · rw [if_neg h, if_neg (by rw [hm]; simp [h])]

/-! ### Rows -/
/-- The row that may go on, and those ahead of it. -/
def curR (R : List Sai) : Option (Nat × List UInt8) := match R.getLast? with
  | some x => if x.al = true then none else some (x.n, x.t)
  | none => none
def aheR (R : List Sai) : List Sai := match curR R with
  | some _ => R.dropLast
  | none => R
def rwI (R : List Sai) (i : Nat) (ls : List (List UInt8)) : List Sai := aheR R ++ saG (i + 1) (curR R) ls
theorem rw_0 (text : List UInt8) : rwI [] 0 (splitF 10 text) = saF text := rfl
theorem curR_app (R : List Sai) (x : Sai) : curR (R ++ [x]) = if x.al = true then none else some (x.n, x.t) := by unfold curR; rw [List.getLast?_concat]
theorem aheR_cur (R : List Sai) : aheR R ++ flS (curR R) = R := by
  unfold aheR
  cases h : curR R with
  | none => simp [flS]
  | some y =>
    unfold curR at h
    cases hl : R.getLast? with
    | none => rw [hl] at h; cases h
    | some x =>
      rw [hl] at h
      dsimp only at h ⊢
      split at h
      · cases h
      · rename_i hx
        cases h
        obtain ⟨ys, rfl⟩ := List.getLast?_eq_some_iff.1 hl
        obtain ⟨n, t, al⟩ := x
        obtain rfl : al = false := by simpa using hx
        simp [flS]
theorem rw_end (R : List Sai) (i : Nat) : rwI R i [] = R := by
  unfold rwI
  rw [saG, aheR_cur]
theorem rw_pass {R : List Sai} {i : Nat} {l : List UInt8} {ls : List (List UInt8)} (h : trB (lnE l) = [] ∨ (trB (lnE l)).head? = some 35) : rwI R i (l :: ls) = rwI R (i + 1) ls := by
  unfold rwI
  rw [saG, if_pos h]
theorem rw_new {R : List Sai} {i : Nat} {l : List UInt8} {ls : List (List UInt8)} (h : ¬(trB (lnE l) = [] ∨ (trB (lnE l)).head? = some 35)) (h2 : ctB (lnE l) = false) : rwI R i (l :: ls) = rwI (R ++ [⟨i + 1, lnE l, false⟩]) (i + 1) ls := by
  unfold rwI
  rw [saG, if_neg h, if_neg (by rw [h2]; simp)]
  have e : aheR (R ++ [⟨i + 1, lnE l, false⟩]) = R := by
    unfold aheR
    rw [curR_app]
    simp
  rw [e, curR_app, ← List.append_assoc, aheR_cur]
  rfl
theorem rw_stray {R : List Sai} {i : Nat} {l : List UInt8} {ls : List (List UInt8)} (h : ¬(trB (lnE l) = [] ∨ (trB (lnE l)).head? = some 35)) (h2 : ctB (lnE l) = true) (h3 : curR R = none) : rwI R i (l :: ls) = rwI (R ++ [⟨i + 1, [], true⟩]) (i + 1) ls := by
  unfold rwI
  rw [saG, if_neg h, if_pos h2, h3]
  have e1 : curR (R ++ [⟨i + 1, [], true⟩]) = none := by rw [curR_app]; rfl
  have e : aheR (R ++ [⟨i + 1, [], true⟩]) = R ++ [⟨i + 1, [], true⟩] := by unfold aheR; rw [e1]
  have e2 : aheR R = R := by unfold aheR; rw [h3]
  rw [e, e1, e2]
  show R ++ ([⟨i + 1, [], true⟩] ++ saG (i + 1 + 1) none ls) = _
  rw [List.append_assoc]
theorem rw_on {R : List Sai} {x : Sai} {i : Nat} {l : List UInt8} {ls : List (List UInt8)} (h : ¬(trB (lnE l) = [] ∨ (trB (lnE l)).head? = some 35)) (h2 : ctB (lnE l) = true) (h3 : x.al = false) : rwI (R ++ [x]) i (l :: ls) = rwI (R ++ [⟨x.n, x.t ++ 32 :: trB (lnE l), false⟩]) (i + 1) ls := by
  have c1 : curR (R ++ [x]) = some (x.n, x.t) := by rw [curR_app, if_neg (by simp [h3])]
  have c2 : curR (R ++ [⟨x.n, x.t ++ 32 :: trB (lnE l), false⟩]) = some (x.n, x.t ++ 32 :: trB (lnE l)) := by rw [curR_app]; rfl
  have a1 : aheR (R ++ [x]) = R := by unfold aheR; rw [c1]; simp
  have a2 : aheR (R ++ [⟨x.n, x.t ++ 32 :: trB (lnE l), false⟩]) = R := by unfold aheR; rw [c2]; simp
  unfold rwI
  rw [saG, if_neg h, if_pos h2, c1, c2, a1, a2]
  rfl
end Go.Vf.S
end
section
/- Atoms. -/
namespace Go.Vf.S
open Go Go.Vf
attribute [local irreducible] wSeq wRow wp wG
set_option linter.unusedVariables false
set_option linter.unusedSimpArgs false
set_option maxRecDepth 10000

end Go.Vf.S
end
section
/- Dot-atoms; white space at both ends. -/
namespace Go.Vf.S
open Go Go.Vf
attribute [local irreducible] wSeq wRow wp wG
set_option linter.unusedVariables false
set_option linter.unusedSimpArgs false
set_option maxRecDepth 10000

/-- Off the end. -/
def dropR (l : List UInt8) : List UInt8 := (l.reverse.dropWhile wh).reverse
def trimF (l : List UInt8) : List UInt8 := dropR (l.dropWhile wh)
theorem dropR_wh {l : List UInt8} {c : UInt8} (h : wh c = true) : dropR (l ++ [c]) = dropR l := by
  unfold dropR
  rw [List.reverse_append, List.reverse_singleton, List.singleton_append, List.dropWhile_cons, if_pos h]
theorem dropR_no {l : List UInt8} {c : UInt8} (h : wh c = false) : dropR (l ++ [c]) = l ++ [c] := by
  unfold dropR
  rw [List.reverse_append, List.reverse_singleton, List.singleton_append, List.dropWhile_cons, if_neg (by simp [h])]
  simp
theorem take_last {l : List UInt8} {n : Nat} {c : UInt8} (hn : l.length = n + 1) (h : l[n]? = some c) : l = l.take n ++ [c] := by
  rw [← take_next h, List.take_of_length_le (by omega)]

theorem in_wh (c : UInt8) : inB [32, 9] c.toNat = wh c := by
  rw [Bool.eq_iff_iff]
  simp only [inB, wh, List.any_cons, List.any_nil, Bool.or_false, Bool.or_eq_true, beq_iff_eq, decide_eq_true_eq]
  have e1 : (32 : UInt8).toNat = 32 := rfl
  have e2 : (9 : UInt8).toNat = 9 := rfl
  omega

theorem dropR_cons (c : UInt8) (l : List UInt8) : dropR (c :: l) = if dropR l = [] then (if wh c then [] else [c]) else c :: dropR l := by
  unfold dropR
  rw [List.reverse_cons, List.dropWhile_append]
  by_cases h : l.reverse.dropWhile wh = []
  · rw [h]
    cases hc : wh c <;> simp [hc]
  · have h2 : (l.reverse.dropWhile wh).isEmpty = false := by cases q : l.reverse.dropWhile wh with
      | nil => exact absurd q h
      | cons a b => rfl
    rw [h2]
    simp [h]
/-- A text's ends may be taken off in either order. -/
theorem trim_comm (l : List UInt8) : trimF l = (dropR l).dropWhile wh := by
  unfold trimF
  induction l with
  | nil => rfl
  | cons c l ih =>
    rw [dropR_cons]
    cases hc : wh c with
    | true =>
      rw [List.dropWhile_cons, if_pos hc, ih]
      by_cases h : dropR l = []
      · rw [if_pos h, h]; rfl
      · rw [if_neg h, List.dropWhile_cons, if_pos hc]
    | false =>
      rw [List.dropWhile_cons, if_neg (by simp [hc]), dropR_cons, hc]
      by_cases h : dropR l = []
      · rw [if_pos h]; simp [hc]
      · rw [if_neg h, List.dropWhile_cons, if_neg (by simp [hc])]

theorem trimR_w {s : SS} {b : Nat} {g r : Bool} {l : List UInt8} (hl : l.length ≤ 1000000) (hb : lookH s.heap b = some (.cells (tab (inB [32, 9])) tA g r)) :
    CallW pr n_strings_trimRightASCII [str l, .pointer (some ⟨b, 0, none⟩)] s fun v s' => v = str (dropR l) ∧ s' = s := by
  refine CallW.run good ok_strings_trimRightASCII (by simp) rfl ?_
  (try refine pSeq ?_); (repeat refine sb ?_)
  refine pLoop (MW.head good (fun x : List UInt8 => x.length) (fun x => x.length ≤ l.length ∧ dropR x = dropR l)
    (fun x => [(0, str x), (1, .pointer (some ⟨b, 0, none⟩))]) (fun x => s) l ⟨Nat.le_refl _, rfl⟩ (Wk.same ⟨rfl, rfl, trivial⟩) ?_)
  intro x ⟨hx, h0⟩
  (repeat refine sb ?_)
  intro n hn
  (repeat refine sb ?_)
  intro q hq
  rcases Nat.eq_zero_or_pos x.length with h | h
  · have : x = [] := List.eq_nil_of_length_eq_zero h
    subst this
    obtain rfl : q = false := by rw [hq, hn]; rfl
    (repeat refine sb ?_)
    rw [← h0]
    exact ⟨rfl, rfl⟩
  · obtain ⟨k, hk⟩ : ∃ k, x.length = k + 1 := ⟨x.length - 1, by omega⟩
    obtain ⟨c, hc⟩ : ∃ c, x[k]? = some c := ⟨_, List.getElem?_eq_getElem (by omega)⟩
    have hx2 := take_last hk hc
    obtain rfl : q = true := by rw [hq, hn]; simp; omega
    (repeat refine sb ?_)
    intro n2 hn2
    (repeat refine sb ?_)
    intro z hz
    rw [i64_id (by omega)] at hz
    (repeat refine sb ?_)
    refine ⟨by omega, ?_⟩
    intro m hm
    obtain rfl : m = k := by omega
    refine ⟨c, hc, ?_⟩
    (repeat refine sb ?_)
    refine (contains_w hb).mono fun v s q => ?_
    obtain ⟨rfl, rfl⟩ := q
    rw [show inB [32, 9] c.toNat = wh c from in_wh c]
    (repeat refine sb ?_)
    intro q hq
    by_cases hf : wh c = true
    · obtain rfl : q = false := by rw [hq, hf]; rfl
      rw [hx2, dropR_wh hf] at h0
      (repeat refine sb ?_)
      intro n3 hn3
      (repeat refine sb ?_)
      intro z2 hz2
      rw [i64_id (by omega)] at hz2
      (repeat refine sb ?_)
      refine ⟨by omega, ?_⟩
      intro m2 hm2 y hy
      obtain rfl : m2 = m := by omega
      have ey : y = x.take m2 := by rw [hy]; simp
      clear hy
      subst ey
      (repeat refine sb ?_)
      exact ⟨x.take m2, ⟨by simp; omega, h0⟩, by show (x.take m2).length < x.length; simp; omega, Wk.same ⟨rfl, rfl, trivial⟩⟩
    · obtain rfl : q = true := by rw [hq]; simp [hf]
      rw [hx2, dropR_no (by simpa using hf), ← hx2] at h0
      (repeat refine sb ?_)
      rw [← h0]
      exact ⟨rfl, rfl⟩

theorem Trim_w {s : SS} {l : List UInt8} (hl : l.length ≤ 1000000) : CallW pr n_strings_Trim [str l, .string ⟨#[32, 9]⟩] s fun v s' => v = str (trimF l) ∧ Chg s s' [] := by
  refine CallW.run good ok_strings_Trim (by simp) rfl ?_
  (try refine pSeq ?_); (repeat(first|refine sb ?_|refine kNo ?_|refine gOn rfl ?_|refine gOff rfl rfl ?_|refine gTup rfl ?_))
  intro q hq
  by_cases h0 : l = []
  · subst h0
    obtain rfl : q = true := by rw [hq]; rfl
    (repeat(first|refine sb ?_|refine kNo ?_|refine gOn rfl ?_|refine gOff rfl rfl ?_|refine gTup rfl ?_))
    exact ⟨rfl, .refl _ _⟩
  · obtain rfl : q = false := by rw [hq]; simp [h0]
    (repeat(first|refine sb ?_|refine kNo ?_|refine gOn rfl ?_|refine gOff rfl rfl ?_|refine gTup rfl ?_))
    intro q hq
    obtain rfl : q = false := by rw [hq]; rfl
    (repeat(first|refine sb ?_|refine kNo ?_|refine gOn rfl ?_|refine gOff rfl rfl ?_|refine gTup rfl ?_))
    intro n hn
    (repeat(first|refine sb ?_|refine kNo ?_|refine gOn rfl ?_|refine gOff rfl rfl ?_|refine gTup rfl ?_))
    intro q hq
    obtain rfl : q = false := by rw [hq, hn]; rfl
    (repeat(first|refine sb ?_|refine kNo ?_|refine gOn rfl ?_|refine gOff rfl rfl ?_|refine gTup rfl ?_))
    refine (makeSet_w (k := [32, 9]) (by simp) (by simp)).mono fun v s1 q => ?_
    obtain ⟨rfl, c1⟩ := q
    (repeat(first|refine sb ?_|refine kNo ?_|refine gOn rfl ?_|refine gOff rfl rfl ?_|refine gTup rfl ?_))
    have n1 := c1.next
    refine st_abs (cs := tab fun _ => false) rfl rfl lkH (Nat.lt_succ_self _) (tab_all1 _) (tab_row _ _) fun s2 e2 c2 n2 => ?_
    (repeat(first|refine sb ?_|refine kNo ?_|refine gOn rfl ?_|refine gOff rfl rfl ?_|refine gTup rfl ?_))
    refine (trimR_w hl e2).mono fun v s2 q => ?_
    obtain ⟨rfl, rfl⟩ := q
    have hlen : (dropR l).length ≤ l.length := by
      unfold dropR
      have := (List.dropWhile_sublist (l := l.reverse) wh).length_le
      simp at this ⊢
      exact this
    (repeat(first|refine sb ?_|refine kNo ?_|refine gOn rfl ?_|refine gOff rfl rfl ?_|refine gTup rfl ?_))
    refine (trimL_w (by omega) e2).mono fun v s2 q => ?_
    obtain ⟨rfl, rfl⟩ := q
    (repeat(first|refine sb ?_|refine kNo ?_|refine gOn rfl ?_|refine gOff rfl rfl ?_|refine gTup rfl ?_))
    refine ⟨?_, (c1.nil (.new [])).fresh c2 (by simp; omega)⟩
    rw [trim_comm]
    show str _ = str _
    congr 4
    funext c
    exact in_wh c

end Go.Vf.S
end
section
/- A key or a value as it is told: Quote. -/
namespace Go.Vf.S
open Go Go.Vf Go.Proofs Go.RowKit
attribute [local irreducible] wSeq wRow wp wG
set_option linter.unusedVariables false
set_option linter.unusedSimpArgs false
set_option maxRecDepth 10000

theorem ws_wh : wsB = wh := by
  funext c
  unfold wsB wh
  rw [Bool.eq_iff_iff]
  simp only [Bool.or_eq_true, beq_iff_eq, decide_eq_true_eq, ← UInt8.toNat_inj]
  rfl
theorem trimF_trB (l : List UInt8) : trimF l = trB l := by
  unfold trimF dropR trB trR trL
  rw [ws_wh]
theorem dropR_trR (l : List UInt8) : dropR l = trR l := by
  unfold dropR trR
  rw [ws_wh]
theorem containsAny13_w {s : SS} {l m : List UInt8} (hl : l.length ≤ 1000000) (hm : m.length ≤ 1000000) (ha : asc l) (hb : asc m) : CallW pr 30 [str l, str m] s fun v s' => v = .bool (Lib.containsAny l m) ∧ s' = s := by
  refine CallW.kit rfl fun B w0 ρ args' w H hr => ?_
  obtain ⟨v1, v2, rfl, q1, q2⟩ := lrel_2 hr
  obtain rfl := str_inv q1
  obtain rfl := str_inv q2
  exact Any.strings_ContainsAny_laid Tryz.lays150 (by kernel_rfl) ⟨⟨l⟩⟩ ⟨⟨m⟩⟩ w (by show l.length < _; omega) (by show m.length < _; omega) (asc_at ha) (asc_at hb)
def mkB (c : UInt8) : Bool := c == 58 || c == 44 || c == 34
theorem any_mk (l : List UInt8) : Lib.containsAny l [58, 44, 34] = l.any mkB := by
  have key : ∀ l : List UInt8, (0 ≤ Lib.indexAny l [58, 44, 34]) ↔ l.any mkB = true := by
    intro l
    induction l with
    | nil => simp [Lib.indexAny]
    | cons c l ih =>
      have hc : [58, 44, 34].contains c = mkB c := by
        unfold mkB
        rw [Bool.eq_iff_iff]
        simp [or_assoc]
      have hge := Lib.indexAny_ge [58, 44, 34] l
      unfold Lib.indexAny
      rw [hc, List.any_cons, Bool.or_eq_true, ← ih]
      by_cases h : mkB c = true
      · simp [h]
      · rw [if_neg h]
        by_cases h2 : Lib.indexAny l [58, 44, 34] = -1
        · rw [h2]; simp [h]
        · rw [if_neg (by simpa using h2)]
          simp only [h, false_or]
          omega
  unfold Lib.containsAny
  rw [Bool.eq_iff_iff, decide_eq_true_eq]
  exact key l
theorem pn_is (l : List UInt8) : pnF l = (decide (l ≠ []) && !(l.any mkB) && !(decide (l.take 1 = [35])) && decide (l = trB l)) := by
  have h1 : (l.all fun c => !(c == 58 || c == 44 || c == 34)) = !(l.any mkB) := by
    rw [List.not_any_eq_all_not]
    rfl
  have h2 : l.take 1 = [35] ↔ l.head? = some 35 := by
    cases l with
    | nil => simp
    | cons c r => simp
  unfold pnF
  rw [h1, Bool.eq_iff_iff]
  simp only [Bool.and_eq_true, decide_eq_true_eq, Bool.not_eq_true', decide_eq_false_iff_not, h2]
  constructor
  · rintro ⟨⟨a, b, c⟩, d⟩; exact ⟨⟨⟨a, d⟩, c⟩, b.symm⟩
  · rintro ⟨⟨⟨a, d⟩, c⟩, b⟩; exact ⟨⟨a, b.symm, c⟩, d⟩
set_option maxHeartbeats 1000000 in
theorem quote13_w {s : SS} {l : List UInt8} (f : Fine s) (hl : l.length ≤ 100000) (ha : asc l) : CallW pr n_lines_Quote [str l] s fun v s' => v = str (qtF l) ∧ Chg s s' [] := by
  refine CallW.run good ok_lines_Quote (by simp) rfl ?_
  have hpn := pn_is l
  (try refine pSeq ?_); (repeat(first|refine sb ?_|refine gOn rfl ?_|refine gOff rfl rfl ?_|refine gTup rfl ?_))
  intro q hq
  by_cases h0 : l = []
  · obtain rfl : q = false := by rw [hq, h0]; rfl
    have hp : pnF l = false := by rw [hpn, h0]; rfl
    have c1 : Chg s s [] := .refl _ _
    (repeat(first|refine sb ?_|refine gOn rfl ?_|refine gOff rfl rfl ?_|refine gTup rfl ?_))
    refine (newrp_w (Chg.fine (c1.nil (.new [])) f) ⟨Nat.lt_succ_self _, lkH⟩).mono fun v s2 q => ?_
    obtain ⟨p, m, rfl, hR, hp2, c3⟩ := q
    have c13 := (c1.nil (.new [])).nil c3
    (repeat(first|refine sb ?_|refine gOn rfl ?_|refine gOff rfl rfl ?_|refine gTup rfl ?_))
    refine (replace13_w (c13.fine f) hR (by omega)).mono fun v s3 q => ?_
    obtain ⟨rfl, c4⟩ := q
    have es := es_len l
    have nq := nqN_len l
    (repeat(first|refine sb ?_|refine gOn rfl ?_|refine gOff rfl rfl ?_|refine gTup rfl ?_))
    refine ⟨by simp only [List.length_append, List.length_cons, List.length_nil, es]; omega, ?_⟩
    intro w hw
    subst hw
    (repeat(first|refine sb ?_|refine gOn rfl ?_|refine gOff rfl rfl ?_|refine gTup rfl ?_))
    refine ⟨by simp only [List.length_append, List.length_cons, List.length_nil, es]; omega, ?_⟩
    intro w hw
    subst hw
    (repeat(first|refine sb ?_|refine gOn rfl ?_|refine gOff rfl rfl ?_|refine gTup rfl ?_))
    refine ⟨?_, c13.fresh c4 (by simp; have := c1.next; have : _ + 1 ≤ p := hp2; omega)⟩
    unfold qtF
    rw [if_neg (by rw [hp]; simp)]
    rfl
  · obtain rfl : q = true := by rw [hq]; simp [h0]
    (repeat(first|refine sb ?_|refine gOn rfl ?_|refine gOff rfl rfl ?_|refine gTup rfl ?_))
    refine (containsAny13_w (by omega) (by decide) ha (by unfold asc; decide)).mono fun v s q => ?_
    obtain ⟨rfl, rfl⟩ := q
    rw [any_mk]
    (repeat(first|refine sb ?_|refine gOn rfl ?_|refine gOff rfl rfl ?_|refine gTup rfl ?_))
    intro q hq
    by_cases h1 : l.any mkB = true
    · obtain rfl : q = false := by rw [hq, h1]; rfl
      have hp : pnF l = false := by rw [hpn, h1]; simp
      have c1 : Chg s s [] := .refl _ _
      (repeat(first|refine sb ?_|refine gOn rfl ?_|refine gOff rfl rfl ?_|refine gTup rfl ?_))
      refine (newrp_w (Chg.fine (c1.nil (.new [])) f) ⟨Nat.lt_succ_self _, lkH⟩).mono fun v s2 q => ?_
      obtain ⟨p, m, rfl, hR, hp2, c3⟩ := q
      have c13 := (c1.nil (.new [])).nil c3
      (repeat(first|refine sb ?_|refine gOn rfl ?_|refine gOff rfl rfl ?_|refine gTup rfl ?_))
      refine (replace13_w (c13.fine f) hR (by omega)).mono fun v s3 q => ?_
      obtain ⟨rfl, c4⟩ := q
      have es := es_len l
      have nq := nqN_len l
      (repeat(first|refine sb ?_|refine gOn rfl ?_|refine gOff rfl rfl ?_|refine gTup rfl ?_))
      refine ⟨by simp only [List.length_append, List.length_cons, List.length_nil, es]; omega, ?_⟩
      intro w hw
      subst hw
      (repeat(first|refine sb ?_|refine gOn rfl ?_|refine gOff rfl rfl ?_|refine gTup rfl ?_))
      refine ⟨by simp only [List.length_append, List.length_cons, List.length_nil, es]; omega, ?_⟩
      intro w hw
      subst hw
      (repeat(first|refine sb ?_|refine gOn rfl ?_|refine gOff rfl rfl ?_|refine gTup rfl ?_))
      refine ⟨?_, c13.fresh c4 (by simp; have := c1.next; have : _ + 1 ≤ p := hp2; omega)⟩
      unfold qtF
      rw [if_neg (by rw [hp]; simp)]
      rfl
    · obtain rfl : q = true := by rw [hq]; simpa using h1
      (repeat(first|refine sb ?_|refine gOn rfl ?_|refine gOff rfl rfl ?_|refine gTup rfl ?_))
      refine prefix_w.mono fun v s q => ?_
      obtain ⟨rfl, rfl⟩ := q
      (repeat(first|refine sb ?_|refine gOn rfl ?_|refine gOff rfl rfl ?_|refine gTup rfl ?_))
      intro q hq
      by_cases h2 : l.take 1 = [35]
      · obtain rfl : q = false := by rw [hq]; simpa using h2
        have hp : pnF l = false := by rw [hpn, h2]; simp
        have c1 : Chg s s [] := .refl _ _
        (repeat(first|refine sb ?_|refine gOn rfl ?_|refine gOff rfl rfl ?_|refine gTup rfl ?_))
        refine (newrp_w (Chg.fine (c1.nil (.new [])) f) ⟨Nat.lt_succ_self _, lkH⟩).mono fun v s2 q => ?_
        obtain ⟨p, m, rfl, hR, hp2, c3⟩ := q
        have c13 := (c1.nil (.new [])).nil c3
        (repeat(first|refine sb ?_|refine gOn rfl ?_|refine gOff rfl rfl ?_|refine gTup rfl ?_))
        refine (replace13_w (c13.fine f) hR (by omega)).mono fun v s3 q => ?_
        obtain ⟨rfl, c4⟩ := q
        have es := es_len l
        have nq := nqN_len l
        (repeat(first|refine sb ?_|refine gOn rfl ?_|refine gOff rfl rfl ?_|refine gTup rfl ?_))
        refine ⟨by simp only [List.length_append, List.length_cons, List.length_nil, es]; omega, ?_⟩
        intro w hw
        subst hw
        (repeat(first|refine sb ?_|refine gOn rfl ?_|refine gOff rfl rfl ?_|refine gTup rfl ?_))
        refine ⟨by simp only [List.length_append, List.length_cons, List.length_nil, es]; omega, ?_⟩
        intro w hw
        subst hw
        (repeat(first|refine sb ?_|refine gOn rfl ?_|refine gOff rfl rfl ?_|refine gTup rfl ?_))
        refine ⟨?_, c13.fresh c4 (by simp; have := c1.next; have : _ + 1 ≤ p := hp2; omega)⟩
        unfold qtF
        rw [if_neg (by rw [hp]; simp)]
        rfl
      · obtain rfl : q = true := by rw [hq]; simpa using h2
        (repeat(first|refine sb ?_|refine gOn rfl ?_|refine gOff rfl rfl ?_|refine gTup rfl ?_))
        refine (Trim_w (by omega)).mono fun v s1 q => ?_
        obtain ⟨rfl, c1⟩ := q
        rw [trimF_trB]
        (repeat(first|refine sb ?_|refine gOn rfl ?_|refine gOff rfl rfl ?_|refine gTup rfl ?_))
        intro q hq
        by_cases h3 : l = trB l
        · obtain rfl : q = true := by rw [hq]; exact decide_eq_true h3
          (repeat(first|refine sb ?_|refine gOn rfl ?_|refine gOff rfl rfl ?_|refine gTup rfl ?_))
          refine ⟨?_, c1⟩
          unfold qtF
          rw [hpn, ← h3]
          simp [h0, h1, h2]
          rfl
        · obtain rfl : q = false := by rw [hq]; exact decide_eq_false h3
          have hp : pnF l = false := by rw [hpn]; simp [h3]
          (repeat(first|refine sb ?_|refine gOn rfl ?_|refine gOff rfl rfl ?_|refine gTup rfl ?_))
          refine (newrp_w (Chg.fine (c1.nil (.new [])) f) ⟨Nat.lt_succ_self _, lkH⟩).mono fun v s2 q => ?_
          obtain ⟨p, m, rfl, hR, hp2, c3⟩ := q
          have c13 := (c1.nil (.new [])).nil c3
          (repeat(first|refine sb ?_|refine gOn rfl ?_|refine gOff rfl rfl ?_|refine gTup rfl ?_))
          refine (replace13_w (c13.fine f) hR (by omega)).mono fun v s3 q => ?_
          obtain ⟨rfl, c4⟩ := q
          have es := es_len l
          have nq := nqN_len l
          (repeat(first|refine sb ?_|refine gOn rfl ?_|refine gOff rfl rfl ?_|refine gTup rfl ?_))
          refine ⟨by simp only [List.length_append, List.length_cons, List.length_nil, es]; omega, ?_⟩
          intro w hw
          subst hw
          (repeat(first|refine sb ?_|refine gOn rfl ?_|refine gOff rfl rfl ?_|refine gTup rfl ?_))
          refine ⟨by simp only [List.length_append, List.length_cons, List.length_nil, es]; omega, ?_⟩
          intro w hw
          subst hw
          (repeat(first|refine sb ?_|refine gOn rfl ?_|refine gOff rfl rfl ?_|refine gTup rfl ?_))
          refine ⟨?_, c13.fresh c4 (by simp; have := c1.next; have : _ + 1 ≤ p := hp2; omega)⟩
          unfold qtF
          rw [if_neg (by rw [hp]; simp)]
          rfl
end Go.Vf.S
end
section
/- Blanks at a text's end. -/
namespace Go.Vf.S
open Go Go.Vf Go.Proofs Go.RowKit
attribute [local irreducible] wSeq wRow wp wG
set_option linter.unusedVariables false
set_option linter.unusedSimpArgs false
set_option maxRecDepth 10000

theorem TrimRight_w {s : SS} {l : List UInt8} (hl : l.length ≤ 1000000) : CallW pr n_strings_TrimRight [str l, .string ⟨#[32, 9]⟩] s fun v s' => v = str (dropR l) ∧ Chg s s' [] := by
  refine CallW.run good ok_strings_TrimRight (by simp) rfl ?_
  (try refine pSeq ?_); (repeat(first|refine sb ?_|refine gOn rfl ?_|refine gOff rfl rfl ?_|refine gTup rfl ?_))
  intro q hq
  by_cases h0 : l = []
  · subst h0
    obtain rfl : q = true := by rw [hq]; rfl
    (repeat(first|refine sb ?_|refine gOn rfl ?_|refine gOff rfl rfl ?_|refine gTup rfl ?_))
    exact ⟨rfl, .refl _ _⟩
  · obtain rfl : q = false := by rw [hq]; simp [h0]
    (repeat(first|refine sb ?_|refine gOn rfl ?_|refine gOff rfl rfl ?_|refine gTup rfl ?_))
    intro q hq
    obtain rfl : q = false := by rw [hq]; rfl
    (repeat(first|refine sb ?_|refine gOn rfl ?_|refine gOff rfl rfl ?_|refine gTup rfl ?_))
    intro n hn
    (repeat(first|refine sb ?_|refine gOn rfl ?_|refine gOff rfl rfl ?_|refine gTup rfl ?_))
    intro q hq
    obtain rfl : q = false := by rw [hq, hn]; rfl
    (repeat(first|refine sb ?_|refine gOn rfl ?_|refine gOff rfl rfl ?_|refine gTup rfl ?_))
    refine (makeSet_w (k := [32, 9]) (by simp) (by simp)).mono fun v s1 q => ?_
    obtain ⟨rfl, c1⟩ := q
    (repeat(first|refine sb ?_|refine gOn rfl ?_|refine gOff rfl rfl ?_|refine gTup rfl ?_))
    have n1 := c1.next
    refine st_abs (cs := tab fun _ => false) rfl rfl lkH (Nat.lt_succ_self _) (tab_all1 _) (tab_row _ _) fun s2 e2 c2 n2 => ?_
    (repeat(first|refine sb ?_|refine gOn rfl ?_|refine gOff rfl rfl ?_|refine gTup rfl ?_))
    refine (trimR_w hl e2).mono fun v s2 q => ?_
    obtain ⟨rfl, rfl⟩ := q
    (repeat(first|refine sb ?_|refine gOn rfl ?_|refine gOff rfl rfl ?_|refine gTup rfl ?_))
    exact ⟨rfl, (c1.nil (.new [])).fresh c2 (by simp; omega)⟩

end Go.Vf.S
end
section
/- Rows read part by part: what may stand in a text; a reader. -/
namespace Go.Vf.S
open Go Go.Vf Go.Proofs Go.RowKit
attribute [local irreducible] wSeq wRow wp wG
set_option linter.unusedVariables false
set_option linter.unusedSimpArgs false
set_option maxRecDepth 10000

abbrev fPr : Nat := n_lines_printable_1
theorem prune_w {s : SS} {x : Nat} (hx : x ≤ 1114111) : CallW pr fPr [.int .i32 (x : Int)] s fun v s' => v = .bool (decide ((x < 32 ∨ 126 < x) ∧ x ≠ 9)) ∧ s' = s := by
  refine CallW.run good ok_lines_printable_1 (by simp) rfl ?_
  (repeat' (first | refine pSeq ?_ | refine pReg ?_ | refine sRaw ?_ | refine sCons ?_ | refine sNil ?_ | refine rCons ?_ | refine rNil ?_ | refine kNo ?_ | refine pRow ?_ | refine pBlock ?_ | refine pSkip ?_ | refine pExit ?_ | refine pRet ?_ | refine pCond ?_ | refine gNone ?_ | refine gOn rfl ?_ | refine gOff rfl rfl ?_ | refine gTup rfl ?_ | (intro q hq; cases q <;> simp only [true_eq_decide_iff, false_eq_decide_iff, Bool.not_true, Bool.not_false, Bool.true_eq, Bool.false_eq, decide_eq_true_eq, decide_eq_false_iff_not, reduceCtorEq] at hq)))
  all_goals (refine ⟨bool_eq ?_, rfl⟩; rw [Bool.eq_iff_iff]; simp only [decide_eq_true_eq, true_iff, false_iff, reduceCtorEq]; omega)
theorem gen_pr {T : TL} {s : SS} {K : RR → Prop} {x a : Tmp} {ts : Array TypeId} {u : Value} (hx : look T x = some (fnV fPr)) (ha : look T a = some u) (hK : K (.call fPr [u])) : wN pr (.gen (.call ⟨.value (.tmp x), #[.tmp a], ts⟩)) T s K := by
  refine ⟨.call fPr [u], ?_, hK⟩
  simp only [aOp, operand, operands, toTr_get, hx, ha]
  exact (show callV pr (fnV fPr) [u] = some (.enter fPr ([] ++ [u] ++ [])) by kernel_rfl)
theorem tx_lo {c : UInt8} (h : c.toNat < 128) : txB c = !decide ((c.toNat < 32 ∨ 126 < c.toNat) ∧ c.toNat ≠ 9) := by
  unfold txB
  rw [Bool.eq_iff_iff]
  simp only [Bool.or_eq_true, beq_iff_eq, Bool.and_eq_true, decide_eq_true_eq, Bool.not_eq_true', decide_eq_false_iff_not, ← UInt8.toNat_inj]
  have : (9 : UInt8).toNat = 9 := rfl
  omega
theorem tx_hi {c : UInt8} (h : 128 ≤ c.toNat) : txB c = false := by
  unfold txB
  rw [Bool.eq_false_iff]
  simp only [Bool.or_eq_true, beq_iff_eq, Bool.and_eq_true, decide_eq_true_eq, ne_eq, ← UInt8.toNat_inj]
  have : (9 : UInt8).toNat = 9 := rfl
  omega
theorem ixf_w {s : SS} {l : List UInt8} : CallW pr n_strings_indexFunc [str l, fnV fPr, .bool true] s fun v s' => (∃ z : Int, v = .int .i64 z ∧ decide (0 ≤ z) = !(l.all txB)) ∧ Chg s s' [] := by
  refine CallW.run good ok_strings_indexFunc (by simp) rfl ?_
  (try refine pSeq ?_); (repeat refine sb ?_)
  refine srange_W rfl un_S rfl ?_
  (repeat refine sb ?_)
  refine pLoop (MW.head good (fun x : It => l.length - x.p) (fun x => At s s.next l x ∧ (l.take x.p).all txB = true) (fun x => [(1, fnV fPr), (2, .bool true), (10, .pointer (some ⟨s.next, 0, none⟩))]) (fun x => x.s) ⟨0, _⟩ ⟨.start s l, rfl⟩ (Wk.same ⟨rfl, rfl, rfl, trivial⟩) ?_)
  intro ⟨p, s1⟩ ⟨h1, h2⟩
  dsimp only at h1 h2 ⊢
  (repeat refine sb ?_)
  refine snext_L rfl rfl h1.2.2.2 (fun he => ?_) (fun c hc h7 => ?_) (fun c r w hc h7 hr hr2 _ hw _ => ?_)
  · (repeat refine sb ?_)
    refine ⟨⟨_, rfl, ?_⟩, h1.1⟩
    rw [List.take_of_length_le he] at h2
    rw [h2]
    rfl
  · (repeat refine sb ?_)
    refine gen_pr rfl rfl ?_
    (repeat refine sb ?_)
    refine (prune_w (by omega)).mono fun v s2 q => ?_
    obtain ⟨rfl, rfl⟩ := q
    have e : decide ((c.toNat < 32 ∨ 126 < c.toNat) ∧ c.toNat ≠ 9) = !(txB c) := by rw [tx_lo h7, Bool.not_not]
    (repeat refine sb ?_)
    intro q hq
    by_cases hp : txB c = true
    · obtain rfl : q = false := by
        rw [hq, e, hp]
        rfl
      (repeat refine sb ?_)
      exact ⟨⟨p + 1, _⟩, ⟨h1.go _, by rw [take_next hc]; simp [h2, hp]⟩, by have : p < l.length := lt_of_get hc; show l.length - (p + 1) < l.length - p; omega, Wk.same ⟨rfl, rfl, rfl, trivial⟩⟩
    · obtain rfl : q = true := by
        rw [hq, e, show txB c = false by simpa using hp]
        rfl
      (repeat refine sb ?_)
      refine ⟨⟨_, rfl, ?_⟩, (h1.go _).1⟩
      rw [all_no hc (by simpa using hp)]
      exact decide_eq_true (Int.natCast_nonneg p)
  · (repeat refine sb ?_)
    refine gen_pr rfl rfl ?_
    (repeat refine sb ?_)
    refine (prune_w (by omega)).mono fun v s2 q => ?_
    obtain ⟨rfl, rfl⟩ := q
    (repeat refine sb ?_)
    intro q hq
    obtain rfl : q = true := by
      rw [hq, show decide ((r < 32 ∨ 126 < r) ∧ r ≠ 9) = true from decide_eq_true ⟨by omega, by omega⟩]
      rfl
    (repeat refine sb ?_)
    refine ⟨⟨_, rfl, ?_⟩, (h1.go _).1⟩
    rw [all_no hc (tx_hi h7)]
    exact decide_eq_true (Int.natCast_nonneg p)
theorem printable_w {s : SS} {l : List UInt8} : CallW pr n_lines_printable [str l] s fun v s' => v = .bool (l.all txB) ∧ Chg s s' [] := by
  refine CallW.run good ok_lines_printable (by simp) rfl ?_
  (try refine pSeq ?_); (repeat refine sb ?_)
  refine (show CallW pr n_strings_ContainsFunc [str l, fnV fPr] s fun v s' => v = .bool (!(l.all txB)) ∧ Chg s s' [] from ?_).mono fun v s1 q => ?_
  · refine CallW.run good ok_strings_ContainsFunc (by simp) rfl ?_
    (try refine pSeq ?_); (repeat refine sb ?_)
    refine (show CallW pr n_strings_IndexFunc [str l, fnV fPr] s fun v s' => (∃ z : Int, v = .int .i64 z ∧ decide (0 ≤ z) = !(l.all txB)) ∧ Chg s s' [] from ?_).mono fun v s1 q => ?_
    · refine CallW.run good ok_strings_IndexFunc (by simp) rfl ?_
      (try refine pSeq ?_); (repeat refine sb ?_)
      refine ixf_w.mono fun v s1 q => ?_
      obtain ⟨⟨z, rfl, hz⟩, c1⟩ := q
      (repeat refine sb ?_)
      exact ⟨⟨z, rfl, hz⟩, c1⟩
    · obtain ⟨⟨z, rfl, hz⟩, c1⟩ := q
      (repeat refine sb ?_)
      intro q hq
      (repeat refine sb ?_)
      exact ⟨by rw [hq, hz]; rfl, c1⟩
  · obtain ⟨rfl, c1⟩ := q
    (repeat refine sb ?_)
    intro q hq
    (repeat refine sb ?_)
    exact ⟨by rw [hq, Bool.not_not]; rfl, c1⟩
end Go.Vf.S
end
section
/- A reader of a row: what is quoted. -/
namespace Go.Vf.S
open Go Go.Vf Go.Proofs Go.RowKit
attribute [local irreducible] wSeq wRow wp wG
set_option linter.unusedVariables false
set_option linter.unusedSimpArgs false
set_option maxRecDepth 10000

abbrev tRd13 : TypeId := 76
/-- A reader: what is left, whether the row ended, whether something else stood there. -/
def RdL (s : SS) (b : Nat) (r : List UInt8) (en w : Bool) : Prop := b < s.next ∧ lookH s.heap b = some (.cells [str r, .bool en, .bool w] tRd13 false false)
theorem RdL.chg {s s' : SS} {b : Nat} {r : List UInt8} {en w : Bool} {A : List Nat} (h : RdL s b r en w) (c : Chg s s' A) (hA : b ∉ A) : RdL s' b r en w := ⟨Nat.lt_of_lt_of_le h.1 c.next, c.blk _ _ h.1 hA h.2⟩
theorem bytesV_at {l : List UInt8} {j : Nat} {x : UInt8} (h : l[j]? = some x) : (bytesV l)[j]? = some (.int .u8 x.toNat) := by
  unfold bytesV
  rw [List.getElem?_map, h]
  rfl
structure QIx where
  i : Nat
  e : Bool
  a : List UInt8
  base : Option Addr
  s : SS
theorem drop_at {l : List UInt8} {i : Nat} {c : UInt8} (h : l[i]? = some c) : l.drop i = c :: l.drop (i + 1) := by
  obtain ⟨hi, e⟩ := List.getElem?_eq_some_iff.1 h
  rw [List.drop_eq_getElem_cons hi, e]
set_option maxHeartbeats 2000000 in
theorem quoted13_w {s : SS} {b : Nat} {r : List UInt8} {en w : Bool} (f : Fine s) (h : RdL s b (34 :: r) en w) (hr : r.length ≤ 100000) : CallW pr n_lines_reader_quoted [ptrV b] s fun v s' => Chg s s' [b] ∧ match quF r with
    | none => v = str [] ∧ RdL s' b (34 :: r) en true
    | some (x, t) => v = str x ∧ RdL s' b t en w := by
  refine CallW.run good ok_lines_reader_quoted (by simp) rfl ?_
  (try refine pSeq ?_); (repeat(first|refine sb ?_|refine gOn rfl ?_|refine gOff rfl rfl ?_|refine gTup rfl ?_))
  refine ldS_is rfl h.2 rfl ?_
  (repeat(first|refine sb ?_|refine gOn rfl ?_|refine gOff rfl rfl ?_|refine gTup rfl ?_))
  refine slS_lo 1 rfl rfl rfl (by simp) ?_
  rw [show (34 :: r).drop 1 = r from rfl]
  (repeat(first|refine sb ?_|refine gOn rfl ?_|refine gOff rfl rfl ?_|refine gTup rfl ?_))
  refine ⟨by omega, ?_⟩
  (repeat(first|refine sb ?_|refine gOn rfl ?_|refine gOff rfl rfl ?_|refine gTup rfl ?_))
  refine pLoop (MW.head good (fun x : QIx => r.length - x.i) (fun x => x.i ≤ r.length ∧ x.a.length ≤ x.i ∧ quF r = (quG x.e (r.drop x.i)).map (fun y => (x.a ++ y.1, y.2)) ∧ lookH x.s.heap s.next = some (.cells (bytesV r) tB true false) ∧ s.next < x.s.next ∧ Chg s x.s [] ∧ Own tB x.s x.base x.a ∧ ∀ id ∈ blkOf x.base, s.next < id)
    (fun x => [(0, ptrV b), (3, .slice x.base x.a.length 0), (4, .bool x.e), (12, .slice (some ⟨s.next, 0, none⟩) r.length 0), (13, .int .i64 (r.length : Int)), (14, .int .i64 (x.i : Int))]) (fun x => x.s) ⟨0, false, [], none, _⟩
    ⟨Nat.zero_le _, Nat.zero_le _, by show quG false r = _; rw [List.drop_zero]; cases quG false r <;> rfl, lkH, Nat.lt_succ_self _, .new _, rfl, by simp [blkOf]⟩ (Wk.same ⟨rfl, rfl, rfl, rfl, rfl, rfl, trivial⟩) ?_)
  rintro ⟨i, e, a, base, s4⟩ ⟨hi, hai, hq4, hb4, hlt4, c4, ho, hn4⟩
  dsimp only at hi hai hq4 hb4 hlt4 c4 ho hn4 ⊢
  have h4 := h.chg c4 (by simp)
  (repeat(first|refine sb ?_|refine gOn rfl ?_|refine gOff rfl rfl ?_|refine gTup rfl ?_))
  intro q hq
  by_cases hlt : i < r.length
  · obtain rfl : q = true := by rw [hq]; simp; omega
    obtain ⟨c, hc⟩ : ∃ c, r[i]? = some c := ⟨_, List.getElem?_eq_getElem hlt⟩
    rw [drop_at hc] at hq4
    (repeat(first|refine sb ?_|refine gOn rfl ?_|refine gOff rfl rfl ?_|refine gTup rfl ?_))
    refine ⟨by omega, ?_⟩
    intro m hm o ho1
    obtain rfl : m = i := by omega
    (repeat(first|refine sb ?_|refine gOn rfl ?_|refine gOff rfl rfl ?_|refine gTup rfl ?_))
    refine ldI_is rfl hb4 (by rw [ho1, Nat.mul_one, Nat.zero_add]; exact bytesV_at hc) ?_
    (repeat(first|refine sb ?_|refine gOn rfl ?_|refine gOff rfl rfl ?_|refine gTup rfl ?_))
    cases e with
    | true =>
      intro q hq
      obtain rfl : q = false := by rw [hq]; rfl
      (repeat(first|refine sb ?_|refine gOn rfl ?_|refine gOff rfl rfl ?_|refine gTup rfl ?_))
      intro q hq
      obtain rfl : q = false := by rw [hq]; rfl
      have hst : quG true (c :: r.drop (m + 1)) = (quG false (r.drop (m + 1))).map fun x => (c :: x.1, x.2) := by rw [quG]
      (repeat(first|refine sb ?_|refine gOn rfl ?_|refine gOff rfl rfl ?_|refine gTup rfl ?_))
      refine app_mine1 (c := c) ho rfl rfl rfl rfl (by omega) fun s5 o5 c5 n5 => ?_
      (repeat(first|refine sb ?_|refine gOn rfl ?_|refine gOff rfl rfl ?_|refine gTup rfl ?_))
      intro z hz
      rw [i64_id (by omega)] at hz
      (repeat(first|refine sb ?_|refine gOn rfl ?_|refine gOff rfl rfl ?_|refine gTup rfl ?_))
      refine ⟨⟨m + 1, false, a ++ [c], some ⟨s4.next + 1, 0, none⟩, s5⟩, ⟨by show m + 1 ≤ r.length; omega, by show (a ++ [c]).length ≤ m + 1; simp; omega, ?_, c5.blk _ _ hlt4 (fun q => by have := hn4 _ q; omega) hb4, by show s.next < s5.next; omega, c4.fresh c5 (fun id q => by have := hn4 id q; omega), o5, by simp [blkOf]; omega⟩, by show r.length - (m + 1) < r.length - m; omega, Wk.same ⟨rfl, ?_, rfl, rfl, rfl, ?_, trivial⟩⟩
      · show quF r = _
        rw [hq4, hst]
        cases quG false (r.drop (m + 1)) with
        | none => rfl
        | some y => simp
      · show some (Value.slice (some ⟨s4.next + 1, 0, none⟩) (a.length + 1) 0) = some (.slice _ (a ++ [c]).length 0)
        rw [List.length_append]
        rfl
      · rw [show z = ((m + 1 : Nat) : Int) by omega]; rfl
    | false =>
      intro q hq
      obtain rfl : q = true := by rw [hq]; rfl
      (repeat(first|refine sb ?_|refine gOn rfl ?_|refine gOff rfl rfl ?_|refine gTup rfl ?_))
      refine ⟨⟨Int.le_refl _, by decide⟩, ?_⟩
      intro m2 hm2
      obtain rfl : m2 = 0 := by omega
      refine ⟨34, rfl, ?_⟩
      (repeat(first|refine sb ?_|refine gOn rfl ?_|refine gOff rfl rfl ?_|refine gTup rfl ?_))
      intro q hq
      by_cases h34 : c = 34
      · subst h34
        obtain rfl : q = true := by rw [hq]; rfl
        rw [quG, if_pos rfl] at hq4
        (repeat(first|refine sb ?_|refine gOn rfl ?_|refine gOff rfl rfl ?_|refine gTup rfl ?_))
        refine ldS_is rfl h4.2 rfl ?_
        (repeat(first|refine sb ?_|refine gOn rfl ?_|refine gOff rfl rfl ?_|refine gTup rfl ?_))
        intro z hz
        rw [i64_id (by omega)] at hz
        (repeat(first|refine sb ?_|refine gOn rfl ?_|refine gOff rfl rfl ?_|refine gTup rfl ?_))
        intro z2 hz2
        rw [i64_id (by omega)] at hz2
        (repeat(first|refine sb ?_|refine gOn rfl ?_|refine gOff rfl rfl ?_|refine gTup rfl ?_))
        refine slS_lo (m + 2) rfl rfl (by omega) (by simp; omega) ?_
        rw [show (34 :: r).drop (m + 2) = r.drop (m + 1) from rfl]
        (repeat(first|refine sb ?_|refine gOn rfl ?_|refine gOff rfl rfl ?_|refine gTup rfl ?_))
        refine st_abs (cs' := [str (r.drop (m + 1)), .bool en, .bool w]) rfl rfl h4.2 h4.1 rfl rfl fun s5 e5 c5 n5 => ?_
        (repeat(first|refine sb ?_|refine gOn rfl ?_|refine gOff rfl rfl ?_|refine gTup rfl ?_))
        have hbn : ∀ id ∈ blkOf base, id ∉ [b] := fun id q => by have := hn4 id q; have := h.1; simp; omega
        refine toStr_Rdb rfl ((ho.chg c5 hbn).rdb) ?_
        (repeat(first|refine sb ?_|refine gOn rfl ?_|refine gOff rfl rfl ?_|refine gTup rfl ?_))
        refine ⟨c4.nil c5, ?_⟩
        rw [hq4]
        refine ⟨?_, by have := h4.1; omega, e5⟩
        simp
        rfl
      · obtain rfl : q = false := by rw [hq]; exact decide_eq_false (fun q => h34 (UInt8.toNat_inj.1 (by have : (34 : UInt8).toNat = 34 := rfl; omega)))
        (repeat(first|refine sb ?_|refine gOn rfl ?_|refine gOff rfl rfl ?_|refine gTup rfl ?_))
        intro q hq
        obtain rfl : q = true := by rw [hq]; rfl
        (repeat(first|refine sb ?_|refine gOn rfl ?_|refine gOff rfl rfl ?_|refine gTup rfl ?_))
        refine ⟨⟨Int.le_refl _, by decide⟩, ?_⟩
        intro m2 hm2
        obtain rfl : m2 = 0 := by omega
        refine ⟨92, rfl, ?_⟩
        (repeat(first|refine sb ?_|refine gOn rfl ?_|refine gOff rfl rfl ?_|refine gTup rfl ?_))
        intro q hq
        by_cases h92 : c = 92
        · subst h92
          obtain rfl : q = true := by rw [hq]; rfl
          rw [quG, if_neg (by decide), if_pos rfl] at hq4
          (repeat(first|refine sb ?_|refine gOn rfl ?_|refine gOff rfl rfl ?_|refine gTup rfl ?_))
          intro z hz
          rw [i64_id (by omega)] at hz
          (repeat(first|refine sb ?_|refine gOn rfl ?_|refine gOff rfl rfl ?_|refine gTup rfl ?_))
          refine ⟨⟨m + 1, true, a, base, s4⟩, ⟨by show m + 1 ≤ r.length; omega, by show a.length ≤ m + 1; omega, hq4, hb4, hlt4, c4, ho, hn4⟩, by show r.length - (m + 1) < r.length - m; omega, Wk.same ⟨rfl, rfl, rfl, rfl, rfl, ?_, trivial⟩⟩
          rw [show z = ((m + 1 : Nat) : Int) by omega]; rfl
        · obtain rfl : q = false := by rw [hq]; exact decide_eq_false (fun q => h92 (UInt8.toNat_inj.1 (by have : (92 : UInt8).toNat = 92 := rfl; omega)))
          have hst : quG false (c :: r.drop (m + 1)) = (quG false (r.drop (m + 1))).map fun x => (c :: x.1, x.2) := by rw [quG, if_neg h34, if_neg h92]
          (repeat(first|refine sb ?_|refine gOn rfl ?_|refine gOff rfl rfl ?_|refine gTup rfl ?_))
          refine app_mine1 (c := c) ho rfl rfl rfl rfl (by omega) fun s5 o5 c5 n5 => ?_
          (repeat(first|refine sb ?_|refine gOn rfl ?_|refine gOff rfl rfl ?_|refine gTup rfl ?_))
          intro z hz
          rw [i64_id (by omega)] at hz
          (repeat(first|refine sb ?_|refine gOn rfl ?_|refine gOff rfl rfl ?_|refine gTup rfl ?_))
          refine ⟨⟨m + 1, false, a ++ [c], some ⟨s4.next + 1, 0, none⟩, s5⟩, ⟨by show m + 1 ≤ r.length; omega, by show (a ++ [c]).length ≤ m + 1; simp; omega, ?_, c5.blk _ _ hlt4 (fun q => by have := hn4 _ q; omega) hb4, by show s.next < s5.next; omega, c4.fresh c5 (fun id q => by have := hn4 id q; omega), o5, by simp [blkOf]; omega⟩, by show r.length - (m + 1) < r.length - m; omega, Wk.same ⟨rfl, ?_, rfl, rfl, rfl, ?_, trivial⟩⟩
          · show quF r = _
            rw [hq4, hst]
            cases quG false (r.drop (m + 1)) with
            | none => rfl
            | some y => simp
          · show some (Value.slice (some ⟨s4.next + 1, 0, none⟩) (a.length + 1) 0) = some (.slice _ (a ++ [c]).length 0)
            rw [List.length_append]
            rfl
          · rw [show z = ((m + 1 : Nat) : Int) by omega]; rfl
  · obtain rfl : q = false := by rw [hq]; simp; omega
    obtain rfl : i = r.length := by omega
    rw [List.drop_length, quG] at hq4
    (repeat(first|refine sb ?_|refine gOn rfl ?_|refine gOff rfl rfl ?_|refine gTup rfl ?_))
    refine st_abs (cs' := [str (34 :: r), .bool en, .bool true]) rfl rfl h4.2 h4.1 rfl rfl fun s5 e5 c5 n5 => ?_
    (repeat(first|refine sb ?_|refine gOn rfl ?_|refine gOff rfl rfl ?_|refine gTup rfl ?_))
    refine ⟨(c4.nil c5), ?_⟩
    rw [hq4]
    exact ⟨rfl, by have := h4.1; omega, e5⟩
end Go.Vf.S
end
section
/- A reader of a row: a part (by tools/gen_lno.py). -/
namespace Go.Vf.S
open Go Go.Vf Go.Proofs Go.RowKit
attribute [local irreducible] wSeq wRow wp wG
set_option linter.unusedVariables false
set_option linter.unusedSimpArgs false
set_option maxRecDepth 10000

theorem dropW_trL (l : List UInt8) : l.dropWhile wh = trL l := by unfold trL; rw [ws_wh]
set_option maxHeartbeats 2000000 in
theorem part13_w {s : SS} {b : Nat} {r : List UInt8} {en w : Bool} {e : UInt8} (f : Fine s) (he : e ≠ 34) (h : RdL s b r en w) (hr : r.length ≤ 100000) : CallW pr n_lines_reader_part [ptrV b, str [e]] s fun v s' =>
    v = str (lpF e r).1 ∧ RdL s' b (lpF e r).2.1 (lpF e r).2.2.1 (w || (lpF e r).2.2.2) ∧ Chg s s' [b] := by
  refine CallW.run good ok_lines_reader_part (by simp) rfl ?_
  have htl := trL_len r
  (try refine pSeq ?_); (repeat(first|refine sb ?_|refine gOn rfl ?_|refine gOff rfl rfl ?_|refine gTup rfl ?_))
  refine ldS_is rfl h.2 rfl ?_
  (repeat(first|refine sb ?_|refine gOn rfl ?_|refine gOff rfl rfl ?_|refine gTup rfl ?_))
  refine (trimLeft_w (by omega)).mono fun v s1 q => ?_
  obtain ⟨rfl, c1⟩ := q
  rw [dropW_trL]
  have h1 := h.chg c1 (by simp)
  (repeat(first|refine sb ?_|refine gOn rfl ?_|refine gOff rfl rfl ?_|refine gTup rfl ?_))
  refine st_abs (cs' := [str (trL r), .bool en, .bool w]) rfl rfl h1.2 h1.1 rfl rfl fun s2 e2 c2 n2 => ?_
  have h2 : RdL s2 b (trL r) en w := ⟨by have := h1.1; omega, e2⟩
  have c02 : Chg s s2 [b] := c1.nil c2
  (repeat(first|refine sb ?_|refine gOn rfl ?_|refine gOff rfl rfl ?_|refine gTup rfl ?_))
  refine ldS_is rfl h2.2 rfl ?_
  (repeat(first|refine sb ?_|refine gOn rfl ?_|refine gOff rfl rfl ?_|refine gTup rfl ?_))
  refine prefix_w.mono fun v s2 q => ?_
  obtain ⟨rfl, rfl⟩ := q
  obtain ⟨s0, hs0⟩ : ∃ x, x = s := ⟨s, rfl⟩
  rw [← hs0] at c02 ⊢
  by_cases h34 : (trL r).head? = some 34
  · obtain ⟨x, hx⟩ : ∃ x, trL r = 34 :: x := by
      cases hT : trL r with
      | nil => rw [hT] at h34; cases h34
      | cons c x => rw [hT] at h34; exact ⟨x, by rw [Option.some.inj h34]⟩
    have hlp : lpF e r = (match quF x with
      | none => ([], (cutF e (34 :: x)).2.1, !(cutF e (34 :: x)).2.2, true)
      | some (w, t) => if trR (cutF e t).1 = [] then (w, (cutF e t).2.1, !(cutF e t).2.2, false) else ([], (cutF e t).2.1, !(cutF e t).2.2, true)) := by
      unfold lpF
      rw [if_pos h34, hx]
      rfl
    rw [hx] at h2 htl ⊢
    rw [show decide ((34 :: x).take [(34 : UInt8)].length = [34]) = true from decide_eq_true rfl]
    have hxl : x.length ≤ 100000 := by simp at htl; omega
    (repeat(first|refine sb ?_|refine gOn rfl ?_|refine gOff rfl rfl ?_|refine gTup rfl ?_))
    refine (quoted13_w (c02.fine (hs0 ▸ f)) h2 hxl).mono fun v s3 q => ?_
    obtain ⟨c3, q⟩ := q
    have cX : Chg s0 s3 [b] := (c02.trans c3).sub (by simp)
    cases hQ : quF x with
    | none =>
      rw [hQ] at q hlp
      dsimp only at q hlp
      obtain ⟨rfl, hX⟩ := q
      obtain ⟨W, hW⟩ : ∃ y, y = true := ⟨true, rfl⟩
      rw [← hW] at hX
      obtain ⟨R, hR⟩ : ∃ y, y = 34 :: x := ⟨_, rfl⟩
      rw [← hR] at hX hlp
      have hRl : R.length ≤ 1000000 := by rw [hR]; simp; omega
      have hy : trR (cutF e R).1 = [] → lpF e r = ([], (cutF e R).2.1, !(cutF e R).2.2, true) := fun _ => hlp
      have hn : trR (cutF e R).1 ≠ [] → lpF e r = ([], (cutF e R).2.1, !(cutF e R).2.2, true) := fun _ => hlp
      have hwt : (w || true) = W := by rw [hW, Bool.or_true]
      (repeat(first|refine sb ?_|refine gOn rfl ?_|refine gOff rfl rfl ?_|refine gTup rfl ?_))
      refine ldS_is rfl hX.2 rfl ?_
      (repeat(first|refine sb ?_|refine gOn rfl ?_|refine gOff rfl rfl ?_|refine gTup rfl ?_))
      refine (cut1_w (c := e) hRl).mono fun v s q => ?_
      obtain ⟨rfl, rfl⟩ := q
      have hcl := cutF_len e R
      generalize hC : cutF e R = C at *
      obtain ⟨a, d, more⟩ := C
      dsimp only at hcl ⊢
      (repeat(first|refine sb ?_|refine gOn rfl ?_|refine gOff rfl rfl ?_|refine gTup rfl ?_))
      refine (TrimRight_w (by omega)).mono fun v s4 q => ?_
      obtain ⟨rfl, c4⟩ := q
      rw [dropR_trR]
      have h4 := hX.chg c4 (by simp)
      (repeat(first|refine sb ?_|refine gOn rfl ?_|refine gOff rfl rfl ?_|refine gTup rfl ?_))
      intro q hq
      subst hq
      (repeat(first|refine sb ?_|refine gOn rfl ?_|refine gOff rfl rfl ?_|refine gTup rfl ?_))
      refine st_abs (cs' := [str d, .bool en, .bool W]) rfl rfl h4.2 h4.1 rfl rfl fun s5 e5 c5 n5 => ?_
      (repeat(first|refine sb ?_|refine gOn rfl ?_|refine gOff rfl rfl ?_|refine gTup rfl ?_))
      refine st_abs (cs' := [str d, .bool (!more), .bool W]) rfl rfl e5 (by have := h4.1; omega) rfl rfl fun s6 e6 c6 n6 => ?_
      have l6 : b < s6.next := by have := h4.1; omega
      have c06 : Chg s0 s6 [b] := (((cX.trans c4).trans c5).trans c6).sub (by simp)
      (repeat(first|refine sb ?_|refine gOn rfl ?_|refine gOff rfl rfl ?_|refine gTup rfl ?_))
      intro q hq
      by_cases h1 : trR a = []
      · obtain rfl : q = true := by rw [hq, h1]; rfl
        (repeat(first|refine sb ?_|refine gOn rfl ?_|refine gOff rfl rfl ?_|refine gTup rfl ?_))
        have hp := hy h1
        rw [hp]
        dsimp only
        rw [hwt]
        exact ⟨rfl, ⟨l6, e6⟩, c06⟩
      · obtain rfl : q = false := by rw [hq]; simp [h1]
        (repeat(first|refine sb ?_|refine gOn rfl ?_|refine gOff rfl rfl ?_|refine gTup rfl ?_))
        refine st_abs (cs' := [str d, .bool (!more), .bool true]) rfl rfl e6 l6 rfl rfl fun s7 e7 c7 n7 => ?_
        (repeat(first|refine sb ?_|refine gOn rfl ?_|refine gOff rfl rfl ?_|refine gTup rfl ?_))
        have hp := hn h1
        rw [hp, Bool.or_true]
        exact ⟨rfl, ⟨by omega, e7⟩, (c06.trans c7).sub (by simp)⟩
    | some y =>
      obtain ⟨u, R⟩ := y
      rw [hQ] at q hlp
      dsimp only at q hlp
      obtain ⟨rfl, hX⟩ := q
      have hRl : R.length ≤ 1000000 := by
        have := qg_len _ _ _ _ hQ
        omega
      obtain ⟨W, hW⟩ : ∃ y, y = w := ⟨w, rfl⟩
      rw [← hW] at hX
      have hy : trR (cutF e R).1 = [] → lpF e r = (u, (cutF e R).2.1, !(cutF e R).2.2, false) := fun q => by rw [hlp, if_pos q]
      have hn : trR (cutF e R).1 ≠ [] → lpF e r = ([], (cutF e R).2.1, !(cutF e R).2.2, true) := fun q => by rw [hlp, if_neg q]
      (repeat(first|refine sb ?_|refine gOn rfl ?_|refine gOff rfl rfl ?_|refine gTup rfl ?_))
      refine ldS_is rfl hX.2 rfl ?_
      (repeat(first|refine sb ?_|refine gOn rfl ?_|refine gOff rfl rfl ?_|refine gTup rfl ?_))
      refine (cut1_w (c := e) hRl).mono fun v s q => ?_
      obtain ⟨rfl, rfl⟩ := q
      have hcl := cutF_len e R
      generalize hC : cutF e R = C at *
      obtain ⟨a, d, more⟩ := C
      dsimp only at hcl ⊢
      (repeat(first|refine sb ?_|refine gOn rfl ?_|refine gOff rfl rfl ?_|refine gTup rfl ?_))
      refine (TrimRight_w (by omega)).mono fun v s4 q => ?_
      obtain ⟨rfl, c4⟩ := q
      rw [dropR_trR]
      have h4 := hX.chg c4 (by simp)
      (repeat(first|refine sb ?_|refine gOn rfl ?_|refine gOff rfl rfl ?_|refine gTup rfl ?_))
      intro q hq
      subst hq
      (repeat(first|refine sb ?_|refine gOn rfl ?_|refine gOff rfl rfl ?_|refine gTup rfl ?_))
      refine st_abs (cs' := [str d, .bool en, .bool W]) rfl rfl h4.2 h4.1 rfl rfl fun s5 e5 c5 n5 => ?_
      (repeat(first|refine sb ?_|refine gOn rfl ?_|refine gOff rfl rfl ?_|refine gTup rfl ?_))
      refine st_abs (cs' := [str d, .bool (!more), .bool W]) rfl rfl e5 (by have := h4.1; omega) rfl rfl fun s6 e6 c6 n6 => ?_
      have l6 : b < s6.next := by have := h4.1; omega
      have c06 : Chg s0 s6 [b] := (((cX.trans c4).trans c5).trans c6).sub (by simp)
      (repeat(first|refine sb ?_|refine gOn rfl ?_|refine gOff rfl rfl ?_|refine gTup rfl ?_))
      intro q hq
      by_cases h1 : trR a = []
      · obtain rfl : q = true := by rw [hq, h1]; rfl
        (repeat(first|refine sb ?_|refine gOn rfl ?_|refine gOff rfl rfl ?_|refine gTup rfl ?_))
        have hp := hy h1
        rw [hp, Bool.or_false, ← hW]
        exact ⟨rfl, ⟨l6, e6⟩, c06⟩
      · obtain rfl : q = false := by rw [hq]; simp [h1]
        (repeat(first|refine sb ?_|refine gOn rfl ?_|refine gOff rfl rfl ?_|refine gTup rfl ?_))
        refine st_abs (cs' := [str d, .bool (!more), .bool true]) rfl rfl e6 l6 rfl rfl fun s7 e7 c7 n7 => ?_
        (repeat(first|refine sb ?_|refine gOn rfl ?_|refine gOff rfl rfl ?_|refine gTup rfl ?_))
        have hp := hn h1
        rw [hp, Bool.or_true]
        exact ⟨rfl, ⟨by omega, e7⟩, (c06.trans c7).sub (by simp)⟩
  · obtain ⟨R, hR⟩ : ∃ y, y = trL r := ⟨_, rfl⟩
    obtain ⟨W, hW⟩ : ∃ y, y = w := ⟨w, rfl⟩
    have hlp : lpF e r = (if trR (cutF e R).1 = [] ∨ (34 : UInt8) ∈ trR (cutF e R).1 then ([], (cutF e R).2.1, !(cutF e R).2.2, true) else (trR (cutF e R).1, (cutF e R).2.1, !(cutF e R).2.2, false)) := by
      unfold lpF
      rw [if_neg h34, hR]
    rw [show decide ((trL r).take [(34 : UInt8)].length = [34]) = false from decide_eq_false (fun q => h34 (by cases hT : trL r with | nil => rw [hT] at q; cases q | cons c x => rw [hT] at q; simpa using q))]
    rw [← hR] at h2 htl
    rw [← hW] at h2 ⊢
    have hX := h2
    have cX := c02
    have hRl : R.length ≤ 1000000 := by omega
    (repeat(first|refine sb ?_|refine gOn rfl ?_|refine gOff rfl rfl ?_|refine gTup rfl ?_))
    refine ldS_is rfl hX.2 rfl ?_
    (repeat(first|refine sb ?_|refine gOn rfl ?_|refine gOff rfl rfl ?_|refine gTup rfl ?_))
    refine (cut1_w (c := e) hRl).mono fun v s q => ?_
    obtain ⟨rfl, rfl⟩ := q
    have hcl := cutF_len e R
    generalize hC : cutF e R = C at *
    obtain ⟨a, d, more⟩ := C
    dsimp only at hcl ⊢
    (repeat(first|refine sb ?_|refine gOn rfl ?_|refine gOff rfl rfl ?_|refine gTup rfl ?_))
    refine (TrimRight_w (by omega)).mono fun v s4 q => ?_
    obtain ⟨rfl, c4⟩ := q
    rw [dropR_trR]
    have h4 := hX.chg c4 (by simp)
    (repeat(first|refine sb ?_|refine gOn rfl ?_|refine gOff rfl rfl ?_|refine gTup rfl ?_))
    intro q hq
    subst hq
    (repeat(first|refine sb ?_|refine gOn rfl ?_|refine gOff rfl rfl ?_|refine gTup rfl ?_))
    refine st_abs (cs' := [str d, .bool en, .bool W]) rfl rfl h4.2 h4.1 rfl rfl fun s5 e5 c5 n5 => ?_
    (repeat(first|refine sb ?_|refine gOn rfl ?_|refine gOff rfl rfl ?_|refine gTup rfl ?_))
    refine st_abs (cs' := [str d, .bool (!more), .bool W]) rfl rfl e5 (by have := h4.1; omega) rfl rfl fun s6 e6 c6 n6 => ?_
    have l6 : b < s6.next := by have := h4.1; omega
    have c06 : Chg s0 s6 [b] := (((cX.trans c4).trans c5).trans c6).sub (by simp)
    (repeat(first|refine sb ?_|refine gOn rfl ?_|refine gOff rfl rfl ?_|refine gTup rfl ?_))
    intro q hq
    by_cases h1 : trR a = []
    · obtain rfl : q = true := by rw [hq, h1]; rfl
      (repeat(first|refine sb ?_|refine gOn rfl ?_|refine gOff rfl rfl ?_|refine gTup rfl ?_))
      refine st_abs (cs' := [str d, .bool (!more), .bool true]) rfl rfl e6 l6 rfl rfl fun s7 e7 c7 n7 => ?_
      (repeat(first|refine sb ?_|refine gOn rfl ?_|refine gOff rfl rfl ?_|refine gTup rfl ?_))
      have hp : lpF e r = ([], d, !more, true) := by rw [hlp, if_pos (.inl h1)]
      rw [hp, Bool.or_true]
      exact ⟨rfl, ⟨by omega, e7⟩, (c06.trans c7).sub (by simp)⟩
    · obtain rfl : q = false := by rw [hq]; simp [h1]
      (repeat(first|refine sb ?_|refine gOn rfl ?_|refine gOff rfl rfl ?_|refine gTup rfl ?_))
      refine contains1_w.mono fun v s q => ?_
      obtain ⟨rfl, rfl⟩ := q
      by_cases h2 : (34 : UInt8) ∈ trR a
      · rw [show decide ((34 : UInt8) ∈ trR a) = true from decide_eq_true h2]
        (repeat(first|refine sb ?_|refine gOn rfl ?_|refine gOff rfl rfl ?_|refine gTup rfl ?_))
        refine st_abs (cs' := [str d, .bool (!more), .bool true]) rfl rfl e6 l6 rfl rfl fun s7 e7 c7 n7 => ?_
        (repeat(first|refine sb ?_|refine gOn rfl ?_|refine gOff rfl rfl ?_|refine gTup rfl ?_))
        have hp : lpF e r = ([], d, !more, true) := by rw [hlp, if_pos (.inr h2)]
        rw [hp, Bool.or_true]
        exact ⟨rfl, ⟨by omega, e7⟩, (c06.trans c7).sub (by simp)⟩
      · rw [show decide ((34 : UInt8) ∈ trR a) = false from decide_eq_false h2]
        (repeat(first|refine sb ?_|refine gOn rfl ?_|refine gOff rfl rfl ?_|refine gTup rfl ?_))
        have hp : lpF e r = (trR a, d, !more, false) := by rw [hlp, if_neg (by simp [h1, h2])]
        rw [hp, Bool.or_false]
        exact ⟨rfl, ⟨l6, e6⟩, c06⟩
end Go.Vf.S
end
section
/- A reader of a row: a key; values; all of it. -/
namespace Go.Vf.S
open Go Go.Vf Go.Proofs Go.RowKit
attribute [local irreducible] wSeq wRow wp wG
set_option linter.unusedVariables false
set_option linter.unusedSimpArgs false
set_option maxRecDepth 10000

theorem key13_w {s : SS} {b : Nat} {r : List UInt8} {en w : Bool} (f : Fine s) (h : RdL s b r en w) (hr : r.length ≤ 100000) : CallW pr n_lines_reader_key [ptrV b] s fun v s' =>
    v = str (lpF 58 r).1 ∧ RdL s' b (lpF 58 r).2.1 (lpF 58 r).2.2.1 (w || ((lpF 58 r).2.2.2 || decide ((lpF 58 r).1 = []) || (lpF 58 r).2.2.1)) ∧ Chg s s' [b] := by
  refine CallW.run good ok_lines_reader_key (by simp) rfl ?_
  (try refine pSeq ?_); (repeat(first|refine sb ?_|refine gOn rfl ?_|refine gOff rfl rfl ?_|refine gTup rfl ?_))
  refine (part13_w f (by decide) h hr).mono fun v s1 q => ?_
  obtain ⟨rfl, h1, c1⟩ := q
  generalize lpF 58 r = P at *
  obtain ⟨k, d, e, x⟩ := P
  dsimp only at h1 ⊢
  (repeat(first|refine sb ?_|refine gOn rfl ?_|refine gOff rfl rfl ?_|refine gTup rfl ?_))
  intro q hq
  by_cases hk : k = []
  · obtain rfl : q = true := by rw [hq, hk]; rfl
    (repeat(first|refine sb ?_|refine gOn rfl ?_|refine gOff rfl rfl ?_|refine gTup rfl ?_))
    refine st_abs (cs' := [str d, .bool e, .bool true]) rfl rfl h1.2 h1.1 rfl rfl fun s2 e2 c2 n2 => ?_
    (repeat(first|refine sb ?_|refine gOn rfl ?_|refine gOff rfl rfl ?_|refine gTup rfl ?_))
    refine ⟨rfl, ⟨by have := h1.1; omega, ?_⟩, (c1.trans c2).sub (by simp)⟩
    rw [e2, hk]
    simp
  · obtain rfl : q = false := by rw [hq]; simp [hk]
    (repeat(first|refine sb ?_|refine gOn rfl ?_|refine gOff rfl rfl ?_|refine gTup rfl ?_))
    refine ldB_is rfl h1.2 rfl ?_
    cases e with
    | true =>
      (repeat(first|refine sb ?_|refine gOn rfl ?_|refine gOff rfl rfl ?_|refine gTup rfl ?_))
      refine st_abs (cs' := [str d, .bool true, .bool true]) rfl rfl h1.2 h1.1 rfl rfl fun s2 e2 c2 n2 => ?_
      (repeat(first|refine sb ?_|refine gOn rfl ?_|refine gOff rfl rfl ?_|refine gTup rfl ?_))
      refine ⟨rfl, ⟨by have := h1.1; omega, ?_⟩, (c1.trans c2).sub (by simp)⟩
      rw [e2]
      simp
    | false =>
      (repeat(first|refine sb ?_|refine gOn rfl ?_|refine gOff rfl rfl ?_|refine gTup rfl ?_))
      refine ⟨rfl, ⟨h1.1, ?_⟩, c1⟩
      rw [h1.2]
      simp [hk]
/-- A row of texts of one's own, as it grows. -/
abbrev TsO (s : SS) (W : Option Addr) (ws : List (List UInt8)) : Prop := OwnR tS s W 0 ws.length (strV ws)
structure VIx where
  ws : List (List UInt8)
  r : List UInt8
  en : Bool
  w : Bool
  W : Option Addr
  s : SS
def vaF (en : Bool) (ws : List (List UInt8)) (r : List UInt8) (w : Bool) : List (List UInt8) × Bool := if en = true then (ws, w) else (ws ++ (vwA r).1, w || (vwA r).2)
theorem va_step (ws : List (List UInt8)) (r : List UInt8) (w : Bool) : vaF false ws r w = vaF (lpF 44 r).2.2.1 (ws ++ [(lpF 44 r).1]) (lpF 44 r).2.1 (w || (lpF 44 r).2.2.2) := by
  unfold vaF
  rw [if_neg (by simp), vw_step]
  by_cases h : (lpF 44 r).2.2.1 = true
  · rw [if_pos h, if_pos h]
  · rw [if_neg h, if_neg h, List.append_assoc, Bool.or_assoc]
    rfl
set_option maxHeartbeats 1000000 in
theorem values13_w {s : SS} {b : Nat} {r : List UInt8} {en w : Bool} (f : Fine s) (h : RdL s b r en w) (hr : r.length ≤ 100000) : CallW pr n_lines_reader_values [ptrV b] s fun v s' =>
    ∃ W, v = .tuple ⟨[.slice W (vwE (vaF en [] r w).2 (vaF en [] r w).1).1.length 0, .int .i64 (vwE (vaF en [] r w).2 (vaF en [] r w).1).2]⟩ ∧ TsO s' W (vwE (vaF en [] r w).2 (vaF en [] r w).1).1 ∧ (∀ id ∈ blkOf W, s.next ≤ id) ∧ Chg s s' [b] := by
  refine CallW.run good ok_lines_reader_values (by simp) rfl ?_
  (try refine pSeq ?_); (repeat refine sb ?_)
  refine pLoop (MW.head good (fun x : VIx => if x.en = true then 0 else x.r.length + 1) (fun x => RdL x.s b x.r x.en x.w ∧ TsO x.s x.W x.ws ∧ Chg s x.s [b] ∧ (∀ id ∈ blkOf x.W, s.next ≤ id) ∧ vaF x.en x.ws x.r x.w = vaF en [] r w ∧ x.ws.length + x.r.length ≤ r.length + 1 ∧ (x.en = false → x.ws.length + x.r.length ≤ r.length))
    (fun x => [(0, ptrV b), (2, .slice x.W x.ws.length 0), (3, .int .i64 0)]) (fun x => x.s) ⟨[], r, en, w, none, s⟩ ⟨h, ⟨rfl, rfl, rfl⟩, .refl _ _, by simp [blkOf], rfl, by simp, fun _ => by simp⟩ (Wk.same ⟨rfl, rfl, rfl, trivial⟩) ?_)
  rintro ⟨ws, r1, en1, w1, W, s1⟩ ⟨h1, o1, c1, hW, hva, hl, hl2⟩
  dsimp only at h1 o1 c1 hW hva hl hl2 ⊢
  (repeat refine sb ?_)
  refine ldB_is rfl h1.2 rfl ?_
  (repeat refine sb ?_)
  intro q hq
  cases en1 with
  | true =>
    obtain rfl : q = false := by rw [hq]; rfl
    (repeat refine sb ?_)
    refine ldB_is rfl h1.2 rfl ?_
    have hv : vaF en [] r w = (ws, w1) := by rw [← hva]; rfl
    rw [hv]
    unfold vwE
    cases w1 with
    | true =>
      (repeat refine sb ?_)
      exact ⟨none, rfl, ⟨rfl, rfl, rfl⟩, by simp [blkOf], c1⟩
    | false =>
      (repeat refine sb ?_)
      intro q hq
      by_cases h16 : 16 < ws.length
      · obtain rfl : q = true := by rw [hq]; simp; omega
        rw [if_neg (by simp), if_pos h16]
        (repeat refine sb ?_)
        exact ⟨none, rfl, ⟨rfl, rfl, rfl⟩, by simp [blkOf], c1⟩
      · obtain rfl : q = false := by rw [hq]; simp; omega
        rw [if_neg (by simp), if_neg h16]
        (repeat refine sb ?_)
        exact ⟨W, rfl, o1, hW, c1⟩
  | false =>
    obtain rfl : q = true := by rw [hq]; rfl
    have hl2 := hl2 rfl
    (repeat refine sb ?_)
    refine (part13_w (c1.fine f) (by decide) h1 (by omega)).mono fun v s2 q => ?_
    obtain ⟨rfl, h2, c2⟩ := q
    have hst := va_step ws r1 w1
    have hln := lp_len 44 r1
    generalize lpF 44 r1 = P at *
    obtain ⟨k, d, e, x⟩ := P
    dsimp only at h2 hst hln ⊢
    (repeat refine sb ?_)
    have c0 : Chg s2 { s2 with heap := (s2.next, some (.cells [str k] tS false false)) :: s2.heap, next := s2.next + 1 } [] := .new []
    have hbW : b ∉ blkOf W := fun q => by have := hW _ q; have := h.1; omega
    have o2 := (o1.chg c2 (fun id q1 q2 => by rw [List.mem_singleton.1 q2] at q1; exact hbW q1)).chg c0 (fun _ _ q => by cases q)
    refine appR o2 (by unfold strV; rw [List.length_map, Nat.mul_one]) ⟨by omega, by omega⟩ rfl rfl lkH rfl rfl fun s3 o3 c3 n3 => ?_
    have c23 := c0.nil c3
    (repeat refine sb ?_)
    refine ⟨⟨ws ++ [k], d, e, w1 || x, some ⟨s2.next + 1, 0, none⟩, s3⟩, ⟨h2.chg c23 hbW, ?_, ((c1.trans c2).trans c23).sub (fun id q1 q2 => by
      rcases List.mem_append.1 q1 with q | q
      · rcases List.mem_append.1 q with q | q <;> exact q
      · exact absurd (hW _ q) (by omega)), fun id q => by
        have : id = s2.next + 1 := by simpa [blkOf] using q
        have := (c1.trans c2).next
        omega, by show vaF e (ws ++ [k]) d (w1 || x) = _; rw [← hst]; exact hva, by show (ws ++ [k]).length + d.length ≤ r.length + 1; rw [List.length_append, List.length_singleton]; omega, fun he => by
          have := hln.2.2 he
          show (ws ++ [k]).length + d.length ≤ r.length
          rw [List.length_append, List.length_singleton]; omega⟩, ?_, Wk.same ⟨rfl, ?_, rfl, trivial⟩⟩
    · show OwnR tS s3 (some ⟨s2.next + 1, 0, none⟩) 0 (ws ++ [k]).length (strV (ws ++ [k]))
      rw [List.length_append, show strV (ws ++ [k]) = strV ws ++ [str k] by unfold strV; simp]
      exact o3
    · show (if e = true then 0 else d.length + 1) < (if false = true then 0 else r1.length + 1)
      rw [if_neg (show ¬false = true by simp)]
      cases e with
      | true => rw [if_pos rfl]; omega
      | false =>
        rw [if_neg (by simp)]
        have := hln.2.2 rfl
        omega
    · show some (Value.slice _ (ws.length + 1) 0) = some (.slice _ (ws ++ [k]).length 0)
      rw [List.length_append]
      rfl
theorem whole13_w {s : SS} {b : Nat} {r : List UInt8} {en w : Bool} (f : Fine s) (h : RdL s b r en w) (hr : r.length ≤ 100000) : CallW pr n_lines_reader_whole [ptrV b] s fun v s' =>
    v = (if w = true ∨ (34 : UInt8) ∈ trB r then .tuple ⟨[str [], .int .i64 5]⟩ else .tuple ⟨[str (trB r), .int .i64 0]⟩) ∧ Chg s s' [] := by
  refine CallW.run good ok_lines_reader_whole (by simp) rfl ?_
  (try refine pSeq ?_); (repeat(first|refine sb ?_|refine gOn rfl ?_|refine gOff rfl rfl ?_|refine gTup rfl ?_))
  refine ldS_is rfl h.2 rfl ?_
  (repeat(first|refine sb ?_|refine gOn rfl ?_|refine gOff rfl rfl ?_|refine gTup rfl ?_))
  refine (Trim_w (by omega)).mono fun v s1 q => ?_
  obtain ⟨rfl, c1⟩ := q
  rw [trimF_trB]
  have h1 := h.chg c1 (by simp)
  (repeat(first|refine sb ?_|refine gOn rfl ?_|refine gOff rfl rfl ?_|refine gTup rfl ?_))
  refine ldB_is rfl h1.2 rfl ?_
  cases w with
  | true =>
    (repeat(first|refine sb ?_|refine gOn rfl ?_|refine gOff rfl rfl ?_|refine gTup rfl ?_))
    rw [if_pos (.inl rfl)]
    exact ⟨rfl, c1⟩
  | false =>
    (repeat(first|refine sb ?_|refine gOn rfl ?_|refine gOff rfl rfl ?_|refine gTup rfl ?_))
    refine contains1_w.mono fun v s q => ?_
    obtain ⟨rfl, rfl⟩ := q
    by_cases h34 : (34 : UInt8) ∈ trB r
    · rw [show decide ((34 : UInt8) ∈ trB r) = true from decide_eq_true h34]
      (repeat(first|refine sb ?_|refine gOn rfl ?_|refine gOff rfl rfl ?_|refine gTup rfl ?_))
      rw [if_pos (.inr h34)]
      exact ⟨rfl, c1⟩
    · rw [show decide ((34 : UInt8) ∈ trB r) = false from decide_eq_false h34]
      (repeat(first|refine sb ?_|refine gOn rfl ?_|refine gOff rfl rfl ?_|refine gTup rfl ?_))
      rw [if_neg (by simp [h34])]
      exact ⟨rfl, c1⟩
end Go.Vf.S
end

import Derived.Test.YtgddphciejoljaaGreatDoorFn
import Derived.Test.YtgddphciejoljaaGreatDoorEngBd
import Derived.Test.YtgddphciejoljaaGreatDoorEngBe
import Derived.Test.YtgddphciejoljaaGreatDoorShR
section
/- What a call of the library's is told. -/
namespace Go.Vf.S
open Go Go.Vf Go.Proofs Go.RowKit
set_option linter.unusedVariables false
set_option linter.unusedSimpArgs false
set_option maxRecDepth 10000

abbrev gMx : Nat := 2
/-- The library's own number lies there. -/
def Gx (s : SS) : Prop := gMx < s.gl ∧ gMx < s.next ∧ ∃ m, lookH s.heap gMx = some (.cells [.int .i64 m] 3 false true)
theorem Gx.chg {s s' : SS} (h : Gx s) (c : Chg s s' []) : Gx s' := by
  obtain ⟨h1, h2, m, h3⟩ := h
  exact ⟨by rw [c.gl]; exact h1, Nat.lt_of_lt_of_le h2 c.next, m, c.blk _ _ h2 (by simp) h3⟩

theorem lrel_1 {ρ : Ren} {a : Value} {args' : List Value} (h : LRel ρ [a] args') : ∃ v1, args' = [v1] ∧ VRel ρ a v1 := by
  obtain ⟨h1, h2⟩ := h
  match args', h1 with
  | [v1], _ => exact ⟨v1, rfl, h2 0 _ _ rfl rfl⟩
theorem lrel_2 {ρ : Ren} {a b : Value} {args' : List Value} (h : LRel ρ [a, b] args') : ∃ v1 v2, args' = [v1, v2] ∧ VRel ρ a v1 ∧ VRel ρ b v2 := by
  obtain ⟨h1, h2⟩ := h
  match args', h1 with
  | [v1, v2], _ => exact ⟨v1, v2, rfl, h2 0 _ _ rfl rfl, h2 1 _ _ rfl rfl⟩
end Go.Vf.S
end
section
/- Plain bytes; what a text begins with. -/
namespace Go.Vf.S
open Go Go.Vf
attribute [local irreducible] wSeq wRow wp wG
set_option linter.unusedVariables false
set_option linter.unusedSimpArgs false
set_option maxRecDepth 10000

abbrev tS : TypeId := 9
abbrev tB : TypeId := 5
theorem sz_B : sizeB pr tB = some 1 := by kernel_rfl
theorem un_S : pr.underlying tS = some .string := by kernel_rfl

/-- A text. -/
abbrev str (l : List UInt8) : Value := .string ⟨⟨l⟩⟩
def plainB (c : UInt8) : Bool := decide (32 ≤ c.toNat ∧ c.toNat ≤ 126)
theorem bool_eq {a b : Bool} (h : a = b) : one [Value.bool a] = Value.bool b := by subst h; rfl

theorem plain_w {s : SS} {r : Nat} (hr : r ≤ 1114111) : CallW pr n_text_plain [.int .i32 r] s fun v s' => v = .bool (decide (32 ≤ r ∧ r ≤ 126)) ∧ s' = s := by
  refine CallW.run good ok_text_plain (by simp) rfl ?_
  (try refine pSeq ?_); (repeat(first|refine sb ?_|refine gOn rfl ?_|refine gOff rfl rfl ?_|refine gTup rfl ?_))
  intro q hq
  by_cases h : 32 ≤ r
  · obtain rfl : q = true := by rw [hq]; simp; omega
    (repeat(first|refine sb ?_|refine gOn rfl ?_|refine gOff rfl rfl ?_|refine gTup rfl ?_))
    intro q hq
    (repeat(first|refine sb ?_|refine gOn rfl ?_|refine gOff rfl rfl ?_|refine gTup rfl ?_))
    subst hq
    refine ⟨bool_eq ?_, rfl⟩
    rw [decide_eq_decide]
    omega
  · obtain rfl : q = false := by rw [hq]; simp; omega
    (repeat(first|refine sb ?_|refine gOn rfl ?_|refine gOff rfl rfl ?_|refine gTup rfl ?_))
    exact ⟨bool_eq (by simp [h]), rfl⟩

theorem sprefix_w {s : SS} {a b : List UInt8} : CallW pr n_internal_stringslite_HasPrefix [str a, str b] s fun v s' => v = .bool (decide (a.take b.length = b)) ∧ s' = s := by
  refine CallW.run good ok_internal_stringslite_HasPrefix (by simp) rfl ?_
  (try refine pSeq ?_); (repeat(first|refine sb ?_|refine gOn rfl ?_|refine gOff rfl rfl ?_|refine gTup rfl ?_))
  intro n hn
  (repeat(first|refine sb ?_|refine gOn rfl ?_|refine gOff rfl rfl ?_|refine gTup rfl ?_))
  intro m hm
  (repeat(first|refine sb ?_|refine gOn rfl ?_|refine gOff rfl rfl ?_|refine gTup rfl ?_))
  intro q hq
  by_cases h : b.length ≤ a.length
  · obtain rfl : q = true := by rw [hq]; simp; omega
    (repeat(first|refine sb ?_|refine gOn rfl ?_|refine gOff rfl rfl ?_|refine gTup rfl ?_))
    intro m hm
    (repeat(first|refine sb ?_|refine gOn rfl ?_|refine gOff rfl rfl ?_|refine gTup rfl ?_))
    refine ⟨by omega, ?_⟩
    intro m2 hm2 z hz
    obtain rfl : m2 = b.length := by omega
    (repeat(first|refine sb ?_|refine gOn rfl ?_|refine gOff rfl rfl ?_|refine gTup rfl ?_))
    intro q hq
    (repeat(first|refine sb ?_|refine gOn rfl ?_|refine gOff rfl rfl ?_|refine gTup rfl ?_))
    subst hq hz
    exact ⟨bool_eq (by simp), rfl⟩
  · obtain rfl : q = false := by rw [hq]; simp; omega
    (repeat(first|refine sb ?_|refine gOn rfl ?_|refine gOff rfl rfl ?_|refine gTup rfl ?_))
    have : a.take b.length ≠ b := fun e => by have := congrArg List.length e; rw [List.length_take] at this; omega
    exact ⟨bool_eq (by simp [this]), rfl⟩

theorem all_no {l : List UInt8} {p : Nat} {c : UInt8} {f : UInt8 → Bool} (h : l[p]? = some c) (hf : f c = false) : l.all f = false := by
  rw [List.all_eq_false]
  exact ⟨c, List.mem_of_getElem? h, by simp [hf]⟩
theorem plain_no {c : UInt8} (h : ¬ plainB c = true) : plainB c = false := by simpa using h
theorem plain_hi {c : UInt8} (h : 128 ≤ c.toNat) : plainB c = false := by unfold plainB; simp; omega

theorem Plain_w {s : SS} {l : List UInt8} : CallW pr n_text_Plain [str l] s fun v s' => v = .bool (l.all plainB) ∧ Chg s s' [] := by
  refine CallW.run good ok_text_Plain (by simp) rfl ?_
  (try refine pSeq ?_); (repeat refine sb ?_)
  refine srange_W rfl un_S rfl ?_
  (repeat refine sb ?_)
  refine pLoop (MW.head good (fun x : It => l.length - x.p) (fun x => At s s.next l x ∧ (l.take x.p).all plainB = true) (fun x => [(6, .pointer (some ⟨s.next, 0, none⟩))]) (fun x => x.s) ⟨0, _⟩ ⟨.start s l, rfl⟩ (Wk.same ⟨rfl, trivial⟩) ?_)
  intro ⟨p, s1⟩ ⟨h1, h2⟩
  dsimp only at h1 h2 ⊢
  (repeat refine sb ?_)
  refine snext_L rfl rfl h1.2.2.2 (fun he => ?_) (fun c hc h7 => ?_) (fun c r w hc h7 hr hr2 _ hw _ => ?_)
  · (repeat refine sb ?_)
    refine ⟨bool_eq ?_, h1.1⟩
    rw [← h2, List.take_of_length_le he]
  · (repeat refine sb ?_)
    refine (plain_w (by omega)).mono fun v s2 q => ?_
    obtain ⟨rfl, rfl⟩ := q
    (repeat refine sb ?_)
    intro q hq
    have e : decide (32 ≤ c.toNat ∧ c.toNat ≤ 126) = plainB c := rfl
    rw [e] at hq
    by_cases hp : plainB c = true
    · obtain rfl : q = false := by rw [hq, hp]; rfl
      (repeat refine sb ?_)
      exact ⟨⟨p + 1, _⟩, ⟨h1.go _, by rw [take_next hc]; simp [h2, hp]⟩, by have : p < l.length := lt_of_get hc; show l.length - (p + 1) < l.length - p; omega, Wk.same ⟨rfl, trivial⟩⟩
    · obtain rfl : q = true := by rw [hq, plain_no hp]; rfl
      (repeat refine sb ?_)
      exact ⟨bool_eq (all_no hc (plain_no hp)).symm, (h1.go _).1⟩
  · (repeat refine sb ?_)
    refine (plain_w (by omega)).mono fun v s2 q => ?_
    obtain ⟨rfl, rfl⟩ := q
    (repeat refine sb ?_)
    intro q hq
    obtain rfl : q = true := by rw [hq]; simp; omega
    (repeat refine sb ?_)
    exact ⟨bool_eq (all_no hc (plain_hi h7)).symm, (h1.go _).1⟩

end Go.Vf.S
end
section
/- Sets of bytes; what is taken off a text's ends. -/
namespace Go.Vf.S
open Go Go.Vf
attribute [local irreducible] wSeq wRow wp wG
set_option linter.unusedVariables false
set_option linter.unusedSimpArgs false
set_option maxRecDepth 10000

theorem setRow_one : ∀ {l : List Value} {i : Nat} {v : Value}, i < l.length → setRow l i [v] = some (l.set i v)
  | x :: l, 0, v, _ => by cases l <;> rfl
  | x :: l, i + 1, v, h => by simp only [setRow, setRow_one (show i < l.length by simpa using h), List.set_cons_succ]
theorem setRow_all : ∀ {l m : List Value}, l.length = m.length → setRow l 0 m = some m
  | [], [], _ => rfl
  | x :: l, y :: m, h => by simp only [setRow, setRow_all (l := l) (m := m) (by simpa using h)]
structure SIt where
  i : Nat
  s : SS

/-- White space. -/
def wh (c : UInt8) : Bool := decide (c.toNat = 32 ∨ c.toNat = 9)

end Go.Vf.S
end
section
/- Parts of a text. -/
namespace Go.Vf.S
open Go Go.Vf
attribute [local irreducible] wSeq wRow wp wG
set_option linter.unusedVariables false
set_option linter.unusedSimpArgs false
set_option maxRecDepth 10000

/-- The first part, and the others. -/
def sp (c : UInt8) : List UInt8 → List UInt8 × List (List UInt8)
  | [] => ([], [])
  | x :: r => if x = c then ([], (sp c r).1 :: (sp c r).2) else (x :: (sp c r).1, (sp c r).2)
def splitF (c : UInt8) (l : List UInt8) : List (List UInt8) := (sp c l).1 :: (sp c l).2
theorem sp_first {c : UInt8} {r : List UInt8} : ∀ {f : List UInt8}, c ∉ f → sp c (f ++ c :: r) = (f, (sp c r).1 :: (sp c r).2)
  | [], _ => by simp [sp]
  | x :: f, h => by
    have h1 : ¬x = c := fun e => h (by simp [e])
    rw [List.cons_append, sp, if_neg h1, sp_first (f := f) (fun q => h (by simp [q]))]
theorem split_first {c : UInt8} {r f : List UInt8} (h : c ∉ f) : splitF c (f ++ c :: r) = f :: splitF c r := by unfold splitF; rw [sp_first h]
theorem split_last {c : UInt8} : ∀ {l : List UInt8}, l.count c = 0 → splitF c l = [l]
  | [], _ => rfl
  | x :: l, h => by
    have h1 : ¬x = c := fun e => by subst e; simp at h
    rw [List.count_cons_of_ne h1] at h
    have := split_last (c := c) (l := l) h
    unfold splitF at this ⊢
    rw [sp, if_neg h1]
    simp only [List.cons.injEq] at this ⊢
    exact ⟨⟨trivial, this.1⟩, this.2⟩
theorem split_len {c : UInt8} : ∀ (l : List UInt8), (splitF c l).length = l.count c + 1
  | [] => rfl
  | x :: l => by
    have := split_len (c := c) l
    unfold splitF at this ⊢
    rw [sp]
    by_cases h : x = c
    · subst h
      rw [if_pos rfl, List.count_cons_self]
      simp only [List.length_cons] at this ⊢
      omega
    · rw [if_neg h, List.count_cons_of_ne h]
      simp only [List.length_cons] at this ⊢
      omega
theorem index_first {c : UInt8} {r : List UInt8} : ∀ {f : List UInt8}, c ∉ f → Lib.indexByte (f ++ c :: r) c = f.length
  | [], _ => by simp [Lib.indexByte]
  | x :: f, h => by
    have h1 : (x == c) = false := by simp; exact fun e => h (by simp [e])
    have ih := index_first (c := c) (r := r) (f := f) (fun q => h (by simp [q]))
    rw [List.cons_append, Lib.indexByte, h1, ih]
    have : ((f.length : Int) == -1) = false := by simp <;> omega
    rw [this]
    simp

theorem byte_back (c : UInt8) : ((c.toNat : Int).toNat).toUInt8 = c := by simp

theorem indexByte_w {s : SS} {l : List UInt8} {c : UInt8} : CallW pr n_internal_stringslite_IndexByte [str l, .int .u8 c.toNat] s fun v s' => v = .int .i64 (Lib.indexByte l c) ∧ s' = s := by
  refine CallW.run good ok_internal_stringslite_IndexByte (by simp) rfl ?_
  (try refine pSeq ?_); (repeat refine sb ?_)
  refine xtn_W Go.Proofs.Tryz.func119 (by kernel_rfl) (by kernel_rfl) (by kernel_rfl) (by kernel_rfl) rfl rfl rfl rfl (fun w => by rw [Lib.run_indexByteString, byte_back]) ?_
  (repeat refine sb ?_)
  exact ⟨rfl, rfl⟩

theorem count_w {s : SS} {l : List UInt8} {c : UInt8} : CallW pr n_strings_Count [str l, str [c]] s fun v s' => v = .int .i64 (l.count c : Nat) ∧ s' = s := by
  refine CallW.run good ok_strings_Count (by simp) rfl ?_
  (try refine pSeq ?_); (repeat refine sb ?_)
  intro n hn
  (repeat refine sb ?_)
  intro q hq
  obtain rfl : q = false := by rw [hq, hn]; rfl
  (repeat refine sb ?_)
  intro n hn
  (repeat refine sb ?_)
  intro q hq
  obtain rfl : q = true := by rw [hq, hn]; rfl
  (repeat refine sb ?_)
  refine ⟨by simp, ?_⟩
  intro m hm
  obtain rfl : m = 0 := by omega
  refine ⟨c, rfl, ?_⟩
  (repeat refine sb ?_)
  refine xtn_W Go.Proofs.Tryz.func133 (by kernel_rfl) (by kernel_rfl) (by kernel_rfl) (by kernel_rfl) rfl rfl rfl rfl (fun w => by rw [Lib.run_countString, byte_back]) ?_
  (repeat refine sb ?_)
  exact ⟨rfl, rfl⟩

theorem index1_w {s : SS} {l : List UInt8} {c : UInt8} (hne : l ≠ []) : CallW pr n_strings_Index [str l, str [c]] s fun v s' => v = .int .i64 (Lib.indexByte l c) ∧ s' = s := by
  refine CallW.run good ok_strings_Index (by simp) rfl ?_
  (try refine pSeq ?_); (repeat(first|refine sb ?_|refine gOn rfl ?_|refine gOff rfl rfl ?_|refine gTup rfl ?_))
  refine (show CallW pr n_internal_stringslite_Index [str l, str [c]] s fun v s' => v = .int .i64 (Lib.indexByte l c) ∧ s' = s from ?_).mono fun v s q => ?_
  · refine CallW.run good ok_internal_stringslite_Index (by simp) rfl ?_
    (try refine pSeq ?_); (repeat(first|refine sb ?_|refine gOn rfl ?_|refine gOff rfl rfl ?_|refine gTup rfl ?_))
    intro n hn
    (repeat(first|refine sb ?_|refine gOn rfl ?_|refine gOff rfl rfl ?_|refine gTup rfl ?_))
    intro q hq
    obtain rfl : q = false := by rw [hq, hn]; rfl
    (repeat(first|refine sb ?_|refine gOn rfl ?_|refine gOff rfl rfl ?_|refine gTup rfl ?_))
    intro q hq
    by_cases he : [c] = l
    · subst he
      obtain rfl : q = true := by rw [hq]; simp
      (repeat(first|refine sb ?_|refine gOn rfl ?_|refine gOff rfl rfl ?_|refine gTup rfl ?_))
      exact ⟨by show Value.int .i64 0 = _; simp [Lib.indexByte], rfl⟩
    · obtain rfl : q = false := by rw [hq]; simp [he]
      (repeat(first|refine sb ?_|refine gOn rfl ?_|refine gOff rfl rfl ?_|refine gTup rfl ?_))
      intro q hq
      obtain rfl : q = true := by rw [hq, hn]; rfl
      (repeat(first|refine sb ?_|refine gOn rfl ?_|refine gOff rfl rfl ?_|refine gTup rfl ?_))
      refine ⟨by simp, ?_⟩
      intro m hm
      obtain rfl : m = 0 := by omega
      refine ⟨c, rfl, ?_⟩
      (repeat(first|refine sb ?_|refine gOn rfl ?_|refine gOff rfl rfl ?_|refine gTup rfl ?_))
      refine indexByte_w.mono fun v s q => ?_
      obtain ⟨rfl, rfl⟩ := q
      (repeat(first|refine sb ?_|refine gOn rfl ?_|refine gOff rfl rfl ?_|refine gTup rfl ?_))
      exact ⟨rfl, rfl⟩
  obtain ⟨rfl, rfl⟩ := q
  (repeat(first|refine sb ?_|refine gOn rfl ?_|refine gOff rfl rfl ?_|refine gTup rfl ?_))
  exact ⟨rfl, rfl⟩

def strV (ls : List (List UInt8)) : List Value := ls.map str
theorem strV_len (ls : List (List UInt8)) : (strV ls).length = ls.length := by simp [strV]
theorem all1_strV : ∀ ls : List (List UInt8), all1 (strV ls) = true
  | [] => rfl
  | _ :: ls => all1_strV ls
/-- A row of texts that a slice reads. -/
def StrsAt (s : SS) (base : Option Addr) (ls : List (List UInt8)) : Prop :=
  ∃ b cs t g r, base = some ⟨b, 0, none⟩ ∧ b < s.next ∧ lookH s.heap b = some (.cells cs t g r) ∧ ∀ (i : Nat) x, ls[i]? = some x → cs[i]? = some (str x)
theorem StrsAt.chg {s s' : SS} {base : Option Addr} {ls : List (List UInt8)} {A : List Nat} (h : StrsAt s base ls) (c : Chg s s' A) (hA : ∀ id ∈ blkOf base, id ∉ A) : StrsAt s' base ls := by
  obtain ⟨b, cs, t, g, r, rfl, h1, h2, h3⟩ := h
  exact ⟨b, cs, t, g, r, rfl, Nat.lt_of_lt_of_le h1 c.next, c.blk _ _ h1 (hA b (by simp [blkOf])) h2, h3⟩

structure PIt where
  done : List (List UInt8)
  rest : List UInt8
  s : SS

theorem set_row (done : List (List UInt8)) (f : List UInt8) (k : Nat) : (strV done ++ List.replicate (k + 1) (str [])).set done.length (str f) = strV (done ++ [f]) ++ List.replicate k (str []) := by
  rw [List.set_append_right _ _ (by rw [strV_len]; omega), strV_len, Nat.sub_self, List.replicate_succ, List.set_cons_zero]
  simp [strV]

theorem repeat_str : ∀ n : Nat, repeatL n [str []] = List.replicate n (str [])
  | 0 => rfl
  | n + 1 => by
    show [str []] ++ repeatL n [str []] = _
    rw [repeat_str n, List.replicate_succ]
    rfl

theorem slL_pre {P : Program} {T : TL} {s : SS} {K : RR → Prop} {z n cap m b off : Nat} {cs : List Value} {t : TypeId} {r : Bool} {x hi : Operand} {k : Int} (hx : opd T s.gl x = some (.slice (some ⟨b, off, none⟩) n cap)) (hh : opd T s.gl hi = some (.int .i64 k))
    (hb : lookH s.heap b = some (.cells cs t false r)) (hk : k = (m : Int)) (hm : m ≤ cap) (h : K (.val (.slice (some ⟨b, off, none⟩) m cap))) : wN P (.slL z x none (some hi)) T s K := by
  subst hk
  simp only [wN, hx, opdO, hh, hb, wBnd]
  refine ⟨by omega, fun j hj o n' d ho hn hd => ?_⟩
  obtain rfl : j = m := by omega
  have e : o = off := by
    rw [ho]
    split <;> simp
  rw [e, hn, hd, Nat.sub_zero, Nat.sub_zero]
  exact h

/-- A row whose room is all its own. -/
def Full (s : SS) (base : Option Addr) : Prop := ∃ b cs, base = some ⟨b, 0, none⟩ ∧ lookH s.heap b = some (.cells cs tS false false)
theorem split_f {s : SS} {l : List UInt8} {c : UInt8} (hl : l.length ≤ 1000000) : CallW pr n_strings_genSplit [str l, str [c], .int .i64 0, .int .i64 (-1)] s fun v s' => ∃ base cap, v = .slice base (splitF c l).length cap ∧ StrsAt s' base (splitF c l) ∧ Chg s s' [] ∧ (∀ id ∈ blkOf base, s.next ≤ id) ∧ (splitF c l).length ≤ cap ∧ Full s' base := by
  refine CallW.run good ok_strings_genSplit (by simp) rfl ?_
  have hcl : l.count c ≤ l.length := List.count_le_length
  (try refine pSeq ?_); (repeat refine sb ?_)
  intro q hq; obtain rfl : q = false := (by rw [hq]; simp <;> omega); (repeat refine sb ?_)
  intro q hq; obtain rfl : q = false := (by rw [hq]; simp <;> omega); (repeat refine sb ?_)
  intro q hq; obtain rfl : q = true := (by rw [hq]; simp <;> omega); (repeat refine sb ?_)
  refine count_w.mono fun v s q => ?_
  obtain ⟨rfl, rfl⟩ := q
  (repeat refine sb ?_)
  intro z hz
  rw [i64_id (by omega)] at hz
  (repeat refine sb ?_)
  intro n hn
  (repeat refine sb ?_)
  intro z2 hz2
  rw [i64_id (by omega)] at hz2
  (repeat refine sb ?_)
  intro z3 hz3
  obtain rfl : z3 = ((l.count c + 1 : Nat) : Int) := by omega
  (repeat refine sb ?_)
  refine ⟨by omega, ?_⟩
  intro m k hm hk cs hcs
  obtain rfl : m = l.count c + 1 := by omega
  obtain rfl : k = l.count c + 1 := by omega
  rw [repeat_str] at hcs
  subst hcs
  (repeat refine sb ?_)
  intro z4 hz4
  rw [i64_id (by omega)] at hz4
  obtain rfl : z4 = ((l.count c : Nat) : Int) := by omega
  (repeat refine sb ?_)
  refine pLoop (MW.head good (fun x : PIt => x.rest.count c) (fun x => splitF c l = x.done ++ splitF c x.rest ∧ x.rest.length ≤ l.length ∧ l.count c = x.done.length + x.rest.count c ∧ Chg s x.s [] ∧ s.next < x.s.next ∧ lookH x.s.heap s.next = some (.cells (strV x.done ++ List.replicate (x.rest.count c + 1) (str [])) tS false false))
    (fun x => [(0, str x.rest), (1, str [c]), (2, .int .i64 0), (3, .int .i64 (l.count c : Nat)), (9, .slice (some ⟨s.next, 0, none⟩) (l.count c + 1) (l.count c + 1)), (10, .int .i64 x.done.length)]) (fun x => x.s) ⟨[], l, _⟩ ⟨rfl, Nat.le_refl _, by simp, .new _, Nat.lt_succ_self _, lkH⟩ (Wk.same ⟨rfl, rfl, rfl, rfl, rfl, rfl, trivial⟩) ?_)
  intro ⟨done, rest, s1⟩ ⟨h1, h2, h3, c1, h4, h5⟩
  dsimp only at h1 h2 h3 c1 h4 h5 ⊢
  (repeat refine sb ?_)
  intro q hq
  by_cases hlt : 0 < rest.count c
  · obtain rfl : q = true := by rw [hq]; simp <;> omega
    obtain ⟨f, r, rfl, hf⟩ := List.eq_append_cons_of_mem (List.count_pos_iff.1 hlt)
    have hfc : f.count c = 0 := List.count_eq_zero.2 hf
    have hcount : (f ++ c :: r).count c = r.count c + 1 := by rw [List.count_append, List.count_cons_self, hfc]; omega
    have hlen : (f ++ c :: r).length = f.length + 1 + r.length := by simp; omega
    (repeat refine sb ?_)
    refine (index1_w (by simp)).mono fun v s1 q => ?_
    obtain ⟨rfl, rfl⟩ := q
    rw [index_first hf]
    rw [split_first hf] at h1
    (repeat refine sb ?_)
    intro q hq; obtain rfl : q = false := (by rw [hq]; simp <;> omega); (repeat refine sb ?_)
    intro z hz
    rw [i64_id (by omega)] at hz
    (repeat refine sb ?_)
    refine ⟨by omega, ?_⟩
    intro m hm g hg
    obtain rfl : m = f.length := by omega
    have eg : g = f := by rw [hg]; simp
    clear hg
    subst eg
    (repeat refine sb ?_)
    refine ⟨by omega, ?_⟩
    intro m hm o ho
    obtain rfl : m = done.length := by omega
    (repeat refine sb ?_)
    refine st_abs (cs' := strV (done ++ [g]) ++ List.replicate (r.count c + 1) (str [])) rfl rfl h5 h4 rfl ?_ fun s2 e2 c2 n2 => ?_
    · rw [ho, Nat.zero_add, Nat.mul_one]
      show setRow _ _ [_] = _
      rw [setRow_one (by rw [List.length_append, strV_len, List.length_replicate]; omega), hcount, set_row]
    (repeat refine sb ?_)
    intro n hn
    (repeat refine sb ?_)
    intro z2 hz2
    have hn1 : n = 1 := by rw [hn]; rfl
    rw [hn1, i64_id (by omega)] at hz2
    (repeat refine sb ?_)
    refine ⟨by omega, ?_⟩
    intro m hm r2 hr2
    obtain rfl : m = g.length + 1 := by omega
    have er : r2 = r := by
      rw [hr2, List.take_of_length_le (by simp <;> omega)]
      rw [show g ++ c :: r = (g ++ [c]) ++ r by simp, show g.length + 1 = (g ++ [c]).length by simp, List.drop_left]
    clear hr2
    subst er
    (repeat refine sb ?_)
    intro z3 hz3
    rw [i64_id (by omega)] at hz3
    obtain rfl : z3 = (((done ++ [g]).length : Nat) : Int) := by simp; omega
    (repeat refine sb ?_)
    refine ⟨⟨done ++ [g], r2, s2⟩, ⟨by rw [h1]; simp, by show r2.length ≤ l.length; omega, by show l.count c = (done ++ [g]).length + r2.count c; simp; omega, c1.fresh c2 (by simp), by show s.next < s2.next; omega, e2⟩, by show r2.count c < (g ++ c :: r2).count c; omega, Wk.same ⟨rfl, rfl, rfl, rfl, rfl, rfl, trivial⟩⟩
  · obtain rfl : q = false := by rw [hq]; simp <;> omega
    have h0 : rest.count c = 0 := by omega
    rw [split_last h0] at h1
    rw [h0, Nat.add_zero] at h3
    rw [h0] at h5
    (repeat refine sb ?_)
    refine ⟨by omega, ?_⟩
    intro m hm o ho
    obtain rfl : m = done.length := by omega
    (repeat refine sb ?_)
    refine st_abs (cs' := strV (done ++ [rest])) rfl rfl h5 h4 rfl ?_ fun s2 e2 c2 n2 => ?_
    · rw [show o = done.length by omega]
      show setRow _ _ [_] = _
      rw [setRow_one (by rw [List.length_append, strV_len, List.length_replicate]; omega)]
      exact congrArg some ((set_row done rest 0).trans (by simp [strV]))
    (repeat refine sb ?_)
    intro z hz
    rw [i64_id (by omega)] at hz
    (repeat refine sb ?_)
    refine slL_pre (m := l.count c + 1) rfl rfl e2 (by omega) (Nat.le_refl _) ?_
    (repeat refine sb ?_)
    refine ⟨_, _, by rw [split_len]; rfl, ⟨s.next, _, _, _, _, rfl, by omega, e2, fun i x hx => ?_⟩, c1.fresh c2 (by simp), by simp [blkOf], by rw [split_len]; exact Nat.le_refl _, ⟨_, _, rfl, e2⟩⟩
    rw [h1] at hx
    simp only [strV, List.getElem?_map, hx]
    rfl

theorem Split_f {s : SS} {l : List UInt8} {c : UInt8} (hl : l.length ≤ 1000000) : CallW pr n_text_Split [str l, .int .u8 c.toNat] s fun v s' => ∃ base cap, v = .slice base (splitF c l).length cap ∧ StrsAt s' base (splitF c l) ∧ Chg s s' [] ∧ (∀ id ∈ blkOf base, s.next ≤ id) ∧ (splitF c l).length ≤ cap ∧ Full s' base := by
  refine CallW.run good ok_text_Split (by simp) rfl ?_
  (try refine pSeq ?_); (repeat refine sb ?_)
  refine toStr_Rdb rfl (rdb_lit (l := [c]) lkH (Nat.lt_succ_self _)) ?_
  (repeat refine sb ?_)
  refine (show CallW pr n_strings_Split [str l, str [c]] _ fun v s' => ∃ base cap, v = .slice base (splitF c l).length cap ∧ StrsAt s' base (splitF c l) ∧ Chg s s' [] ∧ (∀ id ∈ blkOf base, s.next ≤ id) ∧ (splitF c l).length ≤ cap ∧ Full s' base from ?_).mono fun v s1 q => ?_
  · refine CallW.run good ok_strings_Split (by simp) rfl ?_
    (try refine pSeq ?_); (repeat refine sb ?_)
    refine (split_f hl).mono fun v s1 q => ?_
    obtain ⟨base, cap, rfl, h1, c1, h2⟩ := q
    (repeat refine sb ?_)
    exact ⟨base, cap, rfl, h1, (Chg.new []).nil c1, fun id hid => Nat.le_trans (Nat.le_succ _) (h2.1 id hid), h2.2⟩
  obtain ⟨base, cap, rfl, h1, c1, h2⟩ := q
  (repeat refine sb ?_)
  exact ⟨base, cap, rfl, h1, c1, h2⟩

theorem Split_w {s : SS} {l : List UInt8} {c : UInt8} (hl : l.length ≤ 1000000) : CallW pr n_text_Split [str l, .int .u8 c.toNat] s fun v s' => ∃ base cap, v = .slice base (splitF c l).length cap ∧ StrsAt s' base (splitF c l) ∧ Chg s s' [] ∧ (∀ id ∈ blkOf base, s.next ≤ id) ∧ (splitF c l).length ≤ cap := by
  refine (Split_f hl).mono fun v s1 q => ?_
  obtain ⟨base, cap, rfl, h1, c1, h2, h3, -⟩ := q
  exact ⟨base, cap, rfl, h1, c1, h2, h3⟩

structure PIt2 where
  i : Nat
  f : Nat
  done : List (List UInt8)
  s : SS
  W : Option Addr
  cw : Nat

theorem StrsAt.at {s : SS} {base : Option Addr} {ls : List (List UInt8)} (h : StrsAt s base ls) : ∃ b, base = some ⟨b, 0, none⟩ ∧ ∃ cs t g r, lookH s.heap b = some (.cells cs t g r) ∧ ∀ (i : Nat) x, ls[i]? = some x → cs[i]? = some (str x) := by
  obtain ⟨b, cs, t, g, r, h1, h2, h3, h4⟩ := h
  exact ⟨b, h1, cs, t, g, r, h3, h4⟩

theorem ldS_is {P : Program} {T : TL} {s : SS} {K : RR → Prop} {x : Operand} {b off : Nat} {cs : List Value} {t : TypeId} {g r : Bool} {l : List UInt8} (hx : opd T s.gl x = some (.pointer (some ⟨b, off, none⟩))) (hb : lookH s.heap b = some (.cells cs t g r)) (hc : cs[off]? = some (str l))
    (h : K (.val (str l))) : wN P (.ldS x) T s K := by
  simp only [wN, hx, hb]
  exact ⟨l, hc, h⟩

theorem idx_no {c : UInt8} : ∀ {l : List UInt8}, c ∉ l → Lib.indexByte l c = -1
  | [], _ => rfl
  | x :: l, h => by
    have h1 : (x == c) = false := by simp; exact fun e => h (by simp [e])
    rw [Lib.indexByte, h1, idx_no (l := l) fun q => h (by simp [q])]
    rfl
theorem IndexByte_w {s : SS} {l : List UInt8} {c : UInt8} : CallW pr n_strings_IndexByte [str l, .int .u8 c.toNat] s fun v s' => v = .int .i64 (Lib.indexByte l c) ∧ s' = s := by
  refine CallW.run good ok_strings_IndexByte (by simp) rfl ?_
  (try refine pSeq ?_); (repeat refine sb ?_)
  refine indexByte_w.mono fun v s q => ?_
  obtain ⟨rfl, rfl⟩ := q
  (repeat refine sb ?_)
  exact ⟨rfl, rfl⟩
end Go.Vf.S
end
section
/- The library's tables of runes in a state; parts joined. -/
namespace Go.Vf.S
open Go Go.Vf Go.Proofs Go.RowKit
attribute [local irreducible] wSeq wRow wp wG
set_option linter.unusedVariables false
set_option linter.unusedSimpArgs false
set_option maxRecDepth 10000

abbrev gFi : Nat := 3
abbrev gAc : Nat := 4
abbrev tU8 : TypeId := 5
def fiV : List Value := (List.range 256).map fun c => .int .u8 (Lib.firstT c)
def acV : List Value := (List.range 32).map fun k => .int .u8 (if k % 2 = 0 then Lib.accLo (k / 2) else Lib.accHi (k / 2))
theorem fi_get {c : Nat} (h : c < 256) : fiV[c]? = some (.int .u8 (Lib.firstT c)) := by simp [fiV, h]
theorem ac_get {k : Nat} (h : k < 32) : acV[k]? = some (.int .u8 (if k % 2 = 0 then Lib.accLo (k / 2) else Lib.accHi (k / 2))) := by simp [acV, h]

/-- The library's tables lie there. -/
structure Gv (s : SS) : Prop where
  g1 : gFi < s.gl
  g2 : gAc < s.gl
  n1 : gFi < s.next
  n2 : gAc < s.next
  b1 : lookH s.heap gFi = some (.cells fiV tU8 false true)
  b2 : lookH s.heap gAc = some (.cells acV tU8 false true)
theorem Gv.chg {s s' : SS} (h : Gv s) (c : Chg s s' []) : Gv s' :=
  ⟨by rw [c.gl]; exact h.g1, by rw [c.gl]; exact h.g2, Nat.lt_of_lt_of_le h.n1 c.next, Nat.lt_of_lt_of_le h.n2 c.next, c.blk _ _ h.n1 (by simp) h.b1, c.blk _ _ h.n2 (by simp) h.b2⟩
theorem lrel_t {ρ : Go.Vf.Ren} {a b : Value} {args' : List Value} (h : LRel ρ [a, b] args') : ∃ v1 v2, args' = [v1, v2] ∧ VRel ρ a v1 ∧ VRel ρ b v2 := by
  obtain ⟨h1, h2⟩ := h
  match args', h1 with
  | [v1, v2], _ => exact ⟨v1, v2, rfl, h2 0 _ _ rfl rfl, h2 1 _ _ rfl rfl⟩

end Go.Vf.S
end
section
/- A text, quoted. -/
namespace Go.Vf.S
open Go Go.Vf
attribute [local irreducible] wSeq wRow wp wG
set_option linter.unusedVariables false
set_option linter.unusedSimpArgs false
set_option maxRecDepth 10000

def needs (c : UInt8) : Bool := decide (c.toNat = 34 ∨ c.toNat = 92)
def escB (c : UInt8) : List UInt8 := if needs c then [92, c] else [c]
structure QIt where
  p : Nat
  s : SS
  base : Option Addr
  cap : Nat

end Go.Vf.S
end
section
/- Lower case; numbers. -/
namespace Go.Vf.S
open Go Go.Vf
attribute [local irreducible] wSeq wRow wp wG
set_option linter.unusedVariables false
set_option linter.unusedSimpArgs false
set_option maxRecDepth 10000

def upB (c : UInt8) : Bool := decide (65 ≤ c.toNat ∧ c.toNat ≤ 90)
def lowB (c : UInt8) : UInt8 := if upB c then c + 32 else c
theorem lowB_up {c : UInt8} (h : upB c = true) : (lowB c).toNat = c.toNat + 32 := by
  unfold lowB
  rw [if_pos h]
  have : 65 ≤ c.toNat ∧ c.toNat ≤ 90 := by simpa [upB] using h
  rw [UInt8.toNat_add]
  have e : (32 : UInt8).toNat = 32 := rfl
  omega
theorem lowB_no {c : UInt8} (h : ¬upB c = true) : lowB c = c := by unfold lowB; rw [if_neg h]

/-- Lower so far. -/
def mixL (l : List UInt8) (p : Nat) : List UInt8 := (l.map lowB).take p ++ l.drop p
theorem mix_len (l : List UInt8) (p : Nat) : (mixL l p).length = l.length := by simp [mixL]; omega
theorem mix_0 (l : List UInt8) : mixL l 0 = l := by simp [mixL]
theorem mix_end {l : List UInt8} {p : Nat} (h : l.length ≤ p) : mixL l p = l.map lowB := by
  unfold mixL
  rw [List.drop_of_length_le h, List.append_nil, List.take_of_length_le (by simpa using h)]
theorem mix_next {l : List UInt8} {p : Nat} {c : UInt8} (h : l[p]? = some c) : mixL l (p + 1) = (mixL l p).set p (lowB c) := by
  have hp := lt_of_get h
  unfold mixL
  rw [drop_next h, take_next (c := lowB c) (by rw [List.getElem?_map, h]; rfl), List.set_append_right _ _ (by simp; omega)]
  have e : ((l.map lowB).take p).length = p := by simp; omega
  rw [e, Nat.sub_self, List.append_assoc]
  rfl
theorem mix_at {l : List UInt8} {p : Nat} {c : UInt8} (h : l[p]? = some c) : (mixL l p)[p]? = some c := by
  have hp := lt_of_get h
  unfold mixL
  have e : ((l.map lowB).take p).length = p := by simp; omega
  rw [List.getElem?_append_right (by omega), e, Nat.sub_self, drop_next h]
  rfl
theorem mix_same {l : List UInt8} {p : Nat} {c : UInt8} (h : l[p]? = some c) (hc : lowB c = c) : mixL l (p + 1) = mixL l p := by
  rw [mix_next h, hc]
  have := mix_at h
  obtain ⟨hp, e⟩ := List.getElem?_eq_some_iff.1 this
  rw [← e]
  exact List.set_getElem_self hp
theorem mix_more {l : List UInt8} {p : Nat} : ∀ {w : Nat}, (∀ j, j < w → ∃ d, l[p + j]? = some d ∧ 128 ≤ d.toNat) → mixL l (p + w) = mixL l p
  | 0, _ => rfl
  | w + 1, h => by
    obtain ⟨d, h1, h2⟩ := h w (Nat.lt_succ_self _)
    rw [← Nat.add_assoc, mix_same h1 (lowB_no (by simp [upB]; omega)), mix_more fun j hj => h j (Nat.lt_succ_of_lt hj)]

theorem lower_w {s : SS} {l : List UInt8} (hl : l.length ≤ 1000000) : CallW pr n_text_Lower [str l] s fun v s' => v = str (l.map lowB) ∧ Chg s s' [] := by
  refine CallW.run good ok_text_Lower (by simp) rfl ?_
  (try refine pSeq ?_); (repeat(first|refine sb ?_|refine gOn rfl ?_|refine gOff rfl rfl ?_|refine gTup rfl ?_))
  refine ⟨by omega, ?_⟩
  (repeat(first|refine sb ?_|refine gOn rfl ?_|refine gOff rfl rfl ?_|refine gTup rfl ?_))
  refine srange_W rfl un_S rfl ?_
  (repeat(first|refine sb ?_|refine gOn rfl ?_|refine gOff rfl rfl ?_|refine gTup rfl ?_))
  refine pLoop (MW.head good (fun x : It => l.length - x.p) (fun x => At s (s.next + 1) l x ∧ lookH x.s.heap s.next = some (.cells (bytesV (mixL l x.p)) tB true false))
    (fun x => [(3, .slice (some ⟨s.next, 0, none⟩) l.length 0), (9, .pointer (some ⟨s.next + 1, 0, none⟩))]) (fun x => x.s) ⟨0, _⟩ ⟨⟨(Chg.new _).nil (.new _), Nat.le_succ _, Nat.lt_succ_self _, lkH⟩, ?_⟩ (Wk.same ⟨rfl, rfl, trivial⟩) ?_)
  · rw [mix_0]
    exact lkT (show s.next + 1 ≠ s.next by omega) lkH
  intro ⟨p, s1⟩ ⟨h1, h2⟩
  dsimp only at h1 h2 ⊢
  have hn1 := h1.1.next
  have hn2 := h1.2.2.1
  dsimp only at hn1 hn2
  (repeat(first|refine sb ?_|refine gOn rfl ?_|refine gOff rfl rfl ?_|refine gTup rfl ?_))
  refine snext_L rfl rfl (show lookH s1.heap _ = some (.siter ⟨⟨l⟩⟩ p) from h1.2.2.2) (fun he => ?_) (fun c hc h7 => ?_) (fun c r w hc h7 hr hr2 hdec hw _ => ?_)
  · (repeat(first|refine sb ?_|refine gOn rfl ?_|refine gOff rfl rfl ?_|refine gTup rfl ?_))
    refine toStr_Rdb rfl (by have := rdb_lit h2 (by omega); rw [mix_len] at this; exact this) ?_
    (repeat(first|refine sb ?_|refine gOn rfl ?_|refine gOff rfl rfl ?_|refine gTup rfl ?_))
    rw [mix_end he]
    exact ⟨rfl, h1.1⟩
  · have hlt : p < l.length := lt_of_get hc
    have h3 : lookH ((s.next + 1, some (ABlk.siter ⟨⟨l⟩⟩ (p + 1))) :: s1.heap) s.next = some (.cells (bytesV (mixL l p)) tB true false) := lkT (by omega) h2
    (repeat(first|refine sb ?_|refine gOn rfl ?_|refine gOff rfl rfl ?_|refine gTup rfl ?_))
    intro q hq
    by_cases hup : upB c = true
    · have hu : 65 ≤ c.toNat ∧ c.toNat ≤ 90 := by simpa [upB] using hup
      obtain rfl : q = true := by rw [hq]; simp <;> omega
      (repeat(first|refine sb ?_|refine gOn rfl ?_|refine gOff rfl rfl ?_|refine gTup rfl ?_))
      intro q hq; obtain rfl : q = true := (by rw [hq]; simp <;> omega); (repeat(first|refine sb ?_|refine gOn rfl ?_|refine gOff rfl rfl ?_|refine gTup rfl ?_))
      refine ⟨by omega, ?_⟩
      intro m hm o ho
      obtain rfl : m = p := by omega
      (repeat(first|refine sb ?_|refine gOn rfl ?_|refine gOff rfl rfl ?_|refine gTup rfl ?_))
      have hget : (bytesV (mixL l m))[o]? = some (.int .u8 c.toNat) := by
        rw [ho, Nat.zero_add, Nat.mul_one, bytesV, List.getElem?_map, mix_at hc]; rfl
      refine ldI_is rfl h3 hget ?_
      (repeat(first|refine sb ?_|refine gOn rfl ?_|refine gOff rfl rfl ?_|refine gTup rfl ?_))
      intro z hz
      rw [u8_id (by omega)] at hz
      obtain rfl : z = ((lowB c).toNat : Int) := by rw [lowB_up hup]; omega
      (repeat(first|refine sb ?_|refine gOn rfl ?_|refine gOff rfl rfl ?_|refine gTup rfl ?_))
      refine ⟨by omega, ?_⟩
      intro m2 hm2 o2 ho2
      obtain rfl : m2 = m := by omega
      (repeat(first|refine sb ?_|refine gOn rfl ?_|refine gOff rfl rfl ?_|refine gTup rfl ?_))
      refine st_abs (cs' := bytesV (mixL l (m2 + 1))) rfl rfl h3 (by show s.next < s1.next; omega) rfl ?_ fun s2 e2 c2 n2 => ?_
      · rw [ho2, Nat.zero_add, Nat.mul_one]
        show setRow _ _ [_] = _
        rw [setRow_one (by rw [bytesV_len, mix_len]; exact hlt), mix_next hc]
        congr 1
        simp [bytesV, List.map_set]
      (repeat(first|refine sb ?_|refine gOn rfl ?_|refine gOff rfl rfl ?_|refine gTup rfl ?_))
      exact ⟨⟨m2 + 1, s2⟩, ⟨(h1.go (m2 + 1)).chg c2 (by simp), e2⟩, by show l.length - (m2 + 1) < l.length - m2; omega, Wk.same ⟨rfl, rfl, trivial⟩⟩
    · have hlow := lowB_no hup
      have fin : At s (s.next + 1) l ⟨p + 1, { s1 with heap := (s.next + 1, some (ABlk.siter ⟨⟨l⟩⟩ (p + 1))) :: s1.heap }⟩ ∧ lookH ((s.next + 1, some (ABlk.siter ⟨⟨l⟩⟩ (p + 1))) :: s1.heap) s.next = some (.cells (bytesV (mixL l (p + 1))) tB true false) := ⟨h1.go _, by rw [mix_same hc hlow]; exact h3⟩
      by_cases h65 : 65 ≤ c.toNat
      · obtain rfl : q = true := by rw [hq]; simp <;> omega
        have h90 : ¬c.toNat ≤ 90 := fun q => hup (by simp [upB, h65, q])
        (repeat(first|refine sb ?_|refine gOn rfl ?_|refine gOff rfl rfl ?_|refine gTup rfl ?_))
        intro q hq; obtain rfl : q = false := (by rw [hq]; simp <;> omega); (repeat(first|refine sb ?_|refine gOn rfl ?_|refine gOff rfl rfl ?_|refine gTup rfl ?_))
        exact ⟨⟨p + 1, _⟩, fin, by show l.length - (p + 1) < l.length - p; omega, Wk.same ⟨rfl, rfl, trivial⟩⟩
      · obtain rfl : q = false := by rw [hq]; simp <;> omega
        (repeat(first|refine sb ?_|refine gOn rfl ?_|refine gOff rfl rfl ?_|refine gTup rfl ?_))
        exact ⟨⟨p + 1, _⟩, fin, by show l.length - (p + 1) < l.length - p; omega, Wk.same ⟨rfl, rfl, trivial⟩⟩
  · have hlt : p < l.length := lt_of_get hc
    (repeat(first|refine sb ?_|refine gOn rfl ?_|refine gOff rfl rfl ?_|refine gTup rfl ?_))
    intro q hq; obtain rfl : q = true := (by rw [hq]; simp <;> omega); (repeat(first|refine sb ?_|refine gOn rfl ?_|refine gOff rfl rfl ?_|refine gTup rfl ?_))
    intro q hq; obtain rfl : q = false := (by rw [hq]; simp <;> omega); (repeat(first|refine sb ?_|refine gOn rfl ?_|refine gOff rfl rfl ?_|refine gTup rfl ?_))
    refine ⟨⟨p + w, _⟩, ⟨h1.go _, ?_⟩, by show l.length - (p + w) < l.length - p; omega, Wk.same ⟨rfl, rfl, trivial⟩⟩
    rw [mix_more (dec_more hdec hc h7)]
    exact lkT (by omega) h2

theorem same_w {s : SS} {l t : List UInt8} (hl : l.length ≤ 1000000) (ht : t.length ≤ 1000000) : CallW pr n_text_Same [str l, str t] s fun v s' => v = .bool (decide (l.map lowB = t.map lowB)) ∧ Chg s s' [] := by
  refine CallW.run good ok_text_Same (by simp) rfl ?_
  (try refine pSeq ?_); (repeat refine sb ?_)
  refine (lower_w hl).mono fun v s1 q => ?_
  obtain ⟨rfl, c1⟩ := q
  (repeat refine sb ?_)
  refine (lower_w ht).mono fun v s2 q => ?_
  obtain ⟨rfl, c2⟩ := q
  (repeat refine sb ?_)
  intro q hq
  (repeat refine sb ?_)
  subst hq
  exact ⟨rfl, c1.nil c2⟩
end Go.Vf.S
end
section
/- Parts of a text, by the library's calls. -/
namespace Go.Vf.S
open Go Go.Vf
attribute [local irreducible] wSeq wRow wp wG
set_option linter.unusedVariables false
set_option linter.unusedSimpArgs false
set_option maxRecDepth 10000

theorem ssuffix_w {s : SS} {a b : List UInt8} (ha : a.length ≤ 1000000) : CallW pr n_internal_stringslite_HasSuffix [str a, str b] s fun v s' => v = .bool (decide (b <:+ a)) ∧ s' = s := by
  refine CallW.run good ok_internal_stringslite_HasSuffix (by simp) rfl ?_
  (try refine pSeq ?_); (repeat(first|refine sb ?_|refine gOn rfl ?_|refine gOff rfl rfl ?_|refine gTup rfl ?_))
  intro n hn
  (repeat(first|refine sb ?_|refine gOn rfl ?_|refine gOff rfl rfl ?_|refine gTup rfl ?_))
  intro m hm
  (repeat(first|refine sb ?_|refine gOn rfl ?_|refine gOff rfl rfl ?_|refine gTup rfl ?_))
  intro q hq
  by_cases h : b.length ≤ a.length
  · obtain rfl : q = true := by rw [hq]; simp <;> omega
    (repeat(first|refine sb ?_|refine gOn rfl ?_|refine gOff rfl rfl ?_|refine gTup rfl ?_))
    intro n1 hn1
    (repeat(first|refine sb ?_|refine gOn rfl ?_|refine gOff rfl rfl ?_|refine gTup rfl ?_))
    intro m1 hm1
    (repeat(first|refine sb ?_|refine gOn rfl ?_|refine gOff rfl rfl ?_|refine gTup rfl ?_))
    intro z hz
    rw [i64_id (by omega)] at hz
    (repeat(first|refine sb ?_|refine gOn rfl ?_|refine gOff rfl rfl ?_|refine gTup rfl ?_))
    refine ⟨by omega, ?_⟩
    intro k hk r hr
    obtain rfl : k = a.length - b.length := by omega
    (repeat(first|refine sb ?_|refine gOn rfl ?_|refine gOff rfl rfl ?_|refine gTup rfl ?_))
    intro q hq
    (repeat(first|refine sb ?_|refine gOn rfl ?_|refine gOff rfl rfl ?_|refine gTup rfl ?_))
    refine ⟨bool_eq ?_, rfl⟩
    rw [hq, hr, List.take_of_length_le (by simp), decide_eq_decide, List.suffix_iff_eq_drop]
    exact ⟨fun e => e.symm, fun e => e.symm⟩
  · obtain rfl : q = false := by rw [hq]; simp <;> omega
    (repeat(first|refine sb ?_|refine gOn rfl ?_|refine gOff rfl rfl ?_|refine gTup rfl ?_))
    refine ⟨bool_eq ?_, rfl⟩
    symm
    rw [decide_eq_false_iff_not]
    exact fun q => h q.length_le

theorem cutP_w {s : SS} {a b : List UInt8} : CallW pr n_strings_CutPrefix [str a, str b] s fun v s' => v = .tuple ⟨[str (if a.take b.length = b then a.drop b.length else a), .bool (decide (a.take b.length = b))]⟩ ∧ s' = s := by
  refine CallW.run good ok_strings_CutPrefix (by simp) rfl ?_
  (try refine pSeq ?_); (repeat refine sb ?_)
  refine (show CallW pr n_internal_stringslite_CutPrefix [str a, str b] s fun v s' => v = .tuple ⟨[str (if a.take b.length = b then a.drop b.length else a), .bool (decide (a.take b.length = b))]⟩ ∧ s' = s from ?_).mono fun v s q => ?_
  · refine CallW.run good ok_internal_stringslite_CutPrefix (by simp) rfl ?_
    (try refine pSeq ?_); (repeat refine sb ?_)
    refine sprefix_w.mono fun v s q => ?_
    obtain ⟨rfl, rfl⟩ := q
    (repeat refine sb ?_)
    intro q hq
    by_cases h : a.take b.length = b
    · obtain rfl : q = false := by rw [hq]; simp [h]
      have hle : b.length ≤ a.length := by
        have := congrArg List.length h
        rw [List.length_take] at this
        omega
      rw [if_pos h, decide_eq_true h]
      (repeat refine sb ?_)
      intro n hn
      (repeat refine sb ?_)
      refine ⟨by omega, ?_⟩
      intro m hm r hr
      obtain rfl : m = b.length := by omega
      rw [List.take_of_length_le (by simp)] at hr
      subst hr
      (repeat refine sb ?_)
      exact ⟨rfl, rfl⟩
    · obtain rfl : q = true := by rw [hq]; simp [h]
      rw [if_neg h, decide_eq_false h]
      (repeat refine sb ?_)
      exact ⟨rfl, rfl⟩
  obtain ⟨rfl, rfl⟩ := q
  (repeat refine sb ?_)
  exact ⟨rfl, rfl⟩

theorem cutS_w {s : SS} {a b : List UInt8} (ha : a.length ≤ 1000000) : CallW pr n_strings_CutSuffix [str a, str b] s fun v s' => v = .tuple ⟨[str (if b <:+ a then a.take (a.length - b.length) else a), .bool (decide (b <:+ a))]⟩ ∧ s' = s := by
  refine CallW.run good ok_strings_CutSuffix (by simp) rfl ?_
  (try refine pSeq ?_); (repeat refine sb ?_)
  refine (show CallW pr n_internal_stringslite_CutSuffix [str a, str b] s fun v s' => v = .tuple ⟨[str (if b <:+ a then a.take (a.length - b.length) else a), .bool (decide (b <:+ a))]⟩ ∧ s' = s from ?_).mono fun v s q => ?_
  · refine CallW.run good ok_internal_stringslite_CutSuffix (by simp) rfl ?_
    (try refine pSeq ?_); (repeat refine sb ?_)
    refine (ssuffix_w ha).mono fun v s q => ?_
    obtain ⟨rfl, rfl⟩ := q
    (repeat refine sb ?_)
    intro q hq
    by_cases h : b <:+ a
    · obtain rfl : q = false := by rw [hq]; simp [h]
      have hle := h.length_le
      rw [if_pos h, decide_eq_true h]
      (repeat refine sb ?_)
      intro n hn
      (repeat refine sb ?_)
      intro m hm
      (repeat refine sb ?_)
      intro z hz
      rw [i64_id (by omega)] at hz
      (repeat refine sb ?_)
      refine ⟨by omega, ?_⟩
      intro k hk r hr
      obtain rfl : k = a.length - b.length := by omega
      rw [List.drop_zero, Nat.sub_zero] at hr
      subst hr
      (repeat refine sb ?_)
      exact ⟨rfl, rfl⟩
    · obtain rfl : q = true := by rw [hq]; simp [h]
      rw [if_neg h, decide_eq_false h]
      (repeat refine sb ?_)
      exact ⟨rfl, rfl⟩
  obtain ⟨rfl, rfl⟩ := q
  (repeat refine sb ?_)
  exact ⟨rfl, rfl⟩

theorem sidx_w {s : SS} {l : List UInt8} {c : UInt8} : CallW pr n_internal_stringslite_Index [str l, str [c]] s fun v s' => v = .int .i64 (Lib.indexByte l c) ∧ s' = s := by
  refine CallW.run good ok_internal_stringslite_Index (by simp) rfl ?_
  (try refine pSeq ?_); (repeat(first|refine sb ?_|refine gOn rfl ?_|refine gOff rfl rfl ?_|refine gTup rfl ?_))
  intro n hn
  (repeat(first|refine sb ?_|refine gOn rfl ?_|refine gOff rfl rfl ?_|refine gTup rfl ?_))
  intro q hq
  obtain rfl : q = false := by rw [hq, hn]; rfl
  (repeat(first|refine sb ?_|refine gOn rfl ?_|refine gOff rfl rfl ?_|refine gTup rfl ?_))
  intro q hq
  by_cases he : [c] = l
  · subst he
    obtain rfl : q = true := by rw [hq]; simp
    (repeat(first|refine sb ?_|refine gOn rfl ?_|refine gOff rfl rfl ?_|refine gTup rfl ?_))
    exact ⟨by show Value.int .i64 0 = _; simp [Lib.indexByte], rfl⟩
  · obtain rfl : q = false := by rw [hq]; simp [he]
    (repeat(first|refine sb ?_|refine gOn rfl ?_|refine gOff rfl rfl ?_|refine gTup rfl ?_))
    intro q hq
    obtain rfl : q = true := by rw [hq, hn]; rfl
    (repeat(first|refine sb ?_|refine gOn rfl ?_|refine gOff rfl rfl ?_|refine gTup rfl ?_))
    refine ⟨by simp, ?_⟩
    intro m hm
    obtain rfl : m = 0 := by omega
    refine ⟨c, rfl, ?_⟩
    (repeat(first|refine sb ?_|refine gOn rfl ?_|refine gOff rfl rfl ?_|refine gTup rfl ?_))
    refine indexByte_w.mono fun v s q => ?_
    obtain ⟨rfl, rfl⟩ := q
    (repeat(first|refine sb ?_|refine gOn rfl ?_|refine gOff rfl rfl ?_|refine gTup rfl ?_))
    exact ⟨rfl, rfl⟩

def cutF (c : UInt8) (l : List UInt8) : List UInt8 × List UInt8 × Bool := if c ∈ l then (l.takeWhile (· != c), l.drop ((l.takeWhile (· != c)).length + 1), true) else (l, [], false)
theorem while_first {c : UInt8} {f r : List UInt8} (h : c ∉ f) : (f ++ c :: r).takeWhile (· != c) = f := by
  induction f with
  | nil => simp
  | cons x f ih =>
    have : x ≠ c := fun e => h (by simp [e])
    rw [List.cons_append, List.takeWhile_cons, if_pos (by simpa using this), ih fun q => h (by simp [q])]

theorem cut1_w {s : SS} {l : List UInt8} {c : UInt8} (hl : l.length ≤ 1000000) : CallW pr n_strings_Cut [str l, str [c]] s fun v s' => v = .tuple ⟨[str (cutF c l).1, str (cutF c l).2.1, .bool (cutF c l).2.2]⟩ ∧ s' = s := by
  refine CallW.run good ok_strings_Cut (by simp) rfl ?_
  (try refine pSeq ?_); (repeat(first|refine sb ?_|refine kNo ?_))
  refine (show CallW pr n_internal_stringslite_Cut [str l, str [c]] s fun v s' => v = .tuple ⟨[str (cutF c l).1, str (cutF c l).2.1, .bool (cutF c l).2.2]⟩ ∧ s' = s from ?_).mono fun v s q => ?_
  · refine CallW.run good ok_internal_stringslite_Cut (by simp) rfl ?_
    (try refine pSeq ?_); (repeat(first|refine sb ?_|refine kNo ?_))
    refine sidx_w.mono fun v s q => ?_
    obtain ⟨rfl, rfl⟩ := q
    by_cases hc : c ∈ l
    · obtain ⟨f, r, rfl, hf⟩ := List.eq_append_cons_of_mem hc
      have e : cutF c (f ++ c :: r) = (f, r, true) := by
        unfold cutF
        rw [if_pos hc, while_first hf, show f ++ c :: r = (f ++ [c]) ++ r by simp, show f.length + 1 = (f ++ [c]).length by simp, List.drop_left]
      have hn : (f ++ c :: r).length = f.length + 1 + r.length := by simp; omega
      rw [index_first hf, e]
      (repeat(first|refine sb ?_|refine kNo ?_))
      intro q hq; obtain rfl : q = true := (by rw [hq]; simp <;> omega); (repeat(first|refine sb ?_|refine kNo ?_))
      refine ⟨by omega, ?_⟩
      intro m hm g hg
      obtain rfl : m = f.length := by omega
      have eg : g = f := by rw [hg]; simp
      subst eg
      (repeat(first|refine sb ?_|refine kNo ?_))
      intro n hn1
      (repeat(first|refine sb ?_|refine kNo ?_))
      intro z hz
      rw [i64_id (by simp at hn1; omega)] at hz
      (repeat(first|refine sb ?_|refine kNo ?_))
      refine ⟨by simp at hn1; omega, ?_⟩
      intro m hm t ht
      obtain rfl : m = g.length + 1 := by simp at hn1; omega
      have et : t = r := by rw [ht, List.take_of_length_le (by simp <;> omega), show g ++ c :: r = (g ++ [c]) ++ r by simp, show g.length + 1 = (g ++ [c]).length by simp, List.drop_left]
      clear ht hg
      subst et
      (repeat(first|refine sb ?_|refine kNo ?_))
      exact ⟨rfl, rfl⟩
    · have e : cutF c l = (l, [], false) := by unfold cutF; rw [if_neg hc]
      rw [idx_no hc, e]
      (repeat(first|refine sb ?_|refine kNo ?_))
      intro q hq; obtain rfl : q = false := (by rw [hq]; simp <;> omega); (repeat(first|refine sb ?_|refine kNo ?_))
      exact ⟨rfl, rfl⟩
  obtain ⟨rfl, rfl⟩ := q
  (repeat(first|refine sb ?_|refine kNo ?_))
  exact ⟨rfl, rfl⟩

theorem hasSuffix_w {s : SS} {a b : List UInt8} (ha : a.length ≤ 1000000) : CallW pr n_strings_HasSuffix [str a, str b] s fun v s' => v = .bool (decide (b <:+ a)) ∧ s' = s := by
  refine CallW.run good ok_strings_HasSuffix (by simp) rfl ?_
  (try refine pSeq ?_); (repeat refine sb ?_)
  refine (ssuffix_w ha).mono fun v s q => ?_
  obtain ⟨rfl, rfl⟩ := q
  (repeat refine sb ?_)
  exact ⟨rfl, rfl⟩

end Go.Vf.S
end
section
/- Numbers. -/
namespace Go.Vf.S
open Go Go.Vf
attribute [local irreducible] wSeq wRow wp wG
set_option linter.unusedVariables false
set_option linter.unusedSimpArgs false
set_option maxRecDepth 10000

def digB (c : UInt8) : Bool := decide (48 ≤ c.toNat ∧ c.toNat ≤ 57)
def numFrom (a : Nat) (l : List UInt8) : Nat := l.foldl (fun n c => 10 * n + (c.toNat - 48)) a
def numL (l : List UInt8) : Nat := numFrom 0 l
def clamp (d : Int) : Nat := (min (max d 1) 15).toNat
def numberF (l : List UInt8) (d : Int) : Nat × Nat := if 1 ≤ l.length ∧ l.length ≤ clamp d ∧ l.all digB = true then (numL l, 0) else (0, 5)

theorem numFrom_lt : ∀ (l : List UInt8) (a : Nat), l.all digB = true → numFrom a l < (a + 1) * 10 ^ l.length
  | [], a, _ => by simp [numFrom]
  | c :: l, a, h => by
    rw [List.all_cons, Bool.and_eq_true] at h
    have hc : 48 ≤ c.toNat ∧ c.toNat ≤ 57 := by simpa [digB] using h.1
    have := numFrom_lt l (10 * a + (c.toNat - 48)) h.2
    show numFrom (10 * a + (c.toNat - 48)) l < _
    rw [List.length_cons, Nat.pow_succ, Nat.mul_comm (10 ^ l.length) 10, ← Nat.mul_assoc]
    exact Nat.lt_of_lt_of_le this (Nat.mul_le_mul_right _ (by omega))
theorem num_lt {l : List UInt8} (h : l.all digB = true) (hl : l.length ≤ 15) : numL l < 1000000000000000 := by
  have h1 := numFrom_lt l 0 h
  have h2 : 10 ^ l.length ≤ 10 ^ 15 := Nat.pow_le_pow_right (by omega) hl
  unfold numL
  omega
theorem num_next {l : List UInt8} {p : Nat} {c : UInt8} (h : l[p]? = some c) : numL (l.take (p + 1)) = 10 * numL (l.take p) + (c.toNat - 48) := by
  rw [take_next h]
  simp [numL, numFrom]
theorem all_next {l : List UInt8} {p : Nat} {c : UInt8} {f : UInt8 → Bool} (h : l[p]? = some c) (h1 : (l.take p).all f = true) (h2 : f c = true) : (l.take (p + 1)).all f = true := by
  rw [take_next h]
  simp [h1, h2]
theorem number_no {l : List UInt8} {d : Int} (h : ¬(1 ≤ l.length ∧ l.length ≤ clamp d ∧ l.all digB = true)) : numberF l d = (0, 5) := by unfold numberF; rw [if_neg h]
theorem number_ok {l : List UInt8} {d : Int} (h1 : 1 ≤ l.length) (h2 : l.length ≤ clamp d) (h3 : l.all digB = true) : numberF l d = (numL l, 0) := by unfold numberF; rw [if_pos ⟨h1, h2, h3⟩]
abbrev nRes (q : Nat × Nat) : Value := .tuple ⟨[.int .i64 q.1, .int .i64 q.2]⟩

theorem number_w {s : SS} {l : List UInt8} {d : Int} (hl : l.length ≤ 1000000) : CallW pr n_text_Number [str l, .int .i64 d] s fun v s' => v = nRes (numberF l d) ∧ Chg s s' [] := by
  refine CallW.run good ok_text_Number (by simp) rfl ?_
  have hcl : (clamp d : Int) = min (max d 1) 15 := by unfold clamp; omega
  (try refine pSeq ?_); (repeat(first|refine sb ?_|refine gOn rfl ?_|refine gOff rfl rfl ?_|refine gTup rfl ?_))
  intro q hq
  by_cases h0 : l = []
  · subst h0
    obtain rfl : q = true := by rw [hq]; rfl
    (repeat(first|refine sb ?_|refine gOn rfl ?_|refine gOff rfl rfl ?_|refine gTup rfl ?_))
    rw [number_no (by simp)]
    exact ⟨rfl, .refl _ _⟩
  · obtain rfl : q = false := by rw [hq]; simp [h0]
    have h1 : 1 ≤ l.length := by cases l with
      | nil => exact absurd rfl h0
      | cons a b => simp
    (repeat(first|refine sb ?_|refine gOn rfl ?_|refine gOff rfl rfl ?_|refine gTup rfl ?_))
    intro n hn
    (repeat(first|refine sb ?_|refine gOn rfl ?_|refine gOff rfl rfl ?_|refine gTup rfl ?_))
    intro z1 hz1
    (repeat(first|refine sb ?_|refine gOn rfl ?_|refine gOff rfl rfl ?_|refine gTup rfl ?_))
    intro z2 hz2
    (repeat(first|refine sb ?_|refine gOn rfl ?_|refine gOff rfl rfl ?_|refine gTup rfl ?_))
    intro q hq
    by_cases h2 : l.length ≤ clamp d
    · obtain rfl : q = false := by rw [hq]; simp; omega
      (repeat(first|refine sb ?_|refine gOn rfl ?_|refine gOff rfl rfl ?_|refine gTup rfl ?_))
      refine srange_W rfl un_S rfl ?_
      (repeat(first|refine sb ?_|refine gOn rfl ?_|refine gOff rfl rfl ?_|refine gTup rfl ?_))
      refine pLoop (MW.head good (fun x : It => l.length - x.p) (fun x => At s s.next l x ∧ (l.take x.p).all digB = true) (fun x => [(6, .int .i64 (numL (l.take x.p))), (20, .pointer (some ⟨s.next, 0, none⟩))]) (fun x => x.s) ⟨0, _⟩ ⟨.start s l, rfl⟩ (Wk.same ⟨rfl, rfl, trivial⟩) ?_)
      intro ⟨p, s1⟩ ⟨h4, h5⟩
      dsimp only at h4 h5 ⊢
      have hlt2 := num_lt h5 (by simp; omega)
      (repeat(first|refine sb ?_|refine gOn rfl ?_|refine gOff rfl rfl ?_|refine gTup rfl ?_))
      refine snext_L rfl rfl (show lookH s1.heap _ = some (.siter ⟨⟨l⟩⟩ p) from h4.2.2.2) (fun he => ?_) (fun c hc h7 => ?_) (fun c r w hc h7 hr hr2 _ hw _ => ?_)
      · (repeat(first|refine sb ?_|refine gOn rfl ?_|refine gOff rfl rfl ?_|refine gTup rfl ?_))
        rw [List.take_of_length_le he] at h5 ⊢
        rw [number_ok h1 h2 h5]
        exact ⟨rfl, h4.1⟩
      · have hlt : p < l.length := lt_of_get hc
        (repeat(first|refine sb ?_|refine gOn rfl ?_|refine gOff rfl rfl ?_|refine gTup rfl ?_))
        intro q hq
        by_cases h48 : 48 ≤ c.toNat
        · obtain rfl : q = false := by rw [hq]; simp; omega
          (repeat(first|refine sb ?_|refine gOn rfl ?_|refine gOff rfl rfl ?_|refine gTup rfl ?_))
          intro q hq
          by_cases h57 : c.toNat ≤ 57
          · obtain rfl : q = false := by rw [hq]; simp; omega
            (repeat(first|refine sb ?_|refine gOn rfl ?_|refine gOff rfl rfl ?_|refine gTup rfl ?_))
            intro z3 hz3
            rw [i64_id (by omega)] at hz3
            (repeat(first|refine sb ?_|refine gOn rfl ?_|refine gOff rfl rfl ?_|refine gTup rfl ?_))
            intro z4 hz4
            rw [wrap_i32] at hz4
            (repeat(first|refine sb ?_|refine gOn rfl ?_|refine gOff rfl rfl ?_|refine gTup rfl ?_))
            intro z5 hz5
            rw [i64_id (by omega)] at hz5
            (repeat(first|refine sb ?_|refine gOn rfl ?_|refine gOff rfl rfl ?_|refine gTup rfl ?_))
            intro z6 hz6
            rw [i64_id (by omega)] at hz6
            (repeat(first|refine sb ?_|refine gOn rfl ?_|refine gOff rfl rfl ?_|refine gTup rfl ?_))
            refine ⟨⟨p + 1, _⟩, ⟨h4.go _, all_next hc h5 (by simp [digB, h48, h57])⟩, by show l.length - (p + 1) < l.length - p; omega, Wk.same ⟨?_, rfl, trivial⟩⟩
            show some (Value.int .i64 z6) = some (.int .i64 (numL (l.take (p + 1))))
            rw [num_next hc]
            congr 2
            omega
          · obtain rfl : q = true := by rw [hq]; simp; omega
            (repeat(first|refine sb ?_|refine gOn rfl ?_|refine gOff rfl rfl ?_|refine gTup rfl ?_))
            rw [number_no (fun q => by have := all_no (f := digB) hc (by simp [digB]; omega); rw [q.2.2] at this; cases this)]
            exact ⟨rfl, (h4.go _).1⟩
        · obtain rfl : q = true := by rw [hq]; simp; omega
          (repeat(first|refine sb ?_|refine gOn rfl ?_|refine gOff rfl rfl ?_|refine gTup rfl ?_))
          rw [number_no (fun q => by have := all_no (f := digB) hc (by simp [digB]; omega); rw [q.2.2] at this; cases this)]
          exact ⟨rfl, (h4.go _).1⟩
      · (repeat(first|refine sb ?_|refine gOn rfl ?_|refine gOff rfl rfl ?_|refine gTup rfl ?_))
        intro q hq
        obtain rfl : q = false := by rw [hq]; simp; omega
        (repeat(first|refine sb ?_|refine gOn rfl ?_|refine gOff rfl rfl ?_|refine gTup rfl ?_))
        intro q hq
        obtain rfl : q = true := by rw [hq]; simp; omega
        (repeat(first|refine sb ?_|refine gOn rfl ?_|refine gOff rfl rfl ?_|refine gTup rfl ?_))
        rw [number_no (fun q => by have := all_no (f := digB) hc (by simp [digB]; omega); rw [q.2.2] at this; cases this)]
        exact ⟨rfl, (h4.go _).1⟩
    · obtain rfl : q = true := by rw [hq]; simp; omega
      (repeat(first|refine sb ?_|refine gOn rfl ?_|refine gOff rfl rfl ?_|refine gTup rfl ?_))
      rw [number_no (fun q => h2 q.2.1)]
      exact ⟨rfl, .refl _ _⟩

end Go.Vf.S
end
section
/- Domains: letters, labels, numbers. -/
namespace Go.Vf.S
open Go Go.Vf
attribute [local irreducible] wSeq wRow wp wG
set_option linter.unusedVariables false
set_option linter.unusedSimpArgs false
set_option maxRecDepth 10000

def alnN (n : Nat) : Bool := decide (97 ≤ n ∧ n ≤ 122 ∨ 65 ≤ n ∧ n ≤ 90 ∨ 48 ≤ n ∧ n ≤ 57)
def labN (n : Nat) : Bool := alnN n || n == 45
def labB (c : UInt8) : Bool := labN c.toNat

theorem labelLetter_w {s : SS} {r : Nat} (hr : r ≤ 1114111) : CallW pr n_addr_labelLetter [.int .i32 r] s fun v s' => v = .bool (labN r) ∧ s' = s := by
  refine CallW.run good ok_addr_labelLetter (by simp) rfl ?_
  (repeat' (first | refine pSeq ?_ | refine pReg ?_ | refine sRaw ?_ | refine sCons ?_ | refine sNil ?_ | refine rCons ?_ | refine rNil ?_ | refine kNo ?_ | refine pRow ?_ | refine pBlock ?_ | refine pSkip ?_ | refine pExit ?_ | refine pRet ?_ | refine pCond ?_ | refine gNone ?_ | refine gOn rfl ?_ | refine gOff rfl rfl ?_ | refine gTup rfl ?_ | (intro q hq; cases q <;> simp only [true_eq_decide_iff, false_eq_decide_iff, Bool.not_true, Bool.not_false, Bool.true_eq, Bool.false_eq, decide_eq_true_eq, decide_eq_false_iff_not, reduceCtorEq] at hq)))
  all_goals (refine ⟨bool_eq ?_, rfl⟩; unfold labN alnN; rw [Bool.eq_iff_iff]; simp only [Bool.or_eq_true, decide_eq_true_eq, beq_iff_eq, true_iff, false_iff, reduceCtorEq]; omega)

end Go.Vf.S
end
section
/- Labels, a literal's numbers; what a domain is made of. -/
namespace Go.Vf.S
open Go Go.Vf
attribute [local irreducible] wSeq wRow wp wG
set_option linter.unusedVariables false
set_option linter.unusedSimpArgs false
set_option maxRecDepth 10000

def endsF (l : List UInt8) : Bool := !l.isEmpty && (decide (l.head? ≠ some 45) && decide (l.getLast? ≠ some 45))
/-- A label, whatever its length. -/
def labelF (l : List UInt8) : Bool := l.all labB && endsF l
/-- A literal's number. -/
def octF (l : List UInt8) : Bool := decide ((numberF l 3).2 = 0 ∧ (numberF l 3).1 ≤ 255 ∧ (l = [48] ∨ l.head? ≠ some 48))

theorem lab_hi {r : Nat} (h : 128 ≤ r) : labN r = false := by
  unfold labN alnN
  simp only [Bool.or_eq_false_iff, decide_eq_false_iff_not, beq_eq_false_iff_ne]
  omega
theorem _root_.Go.Vf.Chg.same {a b c : SS} {A : List Nat} (h : Chg a b A) (k : Chg b c A) : Chg a c A := h.trans' k (fun _ q _ => q) fun _ q _ => q
theorem byte_ne {c d : UInt8} (h : c ≠ d) : c.toNat ≠ d.toNat := fun e => h (UInt8.toNat_inj.1 e)

theorem mayLabel_w {s : SS} {l : List UInt8} (hl : l.length ≤ 1000000) : CallW pr n_addr_mayLabel [str l] s fun v s' => v = .bool (labelF l) ∧ Chg s s' [] := by
  refine CallW.run good ok_addr_mayLabel (by simp) rfl ?_
  (try refine pSeq ?_); (repeat(first|refine sb ?_|refine gOn rfl ?_|refine gOff rfl rfl ?_|refine gTup rfl ?_))
  refine srange_W rfl un_S rfl ?_
  (repeat(first|refine sb ?_|refine gOn rfl ?_|refine gOff rfl rfl ?_|refine gTup rfl ?_))
  refine pLoop (MW.head good (fun x : It => l.length - x.p) (fun x => At s s.next l x ∧ (l.take x.p).all labB = true) (fun x => [(0, str l), (6, .pointer (some ⟨s.next, 0, none⟩))]) (fun x => x.s) ⟨0, _⟩ ⟨.start s l, rfl⟩ (Wk.same ⟨rfl, rfl, trivial⟩) ?_)
  intro ⟨p, s1⟩ ⟨h1, h2⟩
  dsimp only at h1 h2 ⊢
  (repeat(first|refine sb ?_|refine gOn rfl ?_|refine gOff rfl rfl ?_|refine gTup rfl ?_))
  refine snext_L rfl rfl h1.2.2.2 (fun he => ?_) (fun c hc h7 => ?_) (fun c r w hc h7 hr hr2 _ hw _ => ?_)
  · rw [List.take_of_length_le he] at h2
    (repeat(first|refine sb ?_|refine gOn rfl ?_|refine gOff rfl rfl ?_|refine gTup rfl ?_))
    intro q hq
    have e : labelF l = endsF l := by unfold labelF; rw [h2]; rfl
    rw [e]
    rcases hcl : l with _ | ⟨c, r⟩
    · subst hcl
      obtain rfl : q = false := by rw [hq]; rfl
      (repeat(first|refine sb ?_|refine gOn rfl ?_|refine gOff rfl rfl ?_|refine gTup rfl ?_))
      exact ⟨rfl, h1.1⟩
    · have hn : l.length = r.length + 1 := by rw [hcl]; rfl
      obtain rfl : q = true := by rw [hq, hcl]; simp
      (repeat(first|refine sb ?_|refine gOn rfl ?_|refine gOff rfl rfl ?_|refine gTup rfl ?_))
      refine ⟨by simp, ?_⟩
      intro m hm
      obtain rfl : m = 0 := by omega
      refine ⟨c, rfl, ?_⟩
      (repeat(first|refine sb ?_|refine gOn rfl ?_|refine gOff rfl rfl ?_|refine gTup rfl ?_))
      intro q hq
      by_cases h45 : c = 45
      · obtain rfl : q = false := by rw [hq, h45]; rfl
        (repeat(first|refine sb ?_|refine gOn rfl ?_|refine gOff rfl rfl ?_|refine gTup rfl ?_))
        exact ⟨bool_eq (by simp [endsF, h45]), h1.1⟩
      · have : c.toNat ≠ 45 := byte_ne h45
        obtain rfl : q = true := by rw [hq]; simp; omega
        (repeat(first|refine sb ?_|refine gOn rfl ?_|refine gOff rfl rfl ?_|refine gTup rfl ?_))
        intro n hn1
        (repeat(first|refine sb ?_|refine gOn rfl ?_|refine gOff rfl rfl ?_|refine gTup rfl ?_))
        intro z hz
        rw [i64_id (by simp at hn1; omega)] at hz
        (repeat(first|refine sb ?_|refine gOn rfl ?_|refine gOff rfl rfl ?_|refine gTup rfl ?_))
        refine ⟨by simp at hn1 ⊢; omega, ?_⟩
        intro m hm
        obtain rfl : m = r.length := by simp at hn1; omega
        obtain ⟨d, hd⟩ : ∃ d, (c :: r)[r.length]? = some d := ⟨_, List.getElem?_eq_getElem (by simp)⟩
        have hlast : (c :: r).getLast? = some d := by rw [List.getLast?_eq_getElem?, ← hd]; simp
        refine ⟨d, hd, ?_⟩
        (repeat(first|refine sb ?_|refine gOn rfl ?_|refine gOff rfl rfl ?_|refine gTup rfl ?_))
        intro q hq
        (repeat(first|refine sb ?_|refine gOn rfl ?_|refine gOff rfl rfl ?_|refine gTup rfl ?_))
        refine ⟨bool_eq ?_, h1.1⟩
        rw [hq]
        unfold endsF
        rw [hlast]
        by_cases hd45 : d = 45
        · simp [hd45]
        · have : d.toNat ≠ 45 := byte_ne hd45
          simp [hd45, h45]
          omega
  · (repeat(first|refine sb ?_|refine gOn rfl ?_|refine gOff rfl rfl ?_|refine gTup rfl ?_))
    refine (labelLetter_w (by omega)).mono fun v s2 q => ?_
    obtain ⟨rfl, rfl⟩ := q
    (repeat(first|refine sb ?_|refine gOn rfl ?_|refine gOff rfl rfl ?_|refine gTup rfl ?_))
    intro q hq
    rw [show labN c.toNat = labB c from rfl] at hq
    by_cases hp : labB c = true
    · obtain rfl : q = false := by rw [hq, hp]; rfl
      (repeat(first|refine sb ?_|refine gOn rfl ?_|refine gOff rfl rfl ?_|refine gTup rfl ?_))
      exact ⟨⟨p + 1, _⟩, ⟨h1.go _, by rw [take_next hc]; simp [h2, hp]⟩, by have : p < l.length := lt_of_get hc; show l.length - (p + 1) < l.length - p; omega, Wk.same ⟨rfl, rfl, trivial⟩⟩
    · obtain rfl : q = true := by rw [hq, Bool.eq_false_iff.2 hp]; rfl
      (repeat(first|refine sb ?_|refine gOn rfl ?_|refine gOff rfl rfl ?_|refine gTup rfl ?_))
      exact ⟨bool_eq (by unfold labelF; rw [all_no hc (Bool.eq_false_iff.2 hp)]; rfl), (h1.go _).1⟩
  · (repeat(first|refine sb ?_|refine gOn rfl ?_|refine gOff rfl rfl ?_|refine gTup rfl ?_))
    refine (labelLetter_w (by omega)).mono fun v s2 q => ?_
    obtain ⟨rfl, rfl⟩ := q
    (repeat(first|refine sb ?_|refine gOn rfl ?_|refine gOff rfl rfl ?_|refine gTup rfl ?_))
    intro q hq
    obtain rfl : q = true := by rw [hq, lab_hi hr]; rfl
    (repeat(first|refine sb ?_|refine gOn rfl ?_|refine gOff rfl rfl ?_|refine gTup rfl ?_))
    exact ⟨bool_eq (by unfold labelF; rw [all_no hc (show labB c = false from lab_hi h7)]; rfl), (h1.go _).1⟩

theorem head_at {l : List UInt8} {c : UInt8} (h : l[0]? = some c) : l.head? = some c := by rw [List.head?_eq_getElem?]; exact h

theorem mayNumber_w {s : SS} {l : List UInt8} (hl : l.length ≤ 1000000) : CallW pr n_addr_mayNumber [str l] s fun v s' => v = .bool (octF l) ∧ Chg s s' [] := by
  refine CallW.run good ok_addr_mayNumber (by simp) rfl ?_
  (try refine pSeq ?_); (repeat(first|refine sb ?_|refine gOn rfl ?_|refine gOff rfl rfl ?_|refine gTup rfl ?_))
  refine (number_w (d := 3) hl).mono fun v s1 q => ?_
  obtain ⟨rfl, c1⟩ := q
  have h0 : (numberF l 3).2 = 0 → l ≠ [] := fun h e => by subst e; simp [numberF] at h
  generalize hN : numberF l 3 = N at *
  obtain ⟨a, b⟩ := N
  have hF : octF l = decide (b = 0 ∧ a ≤ 255 ∧ (l = [48] ∨ l.head? ≠ some 48)) := by unfold octF; rw [hN]
  rw [hF]
  dsimp only [nRes] at *
  (repeat(first|refine sb ?_|refine gOn rfl ?_|refine gOff rfl rfl ?_|refine gTup rfl ?_))
  intro q hq
  by_cases hb : b = 0
  · subst hb
    obtain rfl : q = true := by rw [hq]; rfl
    (repeat(first|refine sb ?_|refine gOn rfl ?_|refine gOff rfl rfl ?_|refine gTup rfl ?_))
    intro q hq
    by_cases ha : a ≤ 255
    · obtain rfl : q = true := by rw [hq]; simp <;> omega
      (repeat(first|refine sb ?_|refine gOn rfl ?_|refine gOff rfl rfl ?_|refine gTup rfl ?_))
      intro q hq
      by_cases he : l = [48]
      · obtain rfl : q = true := by rw [hq]; simp [he]
        (repeat(first|refine sb ?_|refine gOn rfl ?_|refine gOff rfl rfl ?_|refine gTup rfl ?_))
        exact ⟨bool_eq (by simp [ha, he]), c1⟩
      · obtain rfl : q = false := by rw [hq]; simp [he]
        (repeat(first|refine sb ?_|refine gOn rfl ?_|refine gOff rfl rfl ?_|refine gTup rfl ?_))
        have hne := h0 rfl
        have hpos : 0 < l.length := List.length_pos_iff.2 hne
        obtain ⟨c, hc⟩ : ∃ c, l[0]? = some c := ⟨_, List.getElem?_eq_getElem hpos⟩
        refine ⟨by omega, ?_⟩
        intro m hm
        obtain rfl : m = 0 := by omega
        refine ⟨c, hc, ?_⟩
        (repeat(first|refine sb ?_|refine gOn rfl ?_|refine gOff rfl rfl ?_|refine gTup rfl ?_))
        intro q hq
        (repeat(first|refine sb ?_|refine gOn rfl ?_|refine gOff rfl rfl ?_|refine gTup rfl ?_))
        refine ⟨bool_eq ?_, c1⟩
        rw [hq, head_at hc]
        by_cases hc48 : c = 48
        · simp [hc48, he]
        · have : c.toNat ≠ 48 := byte_ne hc48
          simp [ha, hc48]
          omega
    · obtain rfl : q = false := by rw [hq]; simp <;> omega
      (repeat(first|refine sb ?_|refine gOn rfl ?_|refine gOff rfl rfl ?_|refine gTup rfl ?_))
      exact ⟨bool_eq (by simp [ha]), c1⟩
  · obtain rfl : q = false := by rw [hq]; simp; omega
    (repeat(first|refine sb ?_|refine gOn rfl ?_|refine gOff rfl rfl ?_|refine gTup rfl ?_))
    exact ⟨bool_eq (by simp [hb]), c1⟩

theorem madeOf_w {s : SS} {l : List UInt8} {f : FuncId} {c : Value} {b : Nat} {g : List UInt8 → Bool} (J : Nat → SS → Prop) (hl : l.length ≤ 1000000)
    (hf : ∀ x, callV pr (.func (.func f) ⟨[]⟩ ⟨[c]⟩) [x] = some (.enter f [x, c])) (hb : b < s.next) (h0 : J 0 s) (hJ : ∀ k s1 s2, J k s1 → Chg s1 s2 [] → b < s1.next → J k s2)
    (hc : ∀ k x s1, (splitF 46 l)[k]? = some x → J k s1 → b < s1.next → CallW pr f [str x, c] s1 fun v s2 => v = .bool (g x) ∧ J (k + 1) s2 ∧ Chg s1 s2 [b]) :
    CallW pr n_addr_madeOf [str l, .func (.func f) ⟨[]⟩ ⟨[c]⟩] s fun v s' => v = .bool ((splitF 46 l).all g) ∧ Chg s s' [b] ∧ ((splitF 46 l).all g = true → J (splitF 46 l).length s') := by
  refine CallW.run good ok_addr_madeOf (by simp) rfl ?_
  (try refine pSeq ?_); (repeat refine sb ?_)
  refine (Split_w (c := 46) hl).mono fun v s1 q => ?_
  obtain ⟨base, cap, rfl, h1, c1, hB⟩ := q
  have hlen : (splitF 46 l).length ≤ 1000001 := by
    rw [split_len]
    have := List.count_le_length (a := (46 : UInt8)) (l := l)
    omega
  have hJ1 := hJ 0 _ _ h0 c1 hb
  generalize hls : splitF 46 l = ls at *
  obtain ⟨b1, rfl, cs, t, g1, r, h2, h3⟩ := h1.at
  have hb1 : s.next ≤ b1 := hB.1 b1 (by simp [blkOf])
  have hb2 : b1 < s1.next := by obtain ⟨_, _, _, _, _, e, q, _⟩ := h1; cases e; exact q
  (repeat refine sb ?_)
  refine pLoop (MW.head good (fun x : SIt => ls.length - x.i) (fun x => x.i ≤ ls.length ∧ Chg s1 x.s [b] ∧ J x.i x.s ∧ (ls.take x.i).all g = true) (fun x => [(1, .func (.func f) ⟨[]⟩ ⟨[c]⟩), (8, .slice (some ⟨b1, 0, none⟩) ls.length cap), (9, .int .i64 ls.length), (10, .int .i64 x.i)]) (fun x => x.s) ⟨0, s1⟩ ⟨Nat.zero_le _, .refl _ _, hJ1, rfl⟩ (Wk.same ⟨rfl, rfl, rfl, rfl, trivial⟩) ?_)
  intro ⟨i, s2⟩ ⟨hi, c12, h4, h5⟩
  dsimp only at hi c12 h4 h5 ⊢
  have hs2 := c12.next
  have hs1 := c1.next
  have cc : Chg s s2 [b] := c1.nil c12
  (repeat refine sb ?_)
  intro q hq
  by_cases hlt : i < ls.length
  · obtain rfl : q = true := by rw [hq]; simp <;> omega
    obtain ⟨x, hx⟩ : ∃ x, ls[i]? = some x := ⟨_, List.getElem?_eq_getElem hlt⟩
    (repeat refine sb ?_)
    refine ⟨by omega, ?_⟩
    intro m hm o ho
    obtain rfl : m = i := by omega
    (repeat refine sb ?_)
    have hk := c12.blk b1 _ hb2 (by simp; omega) h2
    refine ldS_is rfl hk (by rw [ho, Nat.zero_add, Nat.mul_one]; exact h3 m x hx) ?_
    (repeat refine sb ?_)
    refine ⟨.call f [str x, c], ?_, ?_⟩
    · exact hf (str x)
    refine (hc m x s2 hx h4 (by omega)).mono fun v s3 q => ?_
    obtain ⟨rfl, j3, c3⟩ := q
    (repeat refine sb ?_)
    intro q hq
    by_cases ha : g x = true
    · obtain rfl : q = false := by rw [hq, ha]; rfl
      (repeat refine sb ?_)
      intro z hz
      rw [i64_id (by omega)] at hz
      obtain rfl : z = ((m + 1 : Nat) : Int) := by omega
      (repeat refine sb ?_)
      exact ⟨⟨m + 1, s3⟩, ⟨hlt, c12.same c3, j3, by rw [take_next hx]; simp [h5, ha]⟩, by show ls.length - (m + 1) < ls.length - m; omega, Wk.same ⟨rfl, rfl, rfl, rfl, trivial⟩⟩
    · obtain rfl : q = true := by rw [hq]; simp [ha]
      (repeat refine sb ?_)
      have hno : ls.all g = false := by rw [List.all_eq_false]; exact ⟨x, List.mem_of_getElem? hx, by simp [ha]⟩
      rw [hno]
      exact ⟨rfl, cc.same c3, fun q => by cases q⟩
  · obtain rfl : q = false := by rw [hq]; simp <;> omega
    (repeat refine sb ?_)
    obtain rfl : i = ls.length := by omega
    rw [List.take_of_length_le (Nat.le_refl _)] at h5
    rw [h5]
    exact ⟨rfl, cc, fun _ => h4⟩
end Go.Vf.S
end
section
/- Texts cut at their ends; what is wrong with a domain. -/
namespace Go.Vf.S
open Go Go.Vf
attribute [local irreducible] wSeq wRow wp wG
set_option linter.unusedVariables false
set_option linter.unusedSimpArgs false
set_option maxRecDepth 10000

theorem callV_of {f : FuncId} {m : MF} (h : compF pr f = some m) (c x : Value) : callV pr (.func (.func f) ⟨[]⟩ ⟨[c]⟩) [x] = some (.enter f [x, c]) := by
  unfold compF at h
  split at h
  · cases h
  · rename_i fn hfn
    split at h
    · cases h
    · rename_i b hb
      have e : pr.funcs[f]? = some fn := hfn
      simp only [callV, e, hb, Option.isSome_some, cond_true]
      rfl

/-- What stands within a literal's signs. -/
def inner (l : List UInt8) : List UInt8 := (l.drop 1).take (l.length - 2)
def litF (l : List UInt8) : Bool := decide (l.take 1 = [91] ∧ [93] <:+ l.drop 1) && ((splitF 46 (inner l)).all octF && (splitF 46 (inner l)).length == 4)
def longF (l : List UInt8) : Bool := decide (255 < l.length) || (splitF 46 l).any fun p => decide (63 < p.length)
/-- What is wrong with a domain. -/
def domF (l : List UInt8) : Nat := if litF l = true then 0 else if (splitF 46 l).all labelF = true then (if longF l = true then 3 else 0) else 5

theorem part_len {l p : List UInt8} (h : p ∈ splitF 46 l) : p.length ≤ l.length := by
  have key : ∀ l : List UInt8, (sp 46 l).1.length ≤ l.length ∧ ∀ p ∈ (sp 46 l).2, p.length ≤ l.length := by
    intro l
    induction l with
    | nil => simp [sp]
    | cons x l ih =>
      rw [sp]
      split
      · refine ⟨by simp, fun p hp => ?_⟩
        rcases List.mem_cons.1 hp with rfl | hp
        · have := ih.1; simp; omega
        · have := ih.2 p hp; simp; omega
      · refine ⟨by have := ih.1; simp; omega, fun p hp => ?_⟩
        have := ih.2 p hp; simp; omega
  rcases List.mem_cons.1 h with rfl | h
  · exact (key l).1
  · exact (key l).2 p h

theorem literal_w {s : SS} {l : List UInt8} (hl : l.length ≤ 1000000) : CallW pr n_addr_literal [str l] s fun v s' => v = .bool (litF l) ∧ Chg s s' [] := by
  refine CallW.run good ok_addr_literal (by simp) rfl ?_
  (try refine pSeq ?_); (repeat(first|refine sb ?_|refine gOn rfl ?_|refine gOff rfl rfl ?_|refine gTup rfl ?_))
  refine cutP_w.mono fun v s q => ?_
  obtain ⟨rfl, rfl⟩ := q
  (repeat(first|refine sb ?_|refine gOn rfl ?_|refine gOff rfl rfl ?_|refine gTup rfl ?_))
  refine (cutS_w (by split <;> (try rw [List.length_drop]) <;> omega)).mono fun v s q => ?_
  obtain ⟨rfl, rfl⟩ := q
  by_cases h1 : l.take 1 = [91]
  · have e1 : l.take [(91 : UInt8)].length = [91] := h1
    rw [if_pos e1, decide_eq_true e1]
    by_cases h2 : [93] <:+ l.drop 1
    · have e2 : [(93 : UInt8)] <:+ l.drop [(91 : UInt8)].length := h2
      rw [if_pos e2, decide_eq_true e2]
      have e3 : ((l.drop [(91 : UInt8)].length).take ((l.drop [(91 : UInt8)].length).length - [(93 : UInt8)].length)) = inner l := by
        unfold inner
        simp
        congr 1
        omega
      rw [e3]
      have hil : (inner l).length ≤ 1000000 := by unfold inner; simp; omega
      have eL : litF l = ((splitF 46 (inner l)).all octF && (splitF 46 (inner l)).length == 4) := by
        unfold litF
        rw [decide_eq_true ⟨h1, h2⟩, Bool.true_and]
      rw [eL]
      generalize inner l = m at *
      (repeat(first|refine sb ?_|refine gOn rfl ?_|refine gOff rfl rfl ?_|refine gTup rfl ?_))
      intro q hq; obtain rfl : q = false := (by rw [hq]; simp <;> omega); (repeat(first|refine sb ?_|refine gOn rfl ?_|refine gOff rfl rfl ?_|refine gTup rfl ?_))
      intro q hq; obtain rfl : q = false := (by rw [hq]; simp <;> omega); (repeat(first|refine sb ?_|refine gOn rfl ?_|refine gOff rfl rfl ?_|refine gTup rfl ?_))
      refine st_abs (cs' := [.int .i64 0]) rfl rfl lkH (Nat.lt_succ_self _) rfl rfl fun s2 e2 c2 n2 => ?_
      (repeat(first|refine sb ?_|refine gOn rfl ?_|refine gOff rfl rfl ?_|refine gTup rfl ?_))
      refine ⟨.val (.func (.func n_addr_literal_1) ⟨[]⟩ ⟨[.pointer (some ⟨s.next, 0, none⟩)]⟩), rfl, ?_⟩
      (repeat(first|refine sb ?_|refine gOn rfl ?_|refine gOff rfl rfl ?_|refine gTup rfl ?_))
      have hb : s.next < s2.next := by rw [n2]; exact Nat.lt_succ_self _
      refine (madeOf_w (b := s.next) (g := octF) (fun k x => lookH x.heap s.next = some (.cells [.int .i64 k] 3 false false)) hil (callV_of ok_addr_literal_1 _) hb e2 (fun k s3 s4 h c hb => c.blk _ _ hb (by simp) h) (fun k x s3 hx hJ hb3 => ?_)).mono fun v s3 q => ?_
      · have hk : k ≤ 1000001 := by
          have := lt_of_get hx
          rw [split_len] at this
          have := List.count_le_length (a := (46 : UInt8)) (l := m)
          omega
        have hxl := part_len (List.mem_of_getElem? hx)
        refine CallW.run good ok_addr_literal_1 (by simp) rfl ?_
        (try refine pSeq ?_); (repeat(first|refine sb ?_|refine gOn rfl ?_|refine gOff rfl rfl ?_|refine gTup rfl ?_))
        refine ldI_is rfl hJ rfl ?_
        (repeat(first|refine sb ?_|refine gOn rfl ?_|refine gOff rfl rfl ?_|refine gTup rfl ?_))
        intro z hz
        rw [i64_id (by omega)] at hz
        obtain rfl : z = ((k + 1 : Nat) : Int) := by omega
        (repeat(first|refine sb ?_|refine gOn rfl ?_|refine gOff rfl rfl ?_|refine gTup rfl ?_))
        refine st_abs (cs' := [.int .i64 (k + 1 : Nat)]) rfl rfl hJ hb3 rfl rfl fun s4 e4 c4 n4 => ?_
        (repeat(first|refine sb ?_|refine gOn rfl ?_|refine gOff rfl rfl ?_|refine gTup rfl ?_))
        refine (mayNumber_w (by omega)).mono fun v s5 q => ?_
        obtain ⟨rfl, c5⟩ := q
        (repeat(first|refine sb ?_|refine gOn rfl ?_|refine gOff rfl rfl ?_|refine gTup rfl ?_))
        exact ⟨rfl, c5.blk _ _ (by rw [n4]; exact hb3) (by simp) e4, c4.trans' c5 (fun _ q _ => q) (by simp)⟩
      · obtain ⟨rfl, c3, hJ⟩ := q
        have cc : Chg s s3 [] := ((Chg.new []).fresh c2 (by simp)).fresh c3 (by simp)
        (repeat(first|refine sb ?_|refine gOn rfl ?_|refine gOff rfl rfl ?_|refine gTup rfl ?_))
        cases ha : (splitF 46 m).all octF with
        | false =>
          (repeat(first|refine sb ?_|refine gOn rfl ?_|refine gOff rfl rfl ?_|refine gTup rfl ?_))
          exact ⟨rfl, cc⟩
        | true =>
          (repeat(first|refine sb ?_|refine gOn rfl ?_|refine gOff rfl rfl ?_|refine gTup rfl ?_))
          refine ldI_is rfl (hJ ha) rfl ?_
          (repeat(first|refine sb ?_|refine gOn rfl ?_|refine gOff rfl rfl ?_|refine gTup rfl ?_))
          intro q hq
          (repeat(first|refine sb ?_|refine gOn rfl ?_|refine gOff rfl rfl ?_|refine gTup rfl ?_))
          refine ⟨bool_eq ?_, cc⟩
          rw [hq, Bool.true_and, Bool.eq_iff_iff]
          simp
          omega
    · have e2 : ¬[(93 : UInt8)] <:+ l.drop [(91 : UInt8)].length := h2
      rw [if_neg e2, decide_eq_false e2]
      (repeat(first|refine sb ?_|refine gOn rfl ?_|refine gOff rfl rfl ?_|refine gTup rfl ?_))
      intro q hq; obtain rfl : q = false := (by rw [hq]; simp <;> omega); (repeat(first|refine sb ?_|refine gOn rfl ?_|refine gOff rfl rfl ?_|refine gTup rfl ?_))
      intro q hq; obtain rfl : q = true := (by rw [hq]; simp <;> omega); (repeat(first|refine sb ?_|refine gOn rfl ?_|refine gOff rfl rfl ?_|refine gTup rfl ?_))
      exact ⟨bool_eq (by unfold litF; rw [decide_eq_false (fun q => h2 q.2)]; rfl), .refl _ _⟩
  · have e1 : ¬l.take [(91 : UInt8)].length = [91] := h1
    rw [if_neg e1, decide_eq_false e1]
    (repeat(first|refine sb ?_|refine gOn rfl ?_|refine gOff rfl rfl ?_|refine gTup rfl ?_))
    intro q hq; obtain rfl : q = true := (by rw [hq]; simp <;> omega); (repeat(first|refine sb ?_|refine gOn rfl ?_|refine gOff rfl rfl ?_|refine gTup rfl ?_))
    exact ⟨bool_eq (by unfold litF; rw [decide_eq_false (fun q => h1 q.1)]; rfl), .refl _ _⟩

theorem domErr_w {s : SS} {l : List UInt8} (hl : l.length ≤ 1000000) : CallW pr n_addr_domainError [str l] s fun v s' => v = .int .i64 (domF l) ∧ Chg s s' [] := by
  refine CallW.run good ok_addr_domainError (by simp) rfl ?_
  (try refine pSeq ?_); (repeat(first|refine sb ?_|refine gOn rfl ?_|refine gOff rfl rfl ?_|refine gTup rfl ?_))
  refine (literal_w hl).mono fun v s1 q => ?_
  obtain ⟨rfl, c1⟩ := q
  cases hli : litF l with
  | true =>
    (repeat(first|refine sb ?_|refine gOn rfl ?_|refine gOff rfl rfl ?_|refine gTup rfl ?_))
    refine ⟨?_, c1⟩
    unfold domF
    rw [if_pos hli]
    rfl
  | false =>
    have eD : domF l = if (splitF 46 l).all labelF = true then (if longF l = true then 3 else 0) else 5 := by unfold domF; rw [if_neg (by simp [hli])]
    rw [eD]
    (repeat(first|refine sb ?_|refine gOn rfl ?_|refine gOff rfl rfl ?_|refine gTup rfl ?_))
    intro n hn
    (repeat(first|refine sb ?_|refine gOn rfl ?_|refine gOff rfl rfl ?_|refine gTup rfl ?_))
    intro q hq
    have eq : q = decide (255 < l.length) := by rw [hq, decide_eq_decide]; omega
    (repeat(first|refine sb ?_|refine gOn rfl ?_|refine gOff rfl rfl ?_|refine gTup rfl ?_))
    refine st_abs (cs' := [.bool q]) rfl rfl lkH (Nat.lt_succ_self _) rfl rfl fun s2 e2 c2 n2 => ?_
    (repeat(first|refine sb ?_|refine gOn rfl ?_|refine gOff rfl rfl ?_|refine gTup rfl ?_))
    refine ⟨.val (.func (.func n_addr_domainError_1) ⟨[]⟩ ⟨[.pointer (some ⟨s1.next, 0, none⟩)]⟩), rfl, ?_⟩
    (repeat(first|refine sb ?_|refine gOn rfl ?_|refine gOff rfl rfl ?_|refine gTup rfl ?_))
    have hb : s1.next < s2.next := by rw [n2]; exact Nat.lt_succ_self _
    refine (madeOf_w (b := s1.next) (g := labelF) (fun k x => lookH x.heap s1.next = some (.cells [.bool (decide (255 < l.length) || ((splitF 46 l).take k).any fun p => decide (63 < p.length))] 4 false false)) hl (callV_of ok_addr_domainError_1 _) hb (by rw [e2, eq]; simp) (fun k s3 s4 h c hb => c.blk _ _ hb (by simp) h) (fun k x s3 hx hJ hb3 => ?_)).mono fun v s3 q => ?_
    · have hxl := part_len (List.mem_of_getElem? hx)
      refine CallW.run good ok_addr_domainError_1 (by simp) rfl ?_
      (try refine pSeq ?_); (repeat(first|refine sb ?_|refine gOn rfl ?_|refine gOff rfl rfl ?_|refine gTup rfl ?_))
      refine ldB_is rfl hJ rfl ?_
      have fin : ∀ (r : Bool), r = ((decide (255 < l.length) || ((splitF 46 l).take k).any fun p => decide (63 < p.length)) || decide (63 < x.length)) → r = (decide (255 < l.length) || ((splitF 46 l).take (k + 1)).any fun p => decide (63 < p.length)) := fun r hr => by
        rw [hr, take_next hx, List.any_append, Bool.or_assoc]
        simp
      cases hcur : (decide (255 < l.length) || ((splitF 46 l).take k).any fun p => decide (63 < p.length)) with
      | true =>
        rw [hcur] at hJ fin
        (repeat(first|refine sb ?_|refine gOn rfl ?_|refine gOff rfl rfl ?_|refine gTup rfl ?_))
        refine st_abs (cs' := [.bool true]) rfl rfl hJ hb3 rfl rfl fun s4 e4 c4 n4 => ?_
        (repeat(first|refine sb ?_|refine gOn rfl ?_|refine gOff rfl rfl ?_|refine gTup rfl ?_))
        refine (mayLabel_w (by omega)).mono fun v s5 q => ?_
        obtain ⟨rfl, c5⟩ := q
        (repeat(first|refine sb ?_|refine gOn rfl ?_|refine gOff rfl rfl ?_|refine gTup rfl ?_))
        exact ⟨rfl, by rw [← fin true rfl]; exact c5.blk _ _ (by rw [n4]; exact hb3) (by simp) e4, c4.trans' c5 (fun _ q _ => q) (by simp)⟩
      | false =>
        rw [hcur] at hJ fin
        (repeat(first|refine sb ?_|refine gOn rfl ?_|refine gOff rfl rfl ?_|refine gTup rfl ?_))
        intro n hn
        (repeat(first|refine sb ?_|refine gOn rfl ?_|refine gOff rfl rfl ?_|refine gTup rfl ?_))
        intro q hq
        have hq' : q = decide (63 < x.length) := by rw [hq, decide_eq_decide]; omega
        (repeat(first|refine sb ?_|refine gOn rfl ?_|refine gOff rfl rfl ?_|refine gTup rfl ?_))
        refine st_abs (cs' := [.bool q]) rfl rfl hJ hb3 rfl rfl fun s4 e4 c4 n4 => ?_
        (repeat(first|refine sb ?_|refine gOn rfl ?_|refine gOff rfl rfl ?_|refine gTup rfl ?_))
        refine (mayLabel_w (by omega)).mono fun v s5 q => ?_
        obtain ⟨rfl, c5⟩ := q
        (repeat(first|refine sb ?_|refine gOn rfl ?_|refine gOff rfl rfl ?_|refine gTup rfl ?_))
        exact ⟨rfl, by rw [← fin q (by rw [hq', Bool.false_or])]; exact c5.blk _ _ (by rw [n4]; exact hb3) (by simp) e4, c4.trans' c5 (fun _ q _ => q) (by simp)⟩
    · obtain ⟨rfl, c3, hJ⟩ := q
      have cc : Chg s s3 [] := c1.nil (((Chg.new []).fresh c2 (by simp)).fresh c3 (by simp))
      cases ha : (splitF 46 l).all labelF with
      | false =>
        (repeat(first|refine sb ?_|refine gOn rfl ?_|refine gOff rfl rfl ?_|refine gTup rfl ?_))
        intro q hq; obtain rfl : q = true := (by rw [hq]; simp <;> omega); (repeat(first|refine sb ?_|refine gOn rfl ?_|refine gOff rfl rfl ?_|refine gTup rfl ?_))
        exact ⟨rfl, cc⟩
      | true =>
        (repeat(first|refine sb ?_|refine gOn rfl ?_|refine gOff rfl rfl ?_|refine gTup rfl ?_))
        intro q hq; obtain rfl : q = false := (by rw [hq]; simp <;> omega); (repeat(first|refine sb ?_|refine gOn rfl ?_|refine gOff rfl rfl ?_|refine gTup rfl ?_))
        have hJ1 := hJ ha
        rw [List.take_of_length_le (Nat.le_refl _)] at hJ1
        refine ldB_is rfl hJ1 rfl ?_
        rw [if_pos rfl]
        cases hlo : longF l with
        | true =>
          have e : (decide (255 < l.length) || (splitF 46 l).any fun p => decide (63 < p.length)) = true := hlo
          rw [e]
          (repeat(first|refine sb ?_|refine gOn rfl ?_|refine gOff rfl rfl ?_|refine gTup rfl ?_))
          exact ⟨rfl, cc⟩
        | false =>
          have e : (decide (255 < l.length) || (splitF 46 l).any fun p => decide (63 < p.length)) = false := hlo
          rw [e]
          (repeat(first|refine sb ?_|refine gOn rfl ?_|refine gOff rfl rfl ?_|refine gTup rfl ?_))
          exact ⟨rfl, cc⟩

theorem mayDomain_w {s : SS} {l : List UInt8} (hl : l.length ≤ 1000000) : CallW pr n_addr_MayDomain [str l] s fun v s' => v = .bool (decide (domF l = 0)) ∧ Chg s s' [] := by
  refine CallW.run good ok_addr_MayDomain (by simp) rfl ?_
  (try refine pSeq ?_); (repeat refine sb ?_)
  refine (domErr_w hl).mono fun v s1 q => ?_
  obtain ⟨rfl, c1⟩ := q
  (repeat refine sb ?_)
  intro q hq
  (repeat refine sb ?_)
  refine ⟨bool_eq ?_, c1⟩
  rw [hq, decide_eq_decide]
  omega
end Go.Vf.S
end
section
/- What is wrong with a domain: the document's. -/
namespace Go.Vf.S
open Go Go.Vf
attribute [local irreducible] wSeq wRow wp wG
set_option linter.unusedVariables false
set_option linter.unusedSimpArgs false
set_option maxRecDepth 10000

end Go.Vf.S
end
section
/- What is wrong with a domain: the document's way through it. -/
namespace Go.Vf.S
open Go Go.Vf
attribute [local irreducible] wSeq wRow wp wG
set_option linter.unusedVariables false
set_option linter.unusedSimpArgs false
set_option maxRecDepth 10000

structure DIt where
  i : Nat
  f : Nat
  done : List (List UInt8)
  long : Bool

end Go.Vf.S
end
section
/- What a quoted string at the front stands for. -/
namespace Go.Vf.S
open Go Go.Vf
attribute [local irreducible] wSeq wRow wp wG
set_option linter.unusedVariables false
set_option linter.unusedSimpArgs false
set_option maxRecDepth 10000

structure RIt where
  p : Nat
  s : SS
  base : Option Addr
  out : List UInt8
  e : Bool

end Go.Vf.S
end
section
/- A comment at the front. -/
namespace Go.Vf.S
open Go Go.Vf
attribute [local irreducible] wSeq wRow wp wG
set_option linter.unusedVariables false
set_option linter.unusedSimpArgs false
set_option maxRecDepth 10000

/-- Byte by byte: so deep, behind a backslash or not. -/
def cm : List UInt8 → Nat → Bool → Nat → Nat × Nat
  | [], _, _, _ => (0, 4)
  | c :: r, d, e, i =>
    if plainB c = false ∧ (e = true ∨ c.toNat ≠ 9) then (0, 5)
    else if e = true then cm r d false (i + 1)
    else if c.toNat = 92 then cm r d true (i + 1)
    else if c.toNat = 40 ∧ d = 8 then (0, 3)
    else if c.toNat = 40 then cm r (d + 1) false (i + 1)
    else if c.toNat = 41 ∧ d = 1 then (i + 1, 0)
    else if c.toNat = 41 then cm r (d - 1) false (i + 1)
    else cm r d false (i + 1)
def commentF (l : List UInt8) : Nat × Nat := if l.take 1 = [40] then cm l 0 false 0 else (0, 5)
structure CIt where
  p : Nat
  s : SS
  d : Nat
  e : Bool

end Go.Vf.S
end
section
/- The document's comment at the front. -/
namespace Go.Vf.S
open Go Go.Vf
attribute [local irreducible] wSeq wRow wp wG
set_option linter.unusedVariables false
set_option linter.unusedSimpArgs false
set_option maxRecDepth 10000

end Go.Vf.S
end
section
/- White space and comments at the front. -/
namespace Go.Vf.S
open Go Go.Vf
attribute [local irreducible] wSeq wRow wp wG
set_option linter.unusedVariables false
set_option linter.unusedSimpArgs false
set_option maxRecDepth 10000

def bl : Nat → List UInt8 → Nat → Nat × Nat
  | 0, _, a => (a, 0)
  | f + 1, l, a =>
    if (l.dropWhile wh).take 1 = [40] then
      (if (commentF (l.dropWhile wh)).2 = 0 then bl f ((l.dropWhile wh).drop (commentF (l.dropWhile wh)).1) (a + (l.length - (l.dropWhile wh).length) + (commentF (l.dropWhile wh)).1) else (0, (commentF (l.dropWhile wh)).2))
    else (a + (l.length - (l.dropWhile wh).length), 0)
structure BIt where
  f : Nat
  m : Nat
  s : SS

end Go.Vf.S
end
section
/- The chapter's rows. -/
namespace Go.Vf.S
open Go Go.Vf
attribute [local irreducible] wSeq wRow wp wG
set_option linter.unusedVariables false
set_option linter.unusedSimpArgs false
set_option maxRecDepth 10000

end Go.Vf.S
end
section
/- There and back. -/
namespace Go.Vf.S
open Go Go.Vf
attribute [local irreducible] wSeq wRow wp wG
set_option linter.unusedVariables false
set_option linter.unusedSimpArgs false
set_option maxRecDepth 10000

def eL (l : List UInt8) : Nat := (l.flatMap escB).length
end Go.Vf.S
end
section
/- Atoms. -/
namespace Go.Vf.S
open Go Go.Vf
attribute [local irreducible] wSeq wRow wp wG
set_option linter.unusedVariables false
set_option linter.unusedSimpArgs false
set_option maxRecDepth 10000

theorem ixaG {P : Program} {T : TL} {s : SS} {K : RR → Prop} {len z g : Nat} {i : Operand} {k : IntKind} {iv : Int} (hg : g < s.gl) (hi : opd T s.gl i = some (.int k iv)) (h : wIdx (.int k iv) len fun m => ∀ o, o = 0 + m * z → K (.val (.pointer (some ⟨g, o, none⟩)))) : wN P (.ixaA len z (.global g) i) T s K := by
  have e : opd T s.gl (.global g) = some (.pointer (some ⟨g, 0, none⟩)) := by
    have hb : Nat.blt g s.gl = true := by rw [Nat.blt_eq]; exact hg
    simp only [opd, hb, cond_true]
  simp only [wN, e, hi]
  exact h

end Go.Vf.S
end
section
/- Dot-atoms; white space at both ends. -/
namespace Go.Vf.S
open Go Go.Vf
attribute [local irreducible] wSeq wRow wp wG
set_option linter.unusedVariables false
set_option linter.unusedSimpArgs false
set_option maxRecDepth 10000

end Go.Vf.S
end
section
/- An address that is read: the code's. -/
namespace Go.Vf.S
open Go Go.Vf
attribute [local irreducible] wSeq wRow wp wG
set_option linter.unusedVariables false
set_option linter.unusedSimpArgs false
set_option maxRecDepth 10000

abbrev tAd : TypeId := 23
/-- An address. -/
abbrev adV (a d : List UInt8) : Value := .agg ⟨[str a, str d]⟩
theorem agg_Ad : aggB pr tAd = some true := by kernel_rfl
theorem sz_Ad : sizeB pr tAd = some 2 := by kernel_rfl

end Go.Vf.S
end
section
/- An address that is read: the document's; subaddresses. -/
namespace Go.Vf.S
open Go Go.Vf
attribute [local irreducible] wSeq wRow wp wG
set_option linter.unusedVariables false
set_option linter.unusedSimpArgs false
set_option maxRecDepth 10000

end Go.Vf.S
end
section
/- Whether an address may be; its text, its normal form; whether two are the same, which stands ahead; a domain below another one. -/
namespace Go.Vf.S
open Go Go.Vf
attribute [local irreducible] wSeq wRow wp wG
set_option linter.unusedVariables false
set_option linter.unusedSimpArgs false
set_option maxRecDepth 10000

def mayF (a d : List UInt8) : Bool := decide (a ≠ [] ∧ a.length ≤ 64 ∧ a.all plainB = true ∧ domF d = 0)
theorem may_no {a d : List UInt8} (h : ¬(a ≠ [] ∧ a.length ≤ 64 ∧ a.all plainB = true ∧ domF d = 0)) : mayF a d = false := decide_eq_false h

theorem may_w {s : SS} {a d : List UInt8} (ha : a.length ≤ 1000000) (hd : d.length ≤ 1000000) : CallW pr n_addr_May [adV a d] s fun v s' => v = .bool (mayF a d) ∧ Chg s s' [] := by
  refine CallW.run good ok_addr_May (by simp) rfl ?_
  (try refine pSeq ?_); (repeat(first|refine sb ?_|refine gOn rfl ?_|refine gOff rfl rfl ?_|refine gTup rfl ?_))
  refine ldS_is rfl lkH rfl ?_
  (repeat(first|refine sb ?_|refine gOn rfl ?_|refine gOff rfl rfl ?_|refine gTup rfl ?_))
  intro q hq
  by_cases h1 : a = []
  · obtain rfl : q = false := by rw [hq]; simp [h1]
    (repeat(first|refine sb ?_|refine gOn rfl ?_|refine gOff rfl rfl ?_|refine gTup rfl ?_))
    exact ⟨bool_eq (may_no fun h => h.1 h1).symm, .new _⟩
  · obtain rfl : q = true := by rw [hq]; simp [h1]
    (repeat(first|refine sb ?_|refine gOn rfl ?_|refine gOff rfl rfl ?_|refine gTup rfl ?_))
    refine ldS_is rfl lkH rfl ?_
    (repeat(first|refine sb ?_|refine gOn rfl ?_|refine gOff rfl rfl ?_|refine gTup rfl ?_))
    intro n hn
    (repeat(first|refine sb ?_|refine gOn rfl ?_|refine gOff rfl rfl ?_|refine gTup rfl ?_))
    intro q hq
    by_cases h2 : a.length ≤ 64
    · obtain rfl : q = true := by rw [hq]; simp <;> omega
      (repeat(first|refine sb ?_|refine gOn rfl ?_|refine gOff rfl rfl ?_|refine gTup rfl ?_))
      refine ldS_is rfl lkH rfl ?_
      (repeat(first|refine sb ?_|refine gOn rfl ?_|refine gOff rfl rfl ?_|refine gTup rfl ?_))
      refine Plain_w.mono fun v s1 q => ?_
      obtain ⟨rfl, c1⟩ := q
      have cc : Chg s s1 [] := (Chg.new []).nil c1
      cases hp : a.all plainB with
      | false =>
        (repeat(first|refine sb ?_|refine gOn rfl ?_|refine gOff rfl rfl ?_|refine gTup rfl ?_))
        exact ⟨bool_eq (may_no fun h => by rw [h.2.2.1] at hp; cases hp).symm, cc⟩
      | true =>
        (repeat(first|refine sb ?_|refine gOn rfl ?_|refine gOff rfl rfl ?_|refine gTup rfl ?_))
        refine ldS_is rfl (c1.blk _ _ (Nat.lt_succ_self _) (by simp) lkH) rfl ?_
        (repeat(first|refine sb ?_|refine gOn rfl ?_|refine gOff rfl rfl ?_|refine gTup rfl ?_))
        refine (mayDomain_w hd).mono fun v s2 q => ?_
        obtain ⟨rfl, c2⟩ := q
        (repeat(first|refine sb ?_|refine gOn rfl ?_|refine gOff rfl rfl ?_|refine gTup rfl ?_))
        refine ⟨bool_eq ?_, cc.nil c2⟩
        unfold mayF
        rw [decide_eq_decide]
        exact ⟨fun h => ⟨h1, h2, hp, h⟩, fun h => h.2.2.2⟩
    · obtain rfl : q = false := by rw [hq]; simp <;> omega
      (repeat(first|refine sb ?_|refine gOn rfl ?_|refine gOff rfl rfl ?_|refine gTup rfl ?_))
      exact ⟨bool_eq (may_no fun h => h2 h.2.1).symm, .new _⟩

end Go.Vf.S
end
section
/- Years, months, days: a day has one date. -/
namespace Go.Vf.S
set_option linter.unusedVariables false
set_option linter.unusedSimpArgs false

/-- A year's day more. -/
def lpY (y : Nat) : Nat := if y % 4 = 0 ∧ y % 100 ≠ 0 ∨ y % 400 = 0 then 1 else 0
theorem lpY_le (y : Nat) : lpY y ≤ 1 := by unfold lpY; split <;> omega
/-- How many years ahead have a day more. -/
def leN (y : Nat) : Int := ((y + 3) / 4 : Nat) - ((y + 99) / 100 : Nat) + ((y + 399) / 400 : Nat)
theorem leN_succ (y : Nat) : leN (y + 1) = leN y + lpY y := by
  unfold leN lpY
  split <;> omega
/-- A year's first day. -/
def ys (y : Nat) : Int := ((y : Int) - 1970) * 365 + leN y - 478
theorem ys_succ (y : Nat) : ys (y + 1) = ys y + 365 + lpY y := by
  unfold ys
  rw [leN_succ]
  omega
theorem ys_mono {a b : Nat} (h : a ≤ b) : ys a ≤ ys b := by
  induction b with
  | zero =>
      obtain rfl : a = 0 := by omega
      exact Int.le_refl _
  | succ b ih =>
    rcases Nat.lt_or_ge b a with q | q
    · obtain rfl : a = b + 1 := by omega
      exact Int.le_refl _
    · have := ih q
      rw [ys_succ]
      omega
theorem ys_ge (y : Nat) (h : 1970 ≤ y) : ((y : Int) - 1970) * 365 ≤ ys y := by unfold ys leN; omega
/-- A month's days in a year that has no day more. -/
def ml0 (m : Nat) : Nat := [31, 28, 31, 30, 31, 30, 31, 31, 30, 31, 30, 31].getD m 31
/-- A month's days. -/
def ml (y m : Nat) : Nat := if m = 1 then 28 + lpY y else ml0 m
theorem ml_le (y m : Nat) : ml y m ≤ 31 ∧ 28 ≤ ml y m := by
  have := lpY_le y
  unfold ml
  split
  · omega
  · unfold ml0
    rcases m with _ | _ | _ | _ | _ | _ | _ | _ | _ | _ | _ | _ | m <;> simp
/-- The days ahead of a month. -/
def mo (y : Nat) : Nat → Nat
  | 0 => 0
  | m + 1 => mo y m + ml y m
theorem mo_mono {y a b : Nat} (h : a ≤ b) : mo y a ≤ mo y b := by
  induction b with
  | zero =>
      obtain rfl : a = 0 := by omega
      exact Nat.le_refl _
  | succ b ih =>
    rcases Nat.lt_or_ge b a with q | q
    · obtain rfl : a = b + 1 := by omega
      exact Nat.le_refl _
    · have := ih q
      show _ ≤ mo y b + ml y b
      omega
theorem mo_12 (y : Nat) : mo y 12 = 365 + lpY y := by simp [mo, ml, ml0]; omega
/-- A day's year, month (from 0 on) and day of the month (from 0 on). -/
def Is (d y m o : Nat) : Prop := 1970 ≤ y ∧ m < 12 ∧ o < ml y m ∧ (d : Int) = ys y + mo y m + o
instance (d y m o : Nat) : Decidable (Is d y m o) := by unfold Is; infer_instance
theorem Is.in_year {d y m o : Nat} (h : Is d y m o) : ys y ≤ d ∧ (d : Int) < ys (y + 1) := by
  obtain ⟨_, h2, h3, h4⟩ := h
  have h5 := mo_mono (y := y) (show m + 1 ≤ 12 by omega)
  rw [mo_12] at h5
  have h6 : mo y (m + 1) = mo y m + ml y m := rfl
  rw [ys_succ]
  omega
theorem year_one {d : Int} {a b : Nat} (h1 : ys a ≤ d) (h2 : d < ys (a + 1)) (h3 : ys b ≤ d) (h4 : d < ys (b + 1)) : a = b := by
  rcases Nat.lt_trichotomy a b with q | q | q
  · have := ys_mono (show a + 1 ≤ b by omega)
    omega
  · exact q
  · have := ys_mono (show b + 1 ≤ a by omega)
    omega
theorem month_one {y d a b : Nat} (h1 : mo y a ≤ d) (h2 : d < mo y (a + 1)) (h3 : mo y b ≤ d) (h4 : d < mo y (b + 1)) : a = b := by
  rcases Nat.lt_trichotomy a b with q | q | q
  · have := mo_mono (y := y) (show a + 1 ≤ b by omega)
    omega
  · exact q
  · have := mo_mono (y := y) (show b + 1 ≤ a by omega)
    omega
theorem Is.one {d y m o y' m' o' : Nat} (h : Is d y m o) (h' : Is d y' m' o') : y = y' ∧ m = m' ∧ o = o' := by
  obtain rfl := year_one h.in_year.1 h.in_year.2 h'.in_year.1 h'.in_year.2
  obtain ⟨_, _, h3, h4⟩ := h
  obtain ⟨_, _, k3, k4⟩ := h'
  have e1 : mo y (m + 1) = mo y m + ml y m := rfl
  have e2 : mo y (m' + 1) = mo y m' + ml y m' := rfl
  obtain rfl := month_one (y := y) (d := mo y m + o) (a := m) (b := m') (by omega) (by omega) (by omega) (by omega)
  exact ⟨rfl, rfl, by omega⟩
theorem Is.back {d d' y m o : Nat} (h : Is d y m o) (h' : Is d' y m o) : d = d' := by
  obtain ⟨_, _, _, h4⟩ := h
  obtain ⟨_, _, _, k4⟩ := h'
  omega
/-- The year within 146097 days from 1970 on, and what is left of the year. -/
theorem has_date : ∀ d : Nat, ∃ y m o, Is d y m o
  | 0 => ⟨1970, 0, 0, by decide⟩
  | d + 1 => by
    obtain ⟨y, m, o, h1, h2, h3, h4⟩ := has_date d
    by_cases q : o + 1 < ml y m
    · exact ⟨y, m, o + 1, h1, h2, q, by omega⟩
    · have e1 : mo y (m + 1) = mo y m + ml y m := rfl
      by_cases q2 : m + 1 < 12
      · have := ml_le y (m + 1)
        exact ⟨y, m + 1, 0, h1, q2, by omega, by omega⟩
      · obtain rfl : m = 11 := by omega
        have := ml_le (y + 1) 0
        have e2 : mo y (11 + 1) = 365 + lpY y := mo_12 y
        refine ⟨y + 1, 0, 0, by omega, by omega, by omega, ?_⟩
        rw [ys_succ]
        show _ = _ + ((0 : Nat) : Int) + ((0 : Nat) : Int)
        omega
noncomputable def calD (d : Nat) : Nat × Nat × Nat := ⟨Classical.choose (has_date d), Classical.choose (Classical.choose_spec (has_date d)), Classical.choose (Classical.choose_spec (Classical.choose_spec (has_date d)))⟩
theorem calD_is (d : Nat) : Is d (calD d).1 (calD d).2.1 (calD d).2.2 := Classical.choose_spec (Classical.choose_spec (Classical.choose_spec (has_date d)))
theorem calD_eq {d y m o : Nat} (h : Is d y m o) : calD d = (y, m, o) := by
  obtain ⟨a, b, c⟩ := h.one (calD_is d)
  generalize calD d = p at *
  obtain ⟨p1, p2, p3⟩ := p
  dsimp only at a b c
  rw [a, b, c]
/-! ### Numbers in digits -/

def dgA : Nat → Nat → Nat → List UInt8
  | 0, _, _ => []
  | f + 1, n, k => if n = 0 ∧ k = 0 then [] else dgA f (n / 10) (k - 1) ++ [UInt8.ofNat (48 + n % 10)]
/-- A number in so many digits at least. -/
def dg (n k : Nat) : List UInt8 := dgA (n + k) n k
theorem dgA_more : ∀ (f n k : Nat), n + k ≤ f → ∀ g, n + k ≤ g → dgA f n k = dgA g n k
  | 0, n, k, h, g, _ => by
    obtain ⟨rfl, rfl⟩ : n = 0 ∧ k = 0 := by omega
    cases g <;> simp [dgA]
  | f + 1, n, k, h, 0, hg => by
    obtain ⟨rfl, rfl⟩ : n = 0 ∧ k = 0 := by omega
    simp [dgA]
  | f + 1, n, k, h, g + 1, hg => by
    unfold dgA
    by_cases q : n = 0 ∧ k = 0
    · rw [if_pos q, if_pos q]
    · rw [if_neg q, if_neg q, dgA_more f (n / 10) (k - 1) (by omega) g (by omega)]
theorem dg_next {n k : Nat} (h : ¬(n = 0 ∧ k = 0)) : dg n k = dg (n / 10) (k - 1) ++ [UInt8.ofNat (48 + n % 10)] := by
  unfold dg
  obtain ⟨f, hf⟩ : ∃ f, n + k = f + 1 := ⟨n + k - 1, by omega⟩
  rw [hf]
  show (if n = 0 ∧ k = 0 then [] else dgA f (n / 10) (k - 1) ++ [UInt8.ofNat (48 + n % 10)]) = _
  rw [if_neg h, dgA_more f _ _ (by omega) (n / 10 + (k - 1)) (Nat.le_refl _)]
def dgt (c : UInt8) : Bool := decide (48 ≤ c.toNat ∧ c.toNat ≤ 57)
def vlA (a : Nat) (l : List UInt8) : Nat := l.foldl (fun n c => 10 * n + (c.toNat - 48)) a
/-- The number that digits tell. -/
def vl (l : List UInt8) : Nat := vlA 0 l
theorem vl_next (l : List UInt8) (c : UInt8) : vl (l ++ [c]) = 10 * vl l + (c.toNat - 48) := by simp [vl, vlA]
theorem dgb (n : Nat) : (UInt8.ofNat (48 + n % 10)).toNat = 48 + n % 10 := by
  rw [UInt8.toNat_ofNat']
  have := Nat.mod_lt n (show 0 < 10 by omega)
  omega
theorem vlA_pos : ∀ (l : List UInt8) (a : Nat), 0 < a → 0 < vlA a l
  | [], a, h => h
  | c :: l, a, h => vlA_pos l (10 * a + (c.toNat - 48)) (by omega)
theorem vl_pos {c : UInt8} {l : List UInt8} (h : dgt c = true) (hc : c ≠ 48) : 0 < vl (c :: l) := by
  have h1 : 48 ≤ c.toNat ∧ c.toNat ≤ 57 := by simpa [dgt] using h
  have h2 : c.toNat ≠ 48 := fun e => hc (UInt8.toNat_inj.1 e)
  exact vlA_pos l (10 * 0 + (c.toNat - 48)) (by omega)
theorem dig_bt {c : UInt8} (h : dgt c = true) (x : Nat) : UInt8.ofNat (48 + (10 * x + (c.toNat - 48)) % 10) = c := by
  have h1 : 48 ≤ c.toNat ∧ c.toNat ≤ 57 := by simpa [dgt] using h
  refine UInt8.toNat_inj.1 ?_
  rw [dgb]
  omega
/-- Digits are those of the number that they tell. -/
theorem dg_of : ∀ (n : Nat) (l : List UInt8) (k : Nat), l.length = n → l.all dgt = true → k ≤ l.length → (k < l.length → l.head? ≠ some 48) → dg (vl l) k = l
  | 0, l, k, hl, _, hk, _ => by
    obtain rfl : l = [] := List.length_eq_zero_iff.1 hl
    obtain rfl : k = 0 := by simpa using hk
    rfl
  | n + 1, l, k, hl, ha, hk, hh => by
    obtain ⟨l', c, rfl⟩ : ∃ l' c, l = l' ++ [c] := ⟨l.dropLast, l.getLast (by intro e; rw [e] at hl; cases hl), (List.dropLast_concat_getLast _).symm⟩
    rw [List.all_append, Bool.and_eq_true] at ha
    have hc : dgt c = true := by simpa using ha.2
    have hn : l'.length = n := by simpa using hl
    simp only [List.length_append, List.length_cons, List.length_nil] at hk hh
    have h0 : ¬(vl (l' ++ [c]) = 0 ∧ k = 0) := fun q => by
      have h1 := hh (by omega)
      cases l' with
      | nil =>
        have : 0 < vl (c :: []) := vl_pos hc (fun e => h1 (by rw [e]; rfl))
        simp only [List.nil_append] at q
        omega
      | cons d r =>
        have hd : dgt d = true := by have := ha.1; rw [List.all_cons, Bool.and_eq_true] at this; exact this.1
        have : 0 < vl (d :: (r ++ [c])) := vl_pos hd (fun e => h1 (by rw [e]; rfl))
        simp only [List.cons_append] at q
        omega
    rw [dg_next h0, vl_next, dig_bt hc]
    congr 1
    have h2 : (10 * vl l' + (c.toNat - 48)) / 10 = vl l' := by
      have h1 : 48 ≤ c.toNat ∧ c.toNat ≤ 57 := by simpa [dgt] using hc
      omega
    rw [h2]
    refine dg_of n l' (k - 1) hn ha.1 (by omega) fun hlt => ?_
    cases l' with
    | nil => simp at hlt
    | cons d r =>
      have := hh (by simp at hlt ⊢; omega)
      simpa using this
end Go.Vf.S
end
section
/- Dates as texts: what has a date's form, what there is. -/
namespace Go.Vf.S
set_option linter.unusedVariables false
set_option linter.unusedSimpArgs false

def wkL : List (List UInt8) := [[83, 117, 110], [77, 111, 110], [84, 117, 101], [87, 101, 100], [84, 104, 117], [70, 114, 105], [83, 97, 116]]
def moL : List (List UInt8) := [[74, 97, 110], [70, 101, 98], [77, 97, 114], [65, 112, 114], [77, 97, 121], [74, 117, 110], [74, 117, 108], [65, 117, 103], [83, 101, 112], [79, 99, 116], [78, 111, 118], [68, 101, 99]]
/-- A weekday's name; a month's. -/
def wkT (w : Nat) : List UInt8 := wkL.getD w []
def moT (m : Nat) : List UInt8 := moL.getD m []
theorem wk_len {w : Nat} (h : w < 7) : (wkT w).length = 3 := by
  have : (List.range 7).all (fun w => (wkT w).length == 3) = true := by decide
  simpa using List.all_eq_true.1 this w (List.mem_range.2 h)
theorem mo_len {m : Nat} (h : m < 12) : (moT m).length = 3 := by
  have : (List.range 12).all (fun m => (moT m).length == 3) = true := by decide
  simpa using List.all_eq_true.1 this m (List.mem_range.2 h)
theorem wk_one {a b : Nat} (ha : a < 7) (hb : b < 7) (h : wkT a = wkT b) : a = b := by
  have : (List.range 7).all (fun a => (List.range 7).all fun b => !(wkT a == wkT b) || (a == b)) = true := by decide
  have := List.all_eq_true.1 (List.all_eq_true.1 this a (List.mem_range.2 ha)) b (List.mem_range.2 hb)
  rw [h] at this
  simpa using this
theorem mo_one {a b : Nat} (ha : a < 12) (hb : b < 12) (h : moT a = moT b) : a = b := by
  have : (List.range 12).all (fun a => (List.range 12).all fun b => !(moT a == moT b) || (a == b)) = true := by decide
  have := List.all_eq_true.1 (List.all_eq_true.1 this a (List.mem_range.2 ha)) b (List.mem_range.2 hb)
  rw [h] at this
  simpa using this
def zoneT : List UInt8 := [32, 43, 48, 48, 48, 48]

/-- What a date's text has in it, its numbers as they stand there. -/
structure Fd where
  w : Nat
  M : Nat
  o : List UInt8
  y : List UInt8
  h : List UInt8
  mi : List UInt8
  se : List UInt8
def Fd.text (f : Fd) : List UInt8 := wkT f.w ++ ([44, 32] ++ (f.o ++ ([32] ++ (moT f.M ++ ([32] ++ (f.y ++ ([32] ++ (f.h ++ ([58] ++ (f.mi ++ ([58] ++ (f.se ++ zoneT))))))))))))
def D2 (l : List UInt8) : Prop := l.length = 2 ∧ l.all dgt = true
def Dy (l : List UInt8) : Prop := 4 ≤ l.length ∧ l.length ≤ 10 ∧ l.all dgt = true ∧ (4 < l.length → l.head? ≠ some 48)
structure Fd.ok (f : Fd) : Prop where
  w : f.w < 7
  M : f.M < 12
  o : D2 f.o
  y : Dy f.y
  h : D2 f.h
  mi : D2 f.mi
  se : D2 f.se
theorem dgt_blank : dgt 32 = false := rfl
/-- Digits, and a blank behind them. -/
theorem span_one : ∀ {l l' r r' : List UInt8}, l.all dgt = true → l'.all dgt = true → l ++ 32 :: r = l' ++ 32 :: r' → l = l' ∧ r = r'
  | [], [], _, _, _, _, h => ⟨rfl, (List.cons.inj h).2⟩
  | [], c :: l', _, _, _, h', h => by
    rw [List.nil_append, List.cons_append] at h
    have := (List.cons.inj h).1
    subst this
    rw [List.all_cons, dgt_blank] at h'
    cases h'
  | c :: l, [], _, _, h', _, h => by
    rw [List.nil_append, List.cons_append] at h
    have := (List.cons.inj h).1
    subst this
    rw [List.all_cons, dgt_blank] at h'
    cases h'
  | c :: l, d :: l', r, r', h1, h2, h => by
    rw [List.all_cons, Bool.and_eq_true] at h1 h2
    rw [List.cons_append, List.cons_append] at h
    obtain ⟨rfl, h3⟩ := List.cons.inj h
    obtain ⟨rfl, rfl⟩ := span_one h1.2 h2.2 h3
    exact ⟨rfl, rfl⟩
theorem Fd.one {f g : Fd} (hf : f.ok) (hg : g.ok) (h : f.text = g.text) : f = g := by
  obtain ⟨w, M, o, y, hh, mi, se⟩ := f
  obtain ⟨w', M', o', y', hh', mi', se'⟩ := g
  obtain ⟨a1, a2, a3, a4, a5, a6, a7⟩ := hf
  obtain ⟨b1, b2, b3, b4, b5, b6, b7⟩ := hg
  simp only at *
  simp only [Fd.text] at h
  obtain ⟨e1, k0⟩ := List.append_inj h (by rw [wk_len a1, wk_len b1])
  obtain rfl := wk_one a1 b1 e1
  obtain ⟨_, k1⟩ := List.append_inj k0 rfl
  obtain ⟨rfl, k2⟩ := List.append_inj k1 (by rw [a3.1, b3.1])
  obtain ⟨_, k3⟩ := List.append_inj k2 rfl
  obtain ⟨e2, k4⟩ := List.append_inj k3 (by rw [mo_len a2, mo_len b2])
  obtain rfl := mo_one a2 b2 e2
  obtain ⟨_, k5⟩ := List.append_inj k4 rfl
  obtain ⟨rfl, k6⟩ := span_one a4.2.2.1 b4.2.2.1 k5
  obtain ⟨rfl, k7⟩ := List.append_inj (s₁ := hh) (s₂ := hh') k6 (by rw [a5.1, b5.1])
  obtain ⟨_, k8⟩ := List.append_inj k7 rfl
  obtain ⟨rfl, k9⟩ := List.append_inj k8 (by rw [a6.1, b6.1])
  obtain ⟨_, k10⟩ := List.append_inj k9 rfl
  obtain ⟨rfl, k11⟩ := List.append_inj k10 (by rw [a7.1, b7.1])
  rfl
theorem Fd.len {f : Fd} (h : f.ok) : f.text.length = f.y.length + 27 := by
  simp only [Fd.text, List.length_append, wk_len h.w, mo_len h.M, h.o.1, h.h.1, h.mi.1, h.se.1, List.length_cons, List.length_nil, zoneT]
  omega

abbrev Mx : Nat := 1099511627776
/-- The day that a date's numbers tell; the tick. -/
def Fd.day (f : Fd) : Int := ys (vl f.y) + mo (vl f.y) f.M + vl f.o - 1
def Fd.tick (f : Fd) : Int := f.day * 86400 + vl f.h * 3600 + vl f.mi * 60 + vl f.se
/-- There is such a tick. -/
def Fd.there (f : Fd) : Prop := 1970 ≤ vl f.y ∧ 1 ≤ vl f.o ∧ vl f.o ≤ ml (vl f.y) f.M ∧ vl f.h < 24 ∧ vl f.mi < 60 ∧ vl f.se < 60 ∧ f.tick ≤ Mx ∧ (f.day + 4) % 7 = f.w
/-- A tick's date. -/
noncomputable def fdT (t : Nat) : Fd := ⟨(t / 86400 + 4) % 7, (calD (t / 86400)).2.1, dg ((calD (t / 86400)).2.2 + 1) 2, dg (calD (t / 86400)).1 4, dg (t % 86400 / 3600) 2, dg (t % 3600 / 60) 2, dg (t % 60) 2⟩
theorem D2.back {l : List UInt8} (h : D2 l) : dg (vl l) 2 = l := dg_of 2 l 2 h.1 h.2 (by rw [h.1]; exact Nat.le_refl _) (by rw [h.1]; omega)
theorem Dy.back {l : List UInt8} (h : Dy l) : dg (vl l) 4 = l := dg_of _ l 4 rfl h.2.2.1 h.1 h.2.2.2
theorem ys_pos {y : Nat} (h : 1970 ≤ y) : 0 ≤ ys y := by have := ys_ge y h; omega
theorem Fd.there_day {f : Fd} (ht : f.there) : 0 ≤ f.day := by
  have := ys_pos ht.1
  have := ht.2.1
  unfold Fd.day
  omega
theorem Fd.there_tick {f : Fd} (ht : f.there) : 0 ≤ f.tick := by
  have := f.there_day ht
  unfold Fd.tick
  omega
theorem Fd.back {f : Fd} (hf : f.ok) (ht : f.there) : fdT f.tick.toNat = f := by
  have h0 := f.there_day ht
  have h1 := f.there_tick ht
  obtain ⟨t1, t2, t3, t4, t5, t6, t7, t8⟩ := ht
  have hd : ((f.tick.toNat / 86400 : Nat) : Int) = f.day := by unfold Fd.tick at h1 ⊢; omega
  have hI : Is (f.tick.toNat / 86400) (vl f.y) f.M (vl f.o - 1) := ⟨t1, hf.M, by omega, by rw [hd]; unfold Fd.day; omega⟩
  have hw : (f.tick.toNat / 86400 + 4) % 7 = f.w := by omega
  have hh : f.tick.toNat % 86400 / 3600 = vl f.h := by unfold Fd.tick at h1 ⊢; omega
  have hm : f.tick.toNat % 3600 / 60 = vl f.mi := by unfold Fd.tick at h1 ⊢; omega
  have hs : f.tick.toNat % 60 = vl f.se := by unfold Fd.tick at h1 ⊢; omega
  unfold fdT
  rw [calD_eq hI, hw, hh, hm, hs, hf.h.back, hf.mi.back, hf.se.back, hf.y.back]
  rw [show vl f.o - 1 + 1 = vl f.o by omega, hf.o.back]

instance (f : Fd) : Decidable f.there := by unfold Fd.there; infer_instance
end Go.Vf.S
end
section
/- Days, stamps, years: the program. -/
namespace Go.Vf.S
open Go Go.Vf
attribute [local irreducible] wSeq wRow wp wG
set_option linter.unusedVariables false
set_option linter.unusedSimpArgs false
set_option maxRecDepth 10000

theorem tmod_nat (a b : Nat) : ((a : Int)).tmod (b : Int) = ((a % b : Nat) : Int) := by rw [Int.ofNat_tmod]

/-! ### The tables that the rows lay -/
end Go.Vf.S
end
section
/- Bytes that are brought to others one by one, where they lie. -/
namespace Go.Vf.S
open Go Go.Vf Go.Proofs Go.RowKit
set_option linter.unusedVariables false
set_option linter.unusedSimpArgs false

/-- Byte by byte so far. -/
def mixI (f : Nat → UInt8 → UInt8) (l : List UInt8) (p : Nat) : List UInt8 := (l.mapIdx f).take p ++ l.drop p
theorem mixI_len (f : Nat → UInt8 → UInt8) (l : List UInt8) (p : Nat) : (mixI f l p).length = l.length := by simp [mixI]; omega
theorem mixI_0 (f : Nat → UInt8 → UInt8) (l : List UInt8) : mixI f l 0 = l := by simp [mixI]
theorem mixI_end {f : Nat → UInt8 → UInt8} {l : List UInt8} {p : Nat} (h : l.length ≤ p) : mixI f l p = l.mapIdx f := by
  unfold mixI
  rw [List.drop_of_length_le h, List.append_nil, List.take_of_length_le (by simpa using h)]
theorem mixI_next {f : Nat → UInt8 → UInt8} {l : List UInt8} {p : Nat} {c : UInt8} (h : l[p]? = some c) : mixI f l (p + 1) = (mixI f l p).set p (f p c) := by
  have hp := lt_of_get h
  unfold mixI
  rw [drop_next h, take_next (c := f p c) (by rw [List.getElem?_mapIdx, h]; rfl), List.set_append_right _ _ (by simp; omega)]
  have e : ((l.mapIdx f).take p).length = p := by simp; omega
  rw [e, Nat.sub_self, List.append_assoc]
  rfl
theorem mixI_at {f : Nat → UInt8 → UInt8} {l : List UInt8} {p : Nat} {c : UInt8} (h : l[p]? = some c) : (mixI f l p)[p]? = some c := by
  have hp := lt_of_get h
  unfold mixI
  have e : ((l.mapIdx f).take p).length = p := by simp; omega
  rw [List.getElem?_append_right (by omega), e, Nat.sub_self, drop_next h]
  rfl
theorem bytes_get {l : List UInt8} {p : Nat} {c : UInt8} (h : l[p]? = some c) : (bytesV l)[p]? = some (.int .u8 c.toNat) := by
  rw [bytesV, List.getElem?_map, h]; rfl
theorem bytes_set {l : List UInt8} {p : Nat} (h : p < l.length) (c : UInt8) : setRow (bytesV l) p [.int .u8 c.toNat] = some (bytesV (l.set p c)) := by
  rw [setRow_one (by rw [bytesV_len]; exact h)]
  simp [bytesV, List.map_set]
theorem mapIdx_const (f : UInt8 → UInt8) (l : List UInt8) : l.mapIdx (fun _ => f) = l.map f := by
  refine List.ext_getElem? fun i => ?_
  rw [List.getElem?_mapIdx, List.getElem?_map]
end Go.Vf.S
end

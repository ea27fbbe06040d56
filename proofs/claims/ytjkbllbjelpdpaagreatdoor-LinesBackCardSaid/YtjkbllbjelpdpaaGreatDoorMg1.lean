import Derived.Test.YtjkbllbjelpdpaaGreatDoorFn
import Derived.Test.YtjkbllbjelpdpaaGreatDoorEngBe
import Derived.Test.YtjkbllbjelpdpaaGreatDoorEngBg
import Derived.Test.YtjkbllbjelpdpaaGreatDoorEngBd
import Derived.Test.YtjkbllbjelpdpaaGreatDoorChecked
import Derived.WalkKit
import Derived.Tactics2
import Derived.Defers
import Derived.Laws.Pointers
import Derived.Laws.LoneSync
import Derived.RegionTactic
import Derived.RegionCalls
section
/- Plain bytes; what a text begins with. -/
namespace Go.Vf.S
open Go Go.Vf
attribute [local irreducible] wSeq wRow wp wG
set_option linter.unusedVariables false
set_option linter.unusedSimpArgs false
set_option maxRecDepth 10000

abbrev tS : TypeId := 9
abbrev tB : TypeId := 5
theorem un_S : pr.underlying tS = some .string := by kernel_rfl

/-- A text. -/
abbrev str (l : List UInt8) : Value := .string ⟨⟨l⟩⟩
theorem bool_eq {a b : Bool} (h : a = b) : one [Value.bool a] = Value.bool b := by subst h; rfl

theorem sprefix_w {s : SS} {a b : List UInt8} : CallW pr n_internal_stringslite_HasPrefix [str a, str b] s fun v s' => v = .bool (decide (a.take b.length = b)) ∧ s' = s := by
  refine CallW.run good ok_internal_stringslite_HasPrefix (by simp) rfl ?_
  (try refine pSeq ?_); (repeat(first|refine sb ?_|refine gOn rfl ?_|refine gOff rfl rfl ?_|refine gTup rfl ?_))
  intro n hn
  (repeat(first|refine sb ?_|refine gOn rfl ?_|refine gOff rfl rfl ?_|refine gTup rfl ?_))
  intro m hm
  (repeat(first|refine sb ?_|refine gOn rfl ?_|refine gOff rfl rfl ?_|refine gTup rfl ?_))
  intro q hq
  by_cases h : b.length ≤ a.length
  · obtain rfl : q = true := by rw [hq]; simp; omega
    (repeat(first|refine sb ?_|refine gOn rfl ?_|refine gOff rfl rfl ?_|refine gTup rfl ?_))
    intro m hm
    (repeat(first|refine sb ?_|refine gOn rfl ?_|refine gOff rfl rfl ?_|refine gTup rfl ?_))
    refine ⟨by omega, ?_⟩
    intro m2 hm2 z hz
    obtain rfl : m2 = b.length := by omega
    (repeat(first|refine sb ?_|refine gOn rfl ?_|refine gOff rfl rfl ?_|refine gTup rfl ?_))
    intro q hq
    (repeat(first|refine sb ?_|refine gOn rfl ?_|refine gOff rfl rfl ?_|refine gTup rfl ?_))
    subst hq hz
    exact ⟨bool_eq (by simp), rfl⟩
  · obtain rfl : q = false := by rw [hq]; simp; omega
    (repeat(first|refine sb ?_|refine gOn rfl ?_|refine gOff rfl rfl ?_|refine gTup rfl ?_))
    have : a.take b.length ≠ b := fun e => by have := congrArg List.length e; rw [List.length_take] at this; omega
    exact ⟨bool_eq (by simp [this]), rfl⟩

theorem prefix_w {s : SS} {a b : List UInt8} : CallW pr n_strings_HasPrefix [str a, str b] s fun v s' => v = .bool (decide (a.take b.length = b)) ∧ s' = s := by
  refine CallW.run good ok_strings_HasPrefix (by simp) rfl ?_
  (try refine pSeq ?_); (repeat refine sb ?_)
  refine sprefix_w.mono fun v s q => ?_
  obtain ⟨rfl, rfl⟩ := q
  (repeat refine sb ?_)
  exact ⟨rfl, rfl⟩

theorem all_no {l : List UInt8} {p : Nat} {c : UInt8} {f : UInt8 → Bool} (h : l[p]? = some c) (hf : f c = false) : l.all f = false := by
  rw [List.all_eq_false]
  exact ⟨c, List.mem_of_getElem? h, by simp [hf]⟩
end Go.Vf.S
end
section
/- Sets of bytes; what is taken off a text's ends. -/
namespace Go.Vf.S
open Go Go.Vf
attribute [local irreducible] wSeq wRow wp wG
set_option linter.unusedVariables false
set_option linter.unusedSimpArgs false
set_option maxRecDepth 10000

abbrev tA : TypeId := 96
/-- A set of bytes, laid out. -/
def tab (f : Nat → Bool) : List Value := (List.range 256).map fun i => .bool (f i)
theorem tab_len (f : Nat → Bool) : (tab f).length = 256 := by simp [tab]
theorem tab_get {f : Nat → Bool} {i : Nat} (h : i < 256) : (tab f)[i]? = some (.bool (f i)) := by simp [tab, h]
theorem tab_take (f : Nat → Bool) : takeN 256 ((tab f).drop 0) = some (tab f) := by
  rw [List.drop_zero, takeN_take _ _ (by rw [tab_len]; omega), List.take_of_length_le (by rw [tab_len]; omega)]
theorem setRow_one : ∀ {l : List Value} {i : Nat} {v : Value}, i < l.length → setRow l i [v] = some (l.set i v)
  | x :: l, 0, v, _ => by cases l <;> rfl
  | x :: l, i + 1, v, h => by simp only [setRow, setRow_one (show i < l.length by simpa using h), List.set_cons_succ]
theorem setRow_all : ∀ {l m : List Value}, l.length = m.length → setRow l 0 m = some m
  | [], [], _ => rfl
  | x :: l, y :: m, h => by simp only [setRow, setRow_all (l := l) (m := m) (by simpa using h)]
theorem flat_tab (f : Nat → Bool) : flat (.agg ⟨tab f⟩) = tab f := rfl
theorem tab_set {f : Nat → Bool} {i : Nat} (h : i < 256) : setRow (tab f) i [.bool true] = some (tab fun k => f k || k == i) := by
  rw [setRow_one (by rw [tab_len]; exact h)]
  congr 1
  apply List.ext_getElem? fun j => ?_
  rw [List.getElem?_set, tab_len]
  by_cases q : j < 256
  · rw [tab_get q]
    by_cases e : i = j
    · subst e; rw [tab_get h]; simp [h]
    · rw [if_neg e, tab_get q]; simp [Ne.symm e]
  · rw [List.getElem?_eq_none (by rw [tab_len]; omega), if_neg (by omega), List.getElem?_eq_none (by rw [tab_len]; omega)]
theorem tab_all1 (f : Nat → Bool) : (Nat.beq (flat (.agg ⟨tab f⟩)).length 256 && all1 (flat (.agg ⟨tab f⟩))) = true := by
  rw [flat_tab, tab_len]
  have : ∀ l : List Nat, all1 (l.map fun i => Value.bool (f i)) = true := fun l => by
    induction l with
    | nil => rfl
    | cons a l ih => exact ih
  exact this _
theorem tab_row (f g : Nat → Bool) : setRow (tab f) 0 (flat (.agg ⟨tab g⟩)) = some (tab g) := by
  rw [flat_tab]
  exact setRow_all (by rw [tab_len, tab_len])

def inB (k : List UInt8) (i : Nat) : Bool := k.any fun c => c.toNat == i

theorem contains_w {s : SS} {f : Nat → Bool} {b : Nat} {g r : Bool} {c : UInt8} (hb : lookH s.heap b = some (.cells (tab f) tA g r)) :
    CallW pr n_strings_asciiSet_contains [.pointer (some ⟨b, 0, none⟩), .int .u8 c.toNat] s fun v s' => v = .bool (f c.toNat) ∧ s' = s := by
  refine CallW.run good ok_strings_asciiSet_contains (by simp) rfl ?_
  (try refine pSeq ?_); (repeat refine sb ?_)
  have hc := c.toNat_lt
  refine ⟨by omega, ?_⟩
  intro m hm o ho
  obtain rfl : m = c.toNat := by omega
  (repeat refine sb ?_)
  refine ldB_is rfl hb (by rw [ho, Nat.zero_add, Nat.mul_one]; exact tab_get (by omega)) ?_
  (repeat refine sb ?_)
  exact ⟨rfl, rfl⟩

structure SIt where
  i : Nat
  s : SS

theorem makeSet_w {s : SS} {k : List UInt8} (hk : k.length ≤ 1000000) (h7 : ∀ c ∈ k, c.toNat < 128) :
    CallW pr n_strings_makeASCIISet [str k] s fun v s' => v = .tuple ⟨[.agg ⟨tab (inB k)⟩, .bool true]⟩ ∧ Chg s s' [] := by
  refine CallW.run good ok_strings_makeASCIISet (by simp) rfl ?_
  (try refine pSeq ?_); (repeat refine sb ?_)
  refine pLoop (MW.head good (fun x : SIt => k.length - x.i) (fun x => x.i ≤ k.length ∧ Chg s x.s [] ∧ s.next < x.s.next ∧ lookH x.s.heap s.next = some (.cells (tab (inB (k.take x.i))) tA false false))
    (fun x => [(0, str k), (2, .pointer (some ⟨s.next, 0, none⟩)), (4, .int .i64 x.i)]) (fun x => x.s) ⟨0, _⟩ ⟨Nat.zero_le _, .new _, Nat.lt_succ_self _, lkH⟩ (Wk.same ⟨rfl, rfl, rfl, trivial⟩) ?_)
  intro ⟨i, s1⟩ ⟨hi, h1, h2, h3⟩
  dsimp only at hi h1 h2 h3 ⊢
  (repeat refine sb ?_)
  intro n hn
  (repeat refine sb ?_)
  intro q hq
  by_cases hlt : i < k.length
  · obtain rfl : q = true := by rw [hq]; simp <;> omega
    obtain ⟨c, hc⟩ : ∃ c, k[i]? = some c := ⟨_, List.getElem?_eq_getElem hlt⟩
    have hc7 := h7 c (List.mem_of_getElem? hc)
    (repeat refine sb ?_)
    refine ⟨by omega, ?_⟩
    intro m hm
    obtain rfl : m = i := by omega
    refine ⟨c, hc, ?_⟩
    (repeat refine sb ?_)
    intro q hq
    obtain rfl : q = false := by rw [hq]; simp <;> omega
    (repeat refine sb ?_)
    refine ⟨by omega, ?_⟩
    intro m2 hm2 o ho
    obtain rfl : m2 = c.toNat := by omega
    (repeat refine sb ?_)
    refine st_abs rfl rfl h3 h2 rfl (by rw [ho, Nat.zero_add, Nat.mul_one]; exact tab_set (by omega)) fun s2 e2 c2 n2 => ?_
    (repeat refine sb ?_)
    intro z hz
    rw [i64_id (by omega)] at hz
    obtain rfl : z = ((m + 1 : Nat) : Int) := by omega
    (repeat refine sb ?_)
    refine ⟨⟨m + 1, s2⟩, ⟨hlt, h1.fresh c2 (by simp), by show s.next < s2.next; omega, ?_⟩, by show k.length - (m + 1) < k.length - m; omega, Wk.same ⟨rfl, rfl, rfl, trivial⟩⟩
    rw [e2, take_next hc]
    congr 3
    funext j
    simp only [inB, List.any_append, List.any_cons, List.any_nil, Bool.or_false]
    congr 1
    rw [Bool.eq_iff_iff, beq_iff_eq, beq_iff_eq]
    exact eq_comm
  · obtain rfl : q = false := by rw [hq]; simp <;> omega
    (repeat refine sb ?_)
    refine ldN_is rfl h3 (tab_take _) ?_
    (repeat refine sb ?_)
    refine st_abs rfl rfl h3 h2 (tab_all1 _) (tab_row _ _) fun s2 e2 c2 n2 => ?_
    (repeat refine sb ?_)
    refine ret_cell (n := 256) (by kernel_rfl) (by kernel_rfl) rfl e2 (tab_take _) rfl ⟨?_, h1.fresh c2 (by simp)⟩
    rw [List.take_of_length_le (by omega)]

theorem trimL_w {s : SS} {f : Nat → Bool} {b : Nat} {g r : Bool} {l : List UInt8} (hl : l.length ≤ 1000000) (hb : lookH s.heap b = some (.cells (tab f) tA g r)) :
    CallW pr n_strings_trimLeftASCII [str l, .pointer (some ⟨b, 0, none⟩)] s fun v s' => v = str (l.dropWhile fun c => f c.toNat) ∧ s' = s := by
  refine CallW.run good ok_strings_trimLeftASCII (by simp) rfl ?_
  (try refine pSeq ?_); (repeat refine sb ?_)
  refine pLoop (MW.head good (fun x : List UInt8 => x.length) (fun x => x.length ≤ l.length ∧ (x.dropWhile fun c => f c.toNat) = l.dropWhile fun c => f c.toNat)
    (fun x => [(0, str x), (1, .pointer (some ⟨b, 0, none⟩))]) (fun x => s) l ⟨Nat.le_refl _, rfl⟩ (Wk.same ⟨rfl, rfl, trivial⟩) ?_)
  intro x ⟨hx, h0⟩
  (repeat refine sb ?_)
  intro n hn
  (repeat refine sb ?_)
  intro q hq
  cases x with
  | nil =>
    obtain rfl : q = false := by rw [hq, hn]; rfl
    (repeat refine sb ?_)
    rw [← h0]
    exact ⟨rfl, rfl⟩
  | cons c x =>
    obtain rfl : q = true := by rw [hq, hn]; simp <;> omega
    (repeat refine sb ?_)
    refine ⟨by simp, ?_⟩
    intro m hm
    obtain rfl : m = 0 := by omega
    refine ⟨c, rfl, ?_⟩
    (repeat refine sb ?_)
    refine (contains_w hb).mono fun v s q => ?_
    obtain ⟨rfl, rfl⟩ := q
    (repeat refine sb ?_)
    intro q hq
    rw [List.dropWhile_cons] at h0
    by_cases hf : f c.toNat = true
    · obtain rfl : q = false := by rw [hq, hf]; rfl
      rw [if_pos hf] at h0
      (repeat refine sb ?_)
      refine ⟨by simp; omega, ?_⟩
      intro m hm r hr
      obtain rfl : m = 1 := by omega
      have er : r = x := by rw [hr]; simp
      subst er
      (repeat refine sb ?_)
      exact ⟨r, ⟨by simp at hx; omega, h0⟩, by show r.length < (c :: r).length; simp, Wk.same ⟨rfl, rfl, trivial⟩⟩
    · obtain rfl : q = true := by rw [hq]; simp [hf]
      rw [if_neg hf] at h0
      (repeat refine sb ?_)
      rw [← h0]
      exact ⟨rfl, rfl⟩

/-- White space. -/
def wh (c : UInt8) : Bool := decide (c.toNat = 32 ∨ c.toNat = 9)

theorem trimLeft_w {s : SS} {l : List UInt8} (hl : l.length ≤ 1000000) :
    CallW pr n_strings_TrimLeft [str l, .string ⟨#[32, 9]⟩] s fun v s' => v = str (l.dropWhile wh) ∧ Chg s s' [] := by
  refine CallW.run good ok_strings_TrimLeft (by simp) rfl ?_
  (try refine pSeq ?_); (repeat(first|refine sb ?_|refine gOn rfl ?_|refine gOff rfl rfl ?_|refine gTup rfl ?_))
  intro q hq
  by_cases h0 : l = []
  · subst h0
    obtain rfl : q = true := by rw [hq]; rfl
    (repeat(first|refine sb ?_|refine gOn rfl ?_|refine gOff rfl rfl ?_|refine gTup rfl ?_))
    exact ⟨rfl, .refl _ _⟩
  · obtain rfl : q = false := by rw [hq]; simp [h0]
    (repeat(first|refine sb ?_|refine gOn rfl ?_|refine gOff rfl rfl ?_|refine gTup rfl ?_))
    intro q hq
    obtain rfl : q = false := by rw [hq]; rfl
    (repeat(first|refine sb ?_|refine gOn rfl ?_|refine gOff rfl rfl ?_|refine gTup rfl ?_))
    intro n hn
    (repeat(first|refine sb ?_|refine gOn rfl ?_|refine gOff rfl rfl ?_|refine gTup rfl ?_))
    intro q hq
    obtain rfl : q = false := by rw [hq, hn]; rfl
    (repeat(first|refine sb ?_|refine gOn rfl ?_|refine gOff rfl rfl ?_|refine gTup rfl ?_))
    refine (makeSet_w (k := [32, 9]) (by simp) (by simp)).mono fun v s1 q => ?_
    obtain ⟨rfl, c1⟩ := q
    (repeat(first|refine sb ?_|refine gOn rfl ?_|refine gOff rfl rfl ?_|refine gTup rfl ?_))
    have n1 := c1.next
    refine st_abs (cs := tab fun _ => false) rfl rfl lkH (Nat.lt_succ_self _) (tab_all1 _) (tab_row _ _) fun s2 e2 c2 n2 => ?_
    (repeat(first|refine sb ?_|refine gOn rfl ?_|refine gOff rfl rfl ?_|refine gTup rfl ?_))
    refine (trimL_w hl e2).mono fun v s q => ?_
    obtain ⟨rfl, rfl⟩ := q
    (repeat(first|refine sb ?_|refine gOn rfl ?_|refine gOff rfl rfl ?_|refine gTup rfl ?_))
    refine ⟨?_, (c1.nil (.new [])).fresh c2 (by simp; omega)⟩
    show str _ = str _
    congr 4
    funext c
    rw [Bool.eq_iff_iff]
    simp only [inB, wh, List.any_cons, List.any_nil, Bool.or_false, Bool.or_eq_true, beq_iff_eq, decide_eq_true_eq]
    have e1 : (32 : UInt8).toNat = 32 := rfl
    have e2 : (9 : UInt8).toNat = 9 := rfl
    omega
end Go.Vf.S
end
section
/- What texts of several layers lean on: blocks laid, rows with room, appends, numbers of 64 bits, bytes handed in. -/
namespace Go.Vf.S
open Go Go.Vf Go.Proofs Go.RowKit
attribute [local irreducible] wSeq wRow wp wG
set_option linter.unusedVariables false
set_option linter.unusedSimpArgs false
set_option maxRecDepth 10000

theorem bytes_take {l : List UInt8} {n : Nat} (h : l.length = n) : takeN n ((bytesV l).drop 0) = some (bytesV l) := by
  rw [List.drop_zero, takeN_take _ _ (by rw [bytesV_len]; omega), List.take_of_length_le (by rw [bytesV_len]; omega)]
/-- A block of one's own as it stands: nothing else is told of it. -/
abbrev ptrV (b : Nat) : Value := .pointer (some ⟨b, 0, none⟩)
/-- Blocks that are laid one after another. -/
theorem new1_at {s : SS} (f : Fine s) (b0 : ABlk) : lookH ((s.next, some b0) :: s.heap) s.next = some b0 ∧ Chg s { s with heap := (s.next, some b0) :: s.heap, next := s.next + 1 } [] ∧ Fine { s with heap := (s.next, some b0) :: s.heap, next := s.next + 1 } :=
  ⟨lkH, .new [], (Chg.new []).fine f⟩
theorem new2_at {s : SS} (f : Fine s) (b0 b1 : ABlk) : lookH ((s.next + 1, some b1) :: (s.next, some b0) :: s.heap) s.next = some b0 ∧ lookH ((s.next + 1, some b1) :: (s.next, some b0) :: s.heap) (s.next + 1) = some b1
    ∧ Chg s { s with heap := (s.next + 1, some b1) :: (s.next, some b0) :: s.heap, next := s.next + 1 + 1 } [] ∧ Fine { s with heap := (s.next + 1, some b1) :: (s.next, some b0) :: s.heap, next := s.next + 1 + 1 } := by
  obtain ⟨h1, h2, h3⟩ := new1_at f b0
  obtain ⟨k1, k2, k3⟩ := new1_at h3 b1
  exact ⟨lkT (by omega) lkH, lkH, h2.nil k2, k3⟩
theorem new3_at {s : SS} (f : Fine s) (b0 b1 b2 : ABlk) : lookH ((s.next + 1 + 1, some b2) :: (s.next + 1, some b1) :: (s.next, some b0) :: s.heap) s.next = some b0 ∧ lookH ((s.next + 1 + 1, some b2) :: (s.next + 1, some b1) :: (s.next, some b0) :: s.heap) (s.next + 1) = some b1
    ∧ lookH ((s.next + 1 + 1, some b2) :: (s.next + 1, some b1) :: (s.next, some b0) :: s.heap) (s.next + 1 + 1) = some b2
    ∧ Chg s { s with heap := (s.next + 1 + 1, some b2) :: (s.next + 1, some b1) :: (s.next, some b0) :: s.heap, next := s.next + 1 + 1 + 1 } [] ∧ Fine { s with heap := (s.next + 1 + 1, some b2) :: (s.next + 1, some b1) :: (s.next, some b0) :: s.heap, next := s.next + 1 + 1 + 1 } := by
  obtain ⟨h0, h1, h2, h3⟩ := new2_at f b0 b1
  obtain ⟨k1, k2, k3⟩ := new1_at h3 b2
  exact ⟨lkT (by omega) h0, lkT (by omega) h1, lkH, h2.nil k2, k3⟩
/-- Bytes of one's own in a block that has room for more. -/
def Room (s : SS) (b cap : Nat) (d : List UInt8) : Prop := b < s.next ∧ d.length ≤ cap ∧ lookH s.heap b = some (.cells (bytesV (d ++ List.replicate (cap - d.length) 0)) tB false false)
theorem Room.chg {s s' : SS} {b cap : Nat} {d : List UInt8} {A : List Nat} (h : Room s b cap d) (c : Chg s s' A) (hA : b ∉ A) : Room s' b cap d := ⟨Nat.lt_of_lt_of_le h.1 c.next, h.2.1, c.blk _ _ h.1 hA h.2.2⟩
theorem Room.rdb {s : SS} {b cap : Nat} {d : List UInt8} (h : Room s b cap d) : Rdb s (some ⟨b, 0, none⟩) d.length d := by
  refine ⟨rfl, rfl, h.1, _, _, _, _, h.2.2, ?_, bytesV_plain _⟩
  rw [takeN_bytes (by rw [List.length_append]; omega), List.drop_zero, List.take_append_of_le_length (Nat.le_refl _), List.take_length]
/-- One byte in a block of its own. -/
theorem byte_rdb {s : SS} {b : Nat} {c : UInt8} {t : TypeId} {g : Bool} (h : lookH s.heap b = some (.cells (bytesV [c]) t g false)) (hb : b < s.next) : Rdb s (some ⟨b, 0, none⟩) 1 [c] :=
  ⟨rfl, rfl, hb, _, _, _, _, h, rfl, bytesV_plain _⟩
theorem rep_bytes (n : Nat) : repeatL n [.int .u8 0] = bytesV (List.replicate n 0) := repeat_bytes n
theorem toStr_is10 {T : TL} {s : SS} {K : RR → Prop} {b n c : Nat} {x : Operand} {l : List UInt8} {t : TypeId} {g r : Bool} (hx : opd T s.gl x = some (.slice (some ⟨b, 0, none⟩) n c)) (hb : lookH s.heap b = some (.cells (bytesV l) t g r)) (hn : l.length = n) (h : K (.val (str l))) : wN pr (.toStr x) T s K := by
  simp only [wN, hx, hb]
  exact ⟨l, bytes_take hn, h⟩
/-- Bytes behind one's own. -/
theorem app_mine {T : TL} {s : SS} {K : RR → Prop} {x y : Operand} {m n c : Nat} {a l : List UInt8} {base sb : Option Addr} (ho : Own tB s base a) (hm : m = a.length) (hx : opd T s.gl x = some (.slice base m 0)) (hy : opd T s.gl y = some (.slice sb n c)) (hr : Rdb s sb n l) (h0 : 0 < n) (hb : m + n ≤ 10000000)
    (h : ∀ s' : SS, Own tB s' (some ⟨s.next, 0, none⟩) (a ++ l) → Chg s s' (blkOf base) → s'.next = s.next + 1 → K (.eff (.slice (some ⟨s.next, 0, none⟩) (m + n) 0) s')) : wN pr (.app tB 1 1 x y) T s K :=
  app_own ho hm hx hy hr h0 (by omega) h
/-- One byte behind one's own. -/
theorem app_mine1 {T : TL} {s : SS} {K : RR → Prop} {x y : Operand} {m : Nat} {a : List UInt8} {c : UInt8} {z : Int} {base : Option Addr} (ho : Own tB s base a) (hz : z = (c.toNat : Int)) (hm : m = a.length) (hx : opd T s.gl x = some (.slice base m 0)) (hy : opd T s.gl y = some (.slice (some ⟨s.next, 0, none⟩) 1 1)) (hb : m + 1 ≤ 10000000)
    (h : ∀ s' : SS, Own tB s' (some ⟨s.next + 1, 0, none⟩) (a ++ [c]) → Chg s s' (blkOf base) → s'.next = s.next + 1 + 1 → K (.eff (.slice (some ⟨s.next + 1, 0, none⟩) (m + 1) 0) s')) :
    wN pr (.app tB 1 1 x y) T { s with heap := (s.next, some (.cells [.int .u8 z] tB false false)) :: s.heap, next := s.next + 1 } K := by
  subst hz
  have c0 : Chg s { s with heap := (s.next, some (.cells [.int .u8 (c.toNat : Int)] tB false false)) :: s.heap, next := s.next + 1 } [] := .new []
  refine app_mine (ho.chg c0 (by simp)) hm hx hy (byte_rdb (c := c) lkH (Nat.lt_succ_self _)) (by omega) hb fun s' r c1 n1 => h s' r (c0.nil c1) n1
abbrev fnV (n : Nat) : Value := .func (.func n) #[] #[]
end Go.Vf.S
end
section
/- sync.Once, walked in the world: a cell of one's own that is stored to; the lock; what is done once. -/
namespace Go.Vf.S
open Go Go.Vf Go.Proofs Go.RowKit
set_option linter.unusedVariables false
set_option linter.unusedSimpArgs false
set_option maxRecDepth 100000

/-! ### A cell of one's own, in the world -/
theorem hr_atO {B : Nat} {w0 : World} {ρ : Ren} {s : SS} {w : World} (H : HRel pr B w0 ρ s.st w) {id o : Nat} {cs : List Value} {t : TypeId} {u : Value} {e : RE} (hb : lookH s.heap id = some (.cells cs t false false)) (he : ρ id = some e) (hu : cs[o]? = some u) :
    e.off = 0 ∧ w.frozen? ⟨e.blk, o, none⟩ = false ∧ ∃ v', w.cell? ⟨e.blk, o, none⟩ = some v' ∧ VRel ρ u v' := by
  have hb' : s.st.heap.get id = some (.cells cs t false false) := by rw [SS.get]; exact hb
  obtain ⟨g1, rc, lo, hi, t0, g2, g3, g4, g5, g6, g7, g8⟩ := H.blk _ _ _ hb' he
  obtain ⟨rfl, g9⟩ := g3 rfl
  obtain ⟨o0, o1, o2⟩ := g9 rfl
  have ho : o < cs.length := (List.getElem?_eq_some_iff.1 hu).1
  obtain ⟨v', p1, p2⟩ := g8 o u hu
  rw [o0, Nat.zero_add] at p1
  refine ⟨o0, ?_, v', by simp [World.cell?, g2, p1], p2⟩
  have := g4 o (by omega)
  rw [o0] at this
  simp [World.frozen?, g2]
  omega
theorem hr_setC {B : Nat} {w0 : World} {ρ : Ren} {s : SS} {w : World} (H : HRel pr B w0 ρ s.st w) {id o : Nat} {cs : List Value} {t : TypeId} {u v v' : Value} {e : RE} (hb : lookH s.heap id = some (.cells cs t false false)) (he : ρ id = some e) (hu : cs[o]? = some u) (hv : VRel ρ v v') :
    HRel pr B w0 ρ (SS.st { s with heap := (id, some (.cells (cs.set o v) t false false)) :: s.heap }) (w.setCell ⟨e.blk, o, none⟩ v') := by
  have hb' : s.st.heap.get id = some (.cells cs t false false) := by rw [SS.get]; exact hb
  obtain ⟨g1, rc, lo, hi, t0, g2, g3, g4, g5, g6, g7, g8⟩ := H.blk _ _ _ hb' he
  obtain ⟨rfl, g9⟩ := g3 rfl
  obtain ⟨o0, o1, o2⟩ := g9 rfl
  have ho : o < cs.length := (List.getElem?_eq_some_iff.1 hu).1
  have hsz : e.blk < w.heap.size := H.lt _ _ he
  have hor : o < rc.length := by omega
  refine H.turn (b' := .cells (cs.set o v) t0 false false) he hb' rfl rfl (fun i => ?_) rfl (by simp [World.setCell]) (fun k hk => by simp [World.setCell, Array.getElem?_modify, Ne.symm hk]) rfl rfl rfl ?_
  · rw [SS.get, SS.get]
    show lookH ((id, some _) :: s.heap) i = _
    by_cases q : i = id
    · subst q; rw [if_pos rfl]; exact lkH
    · rw [if_neg q]
      simp only [lookH, beqF (Ne.symm q), cond_false]
  · refine ⟨g1, rc.set o v', lo, hi, t0, ?_, fun _ => ⟨rfl, fun _ => ⟨o0, by rw [List.length_set]; exact o1, by rw [List.length_set]; exact o2⟩⟩, ?_, ?_, ?_, g7, ?_⟩
    · simp [World.setCell, Array.getElem?_modify, g2]
    · simpa [o0] using g4
    · rw [List.length_set]; exact g5
    · rw [List.length_set]; exact g6
    · intro i x hi
      rw [o0, Nat.zero_add]
      by_cases q : i = o
      · subst q
        rw [List.getElem?_set_self ho] at hi
        cases hi
        exact ⟨v', by rw [List.getElem?_set_self hor], hv⟩
      · rw [List.getElem?_set_ne (Ne.symm q)] at hi
        obtain ⟨y, p1, p2⟩ := g8 i x hi
        rw [o0, Nat.zero_add] at p1
        exact ⟨y, by rw [List.getElem?_set_ne (Ne.symm q)]; exact p1, p2⟩
theorem ptr0_at {ρ : Ren} {b : Nat} {e : RE} {v' : Value} (h : VRel ρ (.pointer (some ⟨b, 0, none⟩)) v') (he : ρ b = some e) (h0 : e.off = 0) : v' = .pointer (some ⟨e.blk, 0, none⟩) := by
  obtain ⟨a', rfl, h1, h2, e1, h3, h4, h5⟩ := ptr_inv h
  rw [he] at h3
  cases h3
  obtain ⟨x, y, z⟩ := a'
  simp only at h2 h4 h5
  rw [h2, h4, h5, h0]

/-! ### The lock; what was done -/
theorem race_off (w : World) : (callFunc 124 #[]).run Tryz.prog w = .ok (.value (.tuple #[])) w := run_call_mark0 Tryz.func124 (by kernel_rfl) (by kernel_rfl) (by kernel_rfl) .disable (by kernel_rfl) w
theorem race_on (w : World) : (callFunc 126 #[]).run Tryz.prog w = .ok (.value (.tuple #[])) w := run_call_mark0 Tryz.func126 (by kernel_rfl) (by kernel_rfl) (by kernel_rfl) .enable (by kernel_rfl) w
theorem race_acq (a : Addr) (w : World) : (callFunc 127 #[.pointer (some a)]).run Tryz.prog w = .ok (.value (.tuple #[])) w := run_call_marked Tryz.func127 (by kernel_rfl) (by kernel_rfl) (by kernel_rfl) .acquire (by kernel_rfl) a w
theorem race_rel (a : Addr) (w : World) : (callFunc 129 #[.pointer (some a)]).run Tryz.prog w = .ok (.value (.tuple #[])) w := run_call_marked Tryz.func129 (by kernel_rfl) (by kernel_rfl) (by kernel_rfl) .releaseMerge (by kernel_rfl) a w

theorem store_def (a : Addr) (x : Value) (u : FrameMode) (w : World) (hc : w.cell? a = some x) (hz : w.frozen? a = false) :
    CallsD Tryz.prog 107 #[.pointer (some a), .bool true] u w fun e u' w' => u' = u ∧ (e = .returned (.tuple #[]) ∧ w' = w.drew.setCell a (.int .u32 1)) := by
  have hc' : w.drew.cell? a = some x := by go_simp
  have hz' : w.drew.frozen? a = false := by go_simp
  have hst := run_call_store (P := Tryz.prog) Tryz.func118 (by kernel_rfl) (by kernel_rfl) (by kernel_rfl) (by kernel_rfl) (k := .u32) (y := 1) hc' hz'
  go_enter_d Tryz.func107, Tryz.ntmps107
  go_wp2
  go_region_calls
  all_goals (go_end0; exact ⟨rfl, rfl⟩)

theorem unlock_def (a : Addr) (u : FrameMode) (w : World) (hc : w.cell? a = some (.int .i32 1)) (hz : w.frozen? a = false) :
    CallsD Tryz.prog 106 #[.pointer (some a)] u w fun e u' w' => u' = u ∧ (e = .returned (.tuple #[]) ∧ w' = w.setCell a (.int .i32 0)) := by
  have hd := race_off
  have he := race_on
  have hr := race_rel
  have hadd := run_call_add (P := Tryz.prog) Tryz.func130 (by kernel_rfl) (by kernel_rfl) (by kernel_rfl) .i32 (by kernel_rfl) (y := -1) (s := 0) hc hz (by simp [go_sem]; rfl)
  have hcv := run_convert_to_unsafe (P := Tryz.prog) (src := 193) (dst := 126) Tryz.underlying193 Tryz.underlying126 (by kernel_rfl) hc
  go_enter_d Tryz.func106, Tryz.ntmps106
  go_wp2
  go_end0
  go_wp2
  all_goals go_end0
  all_goals exact ⟨rfl, rfl⟩

theorem lock_free13 (a : Addr) (w : World) (hc : w.cell? a = some (.int .i32 0)) (hz : w.frozen? a = false) :
    Calls Tryz.prog 105 #[.pointer (some a)] w fun e w' => e = .returned (.tuple #[]) ∧ w' = w.setCell a (.int .i32 1) := by
  have hd := race_off
  have he := race_on
  have ha := race_acq
  have hcas := run_call_cas_hit (P := Tryz.prog) Tryz.func125 (by kernel_rfl) (by kernel_rfl) (by kernel_rfl) .i32 (by kernel_rfl) (y := 1) hc hz
  have hc' : (w.setCell a (.int .i32 1)).cell? a = some (.int .i32 1) := World.cell?_setCell_same w a _ hc
  have hcv := run_convert_to_unsafe (P := Tryz.prog) (src := 193) (dst := 126) Tryz.underlying193 Tryz.underlying126 (by kernel_rfl) hc'
  go_enter Tryz.func105, Tryz.ntmps105
  go_wp2
  first | go_end0 | (simp only [Exit.inBlock, Exit.then]; refine bodyPost_ret (results_none rfl _ _ _) rfl ?_) | refine bodyPost_ret (results_none rfl _ _ _) rfl ?_
  go_wp2
  all_goals go_end0
  all_goals exact ⟨rfl, rfl⟩
end Go.Vf.S
end
section
/- What a call of the library's is told. -/
namespace Go.Vf.S
open Go Go.Vf Go.Proofs Go.RowKit
set_option linter.unusedVariables false
set_option linter.unusedSimpArgs false
set_option maxRecDepth 10000

theorem tyNe {H : List (Nat × Option ABlk)} {i j : Nat} {c c' : List Value} {t t' : TypeId} {g g' r r' : Bool} (h : lookH H i = some (.cells c t g r)) (h' : lookH H j = some (.cells c' t' g' r')) (ht : t ≠ t') : i ≠ j := by
  intro e
  subst e
  rw [h] at h'
  cases h'
  exact ht rfl

abbrev gMx : Nat := 1
/-- The library's own number lies there. -/
def Gx (s : SS) : Prop := gMx < s.gl ∧ gMx < s.next ∧ ∃ m, lookH s.heap gMx = some (.cells [.int .i64 m] 3 false true)
theorem Gx.chg {s s' : SS} (h : Gx s) (c : Chg s s' []) : Gx s' := by
  obtain ⟨h1, h2, m, h3⟩ := h
  exact ⟨by rw [c.gl]; exact h1, Nat.lt_of_lt_of_le h2 c.next, m, c.blk _ _ h2 (by simp) h3⟩

theorem lrel_1 {ρ : Ren} {a : Value} {args' : List Value} (h : LRel ρ [a] args') : ∃ v1, args' = [v1] ∧ VRel ρ a v1 := by
  obtain ⟨h1, h2⟩ := h
  match args', h1 with
  | [v1], _ => exact ⟨v1, rfl, h2 0 _ _ rfl rfl⟩
theorem lrel_2 {ρ : Ren} {a b : Value} {args' : List Value} (h : LRel ρ [a, b] args') : ∃ v1 v2, args' = [v1, v2] ∧ VRel ρ a v1 ∧ VRel ρ b v2 := by
  obtain ⟨h1, h2⟩ := h
  match args', h1 with
  | [v1, v2], _ => exact ⟨v1, v2, rfl, h2 0 _ _ rfl rfl, h2 1 _ _ rfl rfl⟩
def asc (l : List UInt8) : Prop := ∀ c ∈ l, c.toNat < 128
theorem asc_at {l : List UInt8} (h : asc l) : ∀ (j : Nat) (b : UInt8), (⟨⟨l⟩⟩ : ByteArray).data.toList[j]? = some b → b.toNat < 128 := fun j b hb => h b (List.mem_of_getElem? hb)

end Go.Vf.S
end
section
/- What is done once, by the machine's relation. -/
namespace Go.Vf.S
open Go Go.Vf Go.Proofs Go.RowKit
set_option linter.unusedVariables false
set_option linter.unusedSimpArgs false
set_option maxRecDepth 100000

set_option maxHeartbeats 1600000 in
theorem slow_calls (b : Nat) (w : World) (R : World → Prop) (h0 : w.cell? ⟨b, 0, none⟩ = some (.int .u32 0)) (h1 : w.cell? ⟨b, 1, none⟩ = some (.int .i32 0)) (f1 : w.frozen? ⟨b, 1, none⟩ = false)
    (hcc : Calls Tryz.prog 63 #[.pointer (some ⟨b, 0, none⟩)] (w.setCell ⟨b, 1, none⟩ (.int .i32 1)) fun e w' => (∃ v, e = .returned v) ∧ w'.cell? ⟨b, 0, none⟩ = some (.int .u32 0) ∧ w'.cell? ⟨b, 1, none⟩ = some (.int .i32 1) ∧ w'.frozen? ⟨b, 0, none⟩ = false ∧ w'.frozen? ⟨b, 1, none⟩ = false ∧ R w') :
    Calls Tryz.prog 85 #[.pointer (some ⟨b, 0, none⟩), .func (.func 63) #[.pointer (some ⟨b, 0, none⟩)] #[]] w fun e w' => e = .returned (.tuple #[]) ∧ ∃ w2, R w2 ∧ w' = (w2.drew.setCell ⟨b, 0, none⟩ (.int .u32 1)).setCell ⟨b, 1, none⟩ (.int .i32 0) := by
  have hl := run_call_load (P := Tryz.prog) Tryz.func104 (by kernel_rfl) (by kernel_rfl) (by kernel_rfl) .u32 (by kernel_rfl) (w := w.setCell ⟨b, 1, none⟩ (.int .i32 1)) (a := ⟨b, 0, none⟩) (x := 0) ((World.cell?_setCell_other _ ⟨b, 1, none⟩ ⟨b, 0, none⟩ _ (by simp)).trans h0)
  have hnot : ∀ (x : Bool) (w : World), (Op.unary .not (.bool x)).run Tryz.prog w = .ok (.bool (!x)) w := fun _ _ => rfl
  go_enter_defers Tryz.func85, Tryz.ntmps85
  go_wp2_with (go_at_call 105; refine (lock_free13 ⟨b, 1, none⟩ _ (by go_simp) (by go_simp)).mono ?_; rintro e w' ⟨rfl, rfl⟩)
  go_wp2_with (first | (go_at_call 63; refine hcc.mono ?_; rintro e w' ⟨⟨v, rfl⟩, d0, d1, z0, z1, hR⟩) | (go_at_call 84; go_in))
  refine leaves_cons (f := 107) (args := #[.pointer (some ⟨b, 0, none⟩), .bool true]) (by simp) (by simp [go_sem]) ?_
  refine (store_def ⟨b, 0, none⟩ (.int .u32 0) .returning _ d0 z0).mono ?_
  rintro e u' w'' ⟨rfl, rfl, rfl⟩
  refine leaves_cons (f := 106) (args := #[.pointer (some ⟨b, 1, none⟩)]) (by simp [settle]) (by simp [go_sem]) ?_
  refine (unlock_def ⟨b, 1, none⟩ _ _ ?_ (by simp [z1])).mono ?_
  · refine (World.cell?_setCell_other _ ⟨b, 0, none⟩ ⟨b, 1, none⟩ _ (by simp)).trans ?_
    rw [World.cell?_drew]
    exact d1
  rintro e u' w'' ⟨rfl, rfl, rfl⟩
  simp [Leaves, settle, results, Tryz.results85]
  exact ⟨w', hR, rfl⟩

theorem fn_inv {ρ : Ren} {f : FuncId} {x v' : Value} (h : VRel ρ (.func (.func f) #[x] #[]) v') : ∃ x', v' = .func (.func f) #[x'] #[] ∧ VRel ρ x x' := by
  cases h with
  | @func _ a b a' b' hy h1 h2 h3 h4 =>
    obtain ⟨l⟩ := a'
    obtain ⟨m⟩ := b'
    match l, m, h1, h2 with
    | [x'], [], _, _ => exact ⟨x', rfl, h3 0 _ _ rfl rfl⟩

theorem slow_w {s : SS} {b : Nat} {cs : List Value} {t : TypeId} {K : SS → List Value → Prop} (hb : lookH s.heap b = some (.cells cs t false false))
    (c0 : cs[0]? = some (.int .u32 0)) (c1 : cs[1]? = some (.int .i32 0))
    (hcall : CallW pr 63 [ptrV b] { s with heap := (b, some (.cells (cs.set 1 (.int .i32 1)) t false false)) :: s.heap } fun v s' => v = .tuple ⟨[]⟩ ∧ ∃ cs', lookH s'.heap b = some (.cells cs' t false false) ∧ cs'[0]? = some (.int .u32 0) ∧ cs'[1]? = some (.int .i32 1) ∧ K s' cs') :
    CallW pr 85 [ptrV b, .func (.func 63) #[ptrV b] #[]] s fun v s' => v = .tuple ⟨[]⟩ ∧ ∃ s1 cs', lookH s1.heap b = some (.cells cs' t false false) ∧ K s1 cs' ∧
      s' = { s1 with heap := (b, some (.cells ((cs'.set 0 (.int .u32 1)).set 1 (.int .i32 0)) t false false)) :: (b, some (.cells (cs'.set 0 (.int .u32 1)) t false false)) :: s1.heap } := by
  obtain ⟨v, s1, ⟨rfl, cs', h1, d0, d1, hK⟩, hn, hg, hc⟩ := hcall
  refine ⟨.tuple ⟨[]⟩, _, ⟨rfl, s1, cs', h1, hK, rfl⟩, hn, hg, fun B w0 ρ args' w H ha hf => ?_⟩
  obtain ⟨p', f', rfl, q1, q2⟩ := lrel_2 ha
  obtain ⟨f1, rfl, q3⟩ := fn_inv q2
  obtain ⟨a', e0, _, _, e, he, _⟩ := ptr_inv q1
  obtain ⟨o0, z0, x0, k0, r0⟩ := hr_atO H hb he c0
  obtain ⟨_, z1, x1, k1, r1⟩ := hr_atO H hb he c1
  obtain rfl := int_inv r0
  obtain rfl := int_inv r1
  obtain rfl := ptr0_at q1 he o0
  obtain rfl := ptr0_at q3 he o0
  have H1 := hr_setC H hb he c1 (v := .int .i32 1) (.int _ _)
  have hcc := hc B w0 ρ [.pointer (some ⟨e.blk, 0, none⟩)] _ H1 (.cons q1 (.nil _)) hf
  refine (slow_calls e.blk w (fun w2 => ∃ ρ', HRel pr B w0 ρ' s1.st w2 ∧ Ext ρ ρ' s.next s1.next) k0 k1 z1 (hcc.mono fun e' w' hx => ?_)).mono fun e' w' hx => ?_
  · obtain ⟨v', ρ', rfl, _, r2, r3⟩ := hx
    have he' := r3.1 _ _ he
    obtain ⟨_, y0, u0, m0, n0⟩ := hr_atO r2 h1 he' d0
    obtain ⟨_, y1, u1, m1, n1⟩ := hr_atO r2 h1 he' d1
    obtain rfl := int_inv n0
    obtain rfl := int_inv n1
    exact ⟨⟨_, rfl⟩, m0, m1, y0, y1, ρ', r2, r3⟩
  · obtain ⟨rfl, w2, ⟨ρ', r2, r3⟩, rfl⟩ := hx
    have he' := r3.1 _ _ he
    have H2 := hr_setC r2.drew h1 he' d0 (v := .int .u32 1) (.int _ _)
    have H3 := hr_setC H2 lkH he' (o := 1) (by rw [List.getElem?_set_ne (by decide)]; exact d1) (v := .int .i32 0) (.int _ _)
    exact ⟨_, ρ', rfl, .tuple rfl (fun i v v' hv => by simp at hv), H3, r3⟩
end Go.Vf.S
end
section
/- Parts of a text. -/
namespace Go.Vf.S
open Go Go.Vf
attribute [local irreducible] wSeq wRow wp wG
set_option linter.unusedVariables false
set_option linter.unusedSimpArgs false
set_option maxRecDepth 10000

/-- The first part, and the others. -/
def sp (c : UInt8) : List UInt8 → List UInt8 × List (List UInt8)
  | [] => ([], [])
  | x :: r => if x = c then ([], (sp c r).1 :: (sp c r).2) else (x :: (sp c r).1, (sp c r).2)
def splitF (c : UInt8) (l : List UInt8) : List (List UInt8) := (sp c l).1 :: (sp c l).2
theorem sp_first {c : UInt8} {r : List UInt8} : ∀ {f : List UInt8}, c ∉ f → sp c (f ++ c :: r) = (f, (sp c r).1 :: (sp c r).2)
  | [], _ => by simp [sp]
  | x :: f, h => by
    have h1 : ¬x = c := fun e => h (by simp [e])
    rw [List.cons_append, sp, if_neg h1, sp_first (f := f) (fun q => h (by simp [q]))]
theorem split_first {c : UInt8} {r f : List UInt8} (h : c ∉ f) : splitF c (f ++ c :: r) = f :: splitF c r := by unfold splitF; rw [sp_first h]
theorem split_last {c : UInt8} : ∀ {l : List UInt8}, l.count c = 0 → splitF c l = [l]
  | [], _ => rfl
  | x :: l, h => by
    have h1 : ¬x = c := fun e => by subst e; simp at h
    rw [List.count_cons_of_ne h1] at h
    have := split_last (c := c) (l := l) h
    unfold splitF at this ⊢
    rw [sp, if_neg h1]
    simp only [List.cons.injEq] at this ⊢
    exact ⟨⟨trivial, this.1⟩, this.2⟩
theorem split_len {c : UInt8} : ∀ (l : List UInt8), (splitF c l).length = l.count c + 1
  | [] => rfl
  | x :: l => by
    have := split_len (c := c) l
    unfold splitF at this ⊢
    rw [sp]
    by_cases h : x = c
    · subst h
      rw [if_pos rfl, List.count_cons_self]
      simp only [List.length_cons] at this ⊢
      omega
    · rw [if_neg h, List.count_cons_of_ne h]
      simp only [List.length_cons] at this ⊢
      omega
theorem index_first {c : UInt8} {r : List UInt8} : ∀ {f : List UInt8}, c ∉ f → Lib.indexByte (f ++ c :: r) c = f.length
  | [], _ => by simp [Lib.indexByte]
  | x :: f, h => by
    have h1 : (x == c) = false := by simp; exact fun e => h (by simp [e])
    have ih := index_first (c := c) (r := r) (f := f) (fun q => h (by simp [q]))
    rw [List.cons_append, Lib.indexByte, h1, ih]
    have : ((f.length : Int) == -1) = false := by simp <;> omega
    rw [this]
    simp

theorem byte_back (c : UInt8) : ((c.toNat : Int).toNat).toUInt8 = c := by simp

theorem indexByte_w {s : SS} {l : List UInt8} {c : UInt8} : CallW pr n_internal_stringslite_IndexByte [str l, .int .u8 c.toNat] s fun v s' => v = .int .i64 (Lib.indexByte l c) ∧ s' = s := by
  refine CallW.run good ok_internal_stringslite_IndexByte (by simp) rfl ?_
  (try refine pSeq ?_); (repeat refine sb ?_)
  refine xtn_W Go.Proofs.Tryz.func123 (by kernel_rfl) (by kernel_rfl) (by kernel_rfl) (by kernel_rfl) rfl rfl rfl rfl (fun w => by rw [Lib.run_indexByteString, byte_back]) ?_
  (repeat refine sb ?_)
  exact ⟨rfl, rfl⟩

theorem count_w {s : SS} {l : List UInt8} {c : UInt8} : CallW pr n_strings_Count [str l, str [c]] s fun v s' => v = .int .i64 (l.count c : Nat) ∧ s' = s := by
  refine CallW.run good ok_strings_Count (by simp) rfl ?_
  (try refine pSeq ?_); (repeat refine sb ?_)
  intro n hn
  (repeat refine sb ?_)
  intro q hq
  obtain rfl : q = false := by rw [hq, hn]; rfl
  (repeat refine sb ?_)
  intro n hn
  (repeat refine sb ?_)
  intro q hq
  obtain rfl : q = true := by rw [hq, hn]; rfl
  (repeat refine sb ?_)
  refine ⟨by simp, ?_⟩
  intro m hm
  obtain rfl : m = 0 := by omega
  refine ⟨c, rfl, ?_⟩
  (repeat refine sb ?_)
  refine xtn_W Go.Proofs.Tryz.func113 (by kernel_rfl) (by kernel_rfl) (by kernel_rfl) (by kernel_rfl) rfl rfl rfl rfl (fun w => by rw [Lib.run_countString, byte_back]) ?_
  (repeat refine sb ?_)
  exact ⟨rfl, rfl⟩

theorem index1_w {s : SS} {l : List UInt8} {c : UInt8} (hne : l ≠ []) : CallW pr n_strings_Index [str l, str [c]] s fun v s' => v = .int .i64 (Lib.indexByte l c) ∧ s' = s := by
  refine CallW.run good ok_strings_Index (by simp) rfl ?_
  (try refine pSeq ?_); (repeat(first|refine sb ?_|refine gOn rfl ?_|refine gOff rfl rfl ?_|refine gTup rfl ?_))
  refine (show CallW pr n_internal_stringslite_Index [str l, str [c]] s fun v s' => v = .int .i64 (Lib.indexByte l c) ∧ s' = s from ?_).mono fun v s q => ?_
  · refine CallW.run good ok_internal_stringslite_Index (by simp) rfl ?_
    (try refine pSeq ?_); (repeat(first|refine sb ?_|refine gOn rfl ?_|refine gOff rfl rfl ?_|refine gTup rfl ?_))
    intro n hn
    (repeat(first|refine sb ?_|refine gOn rfl ?_|refine gOff rfl rfl ?_|refine gTup rfl ?_))
    intro q hq
    obtain rfl : q = false := by rw [hq, hn]; rfl
    (repeat(first|refine sb ?_|refine gOn rfl ?_|refine gOff rfl rfl ?_|refine gTup rfl ?_))
    intro q hq
    by_cases he : [c] = l
    · subst he
      obtain rfl : q = true := by rw [hq]; simp
      (repeat(first|refine sb ?_|refine gOn rfl ?_|refine gOff rfl rfl ?_|refine gTup rfl ?_))
      exact ⟨by show Value.int .i64 0 = _; simp [Lib.indexByte], rfl⟩
    · obtain rfl : q = false := by rw [hq]; simp [he]
      (repeat(first|refine sb ?_|refine gOn rfl ?_|refine gOff rfl rfl ?_|refine gTup rfl ?_))
      intro q hq
      obtain rfl : q = true := by rw [hq, hn]; rfl
      (repeat(first|refine sb ?_|refine gOn rfl ?_|refine gOff rfl rfl ?_|refine gTup rfl ?_))
      refine ⟨by simp, ?_⟩
      intro m hm
      obtain rfl : m = 0 := by omega
      refine ⟨c, rfl, ?_⟩
      (repeat(first|refine sb ?_|refine gOn rfl ?_|refine gOff rfl rfl ?_|refine gTup rfl ?_))
      refine indexByte_w.mono fun v s q => ?_
      obtain ⟨rfl, rfl⟩ := q
      (repeat(first|refine sb ?_|refine gOn rfl ?_|refine gOff rfl rfl ?_|refine gTup rfl ?_))
      exact ⟨rfl, rfl⟩
  obtain ⟨rfl, rfl⟩ := q
  (repeat(first|refine sb ?_|refine gOn rfl ?_|refine gOff rfl rfl ?_|refine gTup rfl ?_))
  exact ⟨rfl, rfl⟩

def strV (ls : List (List UInt8)) : List Value := ls.map str
theorem strV_len (ls : List (List UInt8)) : (strV ls).length = ls.length := by simp [strV]
/-- A row of texts that a slice reads. -/
def StrsAt (s : SS) (base : Option Addr) (ls : List (List UInt8)) : Prop :=
  ∃ b cs t g r, base = some ⟨b, 0, none⟩ ∧ b < s.next ∧ lookH s.heap b = some (.cells cs t g r) ∧ ∀ (i : Nat) x, ls[i]? = some x → cs[i]? = some (str x)
theorem StrsAt.chg {s s' : SS} {base : Option Addr} {ls : List (List UInt8)} {A : List Nat} (h : StrsAt s base ls) (c : Chg s s' A) (hA : ∀ id ∈ blkOf base, id ∉ A) : StrsAt s' base ls := by
  obtain ⟨b, cs, t, g, r, rfl, h1, h2, h3⟩ := h
  exact ⟨b, cs, t, g, r, rfl, Nat.lt_of_lt_of_le h1 c.next, c.blk _ _ h1 (hA b (by simp [blkOf])) h2, h3⟩

structure PIt where
  done : List (List UInt8)
  rest : List UInt8
  s : SS

theorem set_row (done : List (List UInt8)) (f : List UInt8) (k : Nat) : (strV done ++ List.replicate (k + 1) (str [])).set done.length (str f) = strV (done ++ [f]) ++ List.replicate k (str []) := by
  rw [List.set_append_right _ _ (by rw [strV_len]; omega), strV_len, Nat.sub_self, List.replicate_succ, List.set_cons_zero]
  simp [strV]

theorem repeat_str : ∀ n : Nat, repeatL n [str []] = List.replicate n (str [])
  | 0 => rfl
  | n + 1 => by
    show [str []] ++ repeatL n [str []] = _
    rw [repeat_str n, List.replicate_succ]
    rfl

theorem slL_pre {P : Program} {T : TL} {s : SS} {K : RR → Prop} {z n cap m b off : Nat} {cs : List Value} {t : TypeId} {r : Bool} {x hi : Operand} {k : Int} (hx : opd T s.gl x = some (.slice (some ⟨b, off, none⟩) n cap)) (hh : opd T s.gl hi = some (.int .i64 k))
    (hb : lookH s.heap b = some (.cells cs t false r)) (hk : k = (m : Int)) (hm : m ≤ cap) (h : K (.val (.slice (some ⟨b, off, none⟩) m cap))) : wN P (.slL z x none (some hi)) T s K := by
  subst hk
  simp only [wN, hx, opdO, hh, hb, wBnd]
  refine ⟨by omega, fun j hj o n' d ho hn hd => ?_⟩
  obtain rfl : j = m := by omega
  have e : o = off := by
    rw [ho]
    split <;> simp
  rw [e, hn, hd, Nat.sub_zero, Nat.sub_zero]
  exact h

/-- A row whose room is all its own. -/
def Full (s : SS) (base : Option Addr) : Prop := ∃ b cs, base = some ⟨b, 0, none⟩ ∧ lookH s.heap b = some (.cells cs tS false false)
theorem split_f {s : SS} {l : List UInt8} {c : UInt8} (hl : l.length ≤ 1000000) : CallW pr n_strings_genSplit [str l, str [c], .int .i64 0, .int .i64 (-1)] s fun v s' => ∃ base cap, v = .slice base (splitF c l).length cap ∧ StrsAt s' base (splitF c l) ∧ Chg s s' [] ∧ (∀ id ∈ blkOf base, s.next ≤ id) ∧ (splitF c l).length ≤ cap ∧ Full s' base := by
  refine CallW.run good ok_strings_genSplit (by simp) rfl ?_
  have hcl : l.count c ≤ l.length := List.count_le_length
  (try refine pSeq ?_); (repeat refine sb ?_)
  intro q hq; obtain rfl : q = false := (by rw [hq]; simp <;> omega); (repeat refine sb ?_)
  intro q hq; obtain rfl : q = false := (by rw [hq]; simp <;> omega); (repeat refine sb ?_)
  intro q hq; obtain rfl : q = true := (by rw [hq]; simp <;> omega); (repeat refine sb ?_)
  refine count_w.mono fun v s q => ?_
  obtain ⟨rfl, rfl⟩ := q
  (repeat refine sb ?_)
  intro z hz
  rw [i64_id (by omega)] at hz
  (repeat refine sb ?_)
  intro n hn
  (repeat refine sb ?_)
  intro z2 hz2
  rw [i64_id (by omega)] at hz2
  (repeat refine sb ?_)
  intro z3 hz3
  obtain rfl : z3 = ((l.count c + 1 : Nat) : Int) := by omega
  (repeat refine sb ?_)
  refine ⟨by omega, ?_⟩
  intro m k hm hk cs hcs
  obtain rfl : m = l.count c + 1 := by omega
  obtain rfl : k = l.count c + 1 := by omega
  rw [repeat_str] at hcs
  subst hcs
  (repeat refine sb ?_)
  intro z4 hz4
  rw [i64_id (by omega)] at hz4
  obtain rfl : z4 = ((l.count c : Nat) : Int) := by omega
  (repeat refine sb ?_)
  refine pLoop (MW.head good (fun x : PIt => x.rest.count c) (fun x => splitF c l = x.done ++ splitF c x.rest ∧ x.rest.length ≤ l.length ∧ l.count c = x.done.length + x.rest.count c ∧ Chg s x.s [] ∧ s.next < x.s.next ∧ lookH x.s.heap s.next = some (.cells (strV x.done ++ List.replicate (x.rest.count c + 1) (str [])) tS false false))
    (fun x => [(0, str x.rest), (1, str [c]), (2, .int .i64 0), (3, .int .i64 (l.count c : Nat)), (9, .slice (some ⟨s.next, 0, none⟩) (l.count c + 1) (l.count c + 1)), (10, .int .i64 x.done.length)]) (fun x => x.s) ⟨[], l, _⟩ ⟨rfl, Nat.le_refl _, by simp, .new _, Nat.lt_succ_self _, lkH⟩ (Wk.same ⟨rfl, rfl, rfl, rfl, rfl, rfl, trivial⟩) ?_)
  intro ⟨done, rest, s1⟩ ⟨h1, h2, h3, c1, h4, h5⟩
  dsimp only at h1 h2 h3 c1 h4 h5 ⊢
  (repeat refine sb ?_)
  intro q hq
  by_cases hlt : 0 < rest.count c
  · obtain rfl : q = true := by rw [hq]; simp <;> omega
    obtain ⟨f, r, rfl, hf⟩ := List.eq_append_cons_of_mem (List.count_pos_iff.1 hlt)
    have hfc : f.count c = 0 := List.count_eq_zero.2 hf
    have hcount : (f ++ c :: r).count c = r.count c + 1 := by rw [List.count_append, List.count_cons_self, hfc]; omega
    have hlen : (f ++ c :: r).length = f.length + 1 + r.length := by simp; omega
    (repeat refine sb ?_)
    refine (index1_w (by simp)).mono fun v s1 q => ?_
    obtain ⟨rfl, rfl⟩ := q
    rw [index_first hf]
    rw [split_first hf] at h1
    (repeat refine sb ?_)
    intro q hq; obtain rfl : q = false := (by rw [hq]; simp <;> omega); (repeat refine sb ?_)
    intro z hz
    rw [i64_id (by omega)] at hz
    (repeat refine sb ?_)
    refine ⟨by omega, ?_⟩
    intro m hm g hg
    obtain rfl : m = f.length := by omega
    have eg : g = f := by rw [hg]; simp
    clear hg
    subst eg
    (repeat refine sb ?_)
    refine ⟨by omega, ?_⟩
    intro m hm o ho
    obtain rfl : m = done.length := by omega
    (repeat refine sb ?_)
    refine st_abs (cs' := strV (done ++ [g]) ++ List.replicate (r.count c + 1) (str [])) rfl rfl h5 h4 rfl ?_ fun s2 e2 c2 n2 => ?_
    · rw [ho, Nat.zero_add, Nat.mul_one]
      show setRow _ _ [_] = _
      rw [setRow_one (by rw [List.length_append, strV_len, List.length_replicate]; omega), hcount, set_row]
    (repeat refine sb ?_)
    intro n hn
    (repeat refine sb ?_)
    intro z2 hz2
    have hn1 : n = 1 := by rw [hn]; rfl
    rw [hn1, i64_id (by omega)] at hz2
    (repeat refine sb ?_)
    refine ⟨by omega, ?_⟩
    intro m hm r2 hr2
    obtain rfl : m = g.length + 1 := by omega
    have er : r2 = r := by
      rw [hr2, List.take_of_length_le (by simp <;> omega)]
      rw [show g ++ c :: r = (g ++ [c]) ++ r by simp, show g.length + 1 = (g ++ [c]).length by simp, List.drop_left]
    clear hr2
    subst er
    (repeat refine sb ?_)
    intro z3 hz3
    rw [i64_id (by omega)] at hz3
    obtain rfl : z3 = (((done ++ [g]).length : Nat) : Int) := by simp; omega
    (repeat refine sb ?_)
    refine ⟨⟨done ++ [g], r2, s2⟩, ⟨by rw [h1]; simp, by show r2.length ≤ l.length; omega, by show l.count c = (done ++ [g]).length + r2.count c; simp; omega, c1.fresh c2 (by simp), by show s.next < s2.next; omega, e2⟩, by show r2.count c < (g ++ c :: r2).count c; omega, Wk.same ⟨rfl, rfl, rfl, rfl, rfl, rfl, trivial⟩⟩
  · obtain rfl : q = false := by rw [hq]; simp <;> omega
    have h0 : rest.count c = 0 := by omega
    rw [split_last h0] at h1
    rw [h0, Nat.add_zero] at h3
    rw [h0] at h5
    (repeat refine sb ?_)
    refine ⟨by omega, ?_⟩
    intro m hm o ho
    obtain rfl : m = done.length := by omega
    (repeat refine sb ?_)
    refine st_abs (cs' := strV (done ++ [rest])) rfl rfl h5 h4 rfl ?_ fun s2 e2 c2 n2 => ?_
    · rw [show o = done.length by omega]
      show setRow _ _ [_] = _
      rw [setRow_one (by rw [List.length_append, strV_len, List.length_replicate]; omega)]
      exact congrArg some ((set_row done rest 0).trans (by simp [strV]))
    (repeat refine sb ?_)
    intro z hz
    rw [i64_id (by omega)] at hz
    (repeat refine sb ?_)
    refine slL_pre (m := l.count c + 1) rfl rfl e2 (by omega) (Nat.le_refl _) ?_
    (repeat refine sb ?_)
    refine ⟨_, _, by rw [split_len]; rfl, ⟨s.next, _, _, _, _, rfl, by omega, e2, fun i x hx => ?_⟩, c1.fresh c2 (by simp), by simp [blkOf], by rw [split_len]; exact Nat.le_refl _, ⟨_, _, rfl, e2⟩⟩
    rw [h1] at hx
    simp only [strV, List.getElem?_map, hx]
    rfl

theorem split_w {s : SS} {l : List UInt8} {c : UInt8} (hl : l.length ≤ 1000000) : CallW pr n_strings_genSplit [str l, str [c], .int .i64 0, .int .i64 (-1)] s fun v s' => ∃ base cap, v = .slice base (splitF c l).length cap ∧ StrsAt s' base (splitF c l) ∧ Chg s s' [] ∧ (∀ id ∈ blkOf base, s.next ≤ id) ∧ (splitF c l).length ≤ cap := by
  refine (split_f hl).mono fun v s1 q => ?_
  obtain ⟨base, cap, rfl, h1, c1, h2, h3, -⟩ := q
  exact ⟨base, cap, rfl, h1, c1, h2, h3⟩

structure PIt2 where
  i : Nat
  f : Nat
  done : List (List UInt8)
  s : SS
  W : Option Addr
  cw : Nat

theorem StrsAt.at {s : SS} {base : Option Addr} {ls : List (List UInt8)} (h : StrsAt s base ls) : ∃ b, base = some ⟨b, 0, none⟩ ∧ ∃ cs t g r, lookH s.heap b = some (.cells cs t g r) ∧ ∀ (i : Nat) x, ls[i]? = some x → cs[i]? = some (str x) := by
  obtain ⟨b, cs, t, g, r, h1, h2, h3, h4⟩ := h
  exact ⟨b, h1, cs, t, g, r, h3, h4⟩

theorem ldS_is {P : Program} {T : TL} {s : SS} {K : RR → Prop} {x : Operand} {b off : Nat} {cs : List Value} {t : TypeId} {g r : Bool} {l : List UInt8} (hx : opd T s.gl x = some (.pointer (some ⟨b, off, none⟩))) (hb : lookH s.heap b = some (.cells cs t g r)) (hc : cs[off]? = some (str l))
    (h : K (.val (str l))) : wN P (.ldS x) T s K := by
  simp only [wN, hx, hb]
  exact ⟨l, hc, h⟩

theorem idx_no {c : UInt8} : ∀ {l : List UInt8}, c ∉ l → Lib.indexByte l c = -1
  | [], _ => rfl
  | x :: l, h => by
    have h1 : (x == c) = false := by simp; exact fun e => h (by simp [e])
    rw [Lib.indexByte, h1, idx_no (l := l) fun q => h (by simp [q])]
    rfl
end Go.Vf.S
end
section
/- A row of texts that is full; a text cut. -/
namespace Go.Vf.S
open Go Go.Vf Go.Proofs Go.RowKit
attribute [local irreducible] wSeq wRow wp wG
set_option linter.unusedVariables false
set_option linter.unusedSimpArgs false
set_option maxRecDepth 10000

/-- A row of texts, a block of its own that is full. -/
def RowC (s : SS) (b : Nat) (ls : List (List UInt8)) : Prop := b < s.next ∧ lookH s.heap b = some (.cells (strV ls) tS false false)
theorem RowC.chg {s s' : SS} {b : Nat} {ls : List (List UInt8)} {A : List Nat} (h : RowC s b ls) (c : Chg s s' A) (hA : b ∉ A) : RowC s' b ls := ⟨Nat.lt_of_lt_of_le h.1 c.next, c.blk _ _ h.1 hA h.2⟩
theorem strV_get {ls : List (List UInt8)} {i : Nat} {x : List UInt8} (h : ls[i]? = some x) : (strV ls)[i]? = some (str x) := by unfold strV; rw [List.getElem?_map, h]; rfl
theorem RowC.own {s : SS} {b : Nat} {ls : List (List UInt8)} (h : RowC s b ls) : OwnR tS s (some ⟨b, 0, none⟩) ls.length ls.length (strV ls) := ⟨rfl, rfl, h.1, false, h.2, fun _ => rfl⟩
theorem slS_hi {T : TL} {s : SS} {K : RR → Prop} {x y : Operand} {l : List UInt8} {k : IntKind} {z : Int} (h : Nat) (hx : opd T s.gl x = some (str l)) (hy : opd T s.gl y = some (.int k z)) (hz : z = (h : Int)) (hh : h ≤ l.length) (hK : K (.val (str (l.take h)))) : wN pr (.slS x none (some y)) T s K := by
  subst hz
  simp only [wN, hx, opdO, hy, wBnd]
  refine ⟨by omega, fun m hm r hr => ?_⟩
  obtain rfl : m = h := by omega
  rw [List.drop_zero, Nat.sub_zero] at hr
  subst hr
  exact hK
theorem slS_lo {T : TL} {s : SS} {K : RR → Prop} {x y : Operand} {l : List UInt8} {k : IntKind} {z : Int} (a : Nat) (hx : opd T s.gl x = some (str l)) (hy : opd T s.gl y = some (.int k z)) (hz : z = (a : Int)) (ha : a ≤ l.length) (hK : K (.val (str (l.drop a)))) : wN pr (.slS x (some y) none) T s K := by
  subst hz
  simp only [wN, hx, opdO, hy, wBnd]
  refine ⟨by omega, fun m hm r hr => ?_⟩
  obtain rfl : m = a := by omega
  rw [List.take_of_length_le (by rw [List.length_drop]; omega)] at hr
  subst hr
  exact hK
end Go.Vf.S
end
section
/- A text, quoted. -/
namespace Go.Vf.S
open Go Go.Vf
attribute [local irreducible] wSeq wRow wp wG
set_option linter.unusedVariables false
set_option linter.unusedSimpArgs false
set_option maxRecDepth 10000

def needs (c : UInt8) : Bool := decide (c.toNat = 34 ∨ c.toNat = 92)
structure QIt where
  p : Nat
  s : SS
  base : Option Addr
  cap : Nat

end Go.Vf.S
end
section
/- Lower case; numbers. -/
namespace Go.Vf.S
open Go Go.Vf
attribute [local irreducible] wSeq wRow wp wG
set_option linter.unusedVariables false
set_option linter.unusedSimpArgs false
set_option maxRecDepth 10000

def upB (c : UInt8) : Bool := decide (65 ≤ c.toNat ∧ c.toNat ≤ 90)
def lowB (c : UInt8) : UInt8 := if upB c then c + 32 else c
theorem lowB_up {c : UInt8} (h : upB c = true) : (lowB c).toNat = c.toNat + 32 := by
  unfold lowB
  rw [if_pos h]
  have : 65 ≤ c.toNat ∧ c.toNat ≤ 90 := by simpa [upB] using h
  rw [UInt8.toNat_add]
  have e : (32 : UInt8).toNat = 32 := rfl
  omega
theorem lowB_no {c : UInt8} (h : ¬upB c = true) : lowB c = c := by unfold lowB; rw [if_neg h]

end Go.Vf.S
end
section
/- Tables as texts, pure: blanks, words, values. -/
namespace Go.Vf.S
open Go Go.Vf
set_option linter.unusedVariables false
set_option linter.unusedSimpArgs false
set_option maxRecDepth 10000

/-! ### Blanks -/
def wsB (c : UInt8) : Bool := c == 32 || c == 9
def trL (l : List UInt8) : List UInt8 := l.dropWhile wsB
def trR (l : List UInt8) : List UInt8 := (l.reverse.dropWhile wsB).reverse
def trB (l : List UInt8) : List UInt8 := trR (trL l)
theorem trL_ws {p l : List UInt8} (hp : p.all wsB = true) : trL (p ++ l) = trL l := by
  unfold trL
  induction p with
  | nil => rfl
  | cons c p ih =>
    rw [List.all_cons, Bool.and_eq_true] at hp
    rw [List.cons_append, List.dropWhile_cons, if_pos hp.1]
    exact ih hp.2
theorem trL_not {c : UInt8} {l : List UInt8} (h : wsB c = false) : trL (c :: l) = c :: l := by
  unfold trL
  rw [List.dropWhile_cons, if_neg (by simp [h])]
theorem trL_all {l : List UInt8} (h : l.all wsB = true) : trL l = [] := by
  have := trL_ws (l := []) h
  rw [List.append_nil] at this
  exact this
theorem trR_ws {p l : List UInt8} (hp : p.all wsB = true) : trR (l ++ p) = trR l := by
  unfold trR
  rw [List.reverse_append]
  have := trL_ws (p := p.reverse) (l := l.reverse) (by rw [List.all_reverse]; exact hp)
  unfold trL at this
  rw [this]
theorem trR_not {c : UInt8} {l : List UInt8} (h : wsB c = false) : trR (l ++ [c]) = l ++ [c] := by
  unfold trR
  rw [List.reverse_append, List.reverse_singleton, List.singleton_append, List.dropWhile_cons, if_neg (by simp [h])]
  simp
/-- No blank at its ends, and not nothing. -/
def bareB (l : List UInt8) : Prop := ∃ c d, l.head? = some c ∧ wsB c = false ∧ l.getLast? = some d ∧ wsB d = false
theorem bare_trB {l : List UInt8} (h : bareB l) : trB l = l := by
  obtain ⟨c, d, h1, h2, h3, h4⟩ := h
  have eL : trL l = l := by
    cases l with
    | nil => cases h1
    | cons x r =>
      obtain rfl : x = c := Option.some.inj h1
      exact trL_not h2
  obtain ⟨l', rfl⟩ := List.getLast?_eq_some_iff.1 h3
  unfold trB
  rw [eL]
  exact trR_not h4
theorem bare_ws {p q l : List UInt8} (hp : p.all wsB = true) (hq : q.all wsB = true) (h : bareB l) : trB (p ++ l ++ q) = l := by
  have e1 : trL (p ++ l ++ q) = l ++ q := by
    rw [List.append_assoc, trL_ws hp]
    obtain ⟨c, d, h1, h2, _, _⟩ := h
    cases l with
    | nil => cases h1
    | cons x r =>
      obtain rfl : x = c := Option.some.inj h1
      exact trL_not h2
  unfold trB
  rw [e1, trR_ws hq]
  have := bare_trB h
  unfold trB at this
  have eL : trL l = l := by
    obtain ⟨c, d, h1, h2, _, _⟩ := h
    cases l with
    | nil => cases h1
    | cons x r =>
      obtain rfl : x = c := Option.some.inj h1
      exact trL_not h2
  rw [eL] at this
  exact this
/-! ### Quotes -/
def nqB (c : UInt8) : Bool := c == 34 || c == 92
def esB (c : UInt8) : List UInt8 := if nqB c = true then [92, c] else [c]
/-- What stands up to the quote that ends, and what behind it. -/
def quG : Bool → List UInt8 → Option (List UInt8 × List UInt8)
  | _, [] => none
  | true, c :: r => (quG false r).map fun x => (c :: x.1, x.2)
  | false, c :: r => if c = 34 then some ([], r) else if c = 92 then quG true r else (quG false r).map fun x => (c :: x.1, x.2)
def quF (l : List UInt8) : Option (List UInt8 × List UInt8) := quG false l
theorem qg_es : ∀ (w r : List UInt8), quG false (w.flatMap esB ++ 34 :: r) = some (w, r)
  | [], r => by
    show quG false (34 :: r) = _
    rw [quG, if_pos rfl]
  | c :: w, r => by
    have ih := qg_es w r
    rw [List.flatMap_cons, List.append_assoc]
    by_cases h : nqB c = true
    · have e : esB c = [92, c] := if_pos h
      rw [e]
      show quG false (92 :: c :: (w.flatMap esB ++ 34 :: r)) = _
      rw [quG, if_neg (by decide), if_pos rfl, quG, ih]
      rfl
    · have e : esB c = [c] := if_neg h
      have h1 : c ≠ 34 := fun q => h (by rw [q]; rfl)
      have h2 : c ≠ 92 := fun q => h (by rw [q]; rfl)
      rw [e]
      show quG false (c :: (w.flatMap esB ++ 34 :: r)) = _
      rw [quG, if_neg h1, if_neg h2, ih]
      rfl
theorem qu_es (w r : List UInt8) : quF (w.flatMap esB ++ 34 :: r) = some (w, r) := qg_es w r

/-! ### A word, up to a byte -/
/-- The word, and what stands behind the byte that ends it (none: the text ends). -/
def wdF (e : UInt8) (l : List UInt8) : Option (List UInt8 × Option (List UInt8)) :=
  match trL l with
  | 34 :: r => match quF r with
    | none => none
    | some (w, t) => match trL t with
      | [] => some (w, none)
      | c :: u => if c = e then some (w, some u) else none
  | r => if (34 : UInt8) ∈ r.takeWhile (· != e) ∨ trB (r.takeWhile (· != e)) = [] then none
    else some (trB (r.takeWhile (· != e)), if r.takeWhile (· != e) = r then none else some (r.drop ((r.takeWhile (· != e)).length + 1)))
/-- Plain, as a key and as a value, and as Quote asks it. -/
def pnF (s : List UInt8) : Bool := decide (s ≠ [] ∧ trB s = s ∧ s.head? ≠ some 35) && s.all fun c => !(c == 58 || c == 44 || c == 34)
def qtF (s : List UInt8) : List UInt8 := if pnF s = true then s else 34 :: s.flatMap esB ++ [34]
theorem tw_app {e : UInt8} {s r : List UInt8} (h : ∀ c ∈ s, c ≠ e) : (s ++ e :: r).takeWhile (· != e) = s := by
  induction s with
  | nil => simp
  | cons c s ih => rw [List.cons_append, List.takeWhile_cons, if_pos (by simp [h c (by simp)]), ih fun x hx => h x (by simp [hx])]
theorem tw_all {e : UInt8} {s : List UInt8} (h : ∀ c ∈ s, c ≠ e) : s.takeWhile (· != e) = s := by
  induction s with
  | nil => rfl
  | cons c s ih => rw [List.takeWhile_cons, if_pos (by simp [h c (by simp)]), ih fun x hx => h x (by simp [hx])]
theorem trB_bare {s : List UInt8} (h0 : s ≠ []) (h : trB s = s) : bareB s := by
  have key : ∀ l : List UInt8, trL l = [] ∨ ∃ c r, trL l = c :: r ∧ wsB c = false := by
    intro l
    unfold trL
    induction l with
    | nil => exact .inl rfl
    | cons c r ih =>
      rw [List.dropWhile_cons]
      by_cases hc : wsB c = true
      · rw [if_pos hc]; exact ih
      · rw [if_neg hc]; exact .inr ⟨c, r, rfl, by simpa using hc⟩
  have hlen : ∀ l : List UInt8, (trL l).length ≤ l.length := fun l => (List.dropWhile_sublist _).length_le
  have eL : trL s = s := by
    have h1 : (trB s).length ≤ (trL s).length := by
      unfold trB trR
      rw [List.length_reverse]
      have := hlen (trL s).reverse
      unfold trL at this
      rw [List.length_reverse] at this
      exact this
    rw [h] at h1
    have h2 : (s.takeWhile wsB).length + (trL s).length = s.length := by
      have := congrArg List.length (List.takeWhile_append_dropWhile (p := wsB) (l := s))
      rw [List.length_append] at this
      exact this
    have h3 : s.takeWhile wsB = [] := List.eq_nil_of_length_eq_zero (by omega)
    have := List.takeWhile_append_dropWhile (p := wsB) (l := s)
    rw [h3, List.nil_append] at this
    exact this
  have eR : trR s = s := by unfold trB at h; rw [eL] at h; exact h
  have eR' : trL s.reverse = s.reverse := by
    unfold trR at eR
    have := congrArg List.reverse eR
    rw [List.reverse_reverse] at this
    exact this
  obtain ⟨c, r, hc, hc2⟩ := (key s).resolve_left (fun q => h0 (by rw [← eL, q]))
  obtain ⟨d, t, hd, hd2⟩ := (key s.reverse).resolve_left (fun q => h0 (by rw [← List.reverse_eq_nil_iff, ← eR', q]))
  refine ⟨c, d, by rw [← eL, hc]; rfl, hc2, ?_, hd2⟩
  rw [← List.head?_reverse, ← eR', hd]
  rfl
theorem pn_bare {s : List UInt8} (h : pnF s = true) : bareB s ∧ (∀ c ∈ s, c ≠ 58 ∧ c ≠ 44 ∧ c ≠ 34) ∧ s.head? ≠ some 35 := by
  unfold pnF at h
  rw [Bool.and_eq_true] at h
  obtain ⟨h1, h2, h3⟩ := of_decide_eq_true h.1
  refine ⟨trB_bare h1 h2, fun c hc => ?_, h3⟩
  have := List.all_eq_true.1 h.2 c hc
  simp at this
  exact ⟨this.1.1, this.1.2, this.2⟩
/-- What is quoted is read as it was: blanks about it; at the end, or up to the byte that ends it. -/
theorem wd_qt {e : UInt8} (he : e = 58 ∨ e = 44) {p q s : List UInt8} (hp : p.all wsB = true) (hq : q.all wsB = true) (t : Option (List UInt8)) :
    wdF e (p ++ qtF s ++ q ++ (match t with | none => [] | some u => e :: u)) = some (s, t) := by
  have hews : wsB e = false := by rcases he with rfl | rfl <;> rfl
  unfold wdF
  by_cases h : pnF s = true
  · obtain ⟨hb, hc, _⟩ := pn_bare h
    have hqt : qtF s = s := if_pos h
    obtain ⟨c, d, h1, h2, h3, h4⟩ := hb
    have hne : ∀ x ∈ s ++ q, x ≠ e := by
      intro x hx
      rcases List.mem_append.1 hx with hx | hx
      · rcases he with rfl | rfl
        · exact (hc x hx).1
        · exact (hc x hx).2.1
      · intro q'
        have := List.all_eq_true.1 hq x hx
        rw [q', hews] at this
        cases this
    have h34 : (34 : UInt8) ∉ s ++ q := by
      intro hx
      rcases List.mem_append.1 hx with hx | hx
      · exact (hc _ hx).2.2 rfl
      · have := List.all_eq_true.1 hq _ hx
        cases this
    have etr : trB (s ++ q) = s := by
      have := bare_ws (p := []) rfl hq ⟨c, d, h1, h2, h3, h4⟩
      simpa using this
    have hs0 : s ≠ [] := fun e => by rw [e] at h1; cases h1
    have hd34 : ∀ X : List UInt8, ∃ r, s ++ q ++ X = c :: r ∧ c ≠ 34 := by
      intro X
      cases s with
      | nil => exact absurd rfl hs0
      | cons x r =>
        obtain rfl : x = c := Option.some.inj h1
        exact ⟨r ++ q ++ X, rfl, (hc x (by simp)).2.2⟩
    rw [hqt]
    have eL : ∀ X, trL (p ++ s ++ q ++ X) = s ++ q ++ X := by
      intro X
      rw [List.append_assoc, List.append_assoc, trL_ws hp, ← List.append_assoc]
      obtain ⟨r, hr, _⟩ := hd34 X
      rw [hr]
      exact trL_not h2
    rw [eL]
    obtain ⟨r, hr, hr2⟩ := hd34 (match t with | none => [] | some u => e :: u)
    split
    · rename_i r' hr'
      rw [hr] at hr'
      exact absurd (List.cons.inj hr').1 hr2
    · cases t with
      | none =>
        rw [List.append_nil, tw_all hne, if_neg (fun q' => q'.elim h34 (fun q'' => hs0 (by rw [← etr, q'']))), etr, if_pos rfl]
      | some u =>
        have et : (s ++ q ++ e :: u).takeWhile (· != e) = s ++ q := tw_app hne
        show (if (34 : UInt8) ∈ (s ++ q ++ e :: u).takeWhile (· != e) ∨ trB ((s ++ q ++ e :: u).takeWhile (· != e)) = [] then none else some (trB ((s ++ q ++ e :: u).takeWhile (· != e)), if (s ++ q ++ e :: u).takeWhile (· != e) = s ++ q ++ e :: u then none else some ((s ++ q ++ e :: u).drop (((s ++ q ++ e :: u).takeWhile (· != e)).length + 1)))) = _
        rw [et, if_neg (fun q' => q'.elim h34 (fun q'' => hs0 (by rw [← etr, q'']))), etr, if_neg (fun q' => by
          have := congrArg List.length q'
          rw [List.length_append (bs := e :: u), List.length_cons] at this
          omega)]
        congr 3
        rw [show s ++ q ++ e :: u = (s ++ q ++ [e]) ++ u by simp, show (s ++ q).length + 1 = (s ++ q ++ [e]).length by simp [Nat.add_assoc], List.drop_left]
  · have hqt : qtF s = 34 :: s.flatMap esB ++ [34] := if_neg h
    rw [hqt]
    have eL : ∀ X, trL (p ++ (34 :: s.flatMap esB ++ [34]) ++ q ++ X) = 34 :: (s.flatMap esB ++ 34 :: (q ++ X)) := by
      intro X
      rw [List.append_assoc, List.append_assoc, trL_ws hp]
      rw [List.cons_append, List.cons_append, trL_not (by decide)]
      simp
    rw [eL]
    show (match quF (s.flatMap esB ++ 34 :: (q ++ (match t with | none => [] | some u => e :: u))) with
      | none => none
      | some (w, t) => match trL t with
        | [] => some (w, none)
        | c :: u => if c = e then some (w, some u) else none) = _
    rw [qu_es]
    cases t with
    | none =>
      show (match trL (q ++ []) with
        | [] => some (s, none)
        | c :: u => if c = e then some (s, some u) else none) = _
      rw [List.append_nil, trL_all hq]
    | some u =>
      show (match trL (q ++ e :: u) with
        | [] => some (s, none)
        | c :: u => if c = e then some (s, some u) else none) = _
      rw [trL_ws hq, trL_not hews]
      show (if e = e then some (s, some u) else none) = _
      rw [if_pos rfl]
end Go.Vf.S
end
section
/- A replacer: made, built once. -/
namespace Go.Vf.S
open Go Go.Vf Go.Proofs Go.RowKit
attribute [local irreducible] wSeq wRow wp wG
set_option linter.unusedVariables false
set_option linter.unusedSimpArgs false
set_option maxRecDepth 10000

abbrev tRpc : TypeId := 116
abbrev tBsr : TypeId := 171
abbrev tBsp : TypeId := 172
abbrev fBuild : Nat := 63
theorem load_calls (b : Nat) (w : World) (h0 : w.cell? ⟨b, 0, none⟩ = some (.int .u32 0)) : Calls Tryz.prog 84 #[.pointer (some ⟨b, 0, none⟩)] w fun e w' => e = .returned (.bool false) ∧ w' = w := by
  have hl := run_call_load (P := Tryz.prog) Tryz.func104 (by kernel_rfl) (by kernel_rfl) (by kernel_rfl) .u32 (by kernel_rfl) h0
  go_enter Tryz.func84, Tryz.ntmps84
  go_wp2
  go_ret
  exact ⟨rfl, rfl⟩
theorem load0_w {s : SS} {b : Nat} {cs : List Value} {t : TypeId} (hb : lookH s.heap b = some (.cells cs t false false)) (c0 : cs[0]? = some (.int .u32 0)) : CallW pr n_sync_atomic_Bool_Load [ptrV b] s fun v s' => v = .bool false ∧ s' = s := by
  refine ⟨.bool false, s, ⟨rfl, rfl⟩, Nat.le_refl _, rfl, fun B w0 ρ args' w H ha hf => ?_⟩
  obtain ⟨p', rfl, q1⟩ := lrel_1 ha
  obtain ⟨a', e0, _, _, e, he, _⟩ := ptr_inv q1
  obtain ⟨o0, z0, x0, k0, r0⟩ := hr_atO H hb he c0
  obtain rfl := int_inv r0
  obtain rfl := ptr0_at q1 he o0
  refine (load_calls e.blk w k0).mono fun e' w' hx => ?_
  obtain ⟨rfl, rfl⟩ := hx
  exact ⟨_, ρ, rfl, .bool _, H, .refl _ _ _⟩
theorem once_w {s : SS} {b : Nat} {cs : List Value} {t : TypeId} {K : SS → List Value → Prop} (hb : lookH s.heap b = some (.cells cs t false false))
    (c0 : cs[0]? = some (.int .u32 0)) (c1 : cs[1]? = some (.int .i32 0))
    (hcall : CallW pr fBuild [ptrV b] { s with heap := (b, some (.cells (cs.set 1 (.int .i32 1)) t false false)) :: s.heap } fun v s' => v = .tuple ⟨[]⟩ ∧ ∃ cs', lookH s'.heap b = some (.cells cs' t false false) ∧ cs'[0]? = some (.int .u32 0) ∧ cs'[1]? = some (.int .i32 1) ∧ K s' cs') :
    CallW pr n_sync_Once_Do [ptrV b, .func (.func fBuild) #[ptrV b] #[]] s fun v s' => v = .tuple ⟨[]⟩ ∧ ∃ s1 cs', lookH s1.heap b = some (.cells cs' t false false) ∧ K s1 cs' ∧
      s' = { s1 with heap := (b, some (.cells ((cs'.set 0 (.int .u32 1)).set 1 (.int .i32 0)) t false false)) :: (b, some (.cells (cs'.set 0 (.int .u32 1)) t false false)) :: s1.heap } := by
  refine CallW.run good ok_sync_Once_Do (by simp) rfl ?_
  (try refine pSeq ?_); (repeat refine sb ?_)
  refine (load0_w hb c0).mono fun v s q => ?_
  obtain ⟨rfl, rfl⟩ := q
  (repeat refine sb ?_)
  intro q hq
  obtain rfl : q = true := by rw [hq]; rfl
  (repeat refine sb ?_)
  refine (slow_w hb c0 c1 hcall).mono fun v s q => ?_
  obtain ⟨rfl, hq⟩ := q
  (repeat refine sb ?_)
  exact ⟨rfl, hq⟩
/-- What is turned into what: a quote, a backslash. -/
def rpO : List (List UInt8) := [[34], [92, 34], [92], [92, 92]]
/-- A replacer as it is made, and as it is built. -/
structure RpS (s : SS) (p m : Nat) : Prop where
  lp : p < s.next
  lm : m < s.next
  hp : lookH s.heap p = some (.cells [.int .u32 0, .int .i32 0, .int .u32 0, .nilIface, .slice (some ⟨m, 0, none⟩) 4 0] tRpc false false)
  hm : lookH s.heap m = some (.cells (strV rpO) tS true false)
theorem app_nilR {T : TL} {s : SS} {K : RR → Prop} {x y : Operand} {t t' : TypeId} {size bytes b n c : Nat} {new : List Value} {g r : Bool} (hx : opd T s.gl x = some (.slice none 0 0)) (hy : opd T s.gl y = some (.slice (some ⟨b, 0, none⟩) n c)) (hb : lookH s.heap b = some (.cells new t' g r))
    (hl : new.length = n * size) (h0 : 0 < n) (hbd : n * bytes ≤ 140737488355328 ∧ n ≤ 4294967296) (ha : all1 new = true)
    (hK : K (.eff (.slice (some ⟨s.next, 0, none⟩) n 0) { s with heap := (s.next, some (.cells new t true false)) :: s.heap, next := s.next + 1 })) : wN pr (.app t size bytes x y) T s K := by
  simp only [wN, hx, hy, wSrc, hb]
  refine ⟨new, by rw [List.drop_zero, takeN_take _ _ (by omega), List.take_of_length_le (by omega)], ⟨⟨by rw [Nat.zero_add]; exact hbd.1, by rw [Nat.zero_add]; exact hbd.2, hl, ha⟩, ?_⟩⟩
  refine ⟨fun q => by omega, fun _ => ⟨rfl, fun m' hm' => ?_⟩⟩
  subst hm'
  exact hK
theorem newrp_w {s : SS} {b : Nat} (f : Fine s) (hb : RowC s b rpO) : CallW pr n_strings_NewReplacer [.slice (some ⟨b, 0, none⟩) 4 4] s fun v s' => ∃ p m, v = ptrV p ∧ RpS s' p m ∧ s.next ≤ p ∧ Chg s s' [] := by
  refine CallW.run good ok_strings_NewReplacer (by simp) rfl ?_
  (try refine pSeq ?_); (repeat refine sb ?_)
  refine ⟨by decide, ?_⟩
  intro z hz
  obtain rfl : z = 0 := by rw [hz]; decide
  (repeat refine sb ?_)
  intro q hq
  obtain rfl : q = false := by rw [hq]; decide
  (repeat refine sb ?_)
  refine app_nilR (n := 4) rfl rfl hb.2 rfl (by decide) ⟨by decide, by decide⟩ rfl ?_
  have lb := hb.1
  (repeat refine sb ?_)
  exact ⟨s.next + 1, s.next, rfl, ⟨Nat.lt_succ_self _, by show s.next < s.next + 1 + 1; omega, lkH, lkT (by show s.next + 1 ≠ s.next; omega) lkH⟩, Nat.le_succ _, (Chg.new []).nil (.new [])⟩
end Go.Vf.S
end
section
/- A replacer of bytes by texts: how it is built. -/
namespace Go.Vf.S
open Go Go.Vf Go.Proofs Go.RowKit
attribute [local irreducible] wSeq wRow wp wG
set_option linter.unusedVariables false
set_option linter.unusedSimpArgs false
set_option maxRecDepth 10000

/-- Behind what a slice holds, within its room. -/
theorem app_fit {T : TL} {s : SS} {K : RR → Prop} {x y : Operand} {e t t2 : TypeId} {bytes b len cap n b2 c2 : Nat} {c c' new : List Value} {g r : Bool} (hx : opd T s.gl x = some (.slice (some ⟨b, 0, none⟩) len cap)) (hb : lookH s.heap b = some (.cells c t false false)) (hlt : b < s.next)
    (hy : opd T s.gl y = some (.slice (some ⟨b2, 0, none⟩) n c2)) (hb2 : lookH s.heap b2 = some (.cells new t2 g r)) (hl : new.length = n) (hfit : len + n ≤ cap) (hbd : cap * bytes ≤ 140737488355328 ∧ cap ≤ 4294967296) (ha : all1 new = true) (hs : setRow c len new = some c')
    (hK : ∀ s' : SS, lookH s'.heap b = some (.cells c' t false false) → Chg s s' [b] → s'.next = s.next → K (.eff (.slice (some ⟨b, 0, none⟩) (len + n) cap) s')) : wN pr (.app e 1 bytes x y) T s K := by
  simp only [wN, hx, hy, wSrc, hb, hb2, wAppB]
  refine ⟨new, by rw [List.drop_zero, Nat.mul_one, takeN_take _ _ (by omega), List.take_of_length_le (by omega)], ⟨⟨Nat.le_trans (Nat.mul_le_mul_right _ hfit) hbd.1, Nat.le_trans hfit hbd.2, by rw [Nat.mul_one]; exact hl, ha⟩, ?_⟩⟩
  refine ⟨fun _ => ⟨trivial, c', by rw [Nat.zero_add, Nat.mul_one]; exact hs, fun m hm => ?_⟩, fun q => by omega⟩
  subst hm
  exact hK _ lkH (.turn hlt) rfl
abbrev nsV : Value := .slice none 0 0
/-- What stands for a byte, so far: both are built where j is 0, the backslash's alone where it is 1. -/
def bsV (j : Nat) (a b : Value) (i : Nat) : Value := if i = 92 ∧ j ≤ 1 then a else if i = 34 ∧ j = 0 then b else nsV
structure BsJ (s : SS) (q tr j : Nat) (a b : Nat) (cs : List Value) : Prop where
  len : cs.length = 257
  at_ : ∀ i, i < 256 → cs[i]? = some (bsV j (.slice (some ⟨a, 0, none⟩) 2 0) (.slice (some ⟨b, 0, none⟩) 2 0) i)
  row : cs[256]? = some (.slice (some ⟨tr, 0, none⟩) (2 - j) 2)
  hq : lookH s.heap q = some (.cells cs tBsr false false)
  lq : q < s.next
  lt : tr < s.next
  ht : lookH s.heap tr = some (.cells [if j ≤ 1 then str [92] else str [], if j = 0 then str [34] else str []] tS false false)
  ha : j ≤ 1 → a < s.next ∧ lookH s.heap a = some (.cells (bytesV [92, 92]) tB true false)
  hb : j = 0 → b < s.next ∧ lookH s.heap b = some (.cells (bytesV [92, 34]) tB true false)
  ne : q ≠ tr
structure BIx where
  j : Nat
  s : SS
  a : Nat
  b : Nat
  cs : List Value
set_option maxHeartbeats 1000000 in
theorem build_w {s : SS} {p m : Nat} {x0 x1 x2 x3 : Value} (f : Fine s) (hp : lookH s.heap p = some (.cells [x0, x1, x2, x3, .slice (some ⟨m, 0, none⟩) 4 0] tRpc false false)) (lp : p < s.next) (hm : lookH s.heap m = some (.cells (strV rpO) tS true false)) (lm : m < s.next) :
    CallW pr n_strings_Replacer_build [ptrV p] s fun v s' => ∃ q tr a b cs, v = .iface tBsp (ptrV q) ∧ BsJ s' q tr 0 a b cs ∧ s.next ≤ q ∧ Chg s s' [] := by
  refine CallW.run good ok_strings_Replacer_build (by simp) rfl ?_
  (try refine pSeq ?_); (repeat(first|refine sb ?_|refine kNo ?_|refine gOn rfl ?_|refine gOff rfl rfl ?_|refine gTup rfl ?_))
  refine ld1_is rfl hp rfl ?_
  (repeat(first|refine sb ?_|refine kNo ?_|refine gOn rfl ?_|refine gOff rfl rfl ?_|refine gTup rfl ?_))
  intro q hq
  obtain rfl : q = false := by rw [hq]; decide
  (repeat(first|refine sb ?_|refine kNo ?_|refine gOn rfl ?_|refine gOff rfl rfl ?_|refine gTup rfl ?_))
  refine pLoop (MW.head good (fun k : Nat => 3 - k) (fun k => k ≤ 2) (fun k => [(0, ptrV p), (2, .nilIface), (3, .slice (some ⟨m, 0, none⟩) 4 0), (4, .bool (decide (k = 0))), (5, .int .i64 ((2 * k : Nat) : Int))]) (fun _ => s) 0 (by decide) (Wk.same ⟨rfl, rfl, rfl, rfl, rfl, trivial⟩) ?_)
  intro k hk
  (repeat(first|refine sb ?_|refine kNo ?_|refine gOn rfl ?_|refine gOff rfl rfl ?_|refine gTup rfl ?_))
  intro q hq
  by_cases hlt : k < 2
  · obtain rfl : q = true := by rw [hq]; simp; omega
    have g1 : (strV rpO)[2 * k]? = some (str [if k = 0 then 34 else 92]) := by rcases (show k = 0 ∨ k = 1 by omega) with rfl | rfl <;> rfl
    have g2 : (strV rpO)[2 * k + 1]? = some (str [92, if k = 0 then 34 else 92]) := by rcases (show k = 0 ∨ k = 1 by omega) with rfl | rfl <;> rfl
    (repeat(first|refine sb ?_|refine kNo ?_|refine gOn rfl ?_|refine gOff rfl rfl ?_|refine gTup rfl ?_))
    refine ⟨by omega, ?_⟩
    intro m1 hm1 o ho
    obtain rfl : m1 = 2 * k := by omega
    (repeat(first|refine sb ?_|refine kNo ?_|refine gOn rfl ?_|refine gOff rfl rfl ?_|refine gTup rfl ?_))
    refine ldS_is (l := [if k = 0 then 34 else 92]) rfl hm (by rw [ho, Nat.mul_one, Nat.zero_add]; exact g1) ?_
    (repeat(first|refine sb ?_|refine kNo ?_|refine gOn rfl ?_|refine gOff rfl rfl ?_|refine gTup rfl ?_))
    intro n hn
    obtain rfl : n = 1 := hn
    (repeat(first|refine sb ?_|refine kNo ?_|refine gOn rfl ?_|refine gOff rfl rfl ?_|refine gTup rfl ?_))
    intro q hq
    obtain rfl : q = false := by rw [hq]; decide
    (repeat(first|refine sb ?_|refine kNo ?_|refine gOn rfl ?_|refine gOff rfl rfl ?_|refine gTup rfl ?_))
    intro z hz
    rw [i64_id (by omega)] at hz
    (repeat(first|refine sb ?_|refine kNo ?_|refine gOn rfl ?_|refine gOff rfl rfl ?_|refine gTup rfl ?_))
    refine ⟨by omega, ?_⟩
    intro m1 hm1 o ho
    obtain rfl : m1 = 2 * k + 1 := by omega
    (repeat(first|refine sb ?_|refine kNo ?_|refine gOn rfl ?_|refine gOff rfl rfl ?_|refine gTup rfl ?_))
    refine ldS_is (l := [92, if k = 0 then 34 else 92]) rfl hm (by rw [ho, Nat.mul_one, Nat.zero_add]; exact g2) ?_
    (repeat(first|refine sb ?_|refine kNo ?_|refine gOn rfl ?_|refine gOff rfl rfl ?_|refine gTup rfl ?_))
    intro n hn
    obtain rfl : n = 2 := hn
    (repeat(first|refine sb ?_|refine kNo ?_|refine gOn rfl ?_|refine gOff rfl rfl ?_|refine gTup rfl ?_))
    intro q hq
    obtain rfl : q = true := by rw [hq]; decide
    (repeat(first|refine sb ?_|refine kNo ?_|refine gOn rfl ?_|refine gOff rfl rfl ?_|refine gTup rfl ?_))
    intro z2 hz2
    rw [i64_id (by omega)] at hz2
    obtain rfl : z2 = ((2 * (k + 1) : Nat) : Int) := by omega
    (repeat(first|refine sb ?_|refine kNo ?_|refine gOn rfl ?_|refine gOff rfl rfl ?_|refine gTup rfl ?_))
    exact ⟨k + 1, by omega, by show 3 - (k + 1) < 3 - k; omega, Wk.same ⟨rfl, rfl, rfl, by rw [show decide (k + 1 = 0) = false by simp]; rfl, rfl, trivial⟩⟩
  · obtain rfl : q = false := by rw [hq]; simp; omega
    obtain rfl : k = 2 := by omega
    (repeat(first|refine sb ?_|refine kNo ?_|refine gOn rfl ?_|refine gOff rfl rfl ?_|refine gTup rfl ?_))
    refine ⟨by decide, ?_⟩
    intro z hz
    obtain rfl : z = 2 := by rw [hz]; decide
    (repeat(first|refine sb ?_|refine kNo ?_|refine gOn rfl ?_|refine gOff rfl rfl ?_|refine gTup rfl ?_))
    refine ⟨by decide, ?_⟩
    intro m0 n0 hm0 hn0 cs0 hcs0
    obtain rfl : m0 = 0 := by omega
    obtain rfl : n0 = 2 := by omega
    subst hcs0
    (repeat(first|refine sb ?_|refine kNo ?_|refine gOn rfl ?_|refine gOff rfl rfl ?_|refine gTup rfl ?_))
    refine st_abs (cs' := List.replicate 256 nsV ++ [.slice (some ⟨s.next, 0, none⟩) 0 2]) rfl rfl lkH (Nat.lt_succ_self _) rfl rfl fun s3 e3 c3 n3 => ?_
    have c03 : Chg s s3 [] := ((Chg.new []).nil (.new [])).fresh c3 (by simp)
    have n3 : s3.next = s.next + 1 + 1 := n3
    have J0 : BsJ s3 (s.next + 1) s.next 2 0 0 (List.replicate 256 nsV ++ [.slice (some ⟨s.next, 0, none⟩) 0 2]) := by
      refine ⟨rfl, fun i hi => ?_, rfl, e3, by omega, by omega, ?_, fun q => by omega, fun q => by omega, by omega⟩
      · rw [List.getElem?_append_left (by simpa using hi), List.getElem?_replicate, if_pos hi]
        unfold bsV
        rw [if_neg (by omega), if_neg (by omega)]
      · exact c3.blk _ _ (by show s.next < s.next + 1 + 1; omega) (by simp) (lkT (by show s.next + 1 ≠ s.next; omega) lkH)
    generalize hcs3 : List.replicate 256 nsV ++ [Value.slice (some ⟨s.next, 0, none⟩) 0 2] = cs3 at J0 e3
    (repeat(first|refine sb ?_|refine kNo ?_|refine gOn rfl ?_|refine gOff rfl rfl ?_|refine gTup rfl ?_))
    intro z hz
    rw [i64_id (by decide)] at hz
    obtain rfl : z = 2 := by omega
    (repeat(first|refine sb ?_|refine kNo ?_|refine gOn rfl ?_|refine gOff rfl rfl ?_|refine gTup rfl ?_))
    refine pLoop (MW.head good (fun x : BIx => x.j) (fun x => x.j ≤ 2 ∧ BsJ x.s (s.next + 1) s.next x.j x.a x.b x.cs ∧ Chg s x.s [])
      (fun x => [(0, ptrV p), (2, .nilIface), (3, .slice (some ⟨m, 0, none⟩) 4 0), (11, ptrV (s.next + 1)), (12, .int .i64 (2 * (x.j : Int) - 2))]) (fun x => x.s) ⟨2, s3, 0, 0, cs3⟩ ⟨Nat.le_refl _, J0, c03⟩ (Wk.same ⟨rfl, rfl, rfl, rfl, rfl, trivial⟩) ?_)
    rintro ⟨j, s4, a, b, cs⟩ ⟨hj, J, c4⟩
    dsimp only at hj J c4 ⊢
    clear J0 e3 c3 c03 hcs3
    (repeat(first|refine sb ?_|refine kNo ?_|refine gOn rfl ?_|refine gOff rfl rfl ?_|refine gTup rfl ?_))
    intro q hq
    by_cases h0 : j = 0
    · subst h0
      obtain rfl : q = false := by rw [hq]; decide
      (repeat(first|refine sb ?_|refine kNo ?_|refine gOn rfl ?_|refine gOff rfl rfl ?_|refine gTup rfl ?_))
      refine ⟨.val (.iface tBsp (ptrV (s.next + 1))), rfl, ?_⟩
      (repeat(first|refine sb ?_|refine kNo ?_|refine gOn rfl ?_|refine gOff rfl rfl ?_|refine gTup rfl ?_))
      exact ⟨_, _, _, _, _, rfl, J, by omega, c4⟩
    · obtain rfl : q = true := by rw [hq]; simp; omega
      obtain ⟨o, ho⟩ : ∃ o : UInt8, (j = 2 ∧ o = 92) ∨ (j = 1 ∧ o = 34) := by
        rcases (show j = 2 ∨ j = 1 by omega) with rfl | rfl
        · exact ⟨92, .inl ⟨rfl, rfl⟩⟩
        · exact ⟨34, .inr ⟨rfl, rfl⟩⟩
      have g1 : (strV rpO)[2 * j - 2]? = some (str [o]) := by rcases ho with ⟨rfl, rfl⟩ | ⟨rfl, rfl⟩ <;> rfl
      have g2 : (strV rpO)[2 * j - 1]? = some (str [92, o]) := by rcases ho with ⟨rfl, rfl⟩ | ⟨rfl, rfl⟩ <;> rfl
      have hm4 := c4.blk _ _ lm (by simp) hm
      have ho3 : o.toNat < 256 := o.toNat_lt
      have g3 : cs[o.toNat]? = some nsV := by
        rw [J.at_ _ ho3]
        unfold bsV
        rcases ho with ⟨rfl, rfl⟩ | ⟨rfl, rfl⟩ <;> rfl
      (repeat(first|refine sb ?_|refine kNo ?_|refine gOn rfl ?_|refine gOff rfl rfl ?_|refine gTup rfl ?_))
      refine ⟨by omega, ?_⟩
      intro m1 hm1 o1 ho1
      obtain rfl : m1 = 2 * j - 2 := by omega
      (repeat(first|refine sb ?_|refine kNo ?_|refine gOn rfl ?_|refine gOff rfl rfl ?_|refine gTup rfl ?_))
      refine ldS_is (l := [o]) rfl hm4 (by rw [ho1, Nat.mul_one, Nat.zero_add]; exact g1) ?_
      (repeat(first|refine sb ?_|refine kNo ?_|refine gOn rfl ?_|refine gOff rfl rfl ?_|refine gTup rfl ?_))
      refine ⟨⟨Int.le_refl _, by rw [List.length_singleton]; decide⟩, ?_⟩
      intro m1 hm1
      obtain rfl : m1 = 0 := by omega
      refine ⟨o, rfl, ?_⟩
      (repeat(first|refine sb ?_|refine kNo ?_|refine gOn rfl ?_|refine gOff rfl rfl ?_|refine gTup rfl ?_))
      intro z hz
      rw [i64_id (by omega)] at hz
      (repeat(first|refine sb ?_|refine kNo ?_|refine gOn rfl ?_|refine gOff rfl rfl ?_|refine gTup rfl ?_))
      refine ⟨by omega, ?_⟩
      intro m1 hm1 o1 ho1
      obtain rfl : m1 = 2 * j - 1 := by omega
      (repeat(first|refine sb ?_|refine kNo ?_|refine gOn rfl ?_|refine gOff rfl rfl ?_|refine gTup rfl ?_))
      refine ldS_is (l := [92, o]) rfl hm4 (by rw [ho1, Nat.mul_one, Nat.zero_add]; exact g2) ?_
      (repeat(first|refine sb ?_|refine kNo ?_|refine gOn rfl ?_|refine gOff rfl rfl ?_|refine gTup rfl ?_))
      refine ⟨by omega, ?_⟩
      intro m1 hm1 o1 ho1
      obtain rfl : m1 = o.toNat := by omega
      (repeat(first|refine sb ?_|refine kNo ?_|refine gOn rfl ?_|refine gOff rfl rfl ?_|refine gTup rfl ?_))
      refine ld1_is rfl J.hq (by rw [ho1, Nat.mul_one, Nat.zero_add]; exact g3) ?_
      (repeat(first|refine sb ?_|refine kNo ?_|refine gOn rfl ?_|refine gOff rfl rfl ?_|refine gTup rfl ?_))
      intro q hq
      obtain rfl : q = true := by rw [hq]; rfl
      (repeat(first|refine sb ?_|refine kNo ?_|refine gOn rfl ?_|refine gOff rfl rfl ?_|refine gTup rfl ?_))
      refine ld1_is rfl J.hq J.row ?_
      (repeat(first|refine sb ?_|refine kNo ?_|refine gOn rfl ?_|refine gOff rfl rfl ?_|refine gTup rfl ?_))
      refine toStr_is10 (l := [o]) rfl lkH rfl ?_
      (repeat(first|refine sb ?_|refine kNo ?_|refine gOn rfl ?_|refine gOff rfl rfl ?_|refine gTup rfl ?_))
      have c5 : Chg s4 { s4 with heap := (s4.next + 1, some (.cells [str [o]] tS false false)) :: (s4.next, some (.cells [.int .u8 o.toNat] tB false false)) :: s4.heap, next := s4.next + 1 + 1 } [] := (Chg.new []).nil (.new [])
      refine app_fit (c' := [if j - 1 ≤ 1 then str [92] else str [], if j - 1 = 0 then str [34] else str []]) rfl (c5.blk _ _ J.lt (by simp) J.ht) (Nat.lt_of_lt_of_le J.lt c5.next) rfl lkH rfl (by omega) ⟨by decide, by decide⟩ rfl (by rcases ho with ⟨rfl, rfl⟩ | ⟨rfl, rfl⟩ <;> rfl) fun s6 e6 c6 n6 => ?_
      have c46 := c5.nil c6
      have q6 := c46.blk _ _ J.lq (by simp) J.hq
      have n46 := c46.next
      have lq := J.lq
      (repeat(first|refine sb ?_|refine kNo ?_|refine gOn rfl ?_|refine gOff rfl rfl ?_|refine gTup rfl ?_))
      refine st_abs (cs' := cs.set 256 (.slice (some ⟨s.next, 0, none⟩) (2 - (j - 1)) 2)) rfl rfl q6 (by omega) rfl ?_ fun s7 e7 c7 n7 => ?_
      · rw [show 2 - j + 1 = 2 - (j - 1) by omega]
        exact setRow_one (by rw [J.len]; decide)
      (repeat(first|refine sb ?_|refine kNo ?_|refine gOn rfl ?_|refine gOff rfl rfl ?_|refine gTup rfl ?_))
      refine ⟨by simp, ?_⟩
      (repeat(first|refine sb ?_|refine kNo ?_|refine gOn rfl ?_|refine gOff rfl rfl ?_|refine gTup rfl ?_))
      refine ⟨by omega, ?_⟩
      intro m1 hm1 o1 ho1
      obtain rfl : m1 = o.toNat := by omega
      (repeat(first|refine sb ?_|refine kNo ?_|refine gOn rfl ?_|refine gOff rfl rfl ?_|refine gTup rfl ?_))
      have c8 : Chg s7 { s7 with heap := (s7.next, some (.cells (bytesV [92, o]) tB true false)) :: s7.heap, next := s7.next + 1 } [] := .new []
      refine st_abs (cs' := (cs.set 256 (.slice (some ⟨s.next, 0, none⟩) (2 - (j - 1)) 2)).set o.toNat (.slice (some ⟨s7.next, 0, none⟩) 2 0)) rfl rfl (c8.blk _ _ (by omega) (by simp) e7) (by show s.next + 1 < s7.next + 1; omega) rfl ?_ fun s9 e9 c9 n9 => ?_
      · rw [show o1 = o.toNat by omega]
        exact setRow_one (by rw [List.length_set, J.len]; omega)
      (repeat(first|refine sb ?_|refine kNo ?_|refine gOn rfl ?_|refine gOff rfl rfl ?_|refine gTup rfl ?_))
      intro z hz
      rw [i64_id (by omega)] at hz
      (repeat(first|refine sb ?_|refine kNo ?_|refine gOn rfl ?_|refine gOff rfl rfl ?_|refine gTup rfl ?_))
      have n9 : s9.next = s7.next + 1 := n9
      have c49 : Chg s4 s9 [s.next, s.next + 1] := ((c46.trans c7).trans (c8.nil c9)).sub (by simp)
      have k9 := c9.blk s7.next _ (Nat.lt_succ_self _) (by simp; omega) lkH
      have t9 : lookH s9.heap s.next = some (.cells [if j - 1 ≤ 1 then str [92] else str [], if j - 1 = 0 then str [34] else str []] tS false false) := by
        have lt := J.lt
        exact c9.blk _ _ (by show s.next < s7.next + 1; omega) (by simp) (c8.blk _ _ (by omega) (by simp) (c7.blk _ _ (by omega) (by simp) e6))
      refine ⟨⟨j - 1, s9, if j = 2 then s7.next else a, if j = 1 then s7.next else b, _⟩, ⟨by show j - 1 ≤ 2; omega, ⟨?_, ?_, ?_, e9, by show s.next + 1 < s9.next; omega, by show s.next < s9.next; have := J.lt; omega, t9, ?_, ?_, J.ne⟩, (c4.fresh c49 (by simp))⟩, by show j - 1 < j; omega, Wk.same ⟨rfl, rfl, rfl, rfl, ?_, trivial⟩⟩
      · rw [List.length_set, List.length_set]; exact J.len
      · intro i hi
        dsimp only
        have old := J.at_ i hi
        by_cases hio : i = o.toNat
        · subst hio
          rw [List.getElem?_set_self (by rw [List.length_set, J.len]; omega)]
          unfold bsV
          rcases ho with ⟨rfl, rfl⟩ | ⟨rfl, rfl⟩ <;> rfl
        · rw [List.getElem?_set_ne (Ne.symm hio), List.getElem?_set_ne (by omega), old]
          unfold bsV
          rcases ho with ⟨rfl, rfl⟩ | ⟨rfl, rfl⟩
          · have : ¬i = 92 := hio
            simp [this]
          · have : ¬i = 34 := hio
            simp [this]
      · dsimp only
        rw [List.getElem?_set_ne (by omega), List.getElem?_set_self (by rw [J.len]; decide)]
      · intro _
        dsimp only
        rcases ho with ⟨rfl, rfl⟩ | ⟨rfl, rfl⟩
        · rw [if_pos rfl]; exact ⟨by omega, k9⟩
        · rw [if_neg (by decide)]
          obtain ⟨h1, h2⟩ := J.ha (Nat.le_refl _)
          exact ⟨by have := c49.next; omega, c49.blk _ _ h1 (by simp; exact ⟨tyNe h2 J.ht (by decide), tyNe h2 J.hq (by decide)⟩) h2⟩
      · intro hj0
        dsimp only at hj0 ⊢
        rcases ho with ⟨rfl, rfl⟩ | ⟨rfl, rfl⟩
        · omega
        · rw [if_pos rfl]; exact ⟨by omega, k9⟩
      · rw [show z = 2 * ((j - 1 : Nat) : Int) - 2 by omega]; rfl
theorem BsJ.chg {s s' : SS} {q tr a b : Nat} {cs : List Value} {A : List Nat} (J : BsJ s q tr 0 a b cs) (c : Chg s s' A) (h1 : q ∉ A) (h2 : tr ∉ A) (h3 : a ∉ A) (h4 : b ∉ A) : BsJ s' q tr 0 a b cs := by
  obtain ⟨x1, y1⟩ := J.ha (by decide)
  obtain ⟨x2, y2⟩ := J.hb rfl
  exact ⟨J.len, J.at_, J.row, c.blk _ _ J.lq h1 J.hq, Nat.lt_of_lt_of_le J.lq c.next, Nat.lt_of_lt_of_le J.lt c.next, c.blk _ _ J.lt h2 J.ht, fun _ => ⟨Nat.lt_of_lt_of_le x1 c.next, c.blk _ _ x1 h3 y1⟩, fun _ => ⟨Nat.lt_of_lt_of_le x2 c.next, c.blk _ _ x2 h4 y2⟩, J.ne⟩
/-- What is done once: the replacer holds what was built. -/
theorem once_build_w {s : SS} {p m : Nat} {x0 x1 x2 x3 : Value} (f : Fine s) (hp : lookH s.heap p = some (.cells [x0, x1, x2, x3, .slice (some ⟨m, 0, none⟩) 4 0] tRpc false false)) (lp : p < s.next) (hm : lookH s.heap m = some (.cells (strV rpO) tS true false)) (lm : m < s.next) :
    CallW pr n_strings_Replacer_buildOnce [ptrV p] s fun v s' => v = .tuple ⟨[]⟩ ∧ ∃ q tr a b cs, lookH s'.heap p = some (.cells [x0, x1, x2, .iface tBsp (ptrV q), .slice none 0 0] tRpc false false) ∧ BsJ s' q tr 0 a b cs ∧ s.next ≤ q ∧ Chg s s' [p] := by
  refine CallW.run good ok_strings_Replacer_buildOnce (by simp) rfl ?_
  (try refine pSeq ?_); (repeat refine sb ?_)
  refine (build_w f hp lp hm lm).mono fun v s1 q => ?_
  obtain ⟨q, tr, a, b, cs, rfl, J, hq, c1⟩ := q
  have hp1 := c1.blk _ _ lp (by simp) hp
  have lp1 := Nat.lt_of_lt_of_le lp c1.next
  (repeat refine sb ?_)
  refine st_abs (cs' := [x0, x1, x2, .iface tBsp (ptrV q), .slice (some ⟨m, 0, none⟩) 4 0]) rfl rfl hp1 lp1 rfl rfl fun s2 e2 c2 n2 => ?_
  (repeat refine sb ?_)
  refine st_abs (cs' := [x0, x1, x2, .iface tBsp (ptrV q), .slice none 0 0]) rfl rfl e2 (by omega) rfl rfl fun s3 e3 c3 n3 => ?_
  (repeat refine sb ?_)
  have c13 : Chg s1 s3 [p] := (c2.trans c3).sub (by simp)
  obtain ⟨_, y1⟩ := J.ha (by decide)
  obtain ⟨_, y2⟩ := J.hb rfl
  refine ⟨rfl, q, tr, a, b, cs, e3, J.chg c13 (by simp; exact tyNe J.hq hp1 (by decide)) (by simp; exact tyNe J.ht hp1 (by decide)) (by simp; exact tyNe y1 hp1 (by decide)) (by simp; exact tyNe y2 hp1 (by decide)), hq, c1.nil c13⟩
end Go.Vf.S
end

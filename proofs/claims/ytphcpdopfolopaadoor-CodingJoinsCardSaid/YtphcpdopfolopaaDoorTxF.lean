import Derived.Test.YtphcpdopfolopaaDoorTxA
/- Sets of bytes; what is taken off a text's ends. -/
namespace Go.Vf.S
open Go Go.Vf
attribute [local irreducible] wSeq wRow wp wG
set_option linter.unusedVariables false
set_option linter.unusedSimpArgs false
set_option maxRecDepth 10000

abbrev tA : TypeId := 89
/-- A set of bytes, laid out. -/
def tab (f : Nat → Bool) : List Value := (List.range 256).map fun i => .bool (f i)
theorem tab_len (f : Nat → Bool) : (tab f).length = 256 := by simp [tab]
theorem tab_get {f : Nat → Bool} {i : Nat} (h : i < 256) : (tab f)[i]? = some (.bool (f i)) := by simp [tab, h]
theorem tab_take (f : Nat → Bool) : takeN 256 ((tab f).drop 0) = some (tab f) := by
  rw [List.drop_zero, takeN_take _ _ (by rw [tab_len]; omega), List.take_of_length_le (by rw [tab_len]; omega)]
theorem setRow_one : ∀ {l : List Value} {i : Nat} {v : Value}, i < l.length → setRow l i [v] = some (l.set i v)
  | x :: l, 0, v, _ => by cases l <;> rfl
  | x :: l, i + 1, v, h => by simp only [setRow, setRow_one (show i < l.length by simpa using h), List.set_cons_succ]
theorem setRow_all : ∀ {l m : List Value}, l.length = m.length → setRow l 0 m = some m
  | [], [], _ => rfl
  | x :: l, y :: m, h => by simp only [setRow, setRow_all (l := l) (m := m) (by simpa using h)]
theorem flat_tab (f : Nat → Bool) : flat (.agg ⟨tab f⟩) = tab f := rfl
theorem tab_set {f : Nat → Bool} {i : Nat} (h : i < 256) : setRow (tab f) i [.bool true] = some (tab fun k => f k || k == i) := by
  rw [setRow_one (by rw [tab_len]; exact h)]
  congr 1
  apply List.ext_getElem? fun j => ?_
  rw [List.getElem?_set, tab_len]
  by_cases q : j < 256
  · rw [tab_get q]
    by_cases e : i = j
    · subst e; rw [tab_get h]; simp [h]
    · rw [if_neg e, tab_get q]; simp [Ne.symm e]
  · rw [List.getElem?_eq_none (by rw [tab_len]; omega), if_neg (by omega), List.getElem?_eq_none (by rw [tab_len]; omega)]
theorem tab_all1 (f : Nat → Bool) : (Nat.beq (flat (.agg ⟨tab f⟩)).length 256 && all1 (flat (.agg ⟨tab f⟩))) = true := by
  rw [flat_tab, tab_len]
  have : ∀ l : List Nat, all1 (l.map fun i => Value.bool (f i)) = true := fun l => by
    induction l with
    | nil => rfl
    | cons a l ih => exact ih
  exact this _
theorem tab_row (f g : Nat → Bool) : setRow (tab f) 0 (flat (.agg ⟨tab g⟩)) = some (tab g) := by
  rw [flat_tab]
  exact setRow_all (by rw [tab_len, tab_len])

def inB (k : List UInt8) (i : Nat) : Bool := k.any fun c => c.toNat == i

theorem contains_w {s : SS} {f : Nat → Bool} {b : Nat} {g r : Bool} {c : UInt8} (hb : lookH s.heap b = some (.cells (tab f) tA g r)) :
    CallW pr n_strings_asciiSet_contains [.pointer (some ⟨b, 0, none⟩), .int .u8 c.toNat] s fun v s' => v = .bool (f c.toNat) ∧ s' = s := by
  refine CallW.run good ok_strings_asciiSet_contains (by simp) rfl ?_
  (repeat(first|refine pSeq ?_|refine pReg ?_|refine sCons ?_|refine sNil ?_|refine pRet ?_|refine gNone ?_))
  have hc := c.toNat_lt
  refine ⟨by omega, ?_⟩
  intro m hm o ho
  obtain rfl : m = c.toNat := by omega
  (repeat(first|refine pSeq ?_|refine pReg ?_|refine sCons ?_|refine sNil ?_|refine pRet ?_|refine gNone ?_))
  refine ldB_is rfl hb (by rw [ho, Nat.zero_add, Nat.mul_one]; exact tab_get (by omega)) ?_
  (repeat(first|refine pSeq ?_|refine pReg ?_|refine sCons ?_|refine sNil ?_|refine pRet ?_|refine gNone ?_))
  exact ⟨rfl, rfl⟩

structure SIt where
  i : Nat
  s : SS

theorem makeSet_w {s : SS} {k : List UInt8} (hk : k.length ≤ 1000000) (h7 : ∀ c ∈ k, c.toNat < 128) :
    CallW pr n_strings_makeASCIISet [str k] s fun v s' => v = .tuple ⟨[.agg ⟨tab (inB k)⟩, .bool true]⟩ ∧ Chg s s' [] := by
  refine CallW.run good ok_strings_makeASCIISet (by simp) rfl ?_
  (repeat(first|refine pSeq ?_|refine pReg ?_|refine sCons ?_|refine sNil ?_|refine pBlock ?_|refine pSkip ?_|refine pExit ?_|refine pRet ?_|refine pCond ?_|refine gNone ?_))
  refine pLoop (MW.head good (fun x : SIt => k.length - x.i) (fun x => x.i ≤ k.length ∧ Chg s x.s [] ∧ s.next < x.s.next ∧ lookH x.s.heap s.next = some (.cells (tab (inB (k.take x.i))) tA false false))
    (fun x => [(0, str k), (2, .pointer (some ⟨s.next, 0, none⟩)), (4, .int .i64 x.i)]) (fun x => x.s) ⟨0, _⟩ ⟨Nat.zero_le _, .new _, Nat.lt_succ_self _, lkH⟩ (Wk.same ⟨rfl, rfl, rfl, trivial⟩) ?_)
  intro ⟨i, s1⟩ ⟨hi, h1, h2, h3⟩
  dsimp only at hi h1 h2 h3 ⊢
  (repeat(first|refine pSeq ?_|refine pReg ?_|refine sCons ?_|refine sNil ?_|refine pBlock ?_|refine pSkip ?_|refine pExit ?_|refine pRet ?_|refine pCond ?_|refine gNone ?_))
  intro n hn
  (repeat(first|refine pSeq ?_|refine pReg ?_|refine sCons ?_|refine sNil ?_|refine pBlock ?_|refine pSkip ?_|refine pExit ?_|refine pRet ?_|refine pCond ?_|refine gNone ?_))
  intro q hq
  by_cases hlt : i < k.length
  · obtain rfl : q = true := by rw [hq]; simp <;> omega
    obtain ⟨c, hc⟩ : ∃ c, k[i]? = some c := ⟨_, List.getElem?_eq_getElem hlt⟩
    have hc7 := h7 c (List.mem_of_getElem? hc)
    (repeat(first|refine pSeq ?_|refine pReg ?_|refine sCons ?_|refine sNil ?_|refine pBlock ?_|refine pSkip ?_|refine pExit ?_|refine pRet ?_|refine pCond ?_|refine gNone ?_))
    refine ⟨by omega, ?_⟩
    intro m hm
    obtain rfl : m = i := by omega
    refine ⟨c, hc, ?_⟩
    (repeat(first|refine pSeq ?_|refine pReg ?_|refine sCons ?_|refine sNil ?_|refine pBlock ?_|refine pSkip ?_|refine pExit ?_|refine pRet ?_|refine pCond ?_|refine gNone ?_))
    intro q hq
    obtain rfl : q = false := by rw [hq]; simp <;> omega
    (repeat(first|refine pSeq ?_|refine pReg ?_|refine sCons ?_|refine sNil ?_|refine pBlock ?_|refine pSkip ?_|refine pExit ?_|refine pRet ?_|refine pCond ?_|refine gNone ?_))
    refine ⟨by omega, ?_⟩
    intro m2 hm2 o ho
    obtain rfl : m2 = c.toNat := by omega
    (repeat(first|refine pSeq ?_|refine pReg ?_|refine sCons ?_|refine sNil ?_|refine pBlock ?_|refine pSkip ?_|refine pExit ?_|refine pRet ?_|refine pCond ?_|refine gNone ?_))
    refine st_abs rfl rfl h3 h2 rfl (by rw [ho, Nat.zero_add, Nat.mul_one]; exact tab_set (by omega)) fun s2 e2 c2 n2 => ?_
    (repeat(first|refine pSeq ?_|refine pReg ?_|refine sCons ?_|refine sNil ?_|refine pBlock ?_|refine pSkip ?_|refine pExit ?_|refine pRet ?_|refine pCond ?_|refine gNone ?_))
    intro z hz
    rw [i64_id (by omega)] at hz
    obtain rfl : z = ((m + 1 : Nat) : Int) := by omega
    (repeat(first|refine pSeq ?_|refine pReg ?_|refine sCons ?_|refine sNil ?_|refine pBlock ?_|refine pSkip ?_|refine pExit ?_|refine pRet ?_|refine pCond ?_|refine gNone ?_))
    refine ⟨⟨m + 1, s2⟩, ⟨hlt, h1.fresh c2 (by simp), by show s.next < s2.next; omega, ?_⟩, by show k.length - (m + 1) < k.length - m; omega, Wk.same ⟨rfl, rfl, rfl, trivial⟩⟩
    rw [e2, take_next hc]
    congr 3
    funext j
    simp only [inB, List.any_append, List.any_cons, List.any_nil, Bool.or_false]
    congr 1
    rw [Bool.eq_iff_iff, beq_iff_eq, beq_iff_eq]
    exact eq_comm
  · obtain rfl : q = false := by rw [hq]; simp <;> omega
    (repeat(first|refine pSeq ?_|refine pReg ?_|refine sCons ?_|refine sNil ?_|refine pBlock ?_|refine pSkip ?_|refine pExit ?_|refine pRet ?_|refine pCond ?_|refine gNone ?_))
    refine ldN_is rfl h3 (tab_take _) ?_
    (repeat(first|refine pSeq ?_|refine pReg ?_|refine sCons ?_|refine sNil ?_|refine pBlock ?_|refine pSkip ?_|refine pExit ?_|refine pRet ?_|refine pCond ?_|refine gNone ?_))
    refine st_abs rfl rfl h3 h2 (tab_all1 _) (tab_row _ _) fun s2 e2 c2 n2 => ?_
    (repeat(first|refine pSeq ?_|refine pReg ?_|refine sCons ?_|refine sNil ?_|refine pBlock ?_|refine pSkip ?_|refine pExit ?_|refine pRet ?_|refine pCond ?_|refine gNone ?_))
    refine ret_cell (n := 256) (by kernel_rfl) (by kernel_rfl) rfl e2 (tab_take _) rfl ⟨?_, h1.fresh c2 (by simp)⟩
    rw [List.take_of_length_le (by omega)]

/-- White space. -/
def wh (c : UInt8) : Bool := decide (c.toNat = 32 ∨ c.toNat = 9)

end Go.Vf.S

import Derived.Test.YtphcpdopfolopaaDoorCoS
/- Maps of numbers asked in a row; bytes cloned, bytes behind them; a bit turned. -/
namespace Go.Vf.S
open Go Go.Vf Go.Proofs Go.RowKit Go.MapKept
attribute [local irreducible] wSeq wRow wp wG
set_option linter.unusedVariables false
set_option linter.unusedSimpArgs false
set_option maxRecDepth 10000

/-- A number's number, asked in a row. -/
theorem gen_lkI {T : TL} {s : SS} {K : RR → Prop} {m key : Tmp} {id : Nat} {l : List (Int × Int)} {k v : Int} (hx : look T m = some (.map (some id))) (hy : look T key = some (iV k)) (hb : lookH s.heap id = some (.map (mE l) l.length)) (hl : lkE .i64 k (mE l) = some (iV v))
    (h : K (.val (iV v))) : wN pr (.gen (.lookup tMI (.tmp m) (.tmp key) false)) T s K := by
  refine ⟨.val (iV v), ?_, h⟩
  have hb' : s.st.heap.get id = some (.map (mE l) l.length) := by rw [SS.get]; exact hb
  simp only [aOp, operand, toTr_get, hx, hy, lookupV, un_MI, un_Int, hb', hl]
  rfl
def grpL : List (Int × Int) := [(5, 5), (6, 3), (4, 1)]
def grp (z : Nat) : Nat := if z = 5 then 5 else if z = 6 then 3 else 1
theorem grp_is {z : Nat} (hz : 4 ≤ z ∧ z ≤ 6) : lkE .i64 (z : Int) (mE grpL) = some (iV (grp z : Nat)) := by
  rcases (show z = 4 ∨ z = 5 ∨ z = 6 by omega) with rfl | rfl | rfl <;> rfl
theorem grp_ok {z : Nat} (hz : 4 ≤ z ∧ z ≤ 6) (n : Nat) : 1 ≤ grp z ∧ grp z ≤ 5 ∧ 8 * (n / grp z * grp z) % z = 0 ∧ (z = 6 → n / grp z * grp z % 3 = 0) ∧ n / grp z * grp z ≤ n := by
  unfold grp
  rcases (show z = 4 ∨ z = 5 ∨ z = 6 by omega) with rfl | rfl | rfl
  · rw [if_neg (by omega), if_neg (by omega)]; omega
  · rw [if_pos rfl]; omega
  · rw [if_neg (by omega), if_pos rfl]; omega

theorem clone11_w {s : SS} {base : Option Addr} {n c : Nat} {l : List UInt8} (h : Rdb s base n l) (hb : n ≤ 1073741824) :
    CallW pr n_bytes_Clone [.slice base n c] s fun v s' => ∃ b', v = .slice b' n 0 ∧ Own tB s' b' l ∧ (∀ id ∈ blkOf b', s.next ≤ id) ∧ Chg s s' [] := by
  have hnl := h.1
  refine CallW.run good ok_bytes_Clone (by simp) rfl ?_
  cases base with
  | none =>
    have hl : l = [] := h.2
    subst hl
    obtain rfl : n = 0 := hnl
    (repeat(first|refine pSeq ?_|refine pReg ?_|refine sCons ?_|refine sNil ?_|refine pSkip ?_|refine pRet ?_|refine pCond ?_|refine gNone ?_))
    intro q hq
    obtain rfl : q = true := hq
    (repeat(first|refine pSeq ?_|refine pReg ?_|refine sCons ?_|refine sNil ?_|refine pSkip ?_|refine pRet ?_|refine pCond ?_|refine gNone ?_))
    exact ⟨none, rfl, rfl, (fun id q => by simp [blkOf] at q), .refl s _⟩
  | some a =>
    obtain ⟨b, off, sp⟩ := a
    (repeat(first|refine pSeq ?_|refine pReg ?_|refine sCons ?_|refine sNil ?_|refine pSkip ?_|refine pRet ?_|refine pCond ?_|refine gNone ?_))
    intro q hq
    obtain rfl : q = false := hq
    (repeat(first|refine pSeq ?_|refine pReg ?_|refine sCons ?_|refine sNil ?_|refine pSkip ?_|refine pRet ?_|refine pCond ?_|refine gNone ?_))
    have c1 : Chg s { s with heap := (s.next, some (.cells [] tB false false)) :: s.heap, next := s.next + 1 } [] := .new _
    have h' := h.chg c1 (fun id _ => by simp)
    have o1 : Own tB { s with heap := (s.next, some (.cells [] tB false false)) :: s.heap, next := s.next + 1 } (some ⟨s.next, 0, none⟩) [] := ⟨rfl, rfl, Nat.lt_succ_self _, false, lkH, fun _ => rfl⟩
    by_cases h0 : n = 0
    · subst h0
      have hl : l = [] := List.eq_nil_of_length_eq_zero hnl.symm
      subst hl
      refine appB_room (a := []) (n := 0) (m := 0) (l := []) (cap := 0) rfl lkH rfl rfl h' (Nat.le_refl _) (by omega) ?_
      (repeat(first|refine pSeq ?_|refine pReg ?_|refine sCons ?_|refine sNil ?_|refine pSkip ?_|refine pRet ?_|refine pCond ?_|refine gNone ?_))
      refine ⟨_, rfl, ⟨rfl, rfl, Nat.lt_succ_self _, false, lkH, fun _ => rfl⟩, ?_, ?_⟩
      · intro id q
        simp only [blkOf, List.mem_singleton] at q
        omega
      · exact (c1.trans' (Chg.turn (Nat.lt_succ_self _)) (by simp) (fun id q hid => by simp at q; omega))
    · refine app_own (m := 0) o1 rfl rfl rfl h' (by omega) (by omega) fun s' o2 c2 hn => ?_
      (repeat(first|refine pSeq ?_|refine pReg ?_|refine sCons ?_|refine sNil ?_|refine pSkip ?_|refine pRet ?_|refine pCond ?_|refine gNone ?_))
      refine ⟨_, by rw [Nat.zero_add]; rfl, o2, ?_, ?_⟩
      · intro id q
        simp only [blkOf, List.mem_singleton] at q
        omega
      · exact c1.trans' c2 (by simp) (fun id q hid => by simp [blkOf] at q; omega)
/-- Bytes, perhaps none, behind bytes of one's own, perhaps none. -/
theorem app_cl {T : TL} {s : SS} {K : RR → Prop} {x y : Operand} {m n c : Nat} {a l : List UInt8} {base sb : Option Addr} (ho : Own tB s base a) (hm : m = a.length) (hx : opd T s.gl x = some (.slice base m 0)) (hy : opd T s.gl y = some (.slice sb n c)) (hr : Rdb s sb n l) (hb : m + n ≤ 1000000)
    (hv : ∀ b', Rdb s b' (m + n) (a ++ l) → K (.val (.slice b' (m + n) 0)))
    (he : ∀ b' s', Rdb s' b' (m + n) (a ++ l) → Chg s s' (blkOf base) → K (.eff (.slice b' (m + n) 0) s')) : wN pr (.app tB 1 1 x y) T s K := by
  rcases Nat.eq_zero_or_pos n with h0 | h0
  · subst h0
    have hl : l = [] := List.eq_nil_of_length_eq_zero hr.1.symm
    subst hl
    have hrd : Rdb s base (m + 0) (a ++ []) := by rw [List.append_nil, Nat.add_zero, hm]; exact ho.rdb
    cases base with
    | none =>
      have ha : a = [] := ho
      subst ha
      obtain rfl : m = 0 := hm
      exact appB_zero hx hy hr (hv none hrd)
    | some ad =>
      obtain ⟨b, off, sp⟩ := ad
      obtain ⟨rfl, rfl, h3, g, h4, h5⟩ := ho
      cases g with
      | true =>
        simp only [wN, wAppB, hx, hy]
        refine wSrc_Rdb hr ⟨⟨by omega, by omega, rfl, rfl⟩, ?_⟩
        simp only [h4]
        exact ⟨fun _ => hv _ hrd, fun q => by omega⟩
      | false =>
        have ha := h5 rfl
        subst ha
        obtain rfl : m = 0 := hm
        refine appB_room (a := []) hx h4 rfl hy hr (Nat.le_refl _) (by omega) ?_
        refine he (some ⟨b, 0, none⟩) _ ?_ (.turn h3)
        exact ⟨rfl, rfl, h3, _, _, _, _, lkH, rfl, rfl⟩
  · refine app_own ho hm hx hy hr h0 (by omega) fun s' o' c' n' => ?_
    refine he _ s' ?_ c'
    have := o'.rdb
    rwa [List.length_append, ← hm, ← hr.1] at this

def xorB (c : UInt8) (j : Nat) : UInt8 := c ^^^ UInt8.ofNat (2 ^ j)
theorem xorB_is {j : Nat} (h : j < 8) (c : UInt8) : IntKind.wrap .u8 ((BitVec.ofInt IntKind.u8.bits (c.toNat : Int) ^^^ BitVec.ofInt IntKind.u8.bits ((2 ^ j : Nat) : Int)).toNat : Int) = ((xorB c j).toNat : Int) ∧ xorB c j ≠ c := by
  have key : (List.range 8).all (fun j => (List.range 256).all fun n => decide (IntKind.wrap .u8 ((BitVec.ofInt IntKind.u8.bits ((UInt8.ofNat n).toNat : Int) ^^^ BitVec.ofInt IntKind.u8.bits ((2 ^ j : Nat) : Int)).toNat : Int) = ((xorB (UInt8.ofNat n) j).toNat : Int) ∧ xorB (UInt8.ofNat n) j ≠ UInt8.ofNat n)) = true := by decide +kernel
  have k1 := List.all_eq_true.1 key j (List.mem_range.2 h)
  have k2 := List.all_eq_true.1 k1 c.toNat (List.mem_range.2 c.toNat_lt)
  rw [show UInt8.ofNat c.toNat = c by simp] at k2
  exact of_decide_eq_true k2
theorem shl_u8 {j : Nat} (h : j < 8) {z : Int} (hz : z = IntKind.wrap .u8 ((1 : Int) * 2 ^ (min (j : Int).toNat IntKind.u8.bits))) : z = ((2 ^ j : Nat) : Int) := by
  rw [hz]
  rcases (show j = 0 ∨ j = 1 ∨ j = 2 ∨ j = 3 ∨ j = 4 ∨ j = 5 ∨ j = 6 ∨ j = 7 by omega) with rfl | rfl | rfl | rfl | rfl | rfl | rfl | rfl <;> rfl
theorem bytes_set11 {l : List UInt8} {p : Nat} (h : p < l.length) (c : UInt8) : setRow (bytesV l) p [.int .u8 c.toNat] = some (bytesV (l.set p c)) := by
  rw [setRow_one (by rw [bytesV_len]; exact h)]
  simp [bytesV, List.map_set]
theorem set_ne11 {l : List UInt8} {p : Nat} {c d : UInt8} (h : l[p]? = some c) (hd : d ≠ c) : l.set p d ≠ l := fun e => by
  have hp : p < l.length := (List.getElem?_eq_some_iff.1 h).1
  have : (l.set p d)[p]? = some d := by rw [List.getElem?_set_self hp]
  rw [e, h] at this
  exact hd (Option.some.inj this).symm
end Go.Vf.S

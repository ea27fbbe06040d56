import Derived.Test.YtioildcpkcijkaaDoorFn
import Derived.Test.YtioildcpkcijkaaDoorEngBd
/- The disk's small functions. -/
namespace Go.Vf.S
open Go Go.Vf
attribute [local irreducible] wSeq wRow wp wG
set_option linter.unusedVariables false
set_option linter.unusedSimpArgs false
set_option maxRecDepth 10000

abbrev tB : TypeId := 5
abbrev tD : TypeId := 110
abbrev tW : TypeId := 132
theorem sz_B : sizeB pr tB = some 1 := by kernel_rfl

/-- A fresh address, or none. -/
def NewA (s : SS) (base : Option Addr) : Prop := ∀ id ∈ blkOf base, s.next ≤ id

theorem clone_w {s : SS} {base : Option Addr} {n c : Nat} {l : List UInt8} (h : Rdb s base n l) (hb : n ≤ 1073741824) :
    CallW pr n_bytes_Clone [.slice base n c] s fun v s' => ∃ b', v = .slice b' n 0 ∧ Own tB s' b' l ∧ NewA s b' ∧ Chg s s' [] := by
  have hnl := h.1
  refine CallW.run good ok_bytes_Clone (by simp) rfl ?_
  cases base with
  | none =>
    have hl : l = [] := h.2
    subst hl
    obtain rfl : n = 0 := hnl
    (repeat(first|refine pSeq ?_|refine pReg ?_|refine sCons ?_|refine sNil ?_|refine pSkip ?_|refine pRet ?_|refine pCond ?_|refine gNone ?_))
    intro q hq
    obtain rfl : q = true := hq
    (repeat(first|refine pSeq ?_|refine pReg ?_|refine sCons ?_|refine sNil ?_|refine pSkip ?_|refine pRet ?_|refine pCond ?_|refine gNone ?_))
    exact ⟨none, rfl, rfl, (fun id q => by simp [blkOf] at q), .refl s _⟩
  | some a =>
    obtain ⟨b, off, sp⟩ := a
    (repeat(first|refine pSeq ?_|refine pReg ?_|refine sCons ?_|refine sNil ?_|refine pSkip ?_|refine pRet ?_|refine pCond ?_|refine gNone ?_))
    intro q hq
    obtain rfl : q = false := hq
    (repeat(first|refine pSeq ?_|refine pReg ?_|refine sCons ?_|refine sNil ?_|refine pSkip ?_|refine pRet ?_|refine pCond ?_|refine gNone ?_))
    have c1 : Chg s { s with heap := (s.next, some (.cells [] tB false false)) :: s.heap, next := s.next + 1 } [] := .new _
    have h' := h.chg c1 (fun id _ => by simp)
    have o1 : Own tB { s with heap := (s.next, some (.cells [] tB false false)) :: s.heap, next := s.next + 1 } (some ⟨s.next, 0, none⟩) [] := ⟨rfl, rfl, Nat.lt_succ_self _, false, lkH, fun _ => rfl⟩
    by_cases h0 : n = 0
    · subst h0
      have hl : l = [] := List.eq_nil_of_length_eq_zero hnl.symm
      subst hl
      refine appB_room (a := []) (n := 0) (m := 0) (l := []) (cap := 0) rfl lkH rfl rfl h' (Nat.le_refl _) (by omega) ?_
      (repeat(first|refine pSeq ?_|refine pReg ?_|refine sCons ?_|refine sNil ?_|refine pSkip ?_|refine pRet ?_|refine pCond ?_|refine gNone ?_))
      refine ⟨_, rfl, ⟨rfl, rfl, Nat.lt_succ_self _, false, lkH, fun _ => rfl⟩, ?_, ?_⟩
      · intro id q
        simp only [blkOf, List.mem_singleton] at q
        omega
      · exact (c1.trans' (Chg.turn (Nat.lt_succ_self _)) (by simp) (fun id q hid => by simp at q; omega))
    · refine app_own (m := 0) o1 rfl rfl rfl h' (by omega) (by omega) fun s' o2 c2 hn => ?_
      (repeat(first|refine pSeq ?_|refine pReg ?_|refine sCons ?_|refine sNil ?_|refine pSkip ?_|refine pRet ?_|refine pCond ?_|refine gNone ?_))
      refine ⟨_, by rw [Nat.zero_add]; rfl, o2, ?_, ?_⟩
      · intro id q
        simp only [blkOf, List.mem_singleton] at q
        omega
      · exact c1.trans' c2 (by simp) (fun id q hid => by simp [blkOf] at q; omega)

theorem equal_w {s : SS} {b1 b2 : Option Addr} {n1 c1 n2 c2 : Nat} {l1 l2 : List UInt8} (h1 : Rdb s b1 n1 l1) (h2 : Rdb s b2 n2 l2) :
    CallW pr n_bytes_Equal [.slice b1 n1 c1, .slice b2 n2 c2] s fun v s' => v = .bool (decide (l1 = l2)) ∧ s' = s := by
  refine CallW.run good ok_bytes_Equal (by simp) rfl ?_
  (repeat(first|refine pSeq ?_|refine pReg ?_|refine sCons ?_|refine sNil ?_|refine pRet ?_|refine gNone ?_))
  refine toStr_Rdb rfl h1 ?_
  (repeat(first|refine pSeq ?_|refine pReg ?_|refine sCons ?_|refine sNil ?_|refine pRet ?_|refine gNone ?_))
  refine toStr_Rdb rfl h2 ?_
  (repeat(first|refine pSeq ?_|refine pReg ?_|refine sCons ?_|refine sNil ?_|refine pRet ?_|refine gNone ?_))
  intro c hc
  (repeat(first|refine pSeq ?_|refine pReg ?_|refine sCons ?_|refine sNil ?_|refine pRet ?_|refine gNone ?_))
  subst hc
  exact ⟨rfl, rfl⟩

theorem none_w {s : SS} {d : Nat} {rest : List Value} {t : TypeId} {g r : Bool} (h : lookH s.heap d = some (.cells (.bool true :: rest) t g r)) :
    CallW pr n_disk_Disk_none [.pointer (some ⟨d, 0, none⟩)] s fun v s' => v = .bool false ∧ s' = s := by
  refine CallW.run good ok_disk_Disk_none (by simp) rfl ?_
  (repeat(first|refine pSeq ?_|refine pReg ?_|refine sCons ?_|refine sNil ?_|refine pRet ?_|refine gNone ?_|refine gOn rfl ?_|refine gOff rfl rfl ?_|refine gTup rfl ?_))
  intro q hq
  obtain rfl : q = false := hq
  (repeat(first|refine pSeq ?_|refine pReg ?_|refine sCons ?_|refine sNil ?_|refine pRet ?_|refine gNone ?_|refine gOn rfl ?_|refine gOff rfl rfl ?_|refine gTup rfl ?_))
  refine ldB_is rfl h rfl ?_
  (repeat(first|refine pSeq ?_|refine pReg ?_|refine sCons ?_|refine sNil ?_|refine pRet ?_|refine gNone ?_|refine gOn rfl ?_|refine gOff rfl rfl ?_|refine gTup rfl ?_))
  intro q hq
  obtain rfl : q = false := hq
  (repeat(first|refine pSeq ?_|refine pReg ?_|refine sCons ?_|refine sNil ?_|refine pRet ?_|refine gNone ?_|refine gOn rfl ?_|refine gOff rfl rfl ?_|refine gTup rfl ?_))
  exact ⟨rfl, rfl⟩

theorem kept_w {s : SS} {b : Option Addr} {n c : Nat} {zs : List Int} {k : Nat} (hn : n = zs.length) (hb : ∀ a, b = some a → a.spot = none ∧ ∃ cs t g r, lookH s.heap a.block = some (.cells cs t g r) ∧ ∀ i, i < n → cs[a.off + i]? = some (.int .i64 (zs.getD i 0))) (h0 : b = none → n = 0) :
    CallW pr n_disk_kept [.slice b n c, .int .i64 k] s fun v s' => v = .int .i64 (max (zs.getD k 0) 0) ∧ s' = s := by
  refine CallW.run good ok_disk_kept (by simp) rfl ?_
  (repeat(first|refine pSeq ?_|refine pReg ?_|refine sCons ?_|refine sNil ?_|refine pSkip ?_|refine pRet ?_|refine pCond ?_|refine gNone ?_))
  intro q hq
  by_cases hk : n ≤ k
  · obtain rfl : q = true := by rw [hq]; simp; omega
    (repeat(first|refine pSeq ?_|refine pReg ?_|refine sCons ?_|refine sNil ?_|refine pSkip ?_|refine pRet ?_|refine pCond ?_|refine gNone ?_))
    refine ⟨?_, rfl⟩
    rw [List.getD, List.getElem?_eq_none (by omega)]
    rfl
  · obtain rfl : q = false := by rw [hq]; simp; omega
    cases b with
    | none => exact absurd (h0 rfl) (by omega)
    | some a =>
      obtain ⟨hs, cs, t, g, r, h1, h2⟩ := hb a rfl
      obtain ⟨b, off, sp⟩ := a
      subst hs
      (repeat(first|refine pSeq ?_|refine pReg ?_|refine sCons ?_|refine sNil ?_|refine pSkip ?_|refine pRet ?_|refine pCond ?_|refine gNone ?_))
      refine ⟨by omega, ?_⟩
      intro m hm o ho
      obtain rfl : m = k := by omega
      (repeat(first|refine pSeq ?_|refine pReg ?_|refine sCons ?_|refine sNil ?_|refine pSkip ?_|refine pRet ?_|refine pCond ?_|refine gNone ?_))
      refine ldI_is rfl h1 (by rw [ho, Nat.mul_one]; exact h2 m (by omega)) ?_
      (repeat(first|refine pSeq ?_|refine pReg ?_|refine sCons ?_|refine sNil ?_|refine pSkip ?_|refine pRet ?_|refine pCond ?_|refine gNone ?_))
      intro z hz
      (repeat(first|refine pSeq ?_|refine pReg ?_|refine sCons ?_|refine sNil ?_|refine pSkip ?_|refine pRet ?_|refine pCond ?_|refine gNone ?_))
      subst hz
      exact ⟨rfl, rfl⟩
end Go.Vf.S

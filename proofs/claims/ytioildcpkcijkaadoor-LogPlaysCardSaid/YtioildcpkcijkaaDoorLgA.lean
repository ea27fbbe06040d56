import Derived.Test.YtioildcpkcijkaaDoorDkE
import Derived.Test.YtioildcpkcijkaaDoorFrL
/- A log, as the program holds it: its small functions. -/
namespace Go.Vf.S
open Go Go.Vf Go.Vf.Fr
attribute [local irreducible] wSeq wRow wp wG
set_option linter.unusedVariables false
set_option linter.unusedSimpArgs false
set_option maxRecDepth 10000

abbrev tL : TypeId := 72

/-- What a log is, but for its disk. -/
structure Lg where
  ahead : BitVec 32
  many : BitVec 32
  sure : BitVec 32
  size : Nat

def lgCells (d : Nat) (A : Lg) : List Value := [.pointer (some ⟨d, 0, none⟩), .int .u32 A.ahead.toNat, .int .u32 A.many.toNat, .int .u32 A.sure.toNat, .int .i64 A.size]

/-- Where it lies. -/
structure LAt (s : SS) (g d : Nat) (A : Lg) : Prop where
  lt : g < s.next
  blk : lookH s.heap g = some (.cells (lgCells d A) tL false false)

theorem LAt.chg {s s' : SS} {g d : Nat} {A : Lg} {l : List Nat} (h : LAt s g d A) (c : Chg s s' l) (hA : g ∉ l) : LAt s' g d A := ⟨Nat.lt_of_lt_of_le h.lt c.next, c.blk g _ h.lt hA h.blk⟩

theorem lnone_w {s : SS} {g d : Nat} {A : Lg} (h : LAt s g d A) : CallW pr n_log_Log_none [.pointer (some ⟨g, 0, none⟩)] s fun v s' => v = .bool false ∧ s' = s := by
  refine CallW.run good ok_log_Log_none (by simp) rfl ?_
  (repeat(first|refine pSeq ?_|refine pReg ?_|refine sCons ?_|refine sNil ?_|refine pRet ?_|refine gNone ?_|refine gOn rfl ?_|refine gOff rfl rfl ?_|refine gTup rfl ?_))
  intro q hq
  obtain rfl : q = false := hq
  (repeat(first|refine pSeq ?_|refine pReg ?_|refine sCons ?_|refine sNil ?_|refine pRet ?_|refine gNone ?_|refine gOn rfl ?_|refine gOff rfl rfl ?_|refine gTup rfl ?_))
  refine ld1_is rfl h.blk rfl ?_
  (repeat(first|refine pSeq ?_|refine pReg ?_|refine sCons ?_|refine sNil ?_|refine pRet ?_|refine gNone ?_|refine gOn rfl ?_|refine gOff rfl rfl ?_|refine gTup rfl ?_))
  intro q hq
  obtain rfl : q = false := hq
  (repeat(first|refine pSeq ?_|refine pReg ?_|refine sCons ?_|refine sNil ?_|refine pRet ?_|refine gNone ?_|refine gOn rfl ?_|refine gOff rfl rfl ?_|refine gTup rfl ?_))
  exact ⟨rfl, rfl⟩

theorem add1_u32 (x : BitVec 32) : IntKind.u32.wrap ((x.toNat : Int) + 1) = ((x + 1#32).toNat : Int) := by
  have := add_u32 x 1#32
  simpa using this

theorem next_w {s : SS} {g d : Nat} {A : Lg} (h : LAt s g d A) : CallW pr n_log_Log_Next [.pointer (some ⟨g, 0, none⟩)] s fun v s' => v = .int .u32 (A.many + 1#32).toNat ∧ s' = s := by
  refine CallW.run good ok_log_Log_Next (by simp) rfl ?_
  (repeat(first|refine pSeq ?_|refine pReg ?_|refine sCons ?_|refine sNil ?_|refine pSkip ?_|refine pRet ?_|refine pCond ?_|refine gNone ?_))
  refine (lnone_w h).mono fun v s' q => ?_
  obtain ⟨rfl, rfl⟩ := q
  (repeat(first|refine pSeq ?_|refine pReg ?_|refine sCons ?_|refine sNil ?_|refine pSkip ?_|refine pRet ?_|refine pCond ?_|refine gNone ?_))
  refine ldI_is rfl h.blk rfl ?_
  (repeat(first|refine pSeq ?_|refine pReg ?_|refine sCons ?_|refine sNil ?_|refine pSkip ?_|refine pRet ?_|refine pCond ?_|refine gNone ?_))
  intro z hz
  rw [add1_u32] at hz
  subst hz
  (repeat(first|refine pSeq ?_|refine pReg ?_|refine sCons ?_|refine sNil ?_|refine pSkip ?_|refine pRet ?_|refine pCond ?_|refine gNone ?_))
  exact ⟨rfl, rfl⟩

theorem sure_w {s : SS} {g d : Nat} {A : Lg} (h : LAt s g d A) : CallW pr n_log_Log_Sure [.pointer (some ⟨g, 0, none⟩)] s fun v s' => v = .int .u32 A.sure.toNat ∧ s' = s := by
  refine CallW.run good ok_log_Log_Sure (by simp) rfl ?_
  (repeat(first|refine pSeq ?_|refine pReg ?_|refine sCons ?_|refine sNil ?_|refine pSkip ?_|refine pRet ?_|refine pCond ?_|refine gNone ?_))
  refine (lnone_w h).mono fun v s' q => ?_
  obtain ⟨rfl, rfl⟩ := q
  (repeat(first|refine pSeq ?_|refine pReg ?_|refine sCons ?_|refine sNil ?_|refine pSkip ?_|refine pRet ?_|refine pCond ?_|refine gNone ?_))
  refine ldI_is rfl h.blk rfl ?_
  (repeat(first|refine pSeq ?_|refine pReg ?_|refine sCons ?_|refine sNil ?_|refine pSkip ?_|refine pRet ?_|refine pCond ?_|refine gNone ?_))
  exact ⟨rfl, rfl⟩

theorem size_w {s : SS} {g d : Nat} {A : Lg} (h : LAt s g d A) : CallW pr n_log_Log_Size [.pointer (some ⟨g, 0, none⟩)] s fun v s' => v = .int .i64 A.size ∧ s' = s := by
  refine CallW.run good ok_log_Log_Size (by simp) rfl ?_
  (repeat(first|refine pSeq ?_|refine pReg ?_|refine sCons ?_|refine sNil ?_|refine pSkip ?_|refine pRet ?_|refine pCond ?_|refine gNone ?_))
  refine (lnone_w h).mono fun v s' q => ?_
  obtain ⟨rfl, rfl⟩ := q
  (repeat(first|refine pSeq ?_|refine pReg ?_|refine sCons ?_|refine sNil ?_|refine pSkip ?_|refine pRet ?_|refine pCond ?_|refine gNone ?_))
  refine ldI_is rfl h.blk rfl ?_
  (repeat(first|refine pSeq ?_|refine pReg ?_|refine sCons ?_|refine sNil ?_|refine pSkip ?_|refine pRet ?_|refine pCond ?_|refine gNone ?_))
  exact ⟨rfl, rfl⟩

/-- One more frame. -/
def Lg.took (A : Lg) (n : Nat) (x : BitVec 32) : Lg := { ahead := x, many := A.many + 1#32, sure := A.sure, size := A.size + n }

theorem take_w {s : SS} {g d n : Nat} {x : BitVec 32} {A : Lg} (h : LAt s g d A) (hb : A.size + n ≤ 9223372036854775807) : CallW pr n_log_Log_take [.pointer (some ⟨g, 0, none⟩), .int .i64 n, .int .u32 x.toNat] s fun v s' => LAt s' g d (A.took n x) ∧ Chg s s' [g] ∧ s'.next = s.next := by
  refine CallW.run good ok_log_Log_take (by simp) rfl ?_
  (repeat(first|refine pSeq ?_|refine pReg ?_|refine sCons ?_|refine sNil ?_|refine gNone ?_))
  refine ldI_is rfl h.blk rfl ?_
  (repeat(first|refine pSeq ?_|refine pReg ?_|refine sCons ?_|refine sNil ?_|refine gNone ?_))
  intro z hz
  rw [add1_u32] at hz
  subst hz
  (repeat(first|refine pSeq ?_|refine pReg ?_|refine sCons ?_|refine sNil ?_|refine gNone ?_))
  refine st_abs rfl rfl h.blk h.lt rfl rfl fun s1 e1 c1 n1 => ?_
  (repeat(first|refine pSeq ?_|refine pReg ?_|refine sCons ?_|refine sNil ?_|refine gNone ?_))
  refine ldI_is rfl e1 rfl ?_
  (repeat(first|refine pSeq ?_|refine pReg ?_|refine sCons ?_|refine sNil ?_|refine gNone ?_))
  intro z hz
  have hz2 : z = ((A.size + n : Nat) : Int) := by rw [hz, wrap_i64]; omega
  subst hz2
  (repeat(first|refine pSeq ?_|refine pReg ?_|refine sCons ?_|refine sNil ?_|refine gNone ?_))
  refine st_abs rfl rfl e1 (by rw [n1]; exact h.lt) rfl rfl fun s2 e2 c2 n2 => ?_
  (repeat(first|refine pSeq ?_|refine pReg ?_|refine sCons ?_|refine sNil ?_|refine gNone ?_))
  refine st_abs rfl rfl e2 (by rw [n2, n1]; exact h.lt) rfl rfl fun s3 e3 c3 n3 => ?_
  (repeat(first|refine pSeq ?_|refine pReg ?_|refine sCons ?_|refine sNil ?_|refine gNone ?_))
  exact ⟨⟨by rw [n3, n2, n1]; exact h.lt, e3⟩, (c1.trans' c2 (fun _ q _ => q) (fun _ q _ => q)).trans' c3 (fun _ q _ => q) (fun _ q _ => q), by omega⟩
end Go.Vf.S

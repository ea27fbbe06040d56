import Derived.Test.YtioildcpkcijkaaDoorLgB
/- A log: what stands behind the frames is wiped. -/
namespace Go.Vf.S
open Go Go.Vf Go.Vf.Fr
attribute [local irreducible] wSeq wRow wp wG
set_option linter.unusedVariables false
set_option linter.unusedSimpArgs false
set_option maxRecDepth 10000

/-- What wiping does. -/
def Lg.wiped (A : Lg) (D : Dk) : Int × Dk := if D.now.length = A.size then (0, D) else D.wrote A.size (List.replicate (D.now.length - A.size) 0)

theorem zeros : ∀ n : Nat, repeatL n [Value.int .u8 0] = bytesV (List.replicate n 0)
  | 0 => rfl
  | n + 1 => by
    show _ :: repeatL n _ = _
    rw [zeros n]
    rfl

theorem Step.pre {d : Nat} {s s1 s2 : SS} {B B' : Bs} (c : Chg s s1 []) (h : Step d s1 B s2 B') : Step d s B s2 B' :=
  ⟨c.trans' h.chg (fun id q => by simp at q) (fun id q _ => q), fun id q => (h.ft id q).imp (fun q => q) (fun q => Nat.le_trans c.next q), fun id q => (h.al id q).imp (fun q => q) (fun q => Nat.le_trans c.next q)⟩

theorem wipe_w {s : SS} {g d : Nat} {A : Lg} {D : Dk} {B : Bs} (h : LAt s g d A) (k : DAt s d D B) (hf : Fine s) (hw : B.wl.length < 10000) (hz : A.size ≤ D.now.length) : CallW pr n_log_Log_wipe [.pointer (some ⟨g, 0, none⟩)] s fun v s' =>
    v = .int .i64 (A.wiped D).1 ∧ ∃ B', DAt s' d (A.wiped D).2 B' ∧ Step d s B s' B' ∧ B'.wl.length ≤ B.wl.length + 1 := by
  have hcap := k.cap
  have hnow := k.lnow
  refine CallW.run good ok_log_Log_wipe (by simp) rfl ?_
  (repeat(first|refine pSeq ?_|refine pReg ?_|refine sCons ?_|refine sNil ?_|refine rCons ?_|refine rNil ?_|refine kNo ?_|refine pRow ?_|refine pSkip ?_|refine pRet ?_|refine pCond ?_|refine gNone ?_))
  refine ld1_is rfl h.blk rfl ?_
  (repeat(first|refine pSeq ?_|refine pReg ?_|refine sCons ?_|refine sNil ?_|refine rCons ?_|refine rNil ?_|refine kNo ?_|refine pRow ?_|refine pSkip ?_|refine pRet ?_|refine pCond ?_|refine gNone ?_))
  refine ldI_is rfl h.blk rfl ?_
  (repeat(first|refine pSeq ?_|refine pReg ?_|refine sCons ?_|refine sNil ?_|refine rCons ?_|refine rNil ?_|refine kNo ?_|refine pRow ?_|refine pSkip ?_|refine pRet ?_|refine pCond ?_|refine gNone ?_))
  refine (end_w k).mono fun v s q => ?_
  obtain ⟨rfl, rfl⟩ := q
  refine kAll .refl ?_
  (repeat(first|refine pSeq ?_|refine pReg ?_|refine sCons ?_|refine sNil ?_|refine rCons ?_|refine rNil ?_|refine kNo ?_|refine pRow ?_|refine pSkip ?_|refine pRet ?_|refine pCond ?_|refine gNone ?_))
  intro z hz1
  obtain rfl : z = ((D.now.length - A.size : Nat) : Int) := by rw [hz1, wrap_i64]; omega
  (repeat(first|refine pSeq ?_|refine pReg ?_|refine sCons ?_|refine sNil ?_|refine rCons ?_|refine rNil ?_|refine kNo ?_|refine pRow ?_|refine pSkip ?_|refine pRet ?_|refine pCond ?_|refine gNone ?_))
  intro q hq
  by_cases he : D.now.length = A.size
  · obtain rfl : q = true := by rw [hq]; simp; omega
    (repeat(first|refine pSeq ?_|refine pReg ?_|refine sCons ?_|refine sNil ?_|refine rCons ?_|refine rNil ?_|refine kNo ?_|refine pRow ?_|refine pSkip ?_|refine pRet ?_|refine pCond ?_|refine gNone ?_))
    unfold Lg.wiped
    rw [if_pos he]
    exact ⟨rfl, B, k, .refl _ _ _, by omega⟩
  obtain rfl : q = false := by rw [hq]; simp; omega
  (repeat(first|refine pSeq ?_|refine pReg ?_|refine sCons ?_|refine sNil ?_|refine rCons ?_|refine rNil ?_|refine kNo ?_|refine pRow ?_|refine pSkip ?_|refine pRet ?_|refine pCond ?_|refine gNone ?_))
  refine ld1_is rfl h.blk rfl ?_
  (repeat(first|refine pSeq ?_|refine pReg ?_|refine sCons ?_|refine sNil ?_|refine rCons ?_|refine rNil ?_|refine kNo ?_|refine pRow ?_|refine pSkip ?_|refine pRet ?_|refine pCond ?_|refine gNone ?_))
  refine ldI_is rfl h.blk rfl ?_
  (repeat(first|refine pSeq ?_|refine pReg ?_|refine sCons ?_|refine sNil ?_|refine rCons ?_|refine rNil ?_|refine kNo ?_|refine pRow ?_|refine pSkip ?_|refine pRet ?_|refine pCond ?_|refine gNone ?_))
  refine ⟨by omega, ?_⟩
  intro m n hm hn cs hcs
  obtain rfl : m = D.now.length - A.size := by omega
  obtain rfl : n = D.now.length - A.size := by omega
  rw [zeros] at hcs
  subst hcs
  refine rNew hf.at ?_
  have c0 : Chg s ({ s with heap := (s.next, some (.cells (bytesV (List.replicate (D.now.length - A.size) 0)) 5 false false)) :: s.heap, next := s.next + 1 } : SS) [] := .new _
  have hR : Rdb ({ s with heap := (s.next, some (.cells (bytesV (List.replicate (D.now.length - A.size) 0)) 5 false false)) :: s.heap, next := s.next + 1 } : SS) (some ⟨s.next, 0, none⟩) (D.now.length - A.size) (List.replicate (D.now.length - A.size) 0) := Rdb.head s.heap 5 false (by simp)
  have k1 := k.chg c0 (by simp)
  generalize ({ s with heap := (s.next, some (.cells (bytesV (List.replicate (D.now.length - A.size) 0)) 5 false false)) :: s.heap, next := s.next + 1 } : SS) = s1 at c0 hR k1 ⊢
  (repeat(first|refine pSeq ?_|refine pReg ?_|refine sCons ?_|refine sNil ?_|refine rCons ?_|refine rNil ?_|refine kNo ?_|refine pRow ?_|refine pSkip ?_|refine pRet ?_|refine pCond ?_|refine gNone ?_))
  refine (write_w (k := A.size) k1 (c0.fine hf) hR (by omega) hw (by omega)).mono fun v s2 q => ?_
  obtain ⟨rfl, B1, k2, st, hl⟩ := q
  (repeat(first|refine pSeq ?_|refine pReg ?_|refine sCons ?_|refine sNil ?_|refine rCons ?_|refine rNil ?_|refine kNo ?_|refine pRow ?_|refine pSkip ?_|refine pRet ?_|refine pCond ?_|refine gNone ?_))
  have e : A.wiped D = D.wrote A.size (List.replicate (D.now.length - A.size) 0) := by unfold Lg.wiped; rw [if_neg he]
  rw [e]
  exact ⟨rfl, B1, k2, Step.pre c0 st, hl⟩
end Go.Vf.S

import Derived.Test.YtioildcpkcijkaaDoorFrD
/- The frames' sums and forms. -/
namespace Go.Vf.S
open Go Go.Vf Go.Vf.Fr
attribute [local irreducible] wSeq wRow wp wG
set_option linter.unusedVariables false
set_option linter.unusedSimpArgs false
set_option maxRecDepth 10000

theorem look_tail' {b n : Nat} {H : List (Nat × Option ABlk)} {x : Option ABlk} {r : Option ABlk} (hlt : n ≠ b) (h : lookH H b = r) : lookH ((n, x) :: H) b = r := by
  simp only [lookH]
  rw [beqF hlt]
  exact h
theorem look_head {n : Nat} {H : List (Nat × Option ABlk)} {x : Option ABlk} : lookH ((n, x) :: H) n = x := by
  simp only [lookH, Nat.beq_refl, cond_true]

/-- Older blocks stay. -/
theorem Rdb.step {s s' : SS} {base : Option Addr} {n : Nat} {l : List UInt8} (h : Rdb s base n l) (hn : s.next ≤ s'.next) (hk : ∀ id b, id < s.next → lookH s.heap id = some b → lookH s'.heap id = some b) : Rdb s' base n l := by
  cases base with
  | none => exact h
  | some a =>
    obtain ⟨b, off, sp⟩ := a
    obtain ⟨q1, q2, q3, c, t, g, r, q4, q5, q6⟩ := h
    exact ⟨q1, q2, by omega, c, t, g, r, hk _ _ q3 q4, q5, q6⟩

theorem sum_w {s : SS} {base : Option Addr} {n c : Nat} {l : List UInt8} (h : Pre s base n l) (hn : n ≤ 16384) (a k : BitVec 32) :
    CallW pr n_frame_Sum [.int .u32 a.toNat, .int .u32 k.toNat, .slice base n c] s fun v s' => v = .int .u32 (sumS a k n l).toNat := by
  obtain ⟨heap, next, gl⟩ := s
  obtain ⟨rfl, h2, h3, h4⟩ := h
  simp only at h2 h3
  refine CallW.run good ok_frame_Sum (by simp) rfl ?_
  (repeat(first|refine pSeq ?_|refine pReg ?_|refine sCons ?_|refine sNil ?_|refine pSkip ?_|refine pRet ?_|refine pCond ?_|refine gNone ?_))
  intro q hq
  obtain rfl : q = false := by rw [hq]; simp; omega
  (repeat(first|refine pSeq ?_|refine pReg ?_|refine sCons ?_|refine sNil ?_|refine pSkip ?_|refine pRet ?_|refine pCond ?_|refine gNone ?_))
  refine word_nil.mono fun v s' q => ?_
  obtain ⟨rfl, rfl⟩ := q
  (repeat(first|refine pSeq ?_|refine pReg ?_|refine sCons ?_|refine sNil ?_|refine pSkip ?_|refine pRet ?_|refine pCond ?_|refine gNone ?_))
  refine (word_grow (m := 4) (a := be4 a) look_head (Nat.lt_succ_self _) rfl (by decide)).mono fun v s' q => ?_
  obtain ⟨rfl, rfl⟩ := q
  (repeat(first|refine pSeq ?_|refine pReg ?_|refine sCons ?_|refine sNil ?_|refine pSkip ?_|refine pRet ?_|refine pCond ?_|refine gNone ?_))
  refine (half_grow (m := 8) (a := be4 a ++ be4 k) (by omega) look_head (Nat.lt_succ_self _) rfl (by decide)).mono fun v s' q => ?_
  obtain ⟨rfl, rfl⟩ := q
  simp only
  have kp : ∀ id b, id < next → lookH heap id = some b → lookH ((next + 2 + 2 + 1, some (ABlk.cells (bytesV (be4 a ++ be4 k ++ [UInt8.ofNat (n / 256), UInt8.ofNat n])) 5 true false)) :: (next + 2 + 1, none) :: (next + 2 + 2, some (.cells (bytesV [UInt8.ofNat (n / 256), UInt8.ofNat n]) 5 false false)) ::
      (next + 2 + 1, some (ABlk.cells (bytesV (be4 a ++ be4 k)) 5 true false)) :: (next + 1, none) :: (next + 2, some (.cells (bytesV (be4 k)) 5 false false)) :: (next + 1, some (ABlk.cells (bytesV (be4 a)) 5 true false)) :: (next, some (.cells (bytesV (be4 a)) 5 false false)) :: heap) id = some b := by
    intro id b hid hb
    repeat (refine look_tail' (by omega) ?_)
    exact hb
  (repeat(first|refine pSeq ?_|refine pReg ?_|refine sCons ?_|refine sNil ?_|refine pSkip ?_|refine pRet ?_|refine pCond ?_|refine gNone ?_))
  refine (run_w _ (some ⟨next + 2 + 2 + 1, 0, none⟩) 10 0 (BitVec.allOnes 32) (be4 a ++ be4 k ++ [UInt8.ofNat (n / 256), UInt8.ofNat n]) (kp _ _ (by omega) h2) rfl ⟨rfl, rfl, Nat.lt_succ_self _, _, _, _, _, look_head, rfl, bytesV_plain _⟩ (by decide)).mono fun v s' q => ?_
  obtain ⟨rfl, rfl⟩ := q
  (repeat(first|refine pSeq ?_|refine pReg ?_|refine sCons ?_|refine sNil ?_|refine pSkip ?_|refine pRet ?_|refine pCond ?_|refine gNone ?_))
  refine (run_w _ _ _ _ _ l (kp _ _ (by omega) h2) rfl (Rdb.step h4 (by show next ≤ next + 2 + 2 + 2; omega) kp) (by omega)).mono fun v s' q => ?_
  obtain ⟨rfl, rfl⟩ := q
  (repeat(first|refine pSeq ?_|refine pReg ?_|refine sCons ?_|refine sNil ?_|refine pSkip ?_|refine pRet ?_|refine pCond ?_|refine gNone ?_))
  intro z hz
  (repeat(first|refine pSeq ?_|refine pReg ?_|refine sCons ?_|refine sNil ?_|refine pSkip ?_|refine pRet ?_|refine pCond ?_|refine gNone ?_))
  rw [hz, notC_u32, ← reg_append]
  rfl

theorem sum_long {s : SS} {base : Option Addr} {n c : Nat} {l : List UInt8} (h : Pre s base n l) (hn : 16384 < n) (a k : BitVec 32) :
    CallW pr n_frame_Sum [.int .u32 a.toNat, .int .u32 k.toNat, .slice base n c] s fun v s' => v = .int .u32 0 := by
  refine CallW.run good ok_frame_Sum (by simp) rfl ?_
  (repeat(first|refine pSeq ?_|refine pReg ?_|refine sCons ?_|refine sNil ?_|refine pSkip ?_|refine pRet ?_|refine pCond ?_|refine gNone ?_))
  intro q hq
  obtain rfl : q = true := by rw [hq]; simp; omega
  (repeat(first|refine pSeq ?_|refine pReg ?_|refine sCons ?_|refine sNil ?_|refine pSkip ?_|refine pRet ?_|refine pCond ?_|refine gNone ?_))
  rfl

theorem sum_ok {s : SS} {base : Option Addr} {n c : Nat} {l : List UInt8} (h : Pre s base n l) (hn : n ≤ 16384) (a k : BitVec 32) :
    CallOk pr n_frame_Sum [.int .u32 a.toNat, .int .u32 k.toNat, .slice base n c] s.st (.int .u32 (sumS a k n l).toNat) s.st := by
  obtain ⟨h1, h2⟩ := h.part
  refine CallOk.reads (needOf base) h2 ?_ (by have := h.next; have := h.gl; omega) rfl (sum_w h1 hn a k)
  simp only [rnL, rn_base h.rd]
  rfl

end Go.Vf.S

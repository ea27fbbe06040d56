import Derived.Test.YtioildcpkcijkaaDoorFn
import Derived.Test.YtioildcpkcijkaaDoorFrB
/- The frames' functions: what each tells. -/
namespace Go.Vf.S
open Go Go.Vf Go.Vf.Fr
attribute [local irreducible] wSeq wRow wp wG
set_option linter.unusedVariables false
set_option linter.unusedSimpArgs false
set_option maxRecDepth 10000

def stepsV : List Value := tab.map fun x => .int .u32 x.toNat
def gB : ABlk := .cells stepsV 49 false true

theorem steps_get {i : Nat} (h : i < 16) : stepsV[i]? = some (.int .u32 (tab.getD i 0#32).toNat) := by
  have hl : i < tab.length := h
  simp only [stepsV, List.getElem?_map, List.getD, List.getElem?_eq_getElem hl]
  rfl

theorem and15 (x : BitVec 32) : 0 ≤ ((x &&& BitVec.ofInt 32 15).toNat : Int) ∧ ((x &&& BitVec.ofInt 32 15).toNat : Int) < 16 := by
  rw [BitVec.toNat_and]
  have : x.toNat &&& (BitVec.ofInt 32 15).toNat ≤ (BitVec.ofInt 32 15).toNat := Nat.and_le_right
  have e : (BitVec.ofInt 32 15).toNat = 15 := by decide
  omega

theorem e8 (x : BitVec 32) : s4 (s4 x) = bs8 x := by rw [s4_eq, s4_eq]; rfl

theorem run_w (s : SS) (base : Option Addr) (n c : Nat) (r : BitVec 32) (l : List UInt8) (hg : lookH s.heap 0 = some gB) (hgl : s.gl = 1) (h : Rdb s base n l) (hb : n < 2 ^ 40) :
    CallW pr n_frame_run [.int .u32 r.toNat, .slice base n c] s fun v s' => v = .int .u32 (reg r l).toNat ∧ s' = s := by
  obtain ⟨heap, next, gl⟩ := s
  obtain rfl : gl = 1 := hgl
  refine CallW.run good ok_frame_run (by simp) rfl ?_
  (repeat(first|refine pSeq ?_|refine pReg ?_|refine sCons ?_|refine sNil ?_|refine pBlock ?_|refine pSkip ?_|refine pExit ?_|refine pRet ?_|refine pCond ?_|refine gNone ?_))
  refine pLoop (MW.head good (fun i => n - i) (fun i => i ≤ n) (fun i => [(0, .int .u32 (reg r (l.take i)).toNat), (7, .slice base n c), (8, .int .i64 n), (9, .int .i64 i)]) (fun _ => ⟨heap, next, 1⟩) 0 (Nat.zero_le _) ?_ ?_)
  · exact Wk.same ⟨rfl, rfl, rfl, rfl, trivial⟩
  intro i hi
  (repeat(first|refine pSeq ?_|refine pReg ?_|refine sCons ?_|refine sNil ?_|refine pBlock ?_|refine pSkip ?_|refine pExit ?_|refine pRet ?_|refine pCond ?_|refine gNone ?_))
  intro q hq
  by_cases hlt : i < n
  · obtain rfl : q = true := by rw [hq]; simpa using hlt
    (repeat(first|refine pSeq ?_|refine pReg ?_|refine sCons ?_|refine sNil ?_|refine pBlock ?_|refine pSkip ?_|refine pExit ?_|refine pRet ?_|refine pCond ?_|refine gNone ?_))
    cases base with
    | none => exact absurd h.1 (by have := h.2; simp only at this; subst this; simp; omega)
    | some a =>
      obtain ⟨b, off, sp⟩ := a
      obtain ⟨rfl, cc, t, g, rr, hb1, hat⟩ := h.at
      refine ⟨by omega, ?_⟩
      intro m hm o ho
      obtain rfl : m = i := by omega
      (repeat(first|refine pSeq ?_|refine pReg ?_|refine sCons ?_|refine sNil ?_|refine pBlock ?_|refine pSkip ?_|refine pExit ?_|refine pRet ?_|refine pCond ?_|refine gNone ?_))
      refine ldI_at rfl hb1 (by rw [ho, Nat.mul_one]; exact hat _ hlt) ?_
      (repeat(first|refine pSeq ?_|refine pReg ?_|refine sCons ?_|refine sNil ?_|refine pBlock ?_|refine pSkip ?_|refine pExit ?_|refine pRet ?_|refine pCond ?_|refine gNone ?_))
      intro z hz; rw [u8_u32] at hz; subst hz
      (repeat(first|refine pSeq ?_|refine pReg ?_|refine sCons ?_|refine sNil ?_|refine pBlock ?_|refine pSkip ?_|refine pExit ?_|refine pRet ?_|refine pCond ?_|refine gNone ?_))
      intro z hz; rw [xor_u32] at hz; subst hz
      (repeat(first|refine pSeq ?_|refine pReg ?_|refine sCons ?_|refine sNil ?_|refine pBlock ?_|refine pSkip ?_|refine pExit ?_|refine pRet ?_|refine pCond ?_|refine gNone ?_))
      intro z hz; rw [shr_u32] at hz; subst hz
      (repeat(first|refine pSeq ?_|refine pReg ?_|refine sCons ?_|refine sNil ?_|refine pBlock ?_|refine pSkip ?_|refine pExit ?_|refine pRet ?_|refine pCond ?_|refine gNone ?_))
      intro z hz; rw [andC_u32] at hz; subst hz
      (repeat(first|refine pSeq ?_|refine pReg ?_|refine sCons ?_|refine sNil ?_|refine pBlock ?_|refine pSkip ?_|refine pExit ?_|refine pRet ?_|refine pCond ?_|refine gNone ?_))
      refine ⟨by have := and15 (reg r (l.take m) ^^^ (l.getD m 0).toBitVec.setWidth 32); omega, ?_⟩
      intro m1 hm1 o1 ho1
      (repeat(first|refine pSeq ?_|refine pReg ?_|refine sCons ?_|refine sNil ?_|refine pBlock ?_|refine pSkip ?_|refine pExit ?_|refine pRet ?_|refine pCond ?_|refine gNone ?_))
      refine ldI_at rfl hg (by rw [ho1, Nat.mul_one, Nat.zero_add]; exact steps_get (by have := and15 (reg r (l.take m) ^^^ (l.getD m 0).toBitVec.setWidth 32); omega)) ?_
      (repeat(first|refine pSeq ?_|refine pReg ?_|refine sCons ?_|refine sNil ?_|refine pBlock ?_|refine pSkip ?_|refine pExit ?_|refine pRet ?_|refine pCond ?_|refine gNone ?_))
      intro z hz; rw [xor_u32] at hz; subst hz
      obtain rfl : m1 = _ := Int.ofNat.inj hm1
      (repeat(first|refine pSeq ?_|refine pReg ?_|refine sCons ?_|refine sNil ?_|refine pBlock ?_|refine pSkip ?_|refine pExit ?_|refine pRet ?_|refine pCond ?_|refine gNone ?_))
      intro z hz; rw [shr_u32] at hz; subst hz
      (repeat(first|refine pSeq ?_|refine pReg ?_|refine sCons ?_|refine sNil ?_|refine pBlock ?_|refine pSkip ?_|refine pExit ?_|refine pRet ?_|refine pCond ?_|refine gNone ?_))
      intro z hz; rw [andC_u32] at hz; subst hz
      (repeat(first|refine pSeq ?_|refine pReg ?_|refine sCons ?_|refine sNil ?_|refine pBlock ?_|refine pSkip ?_|refine pExit ?_|refine pRet ?_|refine pCond ?_|refine gNone ?_))
      refine ⟨by have := and15 (s4 (reg r (l.take m) ^^^ (l.getD m 0).toBitVec.setWidth 32)); exact this, ?_⟩
      intro m2 hm2 o2 ho2
      (repeat(first|refine pSeq ?_|refine pReg ?_|refine sCons ?_|refine sNil ?_|refine pBlock ?_|refine pSkip ?_|refine pExit ?_|refine pRet ?_|refine pCond ?_|refine gNone ?_))
      refine ldI_at rfl hg (by rw [ho2, Nat.mul_one, Nat.zero_add]; exact steps_get (by have := and15 (s4 (reg r (l.take m) ^^^ (l.getD m 0).toBitVec.setWidth 32)); have e := Int.ofNat.inj hm2; rw [e]; exact Int.ofNat_lt.1 this.2)) ?_
      (repeat(first|refine pSeq ?_|refine pReg ?_|refine sCons ?_|refine sNil ?_|refine pBlock ?_|refine pSkip ?_|refine pExit ?_|refine pRet ?_|refine pCond ?_|refine gNone ?_))
      intro z hz; rw [xor_u32] at hz; subst hz
      obtain rfl : m2 = _ := Int.ofNat.inj hm2
      (repeat(first|refine pSeq ?_|refine pReg ?_|refine sCons ?_|refine sNil ?_|refine pBlock ?_|refine pSkip ?_|refine pExit ?_|refine pRet ?_|refine pCond ?_|refine gNone ?_))
      intro z hz
      (repeat(first|refine pSeq ?_|refine pReg ?_|refine sCons ?_|refine sNil ?_|refine pBlock ?_|refine pSkip ?_|refine pExit ?_|refine pRet ?_|refine pCond ?_|refine gNone ?_))
      refine ⟨m + 1, by dsimp only; omega, by dsimp only; omega, Wk.same ⟨?_, rfl, rfl, ?_, trivial⟩⟩
      · rw [reg_take (by have := h.1; omega)]
        show _ = some (Value.int .u32 (bs8 _).toNat)
        rw [← e8]
        rfl
      · have : IntKind.wrap .i64 ((m : Int) + 1) = ((m + 1 : Nat) : Int) := by rw [i64_id (by omega)]; omega
        rw [hz, this]
        rfl
  · obtain rfl : q = false := by rw [hq]; simpa using hlt
    obtain rfl : i = n := by omega
    (repeat(first|refine pSeq ?_|refine pReg ?_|refine sCons ?_|refine sNil ?_|refine pBlock ?_|refine pSkip ?_|refine pExit ?_|refine pRet ?_|refine pCond ?_|refine gNone ?_))
    refine ⟨?_, rfl⟩
    rw [List.take_of_length_le (by have := h.1; omega)]
    rfl
end Go.Vf.S

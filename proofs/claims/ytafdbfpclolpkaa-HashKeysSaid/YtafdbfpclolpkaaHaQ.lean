import Derived.Test.YtafdbfpclolpkaaHaN
/- The document's: words turned; bytes laid behind others. -/
namespace Go.Vf.S
open Go Go.Vf
attribute [local irreducible] wSeq wRow wp wG schd rnds blks blk5 sha fillF hmac
set_option linter.unusedVariables false
set_option linter.unusedSimpArgs false
set_option maxRecDepth 10000

theorem dbl_u32 (x : Wd) : IntKind.wrap .u32 ((x.toNat : Int) * 2) = ((x + x).toNat : Int) := by
  rw [wrap_u32, BitVec.toNat_add]
  omega
theorem top_u32 (x : Wd) : IntKind.wrap .u32 ((x.toNat : Int).tdiv 2147483648) = ((x >>> 31).toNat : Int) := by
  rw [show (x.toNat : Int).tdiv 2147483648 = ((x.toNat / 2147483648 : Nat) : Int) from (Int.ofNat_tdiv x.toNat 2147483648).symm, wrap_u32, BitVec.toNat_ushiftRight, Nat.shiftRight_eq_div_pow]
  have := x.isLt
  omega
theorem left_w {s : SS} {x : Wd} {k : Nat} (hk : k ≤ 30) : CallW pr n_ref10_left [wv x, .int .i64 k] s fun v s' => v = wv (rl x k) ∧ s' = s := by
  refine CallW.run good ok_ref10_left (by simp) rfl ?_
  (repeat(first|refine pSeq ?_|refine pReg ?_|refine sCons ?_|refine sNil ?_|refine pBlock ?_|refine pSkip ?_|refine pExit ?_|refine pRet ?_|refine pCond ?_|refine gNone ?_))
  refine pLoop (MW.head good (fun p : Nat => k - p) (fun p => p ≤ k) (fun p => [(0, wv (rl x p)), (1, .int .i64 k), (5, .int .i64 p)]) (fun _ => s) 0 (Nat.zero_le _) (Wk.same ⟨by show _ = some (wv (rl x 0)); rw [rl_zero]; rfl, rfl, rfl, trivial⟩) ?_)
  intro p hp
  (repeat(first|refine pSeq ?_|refine pReg ?_|refine sCons ?_|refine sNil ?_|refine pBlock ?_|refine pSkip ?_|refine pExit ?_|refine pRet ?_|refine pCond ?_|refine gNone ?_))
  intro q hq
  by_cases h5 : p = k
  · subst h5
    obtain rfl : q = false := by rw [hq]; simp <;> omega
    (repeat(first|refine pSeq ?_|refine pReg ?_|refine sCons ?_|refine sNil ?_|refine pBlock ?_|refine pSkip ?_|refine pExit ?_|refine pRet ?_|refine pCond ?_|refine gNone ?_))
    exact ⟨rfl, rfl⟩
  · obtain rfl : q = true := by rw [hq]; simp <;> omega
    (repeat(first|refine pSeq ?_|refine pReg ?_|refine sCons ?_|refine sNil ?_|refine pBlock ?_|refine pSkip ?_|refine pExit ?_|refine pRet ?_|refine pCond ?_|refine gNone ?_))
    intro z hz
    rw [dbl_u32] at hz
    subst hz
    (repeat(first|refine pSeq ?_|refine pReg ?_|refine sCons ?_|refine sNil ?_|refine pBlock ?_|refine pSkip ?_|refine pExit ?_|refine pRet ?_|refine pCond ?_|refine gNone ?_))
    refine ⟨by decide, ?_⟩
    intro z hz
    rw [top_u32] at hz
    subst hz
    (repeat(first|refine pSeq ?_|refine pReg ?_|refine sCons ?_|refine sNil ?_|refine pBlock ?_|refine pSkip ?_|refine pExit ?_|refine pRet ?_|refine pCond ?_|refine gNone ?_))
    intro z hz
    rw [add_u32, rl1, rl_rl _ _ (by omega)] at hz
    subst hz
    (repeat(first|refine pSeq ?_|refine pReg ?_|refine sCons ?_|refine sNil ?_|refine pBlock ?_|refine pSkip ?_|refine pExit ?_|refine pRet ?_|refine pCond ?_|refine gNone ?_))
    intro z hz
    rw [i64_id (by omega)] at hz
    subst hz
    (repeat(first|refine pSeq ?_|refine pReg ?_|refine sCons ?_|refine sNil ?_|refine pBlock ?_|refine pSkip ?_|refine pExit ?_|refine pRet ?_|refine pCond ?_|refine gNone ?_))
    exact ⟨p + 1, by omega, by show k - (p + 1) < k - p; omega, Wk.same ⟨rfl, rfl, rfl, trivial⟩⟩

/-- Bytes behind none. -/
theorem app_none {T : TL} {s : SS} {K : RR → Prop} {x y : Operand} {n c : Nat} {l : List UInt8} {sb : Option Addr} (hx : opd T s.gl x = some (.slice none 0 0)) (hy : opd T s.gl y = some (.slice sb n c)) (hr : Rdb s sb n l) (hb : n ≤ 1000000) (hK : ∀ v, K (.eff v s) → K (.val v))
    (h : ∀ (b' : Option Addr) (s' : SS), Own tB s' b' l → (∀ id ∈ blkOf b', s.next ≤ id) → Chg s s' [] → K (.eff (.slice b' n 0) s')) : wN pr (.app tB 1 1 x y) T s K := by
  rcases Nat.eq_zero_or_pos n with h0 | h0
  · subst h0
    have hl : l = [] := List.eq_nil_of_length_eq_zero hr.1.symm
    subst hl
    exact appB_zero hx hy hr (hK _ (h none s rfl (by simp [blkOf]) (.refl _ _)))
  · refine appB_nil hx hy hr h0 (by omega) ?_
    exact h (some ⟨s.next, 0, none⟩) _ ⟨rfl, rfl, Nat.lt_succ_self _, true, lkH, fun q => by cases q⟩ (fun id hid => by simp [blkOf] at hid; omega) (.new _)
/-- Bytes behind one's own. -/
theorem app_mine {T : TL} {s : SS} {K : RR → Prop} {x y : Operand} {m n c : Nat} {a l : List UInt8} {base sb : Option Addr} (ho : Own tB s base a) (hm : m = a.length) (hx : opd T s.gl x = some (.slice base m 0)) (hy : opd T s.gl y = some (.slice sb n c)) (hr : Rdb s sb n l) (h0 : 0 < n) (hb : m + n ≤ 10000000)
    (h : ∀ s' : SS, Own tB s' (some ⟨s.next, 0, none⟩) (a ++ l) → Chg s s' (blkOf base) → s'.next = s.next + 1 → K (.eff (.slice (some ⟨s.next, 0, none⟩) (m + n) 0) s')) : wN pr (.app tB 1 1 x y) T s K :=
  app_own ho hm hx hy hr h0 (by omega) h
/-- One byte behind one's own. -/
theorem app_mine1 {T : TL} {s : SS} {K : RR → Prop} {x y : Operand} {m : Nat} {a : List UInt8} {c : UInt8} {z : Int} {base : Option Addr} (ho : Own tB s base a) (hz : z = (c.toNat : Int)) (hm : m = a.length) (hx : opd T s.gl x = some (.slice base m 0)) (hy : opd T s.gl y = some (.slice (some ⟨s.next, 0, none⟩) 1 1)) (hb : m + 1 ≤ 10000000)
    (h : ∀ s' : SS, Own tB s' (some ⟨s.next + 1, 0, none⟩) (a ++ [c]) → Chg s s' (blkOf base) → s'.next = s.next + 1 + 1 → K (.eff (.slice (some ⟨s.next + 1, 0, none⟩) (m + 1) 0) s')) :
    wN pr (.app tB 1 1 x y) T { s with heap := (s.next, some (.cells [.int .u8 z] tB false false)) :: s.heap, next := s.next + 1 } K := by
  subst hz
  have c0 : Chg s { s with heap := (s.next, some (.cells [.int .u8 (c.toNat : Int)] tB false false)) :: s.heap, next := s.next + 1 } [] := .new []
  refine app_mine (ho.chg c0 (by simp)) hm hx hy (byte_rdb (c := c) lkH (Nat.lt_succ_self _)) (by omega) hb fun s' r c1 n1 => h s' r (c0.nil c1) n1

/-! ### Blocks one after another, words by numbers -/
theorem blks_last : ∀ (k : Nat) (s : W5) (l : List UInt8), blks (k + 1) s l = blk5 (blks k s l) ((l.drop (64 * k)).take 64)
  | 0, s, l => by rw [blks_next, blks_0, blks_0]; rfl
  | k + 1, s, l => by
    rw [blks_next, blks_last k, ← blks_next, List.drop_drop, show 64 + 64 * k = 64 * (k + 1) by omega]
theorem or_u32b (w : Wd) (c : UInt8) : BitVec.ofNat 32 256 * w + c.toBitVec.setWidth 32 = w <<< 8 ||| c.toBitVec.setWidth 32 := by
  have hc := c.toNat_lt
  have hx : (c.toBitVec.setWidth 32).toNat = c.toNat := by simp
  apply BitVec.eq_of_toNat_eq
  rw [BitVec.toNat_add, BitVec.toNat_mul, BitVec.toNat_ofNat, hx, BitVec.toNat_or, BitVec.toNat_shiftLeft, hx, Nat.shiftLeft_eq]
  have h2 : w.toNat * 2 ^ 8 % 2 ^ 32 = 2 ^ 8 * (w.toNat % 2 ^ 24) := by
    rw [Nat.mul_comm, show (2 : Nat) ^ 32 = 2 ^ 8 * 2 ^ 24 from by decide, Nat.mul_mod_mul_left]
  rw [h2, ← Nat.two_pow_add_eq_or_of_lt (by omega)]
  have := w.isLt
  omega
theorem not_u32 (x : Wd) : IntKind.wrap .u32 (4294967295 - (x.toNat : Int)) = ((~~~ x).toNat : Int) := by
  rw [wrap_u32, BitVec.toNat_not]
  have := x.isLt
  omega
end Go.Vf.S

import Derived.Test.YtafdbfpclolpkaaHaN
/- Hashes in letters; many of a byte. -/
namespace Go.Vf.S
open Go Go.Vf
attribute [local irreducible] wSeq wRow wp wG schd rnds blks blk5 sha fillF hmac
set_option linter.unusedVariables false
set_option linter.unusedSimpArgs false
set_option maxRecDepth 10000

def hexL : List UInt8 := [48, 49, 50, 51, 52, 53, 54, 55, 56, 57, 97, 98, 99, 100, 101, 102]
def hex1 (c : UInt8) : List UInt8 := [hexL.getD (c.toNat / 16) 0, hexL.getD (c.toNat % 16) 0]
def hexF (h : List UInt8) : List UInt8 := h.flatMap hex1
theorem hexF_next {h : List UInt8} {p : Nat} {c : UInt8} (hc : h[p]? = some c) : hexF (h.take (p + 1)) = hexF (h.take p) ++ hex1 c := by
  rw [take_next hc]
  unfold hexF
  rw [List.flatMap_append]
  simp
theorem hexF_len (h : List UInt8) : (hexF h).length = 2 * h.length := by
  unfold hexF
  induction h with
  | nil => rfl
  | cons a h ih => rw [List.flatMap_cons, List.length_append, ih, List.length_cons]; show 2 + _ = _; omega
theorem hexL_get {i : Nat} (h : i < 16) : hexL[i]? = some (hexL.getD i 0) := by
  rw [List.getD_eq_getElem?_getD, List.getElem?_eq_getElem (show i < hexL.length from h)]; rfl
theorem and15 (c : UInt8) : IntKind.wrap .u8 ((BitVec.ofInt IntKind.u8.bits (c.toNat : Int) &&& BitVec.ofInt IntKind.u8.bits 15).toNat : Int) = ((c.toNat % 16 : Nat) : Int) := by
  show IntKind.wrap .u8 ((BitVec.ofInt 8 (c.toNat : Int) &&& BitVec.ofInt 8 15).toNat : Int) = _
  rw [toInt8, BitVec.toNat_and, UInt8.toNat_toBitVec, show (BitVec.ofInt 8 15).toNat = 2 ^ 4 - 1 from rfl, Nat.and_two_pow_sub_one_eq_mod, wrap_u8]
  omega
theorem un_A20 : pr.underlying tA20 = some (.array 20 tB) := by kernel_rfl
theorem agg_B : aggB pr tB = some false := by kernel_rfl

theorem hex_w {s : SS} {h : List UInt8} (f : Fine s) (hl : h.length = 20) : CallW pr n_law10_HashKnown_1 [agB h] s fun v s' => v = str (hexF h) ∧ Chg s s' [] := by
  refine CallW.run good ok_law10_HashKnown_1 (by simp) rfl ?_
  obtain ⟨h0, c0, f0⟩ := new1_at f (.cells (bytesV h) tA20 false false)
  (repeat(first|refine pSeq ?_|refine pReg ?_|refine sCons ?_|refine sNil ?_|refine rCons ?_|refine rNil ?_|refine kNo ?_|refine pRow ?_|refine pBlock ?_|refine pSkip ?_|refine pExit ?_|refine pRet ?_|refine pCond ?_|refine gNone ?_))
  refine ldN_is rfl h0 (bytes_take hl) ?_
  (repeat(first|refine pSeq ?_|refine pReg ?_|refine sCons ?_|refine sNil ?_|refine rCons ?_|refine rNil ?_|refine kNo ?_|refine pRow ?_|refine pBlock ?_|refine pSkip ?_|refine pExit ?_|refine pRet ?_|refine pCond ?_|refine gNone ?_))
  refine pLoop (MW.head good (fun p : Nat × SS => 20 - p.1) (fun p => p.1 ≤ 20 ∧ Chg s p.2 [])
    (fun p => [(3, str (hexF (h.take p.1))), (6, agB h), (7, .int .i64 p.1)]) (fun p => p.2) (0, _) ⟨Nat.zero_le _, c0⟩ (Wk.same ⟨rfl, rfl, rfl, trivial⟩) ?_)
  clear h0 c0 f0
  intro ⟨p, s1⟩ ⟨hp, c1⟩
  dsimp only at hp c1 ⊢
  (repeat(first|refine pSeq ?_|refine pReg ?_|refine sCons ?_|refine sNil ?_|refine rCons ?_|refine rNil ?_|refine kNo ?_|refine pRow ?_|refine pBlock ?_|refine pSkip ?_|refine pExit ?_|refine pRet ?_|refine pCond ?_|refine gNone ?_))
  intro q hq
  by_cases h5 : p = 20
  · subst h5
    obtain rfl : q = false := by rw [hq]; simp <;> omega
    rw [List.take_of_length_le (by omega)]
    (repeat(first|refine pSeq ?_|refine pReg ?_|refine sCons ?_|refine sNil ?_|refine rCons ?_|refine rNil ?_|refine kNo ?_|refine pRow ?_|refine pBlock ?_|refine pSkip ?_|refine pExit ?_|refine pRet ?_|refine pCond ?_|refine gNone ?_))
    exact ⟨rfl, c1⟩
  · obtain rfl : q = true := by rw [hq]; simp <;> omega
    (repeat(first|refine pSeq ?_|refine pReg ?_|refine sCons ?_|refine sNil ?_|refine rCons ?_|refine rNil ?_|refine kNo ?_|refine pRow ?_|refine pBlock ?_|refine pSkip ?_|refine pExit ?_|refine pRet ?_|refine pCond ?_|refine gNone ?_))
    obtain ⟨c, hc⟩ : ∃ c, h[p]? = some c := ⟨_, List.getElem?_eq_getElem (by omega)⟩
    have hcn := c.toNat_lt
    refine gen_ix un_A20 sz_B agg_B rfl rfl (show p < 20 by omega) (bytes_get hc) ?_
    (repeat(first|refine pSeq ?_|refine pReg ?_|refine sCons ?_|refine sNil ?_|refine rCons ?_|refine rNil ?_|refine kNo ?_|refine pRow ?_|refine pBlock ?_|refine pSkip ?_|refine pExit ?_|refine pRet ?_|refine pCond ?_|refine gNone ?_))
    intro z hz
    obtain rfl : z = ((c.toNat / 16 : Nat) : Int) := by rw [hz, fdiv_pow]
    (repeat(first|refine pSeq ?_|refine pReg ?_|refine sCons ?_|refine sNil ?_|refine rCons ?_|refine rNil ?_|refine kNo ?_|refine pRow ?_|refine pBlock ?_|refine pSkip ?_|refine pExit ?_|refine pRet ?_|refine pCond ?_|refine gNone ?_))
    refine ⟨by show 0 ≤ _ ∧ _ < ((hexL.length : Nat) : Int); rw [show hexL.length = 16 from rfl]; omega, ?_⟩
    intro m hm
    obtain rfl : m = c.toNat / 16 := by omega
    refine ⟨_, hexL_get (by omega), ?_⟩
    (repeat(first|refine pSeq ?_|refine pReg ?_|refine sCons ?_|refine sNil ?_|refine rCons ?_|refine rNil ?_|refine kNo ?_|refine pRow ?_|refine pBlock ?_|refine pSkip ?_|refine pExit ?_|refine pRet ?_|refine pCond ?_|refine gNone ?_))
    intro z hz
    rw [and15] at hz
    subst hz
    (repeat(first|refine pSeq ?_|refine pReg ?_|refine sCons ?_|refine sNil ?_|refine rCons ?_|refine rNil ?_|refine kNo ?_|refine pRow ?_|refine pBlock ?_|refine pSkip ?_|refine pExit ?_|refine pRet ?_|refine pCond ?_|refine gNone ?_))
    refine ⟨by show 0 ≤ _ ∧ _ < ((hexL.length : Nat) : Int); rw [show hexL.length = 16 from rfl]; omega, ?_⟩
    intro m hm
    obtain rfl : m = c.toNat % 16 := by omega
    refine ⟨_, hexL_get (by omega), ?_⟩
    (repeat(first|refine pSeq ?_|refine pReg ?_|refine sCons ?_|refine sNil ?_|refine rCons ?_|refine rNil ?_|refine kNo ?_|refine pRow ?_|refine pBlock ?_|refine pSkip ?_|refine pExit ?_|refine pRet ?_|refine pCond ?_|refine gNone ?_))
    have f1 := c1.fine f
    refine mkS_is rfl rfl (rNew f1.at ?_)
    (repeat(first|refine pSeq ?_|refine pReg ?_|refine sCons ?_|refine sNil ?_|refine rCons ?_|refine rNil ?_|refine kNo ?_|refine pRow ?_|refine pBlock ?_|refine pSkip ?_|refine pExit ?_|refine pRet ?_|refine pCond ?_|refine gNone ?_))
    refine toStr_is10 (l := hex1 c) rfl lkH rfl ?_
    (repeat(first|refine pSeq ?_|refine pReg ?_|refine sCons ?_|refine sNil ?_|refine rCons ?_|refine rNil ?_|refine kNo ?_|refine pRow ?_|refine pBlock ?_|refine pSkip ?_|refine pExit ?_|refine pRet ?_|refine pCond ?_|refine gNone ?_))
    have hln : (hexF (h.take p)).length = 2 * p := by rw [hexF_len, List.length_take]; omega
    refine ⟨by rw [hln]; show 2 * p + 2 ≤ _; omega, ?_⟩
    intro l hl'
    rw [← hexF_next hc] at hl'
    subst hl'
    (repeat(first|refine pSeq ?_|refine pReg ?_|refine sCons ?_|refine sNil ?_|refine rCons ?_|refine rNil ?_|refine kNo ?_|refine pRow ?_|refine pBlock ?_|refine pSkip ?_|refine pExit ?_|refine pRet ?_|refine pCond ?_|refine gNone ?_))
    intro z hz
    rw [i64_id (by omega)] at hz
    subst hz
    (repeat(first|refine pSeq ?_|refine pReg ?_|refine sCons ?_|refine sNil ?_|refine rCons ?_|refine rNil ?_|refine kNo ?_|refine pRow ?_|refine pBlock ?_|refine pSkip ?_|refine pExit ?_|refine pRet ?_|refine pCond ?_|refine gNone ?_))
    exact ⟨(p + 1, _), ⟨by omega, c1.nil (.new [])⟩, by show 20 - (p + 1) < 20 - p; omega, Wk.same ⟨rfl, rfl, rfl, trivial⟩⟩

theorem many_w {s : SS} {c : UInt8} {n : Nat} (f : Fine s) (hn : n ≤ 1000) : CallW pr n_law10_HashKnown_2 [.int .u8 c.toNat, .int .i64 n] s fun v s' => ∃ b, v = .slice (some ⟨b, 0, none⟩) n n ∧ Slc pr s' (some ⟨b, 0, none⟩) n n (List.replicate n c) ∧ Chg s s' [] := by
  refine CallW.run good ok_law10_HashKnown_2 (by simp) rfl ?_
  (repeat(first|refine pSeq ?_|refine pReg ?_|refine sCons ?_|refine sNil ?_|refine pBlock ?_|refine pSkip ?_|refine pExit ?_|refine pRet ?_|refine pCond ?_|refine gNone ?_))
  refine ⟨by omega, ?_⟩
  intro m1 n1 hm1 hn1 cs hcs
  obtain rfl : m1 = n := by omega
  obtain rfl : n1 = m1 := by omega
  rw [rep_bytes] at hcs
  subst hcs
  obtain ⟨h0, c0, f0⟩ := new1_at f (.cells (bytesV (List.replicate n1 0)) tB false false)
  (repeat(first|refine pSeq ?_|refine pReg ?_|refine sCons ?_|refine sNil ?_|refine pBlock ?_|refine pSkip ?_|refine pExit ?_|refine pRet ?_|refine pCond ?_|refine gNone ?_))
  have hl : (List.replicate n1 c).length = n1 := List.length_replicate
  refine pLoop (MW.head good (fun p : Nat × SS => n1 - p.1) (fun p => p.1 ≤ n1 ∧ lookH p.2.heap s.next = some (.cells (bytesV (soF 0 (List.replicate n1 c) p.1)) tB false false) ∧ Chg s p.2 [] ∧ s.next < p.2.next)
    (fun p => [(0, .int .u8 c.toNat), (5, .slice (some ⟨s.next, 0, none⟩) n1 n1), (10, .int .i64 n1), (11, .int .i64 p.1)]) (fun p => p.2) (0, _) ⟨Nat.zero_le _, by rw [soF_0, hl]; exact h0, c0, Nat.lt_succ_self _⟩ (Wk.same ⟨rfl, rfl, rfl, rfl, trivial⟩) ?_)
  clear h0 c0 f0
  intro ⟨p, s1⟩ ⟨hp, h1, c1, n2⟩
  dsimp only at hp h1 c1 n2 ⊢
  (repeat(first|refine pSeq ?_|refine pReg ?_|refine sCons ?_|refine sNil ?_|refine pBlock ?_|refine pSkip ?_|refine pExit ?_|refine pRet ?_|refine pCond ?_|refine gNone ?_))
  intro q hq
  by_cases h5 : p = n1
  · subst h5
    obtain rfl : q = false := by rw [hq]; simp <;> omega
    (repeat(first|refine pSeq ?_|refine pReg ?_|refine sCons ?_|refine sNil ?_|refine pBlock ?_|refine pSkip ?_|refine pExit ?_|refine pRet ?_|refine pCond ?_|refine gNone ?_))
    have e := soF_all 0 (List.replicate p c)
    rw [hl] at e
    rw [e] at h1
    exact ⟨s.next, rfl, cell_slc h1 n2 hl, c1⟩
  · obtain rfl : q = true := by rw [hq]; simp <;> omega
    (repeat(first|refine pSeq ?_|refine pReg ?_|refine sCons ?_|refine sNil ?_|refine pBlock ?_|refine pSkip ?_|refine pExit ?_|refine pRet ?_|refine pCond ?_|refine gNone ?_))
    refine ⟨by omega, ?_⟩
    intro m hm o ho
    obtain rfl : m = p := by omega
    rw [Nat.zero_add, Nat.mul_one] at ho
    subst ho
    (repeat(first|refine pSeq ?_|refine pReg ?_|refine sCons ?_|refine sNil ?_|refine pBlock ?_|refine pSkip ?_|refine pExit ?_|refine pRet ?_|refine pCond ?_|refine gNone ?_))
    have hg : (List.replicate n1 c)[o]? = some c := by rw [List.getElem?_replicate, if_pos (by omega)]
    refine st_abs (cs' := bytesV (soF 0 (List.replicate n1 c) (o + 1))) rfl rfl h1 n2 rfl (by rw [soF_next 0 hg]; exact bytes_set (by rw [soF_len _ _ _ (by omega), hl]; omega) _) fun s2 e2 c2 n3 => ?_
    (repeat(first|refine pSeq ?_|refine pReg ?_|refine sCons ?_|refine sNil ?_|refine pBlock ?_|refine pSkip ?_|refine pExit ?_|refine pRet ?_|refine pCond ?_|refine gNone ?_))
    intro z hz
    rw [i64_id (by omega)] at hz
    subst hz
    (repeat(first|refine pSeq ?_|refine pReg ?_|refine sCons ?_|refine sNil ?_|refine pBlock ?_|refine pSkip ?_|refine pExit ?_|refine pRet ?_|refine pCond ?_|refine gNone ?_))
    exact ⟨(o + 1, s2), ⟨by omega, e2, c1.fresh c2 (by simp), by show s.next < s2.next; omega⟩, by show n1 - (o + 1) < n1 - o; omega, Wk.same ⟨rfl, rfl, rfl, rfl, trivial⟩⟩
end Go.Vf.S

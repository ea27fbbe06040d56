import Derived.Test.YtphcpdopfolopaaDoorCoQ
/- CodingKnown: from any state in which the kinds lie. By gen_cou.py. -/
namespace Go.Vf.S
open Go Go.Vf Go.Proofs Go.RowKit
attribute [local irreducible] wSeq wRow wp wG
set_option linter.unusedVariables false
set_option linter.unusedSimpArgs false
set_option maxRecDepth 10000

def rows11 : List (List UInt8 × List UInt8 × List UInt8) := [([], [], []), ([102, 111], [77, 90, 88, 81], [90, 109, 56, 61]), ([102, 111, 111], [77, 90, 88, 87, 54], [90, 109, 57, 118]), ([102, 111, 111, 98], [77, 90, 88, 87, 54, 89, 81], [90, 109, 57, 118, 89, 103, 61, 61]), ([102, 111, 111, 98, 97], [77, 90, 88, 87, 54, 89, 84, 66], [90, 109, 57, 118, 89, 109, 69, 61])]
def rows11V : List Value := rows11.flatMap fun x => [str x.1, str x.2.1, str x.2.2]
def bad5 : List (List UInt8) := [[77], [77, 90, 88], [77, 90], [77, 49], [77, 90, 88, 87, 54, 89], [77, 89, 61, 61, 61, 61, 61, 61], [77, 32], [77, 90, 88, 87, 54, 89, 84, 66, 79], [197, 191, 197, 191]]
def bad6 : List (List UInt8) := [[90], [90, 103], [90, 103, 61], [90, 104, 61, 61], [90, 109, 57, 61], [61], [61, 61, 61, 61], [90, 103, 61, 61, 90, 103, 61, 61], [90, 109, 57, 118, 61], [90, 109, 57, 118, 61, 61, 61, 61], [90, 109, 45, 118], [90, 103, 32, 61], [90, 61, 61, 61]]
def bad4 : List (List UInt8) := [[54], [54, 103], [48, 120], [32, 54], [54, 54, 54]]
def strsV (l : List (List UInt8)) : List Value := l.map str
theorem rows_ok : ∀ x ∈ rows11, (tellF 5 x.1 = x.2.1 ∧ tellF 6 x.1 = x.2.2) ∧ x.1.length ≤ 5 := by decide +kernel
theorem bad5_ok : ∀ x ∈ bad5, readF 5 x = none ∧ x.length ≤ 20 := by decide +kernel
theorem bad6_ok : ∀ x ∈ bad6, readF 6 x = none ∧ x.length ≤ 20 := by decide +kernel
theorem bad4_ok : ∀ x ∈ bad4, readF 4 x = none ∧ x.length ≤ 20 := by decide +kernel
theorem rows_take {i : Nat} (h : i < 5) : ∃ x ∈ rows11, takeN 3 (rows11V.drop (i * 3)) = some [str x.1, str x.2.1, str x.2.2] := by
  rcases (show i = 0 ∨ i = 1 ∨ i = 2 ∨ i = 3 ∨ i = 4 by omega) with rfl | rfl | rfl | rfl | rfl
  · exact ⟨([], [], []), by decide, rfl⟩
  · exact ⟨([102, 111], [77, 90, 88, 81], [90, 109, 56, 61]), by decide, rfl⟩
  · exact ⟨([102, 111, 111], [77, 90, 88, 87, 54], [90, 109, 57, 118]), by decide, rfl⟩
  · exact ⟨([102, 111, 111, 98], [77, 90, 88, 87, 54, 89, 81], [90, 109, 57, 118, 89, 103, 61, 61]), by decide, rfl⟩
  · exact ⟨([102, 111, 111, 98, 97], [77, 90, 88, 87, 54, 89, 84, 66], [90, 109, 57, 118, 89, 109, 69, 61]), by decide, rfl⟩
theorem strs_get {l : List (List UInt8)} {i : Nat} (h : i < l.length) : ∃ x ∈ l, (strsV l)[i]? = some (str x) :=
  ⟨l[i], List.getElem_mem h, by unfold strsV; rw [List.getElem?_map, List.getElem?_eq_getElem h]; rfl⟩
/-- A part, of several cells, of an array that is a value. -/
theorem gen_ixA {T : TL} {s : SS} {K : RR → Prop} {t elem : TypeId} {len w : Nat} {x i : Tmp} {cs part : List Value} {k : IntKind} {n : Nat} (hu : pr.underlying t = some (.array len elem)) (hz : sizeB pr elem = some w) (ha : aggB pr elem = some true)
    (hx : look T x = some (.agg ⟨cs⟩)) (hi : look T i = some (.int k (n : Int))) (hn : n < len) (hv : takeN w (cs.drop (n * w)) = some part) (h : K (.val (.agg ⟨part⟩))) : wN pr (.gen (.index t (.tmp x) (.tmp i))) T s K := by
  refine ⟨.val (.agg ⟨part⟩), ?_, h⟩
  have e : idx (.int k (n : Int)) len = some n := by
    show (bif Nat.blt n len then some n else none) = _
    rw [show Nat.blt n len = true from by rw [Nat.blt_eq]; exact hn]; rfl
  simp only [aOp, operand, toTr_get, hx, hi, hu, e, hz, partB, ha, hv]
  rfl
abbrev tR3 : TypeId := 43
abbrev tR53 : TypeId := 44
abbrev tS9 : TypeId := 45
abbrev tS13 : TypeId := 46
abbrev tS5 : TypeId := 47
abbrev tStr : TypeId := 9
theorem un_R53 : pr.underlying tR53 = some (.array 5 tR3) := by kernel_rfl
theorem sz_R3 : sizeB pr tR3 = some 3 := by kernel_rfl
theorem agg_R3 : aggB pr tR3 = some true := by kernel_rfl
theorem un_S9 : pr.underlying tS9 = some (.array 9 tStr) := by kernel_rfl
theorem un_S13 : pr.underlying tS13 = some (.array 13 tStr) := by kernel_rfl
theorem un_S5 : pr.underlying tS5 = some (.array 5 tStr) := by kernel_rfl
theorem sz_Str : sizeB pr tStr = some 1 := by kernel_rfl
theorem agg_Str : aggB pr tStr = some false := by kernel_rfl
/-- A text's bytes, in a block of their own. -/
theorem tb_rdb {s : SS} (l : List UInt8) : Rdb { s with heap := (s.next, some (.cells (bytesV l) tB true false)) :: s.heap, next := s.next + 1 } (some ⟨s.next, 0, none⟩) l.length l :=
  ⟨rfl, rfl, Nat.lt_succ_self _, _, _, _, _, lkH, bytes_take rfl, bytesV_plain _⟩
theorem kn1 : readF 5 [109, 122, 120, 119, 54, 121, 116, 98, 111, 105] = some allL := by decide +kernel
theorem kn2 : readF 4 [70, 70, 48, 97] = some [255, 10] := by decide +kernel
theorem kn3 : tellF 6 [255, 239, 190] = [47, 43, 43, 43] := by decide +kernel
theorem kn4 : tellF 4 [0] = [48, 48] := by decide +kernel

set_option maxHeartbeats 4000000 in
theorem cknown_w {s : SS} (hG : Gk s) (f : Fine s) : CallW pr n_law11_CodingKnown [] s fun v s' => v = .bool true := by
  refine CallW.run good ok_law11_CodingKnown (by simp) rfl ?_
  (repeat(first|refine pSeq ?_|refine pReg ?_|refine sCons ?_|refine sNil ?_|refine rCons ?_|refine rNil ?_|refine kNo ?_|refine pRow ?_|refine pBlock ?_|refine pSkip ?_|refine pExit ?_|refine pRet ?_|refine pCond ?_|refine gNone ?_|refine gOn rfl ?_|refine gOff rfl rfl ?_|refine gTup rfl ?_))
  refine st_abs (cs' := rows11V) rfl rfl lkH (Nat.lt_succ_self _) rfl rfl fun s1 x1 c1 nx1 => ?_
  replace c1 : Chg s s1 [] := (Chg.new []).fresh c1 (by simp)
  have f1 := c1.fine f
  (repeat(first|refine pSeq ?_|refine pReg ?_|refine sCons ?_|refine sNil ?_|refine rCons ?_|refine rNil ?_|refine kNo ?_|refine pRow ?_|refine pBlock ?_|refine pSkip ?_|refine pExit ?_|refine pRet ?_|refine pCond ?_|refine gNone ?_|refine gOn rfl ?_|refine gOff rfl rfl ?_|refine gTup rfl ?_))
  refine ldN_is rfl x1 (show _ = some rows11V from rfl) ?_
  clear x1 nx1
  (repeat(first|refine pSeq ?_|refine pReg ?_|refine sCons ?_|refine sNil ?_|refine rCons ?_|refine rNil ?_|refine kNo ?_|refine pRow ?_|refine pBlock ?_|refine pSkip ?_|refine pExit ?_|refine pRet ?_|refine pCond ?_|refine gNone ?_|refine gOn rfl ?_|refine gOff rfl rfl ?_|refine gTup rfl ?_))
  refine pLoop (MW.head good (fun x : Nat × SS => 5 - x.1) (fun x => x.1 ≤ 5 ∧ Chg s x.2 []) (fun x => [(26, .agg ⟨rows11V⟩), (27, .int .i64 x.1)]) (fun x => x.2) (0, s1) ⟨Nat.zero_le _, c1⟩ (Wk.same ⟨rfl, rfl, trivial⟩) ?_)
  clear c1 f1
  intro ⟨i, s2⟩ ⟨hi, c2⟩
  dsimp only at hi c2 ⊢
  have f2 := c2.fine f
  have hG2 := hG.nil c2
  (repeat(first|refine pSeq ?_|refine pReg ?_|refine sCons ?_|refine sNil ?_|refine rCons ?_|refine rNil ?_|refine kNo ?_|refine pRow ?_|refine pBlock ?_|refine pSkip ?_|refine pExit ?_|refine pRet ?_|refine pCond ?_|refine gNone ?_|refine gOn rfl ?_|refine gOff rfl rfl ?_|refine gTup rfl ?_))
  intro q hq
  by_cases h5 : i = 5
  case' neg =>
    obtain rfl : q = true := by rw [hq]; simp; omega
    obtain ⟨⟨ra, rb, rc⟩, hmem, htk⟩ := rows_take (show i < 5 by omega)
    obtain ⟨⟨ho1, ho2⟩, ho3⟩ := rows_ok _ hmem
    dsimp only at htk ho1 ho2 ho3
    (repeat(first|refine pSeq ?_|refine pReg ?_|refine sCons ?_|refine sNil ?_|refine rCons ?_|refine rNil ?_|refine kNo ?_|refine pRow ?_|refine pBlock ?_|refine pSkip ?_|refine pExit ?_|refine pRet ?_|refine pCond ?_|refine gNone ?_|refine gOn rfl ?_|refine gOff rfl rfl ?_|refine gTup rfl ?_))
    refine gen_ixA un_R53 sz_R3 agg_R3 rfl rfl (show i < 5 by omega) htk ?_
    (repeat(first|refine pSeq ?_|refine pReg ?_|refine sCons ?_|refine sNil ?_|refine rCons ?_|refine rNil ?_|refine kNo ?_|refine pRow ?_|refine pBlock ?_|refine pSkip ?_|refine pExit ?_|refine pRet ?_|refine pCond ?_|refine gNone ?_|refine gOn rfl ?_|refine gOff rfl rfl ?_|refine gTup rfl ?_))
    obtain ⟨n0, n1, n2⟩ := new1_at f2 (.cells [str [], str [], str []] tR3 false false)
    refine st_abs (cs' := [str ra, str rb, str rc]) rfl rfl n0 (Nat.lt_succ_self _) rfl rfl fun s3 x3 d3 nx3 => ?_
    replace nx3 : s3.next = s2.next + 1 := nx3
    replace d3 : Chg s2 s3 [] := n1.fresh d3 (by simp)
    have d23 := c2.nil d3
    have f3 := d23.fine f
    clear n0 n1 n2
    (repeat(first|refine pSeq ?_|refine pReg ?_|refine sCons ?_|refine sNil ?_|refine rCons ?_|refine rNil ?_|refine kNo ?_|refine pRow ?_|refine pBlock ?_|refine pSkip ?_|refine pExit ?_|refine pRet ?_|refine pCond ?_|refine gNone ?_|refine gOn rfl ?_|refine gOff rfl rfl ?_|refine gTup rfl ?_))
    refine ⟨by decide, ?_⟩
    intro k hk o ho
    obtain rfl : k = 0 := by omega
    obtain rfl : o = 0 := by omega
    (repeat(first|refine pSeq ?_|refine pReg ?_|refine sCons ?_|refine sNil ?_|refine rCons ?_|refine rNil ?_|refine kNo ?_|refine pRow ?_|refine pBlock ?_|refine pSkip ?_|refine pExit ?_|refine pRet ?_|refine pCond ?_|refine gNone ?_|refine gOn rfl ?_|refine gOff rfl rfl ?_|refine gTup rfl ?_))
    refine ldS_is rfl x3 (show _ = some (str ra) from rfl) ?_
    (repeat(first|refine pSeq ?_|refine pReg ?_|refine sCons ?_|refine sNil ?_|refine rCons ?_|refine rNil ?_|refine kNo ?_|refine pRow ?_|refine pBlock ?_|refine pSkip ?_|refine pExit ?_|refine pRet ?_|refine pCond ?_|refine gNone ?_|refine gOn rfl ?_|refine gOff rfl rfl ?_|refine gTup rfl ?_))
    refine ⟨by omega, rNew f3.at ?_⟩
    (repeat(first|refine pSeq ?_|refine pReg ?_|refine sCons ?_|refine sNil ?_|refine rCons ?_|refine rNil ?_|refine kNo ?_|refine pRow ?_|refine pBlock ?_|refine pSkip ?_|refine pExit ?_|refine pRet ?_|refine pCond ?_|refine gNone ?_|refine gOn rfl ?_|refine gOff rfl rfl ?_|refine gTup rfl ?_))
    refine ⟨by decide, ?_⟩
    intro k hk o ho
    obtain rfl : k = 1 := by omega
    obtain rfl : o = 1 := by omega
    (repeat(first|refine pSeq ?_|refine pReg ?_|refine sCons ?_|refine sNil ?_|refine rCons ?_|refine rNil ?_|refine kNo ?_|refine pRow ?_|refine pBlock ?_|refine pSkip ?_|refine pExit ?_|refine pRet ?_|refine pCond ?_|refine gNone ?_|refine gOn rfl ?_|refine gOff rfl rfl ?_|refine gTup rfl ?_))
    have e1 : Chg s3 { s3 with heap := (s3.next, some (.cells (bytesV ra) tB true false)) :: s3.heap, next := s3.next + 1 } [] := .new []
    have g1 := e1.fine f3
    refine ldS_is rfl (lkT (show s3.next ≠ s2.next by omega) x3) (show _ = some (str rb) from rfl) ?_
    (repeat(first|refine pSeq ?_|refine pReg ?_|refine sCons ?_|refine sNil ?_|refine rCons ?_|refine rNil ?_|refine kNo ?_|refine pRow ?_|refine pBlock ?_|refine pSkip ?_|refine pExit ?_|refine pRet ?_|refine pCond ?_|refine gNone ?_|refine gOn rfl ?_|refine gOff rfl rfl ?_|refine gTup rfl ?_))
    refine (base32_w (hG.nil (d23.nil e1)) g1 (tb_rdb ra) (by omega)).mono fun v s4 q => ?_
    obtain ⟨rfl, d4⟩ := q
    have d24 := (d23.nil e1).nil d4
    have f4 := d24.fine f
    have x4 := (e1.nil d4).blk _ _ (show s2.next < s3.next by omega) (by simp) x3
    refine kAll (d4.keep g1) ?_
    clear x3 e1 g1
    (repeat(first|refine pSeq ?_|refine pReg ?_|refine sCons ?_|refine sNil ?_|refine rCons ?_|refine rNil ?_|refine kNo ?_|refine pRow ?_|refine pBlock ?_|refine pSkip ?_|refine pExit ?_|refine pRet ?_|refine pCond ?_|refine gNone ?_|refine gOn rfl ?_|refine gOff rfl rfl ?_|refine gTup rfl ?_))
    intro q hq
    obtain rfl : q = false := by rw [hq, ho1]; simp
    (repeat(first|refine pSeq ?_|refine pReg ?_|refine sCons ?_|refine sNil ?_|refine rCons ?_|refine rNil ?_|refine kNo ?_|refine pRow ?_|refine pBlock ?_|refine pSkip ?_|refine pExit ?_|refine pRet ?_|refine pCond ?_|refine gNone ?_|refine gOn rfl ?_|refine gOff rfl rfl ?_|refine gTup rfl ?_))
    refine ⟨by decide, ?_⟩
    intro k hk o ho
    obtain rfl : k = 0 := by omega
    obtain rfl : o = 0 := by omega
    (repeat(first|refine pSeq ?_|refine pReg ?_|refine sCons ?_|refine sNil ?_|refine rCons ?_|refine rNil ?_|refine kNo ?_|refine pRow ?_|refine pBlock ?_|refine pSkip ?_|refine pExit ?_|refine pRet ?_|refine pCond ?_|refine gNone ?_|refine gOn rfl ?_|refine gOff rfl rfl ?_|refine gTup rfl ?_))
    refine ldS_is rfl x4 (show _ = some (str ra) from rfl) ?_
    (repeat(first|refine pSeq ?_|refine pReg ?_|refine sCons ?_|refine sNil ?_|refine rCons ?_|refine rNil ?_|refine kNo ?_|refine pRow ?_|refine pBlock ?_|refine pSkip ?_|refine pExit ?_|refine pRet ?_|refine pCond ?_|refine gNone ?_|refine gOn rfl ?_|refine gOff rfl rfl ?_|refine gTup rfl ?_))
    refine ⟨by omega, rNew f4.at ?_⟩
    (repeat(first|refine pSeq ?_|refine pReg ?_|refine sCons ?_|refine sNil ?_|refine rCons ?_|refine rNil ?_|refine kNo ?_|refine pRow ?_|refine pBlock ?_|refine pSkip ?_|refine pExit ?_|refine pRet ?_|refine pCond ?_|refine gNone ?_|refine gOn rfl ?_|refine gOff rfl rfl ?_|refine gTup rfl ?_))
    refine ⟨by decide, ?_⟩
    intro k hk o ho
    obtain rfl : k = 2 := by omega
    obtain rfl : o = 2 := by omega
    (repeat(first|refine pSeq ?_|refine pReg ?_|refine sCons ?_|refine sNil ?_|refine rCons ?_|refine rNil ?_|refine kNo ?_|refine pRow ?_|refine pBlock ?_|refine pSkip ?_|refine pExit ?_|refine pRet ?_|refine pCond ?_|refine gNone ?_|refine gOn rfl ?_|refine gOff rfl rfl ?_|refine gTup rfl ?_))
    have e1 : Chg s4 { s4 with heap := (s4.next, some (.cells (bytesV ra) tB true false)) :: s4.heap, next := s4.next + 1 } [] := .new []
    have g1 := e1.fine f4
    refine ldS_is rfl (lkT (show s4.next ≠ s2.next by have := d4.next; have : s3.next + 1 ≤ s4.next := this; omega) x4) (show _ = some (str rc) from rfl) ?_
    (repeat(first|refine pSeq ?_|refine pReg ?_|refine sCons ?_|refine sNil ?_|refine rCons ?_|refine rNil ?_|refine kNo ?_|refine pRow ?_|refine pBlock ?_|refine pSkip ?_|refine pExit ?_|refine pRet ?_|refine pCond ?_|refine gNone ?_|refine gOn rfl ?_|refine gOff rfl rfl ?_|refine gTup rfl ?_))
    refine (base64_w (hG.nil (d24.nil e1)) g1 (tb_rdb ra) (by omega)).mono fun v s5 q => ?_
    obtain ⟨rfl, d5⟩ := q
    have d25 := (d24.nil e1).nil d5
    refine kAll (d5.keep g1) ?_
    (repeat(first|refine pSeq ?_|refine pReg ?_|refine sCons ?_|refine sNil ?_|refine rCons ?_|refine rNil ?_|refine kNo ?_|refine pRow ?_|refine pBlock ?_|refine pSkip ?_|refine pExit ?_|refine pRet ?_|refine pCond ?_|refine gNone ?_|refine gOn rfl ?_|refine gOff rfl rfl ?_|refine gTup rfl ?_))
    intro q hq
    obtain rfl : q = false := by rw [hq, ho2]; simp
    (repeat(first|refine pSeq ?_|refine pReg ?_|refine sCons ?_|refine sNil ?_|refine rCons ?_|refine rNil ?_|refine kNo ?_|refine pRow ?_|refine pBlock ?_|refine pSkip ?_|refine pExit ?_|refine pRet ?_|refine pCond ?_|refine gNone ?_|refine gOn rfl ?_|refine gOff rfl rfl ?_|refine gTup rfl ?_))
    intro w hw
    rw [i64_id (by omega)] at hw
    obtain rfl : w = ((i + 1 : Nat) : Int) := by omega
    (repeat(first|refine pSeq ?_|refine pReg ?_|refine sCons ?_|refine sNil ?_|refine rCons ?_|refine rNil ?_|refine kNo ?_|refine pRow ?_|refine pBlock ?_|refine pSkip ?_|refine pExit ?_|refine pRet ?_|refine pCond ?_|refine gNone ?_|refine gOn rfl ?_|refine gOff rfl rfl ?_|refine gTup rfl ?_))
    exact ⟨(i + 1, s5), ⟨by show i + 1 ≤ 5; omega, d25⟩, by show 5 - (i + 1) < 5 - i; omega, Wk.same ⟨rfl, rfl, trivial⟩⟩
  subst h5
  obtain rfl : q = false := by rw [hq]; rfl
  (repeat(first|refine pSeq ?_|refine pReg ?_|refine sCons ?_|refine sNil ?_|refine rCons ?_|refine rNil ?_|refine kNo ?_|refine pRow ?_|refine pBlock ?_|refine pSkip ?_|refine pExit ?_|refine pRet ?_|refine pCond ?_|refine gNone ?_|refine gOn rfl ?_|refine gOff rfl rfl ?_|refine gTup rfl ?_))
  refine pLoop (MW.head good (fun x : Nat × SS => 9 - x.1) (fun x => x.1 ≤ 9 ∧ Chg s x.2 []) (fun x => [(47, .agg ⟨strsV bad5⟩), (48, .int .i64 x.1)]) (fun x => x.2) (0, s2) ⟨Nat.zero_le _, c2⟩ (Wk.same ⟨rfl, rfl, trivial⟩) ?_)
  intro ⟨i, s12⟩ ⟨hi, c12⟩
  dsimp only at hi c12 ⊢
  have f12 := c12.fine f
  have hG12 := hG.nil c12
  (repeat(first|refine pSeq ?_|refine pReg ?_|refine sCons ?_|refine sNil ?_|refine rCons ?_|refine rNil ?_|refine kNo ?_|refine pRow ?_|refine pBlock ?_|refine pSkip ?_|refine pExit ?_|refine pRet ?_|refine pCond ?_|refine gNone ?_|refine gOn rfl ?_|refine gOff rfl rfl ?_|refine gTup rfl ?_))
  intro q hq
  by_cases h5 : i = 9
  case' neg =>
    obtain rfl : q = true := by rw [hq]; simp; omega
    obtain ⟨x, hx, hxi⟩ := strs_get (l := bad5) (show i < 9 by omega)
    obtain ⟨hx1, hx2⟩ := bad5_ok x hx
    (repeat(first|refine pSeq ?_|refine pReg ?_|refine sCons ?_|refine sNil ?_|refine rCons ?_|refine rNil ?_|refine kNo ?_|refine pRow ?_|refine pBlock ?_|refine pSkip ?_|refine pExit ?_|refine pRet ?_|refine pCond ?_|refine gNone ?_|refine gOn rfl ?_|refine gOff rfl rfl ?_|refine gTup rfl ?_))
    refine gen_ix un_S9 sz_Str agg_Str rfl rfl (show i < 9 by omega) hxi ?_
    (repeat(first|refine pSeq ?_|refine pReg ?_|refine sCons ?_|refine sNil ?_|refine rCons ?_|refine rNil ?_|refine kNo ?_|refine pRow ?_|refine pBlock ?_|refine pSkip ?_|refine pExit ?_|refine pRet ?_|refine pCond ?_|refine gNone ?_|refine gOn rfl ?_|refine gOff rfl rfl ?_|refine gTup rfl ?_))
    refine (unBase32_w hG12 f12 (by omega)).mono fun v s3 q => ?_
    obtain ⟨q, d3⟩ := q
    rw [hx1] at q
    obtain rfl : v = _ := q
    (repeat(first|refine pSeq ?_|refine pReg ?_|refine sCons ?_|refine sNil ?_|refine rCons ?_|refine rNil ?_|refine kNo ?_|refine pRow ?_|refine pBlock ?_|refine pSkip ?_|refine pExit ?_|refine pRet ?_|refine pCond ?_|refine gNone ?_|refine gOn rfl ?_|refine gOff rfl rfl ?_|refine gTup rfl ?_))
    intro q hq
    obtain rfl : q = false := by rw [hq]; rfl
    (repeat(first|refine pSeq ?_|refine pReg ?_|refine sCons ?_|refine sNil ?_|refine rCons ?_|refine rNil ?_|refine kNo ?_|refine pRow ?_|refine pBlock ?_|refine pSkip ?_|refine pExit ?_|refine pRet ?_|refine pCond ?_|refine gNone ?_|refine gOn rfl ?_|refine gOff rfl rfl ?_|refine gTup rfl ?_))
    intro w hw
    rw [i64_id (by omega)] at hw
    obtain rfl : w = ((i + 1 : Nat) : Int) := by omega
    (repeat(first|refine pSeq ?_|refine pReg ?_|refine sCons ?_|refine sNil ?_|refine rCons ?_|refine rNil ?_|refine kNo ?_|refine pRow ?_|refine pBlock ?_|refine pSkip ?_|refine pExit ?_|refine pRet ?_|refine pCond ?_|refine gNone ?_|refine gOn rfl ?_|refine gOff rfl rfl ?_|refine gTup rfl ?_))
    exact ⟨(i + 1, s3), ⟨by show i + 1 ≤ 9; omega, c12.nil d3⟩, by show 9 - (i + 1) < 9 - i; omega, Wk.same ⟨rfl, rfl, trivial⟩⟩
  subst h5
  obtain rfl : q = false := by rw [hq]; rfl
  (repeat(first|refine pSeq ?_|refine pReg ?_|refine sCons ?_|refine sNil ?_|refine rCons ?_|refine rNil ?_|refine kNo ?_|refine pRow ?_|refine pBlock ?_|refine pSkip ?_|refine pExit ?_|refine pRet ?_|refine pCond ?_|refine gNone ?_|refine gOn rfl ?_|refine gOff rfl rfl ?_|refine gTup rfl ?_))
  refine pLoop (MW.head good (fun x : Nat × SS => 13 - x.1) (fun x => x.1 ≤ 13 ∧ Chg s x.2 []) (fun x => [(59, .agg ⟨strsV bad6⟩), (60, .int .i64 x.1)]) (fun x => x.2) (0, s12) ⟨Nat.zero_le _, c12⟩ (Wk.same ⟨rfl, rfl, trivial⟩) ?_)
  intro ⟨i, s13⟩ ⟨hi, c13⟩
  dsimp only at hi c13 ⊢
  have f13 := c13.fine f
  have hG13 := hG.nil c13
  (repeat(first|refine pSeq ?_|refine pReg ?_|refine sCons ?_|refine sNil ?_|refine rCons ?_|refine rNil ?_|refine kNo ?_|refine pRow ?_|refine pBlock ?_|refine pSkip ?_|refine pExit ?_|refine pRet ?_|refine pCond ?_|refine gNone ?_|refine gOn rfl ?_|refine gOff rfl rfl ?_|refine gTup rfl ?_))
  intro q hq
  by_cases h5 : i = 13
  case' neg =>
    obtain rfl : q = true := by rw [hq]; simp; omega
    obtain ⟨x, hx, hxi⟩ := strs_get (l := bad6) (show i < 13 by omega)
    obtain ⟨hx1, hx2⟩ := bad6_ok x hx
    (repeat(first|refine pSeq ?_|refine pReg ?_|refine sCons ?_|refine sNil ?_|refine rCons ?_|refine rNil ?_|refine kNo ?_|refine pRow ?_|refine pBlock ?_|refine pSkip ?_|refine pExit ?_|refine pRet ?_|refine pCond ?_|refine gNone ?_|refine gOn rfl ?_|refine gOff rfl rfl ?_|refine gTup rfl ?_))
    refine gen_ix un_S13 sz_Str agg_Str rfl rfl (show i < 13 by omega) hxi ?_
    (repeat(first|refine pSeq ?_|refine pReg ?_|refine sCons ?_|refine sNil ?_|refine rCons ?_|refine rNil ?_|refine kNo ?_|refine pRow ?_|refine pBlock ?_|refine pSkip ?_|refine pExit ?_|refine pRet ?_|refine pCond ?_|refine gNone ?_|refine gOn rfl ?_|refine gOff rfl rfl ?_|refine gTup rfl ?_))
    refine (unBase64_w hG13 f13 (by omega)).mono fun v s3 q => ?_
    obtain ⟨q, d3⟩ := q
    rw [hx1] at q
    obtain rfl : v = _ := q
    (repeat(first|refine pSeq ?_|refine pReg ?_|refine sCons ?_|refine sNil ?_|refine rCons ?_|refine rNil ?_|refine kNo ?_|refine pRow ?_|refine pBlock ?_|refine pSkip ?_|refine pExit ?_|refine pRet ?_|refine pCond ?_|refine gNone ?_|refine gOn rfl ?_|refine gOff rfl rfl ?_|refine gTup rfl ?_))
    intro q hq
    obtain rfl : q = false := by rw [hq]; rfl
    (repeat(first|refine pSeq ?_|refine pReg ?_|refine sCons ?_|refine sNil ?_|refine rCons ?_|refine rNil ?_|refine kNo ?_|refine pRow ?_|refine pBlock ?_|refine pSkip ?_|refine pExit ?_|refine pRet ?_|refine pCond ?_|refine gNone ?_|refine gOn rfl ?_|refine gOff rfl rfl ?_|refine gTup rfl ?_))
    intro w hw
    rw [i64_id (by omega)] at hw
    obtain rfl : w = ((i + 1 : Nat) : Int) := by omega
    (repeat(first|refine pSeq ?_|refine pReg ?_|refine sCons ?_|refine sNil ?_|refine rCons ?_|refine rNil ?_|refine kNo ?_|refine pRow ?_|refine pBlock ?_|refine pSkip ?_|refine pExit ?_|refine pRet ?_|refine pCond ?_|refine gNone ?_|refine gOn rfl ?_|refine gOff rfl rfl ?_|refine gTup rfl ?_))
    exact ⟨(i + 1, s3), ⟨by show i + 1 ≤ 13; omega, c13.nil d3⟩, by show 13 - (i + 1) < 13 - i; omega, Wk.same ⟨rfl, rfl, trivial⟩⟩
  subst h5
  obtain rfl : q = false := by rw [hq]; rfl
  (repeat(first|refine pSeq ?_|refine pReg ?_|refine sCons ?_|refine sNil ?_|refine rCons ?_|refine rNil ?_|refine kNo ?_|refine pRow ?_|refine pBlock ?_|refine pSkip ?_|refine pExit ?_|refine pRet ?_|refine pCond ?_|refine gNone ?_|refine gOn rfl ?_|refine gOff rfl rfl ?_|refine gTup rfl ?_))
  refine pLoop (MW.head good (fun x : Nat × SS => 5 - x.1) (fun x => x.1 ≤ 5 ∧ Chg s x.2 []) (fun x => [(71, .agg ⟨strsV bad4⟩), (72, .int .i64 x.1)]) (fun x => x.2) (0, s13) ⟨Nat.zero_le _, c13⟩ (Wk.same ⟨rfl, rfl, trivial⟩) ?_)
  intro ⟨i, s14⟩ ⟨hi, c14⟩
  dsimp only at hi c14 ⊢
  have f14 := c14.fine f
  have hG14 := hG.nil c14
  (repeat(first|refine pSeq ?_|refine pReg ?_|refine sCons ?_|refine sNil ?_|refine rCons ?_|refine rNil ?_|refine kNo ?_|refine pRow ?_|refine pBlock ?_|refine pSkip ?_|refine pExit ?_|refine pRet ?_|refine pCond ?_|refine gNone ?_|refine gOn rfl ?_|refine gOff rfl rfl ?_|refine gTup rfl ?_))
  intro q hq
  by_cases h5 : i = 5
  case' neg =>
    obtain rfl : q = true := by rw [hq]; simp; omega
    obtain ⟨x, hx, hxi⟩ := strs_get (l := bad4) (show i < 5 by omega)
    obtain ⟨hx1, hx2⟩ := bad4_ok x hx
    (repeat(first|refine pSeq ?_|refine pReg ?_|refine sCons ?_|refine sNil ?_|refine rCons ?_|refine rNil ?_|refine kNo ?_|refine pRow ?_|refine pBlock ?_|refine pSkip ?_|refine pExit ?_|refine pRet ?_|refine pCond ?_|refine gNone ?_|refine gOn rfl ?_|refine gOff rfl rfl ?_|refine gTup rfl ?_))
    refine gen_ix un_S5 sz_Str agg_Str rfl rfl (show i < 5 by omega) hxi ?_
    (repeat(first|refine pSeq ?_|refine pReg ?_|refine sCons ?_|refine sNil ?_|refine rCons ?_|refine rNil ?_|refine kNo ?_|refine pRow ?_|refine pBlock ?_|refine pSkip ?_|refine pExit ?_|refine pRet ?_|refine pCond ?_|refine gNone ?_|refine gOn rfl ?_|refine gOff rfl rfl ?_|refine gTup rfl ?_))
    refine (unHex_w hG14 f14 (by omega)).mono fun v s3 q => ?_
    obtain ⟨q, d3⟩ := q
    rw [hx1] at q
    obtain rfl : v = _ := q
    (repeat(first|refine pSeq ?_|refine pReg ?_|refine sCons ?_|refine sNil ?_|refine rCons ?_|refine rNil ?_|refine kNo ?_|refine pRow ?_|refine pBlock ?_|refine pSkip ?_|refine pExit ?_|refine pRet ?_|refine pCond ?_|refine gNone ?_|refine gOn rfl ?_|refine gOff rfl rfl ?_|refine gTup rfl ?_))
    intro q hq
    obtain rfl : q = false := by rw [hq]; rfl
    (repeat(first|refine pSeq ?_|refine pReg ?_|refine sCons ?_|refine sNil ?_|refine rCons ?_|refine rNil ?_|refine kNo ?_|refine pRow ?_|refine pBlock ?_|refine pSkip ?_|refine pExit ?_|refine pRet ?_|refine pCond ?_|refine gNone ?_|refine gOn rfl ?_|refine gOff rfl rfl ?_|refine gTup rfl ?_))
    intro w hw
    rw [i64_id (by omega)] at hw
    obtain rfl : w = ((i + 1 : Nat) : Int) := by omega
    (repeat(first|refine pSeq ?_|refine pReg ?_|refine sCons ?_|refine sNil ?_|refine rCons ?_|refine rNil ?_|refine kNo ?_|refine pRow ?_|refine pBlock ?_|refine pSkip ?_|refine pExit ?_|refine pRet ?_|refine pCond ?_|refine gNone ?_|refine gOn rfl ?_|refine gOff rfl rfl ?_|refine gTup rfl ?_))
    exact ⟨(i + 1, s3), ⟨by show i + 1 ≤ 5; omega, c14.nil d3⟩, by show 5 - (i + 1) < 5 - i; omega, Wk.same ⟨rfl, rfl, trivial⟩⟩
  subst h5
  obtain rfl : q = false := by rw [hq]; rfl
  (repeat(first|refine pSeq ?_|refine pReg ?_|refine sCons ?_|refine sNil ?_|refine rCons ?_|refine rNil ?_|refine kNo ?_|refine pRow ?_|refine pBlock ?_|refine pSkip ?_|refine pExit ?_|refine pRet ?_|refine pCond ?_|refine gNone ?_|refine gOn rfl ?_|refine gOff rfl rfl ?_|refine gTup rfl ?_))
  refine (unBase32_w hG14 f14 (by decide)).mono fun v s15 q => ?_
  obtain ⟨q, c15⟩ := q
  rw [kn1] at q
  obtain ⟨rb, rn, rc, rfl, hr1, _⟩ := q
  have f15 := c15.fine f14
  have hG15 := hG14.nil c15
  (repeat(first|refine pSeq ?_|refine pReg ?_|refine sCons ?_|refine sNil ?_|refine rCons ?_|refine rNil ?_|refine kNo ?_|refine pRow ?_|refine pBlock ?_|refine pSkip ?_|refine pExit ?_|refine pRet ?_|refine pCond ?_|refine gNone ?_|refine gOn rfl ?_|refine gOff rfl rfl ?_|refine gTup rfl ?_))
  refine (unHex_w hG15 f15 (by decide)).mono fun v s16 q => ?_
  obtain ⟨q, c16⟩ := q
  rw [kn2] at q
  obtain ⟨ub, un, uc, rfl, hr2, _⟩ := q
  have f16 := c16.fine f15
  have hG16 := hG15.nil c16
  replace hr1 := hr1.chg c16 (by simp)
  (repeat(first|refine pSeq ?_|refine pReg ?_|refine sCons ?_|refine sNil ?_|refine rCons ?_|refine rNil ?_|refine kNo ?_|refine pRow ?_|refine pBlock ?_|refine pSkip ?_|refine pExit ?_|refine pRet ?_|refine pCond ?_|refine gNone ?_|refine gOn rfl ?_|refine gOff rfl rfl ?_|refine gTup rfl ?_))
  intro q hq
  obtain rfl : q = true := by rw [hq]; rfl
  (repeat(first|refine pSeq ?_|refine pReg ?_|refine sCons ?_|refine sNil ?_|refine rCons ?_|refine rNil ?_|refine kNo ?_|refine pRow ?_|refine pBlock ?_|refine pSkip ?_|refine pExit ?_|refine pRet ?_|refine pCond ?_|refine gNone ?_|refine gOn rfl ?_|refine gOff rfl rfl ?_|refine gTup rfl ?_))
  refine toStr_Rdb rfl hr1.1 ?_
  (repeat(first|refine pSeq ?_|refine pReg ?_|refine sCons ?_|refine sNil ?_|refine rCons ?_|refine rNil ?_|refine kNo ?_|refine pRow ?_|refine pBlock ?_|refine pSkip ?_|refine pExit ?_|refine pRet ?_|refine pCond ?_|refine gNone ?_|refine gOn rfl ?_|refine gOff rfl rfl ?_|refine gTup rfl ?_))
  intro q hq
  obtain rfl : q = true := by rw [hq]; rfl
  (repeat(first|refine pSeq ?_|refine pReg ?_|refine sCons ?_|refine sNil ?_|refine rCons ?_|refine rNil ?_|refine kNo ?_|refine pRow ?_|refine pBlock ?_|refine pSkip ?_|refine pExit ?_|refine pRet ?_|refine pCond ?_|refine gNone ?_|refine gOn rfl ?_|refine gOff rfl rfl ?_|refine gTup rfl ?_))
  intro q hq
  obtain rfl : q = true := by rw [hq]; rfl
  (repeat(first|refine pSeq ?_|refine pReg ?_|refine sCons ?_|refine sNil ?_|refine rCons ?_|refine rNil ?_|refine kNo ?_|refine pRow ?_|refine pBlock ?_|refine pSkip ?_|refine pExit ?_|refine pRet ?_|refine pCond ?_|refine gNone ?_|refine gOn rfl ?_|refine gOff rfl rfl ?_|refine gTup rfl ?_))
  obtain ⟨h0, c17, f17⟩ := new1_at f16 (.cells (bytesV [255, 10]) tB false false)
  refine (equal11_w (hr2.chg c17 (by simp)).1 (cell_slc h0 (Nat.lt_succ_self _) rfl).1).mono fun v s18 q => ?_
  obtain ⟨rfl, rfl⟩ := q
  rw [decide_eq_true rfl]
  have hG17 := hG16.nil c17
  (repeat(first|refine pSeq ?_|refine pReg ?_|refine sCons ?_|refine sNil ?_|refine rCons ?_|refine rNil ?_|refine kNo ?_|refine pRow ?_|refine pBlock ?_|refine pSkip ?_|refine pExit ?_|refine pRet ?_|refine pCond ?_|refine gNone ?_|refine gOn rfl ?_|refine gOff rfl rfl ?_|refine gTup rfl ?_))
  obtain ⟨h1, c18, f18⟩ := new1_at f17 (.cells (bytesV [255, 239, 190]) tB false false)
  refine (base64_w (hG17.nil c18) f18 (cell_slc h1 (Nat.lt_succ_self _) rfl).1 (by decide)).mono fun v s19 q => ?_
  obtain ⟨rfl, c19⟩ := q
  have f19 := c19.fine f18
  have hG19 := (hG17.nil c18).nil c19
  (repeat(first|refine pSeq ?_|refine pReg ?_|refine sCons ?_|refine sNil ?_|refine rCons ?_|refine rNil ?_|refine kNo ?_|refine pRow ?_|refine pBlock ?_|refine pSkip ?_|refine pExit ?_|refine pRet ?_|refine pCond ?_|refine gNone ?_|refine gOn rfl ?_|refine gOff rfl rfl ?_|refine gTup rfl ?_))
  intro q hq
  obtain rfl : q = true := by rw [hq, kn3]; rfl
  (repeat(first|refine pSeq ?_|refine pReg ?_|refine sCons ?_|refine sNil ?_|refine rCons ?_|refine rNil ?_|refine kNo ?_|refine pRow ?_|refine pBlock ?_|refine pSkip ?_|refine pExit ?_|refine pRet ?_|refine pCond ?_|refine gNone ?_|refine gOn rfl ?_|refine gOff rfl rfl ?_|refine gTup rfl ?_))
  obtain ⟨h2, c20, f20⟩ := new1_at f19 (.cells (bytesV [0]) tB false false)
  refine (hex_w11 (hG19.nil c20) f20 (cell_slc h2 (Nat.lt_succ_self _) rfl).1 (by decide)).mono fun v s21 q => ?_
  obtain ⟨rfl, c21⟩ := q
  have f21 := c21.fine f20
  have hG21 := (hG19.nil c20).nil c21
  (repeat(first|refine pSeq ?_|refine pReg ?_|refine sCons ?_|refine sNil ?_|refine rCons ?_|refine rNil ?_|refine kNo ?_|refine pRow ?_|refine pBlock ?_|refine pSkip ?_|refine pExit ?_|refine pRet ?_|refine pCond ?_|refine gNone ?_|refine gOn rfl ?_|refine gOff rfl rfl ?_|refine gTup rfl ?_))
  intro q hq
  obtain rfl : q = true := by rw [hq, kn4]; rfl
  (repeat(first|refine pSeq ?_|refine pReg ?_|refine sCons ?_|refine sNil ?_|refine rCons ?_|refine rNil ?_|refine kNo ?_|refine pRow ?_|refine pBlock ?_|refine pSkip ?_|refine pExit ?_|refine pRet ?_|refine pCond ?_|refine gNone ?_|refine gOn rfl ?_|refine gOff rfl rfl ?_|refine gTup rfl ?_))
  refine (wakes11_w hG21 f21).mono fun v s22 q => ?_
  obtain ⟨rfl, _⟩ := q
  (repeat(first|refine pSeq ?_|refine pReg ?_|refine sCons ?_|refine sNil ?_|refine rCons ?_|refine rNil ?_|refine kNo ?_|refine pRow ?_|refine pBlock ?_|refine pSkip ?_|refine pExit ?_|refine pRet ?_|refine pCond ?_|refine gNone ?_|refine gOn rfl ?_|refine gOff rfl rfl ?_|refine gTup rfl ?_))
  rfl
end Go.Vf.S

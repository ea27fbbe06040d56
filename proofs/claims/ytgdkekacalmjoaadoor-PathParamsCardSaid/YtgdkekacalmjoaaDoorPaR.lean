import Derived.Test.YtgdkekacalmjoaaDoorPaQ
import Derived.Test.YtgdkekacalmjoaaDoorBnC
import Derived.Test.YtgdkekacalmjoaaDoorFnQ
import Derived.Test.YtgdkekacalmjoaaDoorFnK06
import Derived.Test.YtgdkekacalmjoaaDoorShU
import Derived.Test.YtgdkekacalmjoaaDoorEngBe
/- Paths: what the law PathParams says, from any state. -/
namespace Go.Vf.S
open Go Go.Vf Go.Proofs Go.RowKit
attribute [local irreducible] wSeq wRow wp wG
set_option linter.unusedVariables false
set_option linter.unusedSimpArgs false
set_option maxRecDepth 10000

structure DgIt where
  m : Nat
  acc : List UInt8
  s : SS
theorem digs_w {s : SS} {n : Nat} (hn : n < 4294967296) : CallW pr n_law06_PathParams_1 [.int .u32 n] s fun v s' => v = str (digs n) ∧ Chg s s' [] := by
  have hlen : ∀ k, k < 4294967296 → (digs k).length ≤ 10 := fun k hk => (digs_all 10 k (by omega) (by omega)).2.2.1
  refine CallW.run good ok_law06_PathParams_1 (by simp) rfl ?_
  (repeat(first|refine pSeq ?_|refine pReg ?_|refine sCons ?_|refine sNil ?_|refine pBlock ?_|refine pSkip ?_|refine pRet ?_|refine pCond ?_|refine gNone ?_))
  refine pLoop (MW.head good (fun x : DgIt => x.m) (fun x => digs n = digs x.m ++ x.acc ∧ x.m < 4294967296 ∧ Chg s x.s []) (fun x => [(0, .int .u32 x.m), (2, str []), (3, str x.acc)]) (fun x => x.s) ⟨n, [], s⟩ ⟨by simp, hn, .refl _ _⟩ (Wk.same ⟨rfl, rfl, rfl, trivial⟩) ?_)
  intro ⟨m, acc, s1⟩ ⟨h1, h2, c1⟩
  dsimp only at h1 h2 c1 ⊢
  have hla := congrArg List.length h1
  rw [List.length_append] at hla
  have := hlen n hn
  (repeat(first|refine pSeq ?_|refine pReg ?_|refine sCons ?_|refine sNil ?_|refine pBlock ?_|refine pSkip ?_|refine pRet ?_|refine pCond ?_|refine gNone ?_))
  refine ⟨by decide, ?_⟩
  intro z hz
  obtain rfl : z = ((m % 10 : Nat) : Int) := by rw [hz]; exact (Int.ofNat_tmod m 10).symm
  (repeat(first|refine pSeq ?_|refine pReg ?_|refine sCons ?_|refine sNil ?_|refine pBlock ?_|refine pSkip ?_|refine pRet ?_|refine pCond ?_|refine gNone ?_))
  intro z2 hz2
  rw [u32_id (by omega)] at hz2
  (repeat(first|refine pSeq ?_|refine pReg ?_|refine sCons ?_|refine sNil ?_|refine pBlock ?_|refine pSkip ?_|refine pRet ?_|refine pCond ?_|refine gNone ?_))
  intro z3 hz3
  rw [u8_id (by omega)] at hz3
  obtain rfl : z3 = ((digC (m % 10)).toNat : Int) := by rw [dig_byte (by omega)]; omega
  (repeat(first|refine pSeq ?_|refine pReg ?_|refine sCons ?_|refine sNil ?_|refine pBlock ?_|refine pSkip ?_|refine pRet ?_|refine pCond ?_|refine gNone ?_))
  refine toStr_Rdb rfl (rdb_lit (l := [digC (m % 10)]) lkH (Nat.lt_succ_self _)) ?_
  (repeat(first|refine pSeq ?_|refine pReg ?_|refine sCons ?_|refine sNil ?_|refine pBlock ?_|refine pSkip ?_|refine pRet ?_|refine pCond ?_|refine gNone ?_))
  refine ⟨by simp; omega, ?_⟩
  intro w hw
  obtain rfl : w = digC (m % 10) :: acc := hw
  (repeat(first|refine pSeq ?_|refine pReg ?_|refine sCons ?_|refine sNil ?_|refine pBlock ?_|refine pSkip ?_|refine pRet ?_|refine pCond ?_|refine gNone ?_))
  refine ⟨by decide, ?_⟩
  intro z4 hz4
  have e4 : z4 = ((m / 10 : Nat) : Int) := by
    have e : (m : Int).tdiv 10 = ((m / 10 : Nat) : Int) := (Int.ofNat_tdiv m 10).symm
    rw [e, u32_id (by omega)] at hz4
    exact hz4
  clear hz4
  subst e4
  (repeat(first|refine pSeq ?_|refine pReg ?_|refine sCons ?_|refine sNil ?_|refine pBlock ?_|refine pSkip ?_|refine pRet ?_|refine pCond ?_|refine gNone ?_))
  intro q hq
  by_cases hm : m < 10
  · obtain rfl : q = true := by rw [hq]; simp; omega
    rw [digs_lt hm] at h1
    rw [Nat.mod_eq_of_lt hm] at *
    (repeat(first|refine pSeq ?_|refine pReg ?_|refine sCons ?_|refine sNil ?_|refine pBlock ?_|refine pSkip ?_|refine pRet ?_|refine pCond ?_|refine gNone ?_))
    (repeat (first | with_reducible refine sqRet ?_ | with_reducible refine bkRet ?_ | with_reducible refine hdRet ?_))
    exact ⟨by rw [h1]; rfl, c1.nil (Chg.new [])⟩
  · obtain rfl : q = false := by rw [hq]; simp; omega
    rw [digs_ge hm] at h1
    (repeat(first|refine pSeq ?_|refine pReg ?_|refine sCons ?_|refine sNil ?_|refine pBlock ?_|refine pSkip ?_|refine pRet ?_|refine pCond ?_|refine gNone ?_))
    exact ⟨⟨m / 10, digC (m % 10) :: acc, _⟩, ⟨by rw [h1]; simp, by show m / 10 < 4294967296; omega, c1.nil (Chg.new [])⟩, by show m / 10 < m; omega, Wk.same ⟨rfl, rfl, rfl, trivial⟩⟩

theorem lrel_u {ρ : Go.Vf.Ren} {a : Value} {args' : List Value} (h : LRel ρ [a] args') : ∃ v1, args' = [v1] ∧ VRel ρ a v1 := by
  obtain ⟨h1, h2⟩ := h
  match args', h1 with
  | [v1], _ => exact ⟨v1, rfl, h2 0 _ _ rfl rfl⟩
theorem upper_w {s : SS} {l : List UInt8} (hl : l.length ≤ 1000000) (ha : ∀ c ∈ l, c.toNat < 128) : CallW pr 20 [str l] s fun v s' => v = str (l.map Lib.upperB) ∧ s' = s := by
  refine CallW.kit rfl fun B w0 ρ args' w H hr => ?_
  obtain ⟨v1, rfl, q1⟩ := lrel_u hr
  obtain rfl := str_inv q1
  exact Any.strings_ToUpper_ascii Tryd.lays158 Tryd.Builder_Extra_158 ⟨⟨l⟩⟩ w (by show l.length ≤ _; omega) (fun j b hb => ha b (List.mem_of_getElem? hb))


set_option maxHeartbeats 4000000 in
theorem params_tail {s : SS} {k n b : Nat} {one two o : List UInt8} {e : Bool} (hG : Gb s) (hf : Fine s) (hn : n < 1000000000) (hb : b < 256) (he : e = decide (b % 3 = 2)) (h1 : one = 32 :: o) (ho : IsO o n) (lo : o.length ≤ 14) (ht : TwoOk two e) (lt : two.length ≤ 14) :
    W pr 159 k code_K06_TL [(1, .int .u8 b), (8, .int .u32 n), (9, str one), (10, str two)] s (runQ pr [.tmp 6] fun v s' => v = .bool true) := by
  obtain ⟨p1, p2, p3, p4, p5, p6⟩ := two_all ho ht
  rw [← h1] at p1 p2 p3 p4 p5 p6
  have l1 : one.length ≤ 15 := by rw [h1]; simp; omega
  have hne : one ≠ [] := by rw [h1]; simp
  have f1 := xy_from p2
  have f2 := xy_to p6 hne
  have p0 : paramsF [] = (pv0, 0) := by kernel_rfl
  clear h1 ho lo ht
  refine comp_ok good ok_K06_TL (Box.out (p := wp pr 159 k _ _ _ _) ?_)
  have cs : Chg s s [] := .refl _ _
  (repeat(first|refine pSeq ?_|refine pReg ?_|refine sCons ?_|refine sNil ?_|refine pSkip ?_|refine pRet ?_|refine pCond ?_|refine gNone ?_|refine gOn rfl ?_|refine gOff rfl rfl ?_|refine gTup rfl ?_))
  intro z hz
  rw [i64_id (by omega)] at hz
  subst hz
  (repeat(first|refine pSeq ?_|refine pReg ?_|refine sCons ?_|refine sNil ?_|refine pSkip ?_|refine pRet ?_|refine pCond ?_|refine gNone ?_|refine gOn rfl ?_|refine gOff rfl rfl ?_|refine gTup rfl ?_))
  refine ⟨by decide, ?_⟩
  intro z hz
  obtain rfl : z = ((b % 3 : Nat) : Int) := by rw [hz]; exact (Int.ofNat_tmod b 3).symm
  (repeat(first|refine pSeq ?_|refine pReg ?_|refine sCons ?_|refine sNil ?_|refine pSkip ?_|refine pRet ?_|refine pCond ?_|refine gNone ?_|refine gOn rfl ?_|refine gOff rfl rfl ?_|refine gTup rfl ?_))
  intro q hq
  obtain rfl : q = e := by rw [hq, he, decide_eq_decide]; omega
  (repeat(first|refine pSeq ?_|refine pReg ?_|refine sCons ?_|refine sNil ?_|refine pSkip ?_|refine pRet ?_|refine pCond ?_|refine gNone ?_|refine gOn rfl ?_|refine gOff rfl rfl ?_|refine gTup rfl ?_))
  refine st_abs (cs' := pvCells (wantP n q)) rfl rfl lkH (Nat.lt_succ_self _) rfl rfl fun s1 e11 fs1 ms1 => ?_
  have ns1 : s1.next = s.next + 1 := ms1
  have e11 : lookH s1.heap s.next = some (.cells (pvCells (wantP n q)) tPm false false) := e11
  have ds1 : Chg s s1 [] := (Chg.new []).fresh fs1 (by simp)
  clear fs1 ms1
  have cs1 := cs.nil ds1
  (repeat(first|refine pSeq ?_|refine pReg ?_|refine sCons ?_|refine sNil ?_|refine pSkip ?_|refine pRet ?_|refine pCond ?_|refine gNone ?_|refine gOn rfl ?_|refine gOff rfl rfl ?_|refine gTup rfl ?_))
  refine ⟨by first | omega | (simp <;> omega), ?_⟩
  intro w hw
  subst hw
  (repeat(first|refine pSeq ?_|refine pReg ?_|refine sCons ?_|refine sNil ?_|refine pSkip ?_|refine pRet ?_|refine pCond ?_|refine gNone ?_|refine gOn rfl ?_|refine gOff rfl rfl ?_|refine gTup rfl ?_))
  refine (params_w (l := one ++ two) (cs1.fine hf) (by simp; omega)).mono fun v s2 q => ?_
  obtain ⟨rfl, ds2⟩ := q
  have ns2 := ds2.next
  have cs2 := cs1.nil ds2
  have e11 := ds2.blk _ _ (by omega) (by simp) e11
  rw [p1]
  (repeat(first|refine pSeq ?_|refine pReg ?_|refine sCons ?_|refine sNil ?_|refine pSkip ?_|refine pRet ?_|refine pCond ?_|refine gNone ?_|refine gOn rfl ?_|refine gOff rfl rfl ?_|refine gTup rfl ?_))
  refine st_abs (cs' := pvCells (wantP n q)) rfl rfl lkH (Nat.lt_succ_self _) rfl rfl fun s3 e12 fs3 ms3 => ?_
  have ns3 : s3.next = s2.next + 1 := ms3
  have e12 : lookH s3.heap s2.next = some (.cells (pvCells (wantP n q)) tPm false false) := e12
  have ds3 : Chg s2 s3 [] := (Chg.new []).fresh fs3 (by simp)
  clear fs3 ms3
  have cs3 := cs2.nil ds3
  have e11 := ds3.blk _ _ (by omega) (by simp) e11
  (repeat(first|refine pSeq ?_|refine pReg ?_|refine sCons ?_|refine sNil ?_|refine pSkip ?_|refine pRet ?_|refine pCond ?_|refine gNone ?_|refine gOn rfl ?_|refine gOff rfl rfl ?_|refine gTup rfl ?_))
  refine ⟨by first | omega | (simp <;> omega), ?_⟩
  intro w hw
  subst hw
  (repeat(first|refine pSeq ?_|refine pReg ?_|refine sCons ?_|refine sNil ?_|refine pSkip ?_|refine pRet ?_|refine pCond ?_|refine gNone ?_|refine gOn rfl ?_|refine gOff rfl rfl ?_|refine gTup rfl ?_))
  refine (params_w (l := two ++ one) (cs3.fine hf) (by simp; omega)).mono fun v s4 q => ?_
  obtain ⟨rfl, ds4⟩ := q
  have ns4 := ds4.next
  have cs4 := cs3.nil ds4
  have e11 := ds4.blk _ _ (by omega) (by simp) e11
  have e12 := ds4.blk _ _ (by omega) (by simp) e12
  rw [p2]
  (repeat(first|refine pSeq ?_|refine pReg ?_|refine sCons ?_|refine sNil ?_|refine pSkip ?_|refine pRet ?_|refine pCond ?_|refine gNone ?_|refine gOn rfl ?_|refine gOff rfl rfl ?_|refine gTup rfl ?_))
  refine st_abs (cs' := pvCells (wantP n q)) rfl rfl lkH (Nat.lt_succ_self _) rfl rfl fun s5 e14 fs5 ms5 => ?_
  have ns5 : s5.next = s4.next + 1 := ms5
  have e14 : lookH s5.heap s4.next = some (.cells (pvCells (wantP n q)) tPm false false) := e14
  have ds5 : Chg s4 s5 [] := (Chg.new []).fresh fs5 (by simp)
  clear fs5 ms5
  have cs5 := cs4.nil ds5
  have e11 := ds5.blk _ _ (by omega) (by simp) e11
  have e12 := ds5.blk _ _ (by omega) (by simp) e12
  (repeat(first|refine pSeq ?_|refine pReg ?_|refine sCons ?_|refine sNil ?_|refine pSkip ?_|refine pRet ?_|refine pCond ?_|refine gNone ?_|refine gOn rfl ?_|refine gOff rfl rfl ?_|refine gTup rfl ?_))
  refine ⟨by first | omega | (simp <;> omega), ?_⟩
  intro w hw
  subst hw
  (repeat(first|refine pSeq ?_|refine pReg ?_|refine sCons ?_|refine sNil ?_|refine pSkip ?_|refine pRet ?_|refine pCond ?_|refine gNone ?_|refine gOn rfl ?_|refine gOff rfl rfl ?_|refine gTup rfl ?_))
  refine ⟨by first | omega | (simp <;> omega), ?_⟩
  intro w hw
  subst hw
  (repeat(first|refine pSeq ?_|refine pReg ?_|refine sCons ?_|refine sNil ?_|refine pSkip ?_|refine pRet ?_|refine pCond ?_|refine gNone ?_|refine gOn rfl ?_|refine gOff rfl rfl ?_|refine gTup rfl ?_))
  rw [List.append_assoc]
  refine (from_w (l := [60, 120, 64, 121, 62] ++ (two ++ one)) (hG.chg cs5 (by simp)) (cs5.fine hf) (by simp; omega)).mono fun v s6 q => ?_
  obtain ⟨W, cw, rfl, -, ds6, -⟩ := q
  have ns6 := ds6.next
  have cs6 := cs5.nil ds6
  have e11 := ds6.blk _ _ (by omega) (by simp) e11
  have e12 := ds6.blk _ _ (by omega) (by simp) e12
  have e14 := ds6.blk _ _ (by omega) (by simp) e14
  rw [f1]
  (repeat(first|refine pSeq ?_|refine pReg ?_|refine sCons ?_|refine sNil ?_|refine pSkip ?_|refine pRet ?_|refine pCond ?_|refine gNone ?_|refine gOn rfl ?_|refine gOff rfl rfl ?_|refine gTup rfl ?_))
  refine st_abs (cs' := ptCells ⟨false, false, [], [120], [121]⟩ W cw) rfl rfl (lkT (by show s6.next + 1 ≠ s6.next; omega) lkH) (by show s6.next < s6.next + 1 + 1; omega) rfl rfl fun s7 x f m => ?_
  have ns7 : s7.next = s6.next + 2 := m
  have y := f.blk (s6.next + 1) _ (by show s6.next + 1 < s6.next + 1 + 1; omega) (by simp) lkH
  have ds7 : Chg s6 s7 [] := ((Chg.new []).nil (Chg.new [])).fresh f (by simp)
  clear f m x
  have cs7 := cs6.nil ds7
  have e11 := ds7.blk _ _ (by omega) (by simp) e11
  have e12 := ds7.blk _ _ (by omega) (by simp) e12
  have e14 := ds7.blk _ _ (by omega) (by simp) e14
  (repeat(first|refine pSeq ?_|refine pReg ?_|refine sCons ?_|refine sNil ?_|refine pSkip ?_|refine pRet ?_|refine pCond ?_|refine gNone ?_|refine gOn rfl ?_|refine gOff rfl rfl ?_|refine gTup rfl ?_))
  refine st_abs (cs' := pvCells (wantP n q)) rfl rfl y (by show s6.next + 1 < s7.next; omega) rfl rfl fun s8 e17 f m => ?_
  have ns8 : s8.next = s7.next := m
  have ds8 : Chg s7 s8 [s6.next + 1] := f
  clear f m y
  have cs8 : Chg s s8 [] := cs7.fresh ds8 (by intro id q; simp at q; have := cs6.next; omega)
  have e11 := ds8.blk _ _ (by omega) (by simp; omega) e11
  have e12 := ds8.blk _ _ (by omega) (by simp; omega) e12
  have e14 := ds8.blk _ _ (by omega) (by simp; omega) e14
  have e17 : lookH s8.heap (s6.next + 1) = some (.cells (pvCells (wantP n q)) tPm false false) := e17
  (repeat(first|refine pSeq ?_|refine pReg ?_|refine sCons ?_|refine sNil ?_|refine pSkip ?_|refine pRet ?_|refine pCond ?_|refine gNone ?_|refine gOn rfl ?_|refine gOff rfl rfl ?_|refine gTup rfl ?_))
  intro q hq
  obtain rfl : q = false := by rw [hq]; rfl
  (repeat(first|refine pSeq ?_|refine pReg ?_|refine sCons ?_|refine sNil ?_|refine pSkip ?_|refine pRet ?_|refine pCond ?_|refine gNone ?_|refine gOn rfl ?_|refine gOff rfl rfl ?_|refine gTup rfl ?_))
  refine ldN_is rfl e12 agg3 ?_
  (repeat(first|refine pSeq ?_|refine pReg ?_|refine sCons ?_|refine sNil ?_|refine pSkip ?_|refine pRet ?_|refine pCond ?_|refine gNone ?_|refine gOn rfl ?_|refine gOff rfl rfl ?_|refine gTup rfl ?_))
  refine ldN_is rfl e11 agg3 ?_
  (repeat(first|refine pSeq ?_|refine pReg ?_|refine sCons ?_|refine sNil ?_|refine pSkip ?_|refine pRet ?_|refine pCond ?_|refine gNone ?_|refine gOn rfl ?_|refine gOff rfl rfl ?_|refine gTup rfl ?_))
  intro q hq
  obtain rfl : q = false := by rw [hq]; simp
  (repeat(first|refine pSeq ?_|refine pReg ?_|refine sCons ?_|refine sNil ?_|refine pSkip ?_|refine pRet ?_|refine pCond ?_|refine gNone ?_|refine gOn rfl ?_|refine gOff rfl rfl ?_|refine gTup rfl ?_))
  intro q hq
  obtain rfl : q = false := by rw [hq]; rfl
  (repeat(first|refine pSeq ?_|refine pReg ?_|refine sCons ?_|refine sNil ?_|refine pSkip ?_|refine pRet ?_|refine pCond ?_|refine gNone ?_|refine gOn rfl ?_|refine gOff rfl rfl ?_|refine gTup rfl ?_))
  refine ldN_is rfl e14 agg3 ?_
  (repeat(first|refine pSeq ?_|refine pReg ?_|refine sCons ?_|refine sNil ?_|refine pSkip ?_|refine pRet ?_|refine pCond ?_|refine gNone ?_|refine gOn rfl ?_|refine gOff rfl rfl ?_|refine gTup rfl ?_))
  refine ldN_is rfl e11 agg3 ?_
  (repeat(first|refine pSeq ?_|refine pReg ?_|refine sCons ?_|refine sNil ?_|refine pSkip ?_|refine pRet ?_|refine pCond ?_|refine gNone ?_|refine gOn rfl ?_|refine gOff rfl rfl ?_|refine gTup rfl ?_))
  intro q hq
  obtain rfl : q = false := by rw [hq]; simp
  (repeat(first|refine pSeq ?_|refine pReg ?_|refine sCons ?_|refine sNil ?_|refine pSkip ?_|refine pRet ?_|refine pCond ?_|refine gNone ?_|refine gOn rfl ?_|refine gOff rfl rfl ?_|refine gTup rfl ?_))
  intro q hq
  obtain rfl : q = false := by rw [hq]; rfl
  (repeat(first|refine pSeq ?_|refine pReg ?_|refine sCons ?_|refine sNil ?_|refine pSkip ?_|refine pRet ?_|refine pCond ?_|refine gNone ?_|refine gOn rfl ?_|refine gOff rfl rfl ?_|refine gTup rfl ?_))
  refine ldN_is rfl e17 agg3 ?_
  (repeat(first|refine pSeq ?_|refine pReg ?_|refine sCons ?_|refine sNil ?_|refine pSkip ?_|refine pRet ?_|refine pCond ?_|refine gNone ?_|refine gOn rfl ?_|refine gOff rfl rfl ?_|refine gTup rfl ?_))
  refine ldN_is rfl e11 agg3 ?_
  (repeat(first|refine pSeq ?_|refine pReg ?_|refine sCons ?_|refine sNil ?_|refine pSkip ?_|refine pRet ?_|refine pCond ?_|refine gNone ?_|refine gOn rfl ?_|refine gOff rfl rfl ?_|refine gTup rfl ?_))
  intro q hq
  obtain rfl : q = false := by rw [hq]; simp
  (repeat(first|refine pSeq ?_|refine pReg ?_|refine sCons ?_|refine sNil ?_|refine pSkip ?_|refine pRet ?_|refine pCond ?_|refine gNone ?_|refine gOn rfl ?_|refine gOff rfl rfl ?_|refine gTup rfl ?_))
  clear e11 e12 e14 e17
  refine ⟨by first | omega | (simp <;> omega), ?_⟩
  intro w hw
  subst hw
  (repeat(first|refine pSeq ?_|refine pReg ?_|refine sCons ?_|refine sNil ?_|refine pSkip ?_|refine pRet ?_|refine pCond ?_|refine gNone ?_|refine gOn rfl ?_|refine gOff rfl rfl ?_|refine gTup rfl ?_))
  refine ⟨by first | omega | (simp <;> omega), ?_⟩
  intro w hw
  subst hw
  (repeat(first|refine pSeq ?_|refine pReg ?_|refine sCons ?_|refine sNil ?_|refine pSkip ?_|refine pRet ?_|refine pCond ?_|refine gNone ?_|refine gOn rfl ?_|refine gOff rfl rfl ?_|refine gTup rfl ?_))
  refine (params_w (l := one ++ two ++ one) (cs8.fine hf) (by simp; omega)).mono fun v s9 q => ?_
  obtain ⟨rfl, ds9⟩ := q
  have ns9 := ds9.next
  have cs9 := cs8.nil ds9
  rw [p3]
  (repeat(first|refine pSeq ?_|refine pReg ?_|refine sCons ?_|refine sNil ?_|refine pSkip ?_|refine pRet ?_|refine pCond ?_|refine gNone ?_|refine gOn rfl ?_|refine gOff rfl rfl ?_|refine gTup rfl ?_))
  refine st_abs (cs' := pvCells pv0) rfl rfl lkH (Nat.lt_succ_self _) rfl rfl fun s10 e19 fs10 ms10 => ?_
  have ns10 : s10.next = s9.next + 1 := ms10
  have e19 : lookH s10.heap s9.next = some (.cells (pvCells pv0) tPm false false) := e19
  have ds10 : Chg s9 s10 [] := (Chg.new []).fresh fs10 (by simp)
  clear fs10 ms10
  have cs10 := cs9.nil ds10
  (repeat(first|refine pSeq ?_|refine pReg ?_|refine sCons ?_|refine sNil ?_|refine pSkip ?_|refine pRet ?_|refine pCond ?_|refine gNone ?_|refine gOn rfl ?_|refine gOff rfl rfl ?_|refine gTup rfl ?_))
  refine ⟨by first | omega | (simp <;> omega), ?_⟩
  intro w hw
  subst hw
  (repeat(first|refine pSeq ?_|refine pReg ?_|refine sCons ?_|refine sNil ?_|refine pSkip ?_|refine pRet ?_|refine pCond ?_|refine gNone ?_|refine gOn rfl ?_|refine gOff rfl rfl ?_|refine gTup rfl ?_))
  refine ⟨by first | omega | (simp <;> omega), ?_⟩
  intro w hw
  subst hw
  (repeat(first|refine pSeq ?_|refine pReg ?_|refine sCons ?_|refine sNil ?_|refine pSkip ?_|refine pRet ?_|refine pCond ?_|refine gNone ?_|refine gOn rfl ?_|refine gOff rfl rfl ?_|refine gTup rfl ?_))
  refine (params_w (l := one ++ [32, 115, 109, 116, 112, 117, 116, 102, 56] ++ two) (cs10.fine hf) (by simp; omega)).mono fun v s11 q => ?_
  obtain ⟨rfl, ds11⟩ := q
  have ns11 := ds11.next
  have cs11 := cs10.nil ds11
  rw [p4]
  (repeat(first|refine pSeq ?_|refine pReg ?_|refine sCons ?_|refine sNil ?_|refine pSkip ?_|refine pRet ?_|refine pCond ?_|refine gNone ?_|refine gOn rfl ?_|refine gOff rfl rfl ?_|refine gTup rfl ?_))
  refine st_abs (cs' := pvCells pv0) rfl rfl lkH (Nat.lt_succ_self _) rfl rfl fun s12 e21 fs12 ms12 => ?_
  have ns12 : s12.next = s11.next + 1 := ms12
  have e21 : lookH s12.heap s11.next = some (.cells (pvCells pv0) tPm false false) := e21
  have ds12 : Chg s11 s12 [] := (Chg.new []).fresh fs12 (by simp)
  clear fs12 ms12
  have cs12 := cs11.nil ds12
  (repeat(first|refine pSeq ?_|refine pReg ?_|refine sCons ?_|refine sNil ?_|refine pSkip ?_|refine pRet ?_|refine pCond ?_|refine gNone ?_|refine gOn rfl ?_|refine gOff rfl rfl ?_|refine gTup rfl ?_))
  refine ⟨by first | omega | (simp <;> omega), ?_⟩
  intro w hw
  subst hw
  (repeat(first|refine pSeq ?_|refine pReg ?_|refine sCons ?_|refine sNil ?_|refine pSkip ?_|refine pRet ?_|refine pCond ?_|refine gNone ?_|refine gOn rfl ?_|refine gOff rfl rfl ?_|refine gTup rfl ?_))
  refine ⟨by first | omega | (simp <;> omega), ?_⟩
  intro w hw
  subst hw
  (repeat(first|refine pSeq ?_|refine pReg ?_|refine sCons ?_|refine sNil ?_|refine pSkip ?_|refine pRet ?_|refine pCond ?_|refine gNone ?_|refine gOn rfl ?_|refine gOff rfl rfl ?_|refine gTup rfl ?_))
  refine (params_w (l := one ++ [32] ++ two) (cs12.fine hf) (by simp; omega)).mono fun v s13 q => ?_
  obtain ⟨rfl, ds13⟩ := q
  have ns13 := ds13.next
  have cs13 := cs12.nil ds13
  rw [p5]
  (repeat(first|refine pSeq ?_|refine pReg ?_|refine sCons ?_|refine sNil ?_|refine pSkip ?_|refine pRet ?_|refine pCond ?_|refine gNone ?_|refine gOn rfl ?_|refine gOff rfl rfl ?_|refine gTup rfl ?_))
  refine st_abs (cs' := pvCells pv0) rfl rfl lkH (Nat.lt_succ_self _) rfl rfl fun s14 e23 fs14 ms14 => ?_
  have ns14 : s14.next = s13.next + 1 := ms14
  have e23 : lookH s14.heap s13.next = some (.cells (pvCells pv0) tPm false false) := e23
  have ds14 : Chg s13 s14 [] := (Chg.new []).fresh fs14 (by simp)
  clear fs14 ms14
  have cs14 := cs13.nil ds14
  (repeat(first|refine pSeq ?_|refine pReg ?_|refine sCons ?_|refine sNil ?_|refine pSkip ?_|refine pRet ?_|refine pCond ?_|refine gNone ?_|refine gOn rfl ?_|refine gOff rfl rfl ?_|refine gTup rfl ?_))
  refine ⟨by first | omega | (simp <;> omega), ?_⟩
  intro w hw
  subst hw
  (repeat(first|refine pSeq ?_|refine pReg ?_|refine sCons ?_|refine sNil ?_|refine pSkip ?_|refine pRet ?_|refine pCond ?_|refine gNone ?_|refine gOn rfl ?_|refine gOff rfl rfl ?_|refine gTup rfl ?_))
  refine (to_w (l := [60, 120, 64, 121, 62] ++ one) (hG.chg cs14 (by simp)) (cs14.fine hf) (by simp; omega)).mono fun v s15 q => ?_
  obtain ⟨W', cw', rfl, -, ds15, -⟩ := q
  have ns15 := ds15.next
  have cs15 := cs14.nil ds15
  rw [f2]
  (repeat(first|refine pSeq ?_|refine pReg ?_|refine sCons ?_|refine sNil ?_|refine pSkip ?_|refine pRet ?_|refine pCond ?_|refine gNone ?_|refine gOn rfl ?_|refine gOff rfl rfl ?_|refine gTup rfl ?_))
  refine st_abs (cs' := ptCells ptZ W' cw') rfl rfl lkH (Nat.lt_succ_self _) rfl rfl fun s16 e25 fs16 ms16 => ?_
  have ns16 : s16.next = s15.next + 1 := ms16
  have e25 : lookH s16.heap s15.next = some (.cells (ptCells ptZ W' cw') tPt false false) := e25
  have ds16 : Chg s15 s16 [] := (Chg.new []).fresh fs16 (by simp)
  clear fs16 ms16
  have cs16 := cs15.nil ds16
  (repeat(first|refine pSeq ?_|refine pReg ?_|refine sCons ?_|refine sNil ?_|refine pSkip ?_|refine pRet ?_|refine pCond ?_|refine gNone ?_|refine gOn rfl ?_|refine gOff rfl rfl ?_|refine gTup rfl ?_))
  refine (params_w (l := []) (cs16.fine hf) (by simp)).mono fun v s17 q => ?_
  obtain ⟨rfl, ds17⟩ := q
  have ns17 := ds17.next
  have cs17 := cs16.nil ds17
  rw [p0]
  (repeat(first|refine pSeq ?_|refine pReg ?_|refine sCons ?_|refine sNil ?_|refine pSkip ?_|refine pRet ?_|refine pCond ?_|refine gNone ?_|refine gOn rfl ?_|refine gOff rfl rfl ?_|refine gTup rfl ?_))
  refine st_abs (cs' := pvCells pv0) rfl rfl lkH (Nat.lt_succ_self _) rfl rfl fun s18 e27 fs18 ms18 => ?_
  have ns18 : s18.next = s17.next + 1 := ms18
  have e27 : lookH s18.heap s17.next = some (.cells (pvCells pv0) tPm false false) := e27
  have ds18 : Chg s17 s18 [] := (Chg.new []).fresh fs18 (by simp)
  clear fs18 ms18
  have cs18 := cs17.nil ds18
  (repeat(first|refine pSeq ?_|refine pReg ?_|refine sCons ?_|refine sNil ?_|refine pSkip ?_|refine pRet ?_|refine pCond ?_|refine gNone ?_|refine gOn rfl ?_|refine gOff rfl rfl ?_|refine gTup rfl ?_))
  intro q hq
  obtain rfl : q = true := by rw [hq]; rfl
  (repeat(first|refine pSeq ?_|refine pReg ?_|refine sCons ?_|refine sNil ?_|refine pSkip ?_|refine pRet ?_|refine pCond ?_|refine gNone ?_|refine gOn rfl ?_|refine gOff rfl rfl ?_|refine gTup rfl ?_))
  intro q hq
  obtain rfl : q = true := by rw [hq]; rfl
  (repeat(first|refine pSeq ?_|refine pReg ?_|refine sCons ?_|refine sNil ?_|refine pSkip ?_|refine pRet ?_|refine pCond ?_|refine gNone ?_|refine gOn rfl ?_|refine gOff rfl rfl ?_|refine gTup rfl ?_))
  intro q hq
  obtain rfl : q = true := by rw [hq]; rfl
  (repeat(first|refine pSeq ?_|refine pReg ?_|refine sCons ?_|refine sNil ?_|refine pSkip ?_|refine pRet ?_|refine pCond ?_|refine gNone ?_|refine gOn rfl ?_|refine gOff rfl rfl ?_|refine gTup rfl ?_))
  intro q hq
  obtain rfl : q = true := by rw [hq]; rfl
  (repeat(first|refine pSeq ?_|refine pReg ?_|refine sCons ?_|refine sNil ?_|refine pSkip ?_|refine pRet ?_|refine pCond ?_|refine gNone ?_|refine gOn rfl ?_|refine gOff rfl rfl ?_|refine gTup rfl ?_))
  intro q hq
  obtain rfl : q = true := by rw [hq]; rfl
  (repeat(first|refine pSeq ?_|refine pReg ?_|refine sCons ?_|refine sNil ?_|refine pSkip ?_|refine pRet ?_|refine pCond ?_|refine gNone ?_|refine gOn rfl ?_|refine gOff rfl rfl ?_|refine gTup rfl ?_))
  refine ldN_is rfl e27 agg3 ?_
  (repeat(first|refine pSeq ?_|refine pReg ?_|refine sCons ?_|refine sNil ?_|refine pSkip ?_|refine pRet ?_|refine pCond ?_|refine gNone ?_|refine gOn rfl ?_|refine gOff rfl rfl ?_|refine gTup rfl ?_))
  intro q hq
  obtain rfl : q = true := by rw [hq]; simp [pv0]
  (repeat(first|refine pSeq ?_|refine pReg ?_|refine sCons ?_|refine sNil ?_|refine pSkip ?_|refine pRet ?_|refine pCond ?_|refine gNone ?_|refine gOn rfl ?_|refine gOff rfl rfl ?_|refine gTup rfl ?_))
  refine (ptells_w (hG.chg cs18 (by simp)) (cs18.fine hf)).mono fun v s19 q => ?_
  obtain ⟨rfl, ds19⟩ := q
  have ns19 := ds19.next
  have cs19 := cs18.nil ds19
  have e27 := ds19.blk _ _ (by omega) (by simp) e27
  (repeat(first|refine pSeq ?_|refine pReg ?_|refine sCons ?_|refine sNil ?_|refine pSkip ?_|refine pRet ?_|refine pCond ?_|refine gNone ?_|refine gOn rfl ?_|refine gOff rfl rfl ?_|refine gTup rfl ?_))
  rfl


set_option maxHeartbeats 4000000 in
theorem pparams_law {s : SS} {m b : Nat} {g : Bool} (hG : Gb s) (hf : Fine s) (hm : m < 4294967296) (hb : b < 256) : CallW pr n_law06_PathParams [.int .u32 m, .int .u8 b, .bool g] s fun v s' => v = .bool true := by
  have hj : b % 3 < 3 := Nat.mod_lt _ (by omega)
  have hn : m % 1000000000 < 1000000000 := Nat.mod_lt _ (by omega)
  refine CallW.pieces (nt := 159) (res := [.tmp 6]) (c := .seq code_K06_P0 (.seq code_K06_P1 (.seq code_K06_P2 (.seq code_K06_P3 (.seq code_K06_UP code_K06_TL))))) (by kernel_rfl) (by kernel_rfl) (by kernel_rfl) (by kernel_rfl) (by simp) ?_
  refine W.seq (comp_ok good ok_K06_P0 (Box.out (p := wp pr 159 s.next _ _ _ _) ?_))
  (repeat(first|refine pSeq ?_|refine pReg ?_|refine sCons ?_|refine sNil ?_|refine rCons ?_|refine rNil ?_|refine kNo ?_|refine pRow ?_|refine pSkip ?_|refine pCond ?_|refine gNone ?_))
  refine W.seq (comp_ok good ok_K06_P1 (Box.out (p := wp pr 159 s.next _ _ _ _) ?_))
  (repeat(first|refine pSeq ?_|refine pReg ?_|refine sCons ?_|refine sNil ?_|refine rCons ?_|refine rNil ?_|refine kNo ?_|refine pRow ?_|refine pSkip ?_|refine pCond ?_|refine gNone ?_))
  refine W.seq (comp_ok good ok_K06_P2 (Box.out (p := wp pr 159 s.next _ _ _ _) ?_))
  (repeat(first|refine pSeq ?_|refine pReg ?_|refine sCons ?_|refine sNil ?_|refine rCons ?_|refine rNil ?_|refine kNo ?_|refine pRow ?_|refine pSkip ?_|refine pCond ?_|refine gNone ?_))
  refine ⟨by decide, ?_⟩
  intro z hz
  obtain rfl : z = ((m % 1000000000 : Nat) : Int) := by rw [hz]; exact (Int.ofNat_tmod m 1000000000).symm
  (repeat(first|refine pSeq ?_|refine pReg ?_|refine sCons ?_|refine sNil ?_|refine rCons ?_|refine rNil ?_|refine kNo ?_|refine pRow ?_|refine pSkip ?_|refine pCond ?_|refine gNone ?_))
  refine W.seq (comp_ok good ok_K06_P3 (Box.out (p := wp pr 159 s.next _ _ _ _) ?_))
  (repeat(first|refine pSeq ?_|refine pReg ?_|refine sCons ?_|refine sNil ?_|refine rCons ?_|refine rNil ?_|refine kNo ?_|refine pRow ?_|refine pSkip ?_|refine pCond ?_|refine gNone ?_))
  refine ⟨by decide, ?_⟩
  intro z hz
  obtain rfl : z = ((b % 3 : Nat) : Int) := by rw [hz]; exact (Int.ofNat_tmod b 3).symm
  clear hz
  (repeat(first|refine pSeq ?_|refine pReg ?_|refine sCons ?_|refine sNil ?_|refine rCons ?_|refine rNil ?_|refine kNo ?_|refine pRow ?_|refine pSkip ?_|refine pCond ?_|refine gNone ?_))
  refine ⟨.val (str (twoL (b % 3))), ?_, ?_⟩
  · generalize b % 3 = j at hj ⊢
    rcases (show j = 0 ∨ j = 1 ∨ j = 2 by omega) with rfl | rfl | rfl
    · rfl
    · rfl
    · rfl
  (repeat(first|refine pSeq ?_|refine pReg ?_|refine sCons ?_|refine sNil ?_|refine rCons ?_|refine rNil ?_|refine kNo ?_|refine pRow ?_|refine pSkip ?_|refine pCond ?_|refine gNone ?_))
  refine ⟨.call n_law06_PathParams_1 [.int .u32 ((m % 1000000000 : Nat) : Int)], rfl, ?_⟩
  refine (digs_w (n := m % 1000000000) (by omega)).mono fun v s1 q => ?_
  obtain ⟨rfl, c1⟩ := q
  have n1 := c1.next
  have l1 : (digs (m % 1000000000)).length ≤ 9 := (digs_all 9 _ hn (by omega)).2.2.1
  obtain ⟨o, ho1, ho2, ho3⟩ := one_ok g hn
  obtain ⟨ht1, ht2⟩ := two_ok g hj
  have ha1 : ∀ c ∈ [32, 115, 105, 122, 101, 61] ++ digs (m % 1000000000), c.toNat < 128 := by
    intro c hc
    rcases List.mem_append.1 hc with q | q
    · have : ∀ c ∈ ([32, 115, 105, 122, 101, 61] : List UInt8), c.toNat < 128 := by decide
      exact this c q
    · have := of_decide_eq_true ((List.all_eq_true.1 (digs_all 9 _ hn (by omega)).1) c q)
      omega
  have ha2 : ∀ c ∈ twoL (b % 3), c.toNat < 128 := by
    have : ∀ j, j < 3 → ∀ c ∈ twoL j, c.toNat < 128 := by decide
    exact this _ hj
  have hl2 : (twoL (b % 3)).length ≤ 14 := by
    have : ∀ j, j < 3 → (twoL j).length ≤ 14 := by decide
    exact this _ hj
  generalize digs (m % 1000000000) = D at *
  generalize hT : twoL (b % 3) = two at *
  (repeat(first|refine pSeq ?_|refine pReg ?_|refine sCons ?_|refine sNil ?_|refine rCons ?_|refine rNil ?_|refine kNo ?_|refine pRow ?_|refine pSkip ?_|refine pCond ?_|refine gNone ?_))
  refine ⟨by simp; omega, ?_⟩
  intro one hone
  subst hone
  (repeat(first|refine pSeq ?_|refine pReg ?_|refine sCons ?_|refine sNil ?_|refine rCons ?_|refine rNil ?_|refine kNo ?_|refine pRow ?_|refine pSkip ?_|refine pCond ?_|refine gNone ?_))
  refine W.seq (comp_ok good ok_K06_UP (Box.out (p := wp pr 159 s.next _ _ _ _) ?_))
  cases g with
  | true =>
    (repeat(first|refine pSeq ?_|refine pReg ?_|refine sCons ?_|refine sNil ?_|refine rCons ?_|refine rNil ?_|refine kNo ?_|refine pRow ?_|refine pSkip ?_|refine pCond ?_|refine gNone ?_))
    refine (upper_w (l := [32, 115, 105, 122, 101, 61] ++ D) (by simp; omega) ha1).mono fun v s1 q => ?_
    obtain ⟨rfl, rfl⟩ := q
    (repeat(first|refine pSeq ?_|refine pReg ?_|refine sCons ?_|refine sNil ?_|refine rCons ?_|refine rNil ?_|refine kNo ?_|refine pRow ?_|refine pSkip ?_|refine pCond ?_|refine gNone ?_))
    refine (upper_w (l := two) (by omega) ha2).mono fun v s1 q => ?_
    obtain ⟨rfl, rfl⟩ := q
    (repeat(first|refine pSeq ?_|refine pReg ?_|refine sCons ?_|refine sNil ?_|refine rCons ?_|refine rNil ?_|refine kNo ?_|refine pRow ?_|refine pSkip ?_|refine pCond ?_|refine gNone ?_))
    exact W.weak (k := s.next) (T' := [(1, .int .u8 b), (8, .int .u32 (m % 1000000000 : Nat)), (9, str (([32, 115, 105, 122, 101, 61] ++ D).map Lib.upperB)), (10, str (two.map Lib.upperB))]) (s' := s1) (Wk.same ⟨rfl, rfl, rfl, rfl, trivial⟩) (params_tail (hG.chg c1 (by simp)) (c1.fine hf) hn hb rfl ho1 ho2 ho3 ht1 ht2)
  | false =>
    (repeat(first|refine pSeq ?_|refine pReg ?_|refine sCons ?_|refine sNil ?_|refine rCons ?_|refine rNil ?_|refine kNo ?_|refine pRow ?_|refine pSkip ?_|refine pCond ?_|refine gNone ?_))
    exact W.weak (k := s.next) (T' := [(1, .int .u8 b), (8, .int .u32 (m % 1000000000 : Nat)), (9, str ([32, 115, 105, 122, 101, 61] ++ D)), (10, str two)]) (s' := s1) (Wk.same ⟨rfl, rfl, rfl, rfl, trivial⟩) (params_tail (hG.chg c1 (by simp)) (c1.fine hf) hn hb rfl ho1 ho2 ho3 ht1 ht2)
end Go.Vf.S

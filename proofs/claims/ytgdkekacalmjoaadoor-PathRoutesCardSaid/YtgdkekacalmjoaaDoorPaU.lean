import Derived.Test.YtgdkekacalmjoaaDoorPaT
import Derived.Test.YtgdkekacalmjoaaDoorBnC
import Derived.Test.YtgdkekacalmjoaaDoorFnK05
/- Paths: what the law PathRoutes says, from any state. -/
namespace Go.Vf.S
open Go Go.Vf
attribute [local irreducible] wSeq wRow wp wG
set_option linter.unusedVariables false
set_option linter.unusedSimpArgs false
set_option maxRecDepth 10000

structure RoIt where
  i : Nat
  s : SS

set_option maxHeartbeats 2000000 in
theorem routes_rest {s : SS} {k n : Nat} {loc : List UInt8} {Wa : Option Addr} {cw : Nat} (hG : Gb s) (hf : Fine s) (hn : n < 13) (hz : loc.all azB = true) (hl : loc.length ≤ 10) (o : RowAt6 s Wa cw (rts n)) :
    W pr 107 k code_K05_RS [(1, str loc), (5, .int .i64 n), (6, .slice Wa n cw), (8, str (rtL n))] s (runQ pr [.tmp 4] fun v s' => v = .bool true) := by
  have hp := path_route hn hz hl
  have htx := route_text (n := n) hz hl
  have hrl : (rtL n).length ≤ 132 := by
    have := (rt_one n hn).2.1
    unfold rtL
    split <;> simp <;> omega
  refine comp_ok good ok_K05_RS (Box.out (p := wp pr 107 k _ _ _ _) ?_)
  (repeat(first|refine pSeq ?_|refine pReg ?_|refine sCons ?_|refine sNil ?_|refine pBlock ?_|refine pSkip ?_|refine pExit ?_|refine pRet ?_|refine pCond ?_|refine gNone ?_|refine gOn rfl ?_|refine gOff rfl rfl ?_|refine gTup rfl ?_))
  refine ⟨by simp; omega, ?_⟩
  intro w hw
  subst hw
  (repeat(first|refine pSeq ?_|refine pReg ?_|refine sCons ?_|refine sNil ?_|refine pBlock ?_|refine pSkip ?_|refine pExit ?_|refine pRet ?_|refine pCond ?_|refine gNone ?_|refine gOn rfl ?_|refine gOff rfl rfl ?_|refine gTup rfl ?_))
  refine ⟨by simp; omega, ?_⟩
  intro w hw
  subst hw
  (repeat(first|refine pSeq ?_|refine pReg ?_|refine sCons ?_|refine sNil ?_|refine pBlock ?_|refine pSkip ?_|refine pExit ?_|refine pRet ?_|refine pCond ?_|refine gNone ?_|refine gOn rfl ?_|refine gOff rfl rfl ?_|refine gTup rfl ?_))
  refine ⟨by simp; omega, ?_⟩
  intro w hw
  subst hw
  (repeat(first|refine pSeq ?_|refine pReg ?_|refine sCons ?_|refine sNil ?_|refine pBlock ?_|refine pSkip ?_|refine pExit ?_|refine pRet ?_|refine pCond ?_|refine gNone ?_|refine gOn rfl ?_|refine gOff rfl rfl ?_|refine gTup rfl ?_))
  refine ⟨by simp; omega, ?_⟩
  intro w hw
  have ew : w = 60 :: (rtL n ++ ((117 :: loc) ++ 64 :: (farL ++ 62 :: tailL))) := by rw [hw]; simp [farL, tailL]
  clear hw
  subst ew
  (repeat(first|refine pSeq ?_|refine pReg ?_|refine sCons ?_|refine sNil ?_|refine pBlock ?_|refine pSkip ?_|refine pExit ?_|refine pRet ?_|refine pCond ?_|refine gNone ?_|refine gOn rfl ?_|refine gOff rfl rfl ?_|refine gTup rfl ?_))
  refine (path_w (l := 60 :: (rtL n ++ ((117 :: loc) ++ 64 :: (farL ++ 62 :: tailL)))) hG (by simp [farL, tailL]; omega)).mono fun v s1 q => ?_
  obtain ⟨W2, cw2, rfl, o1, c1, hW⟩ := q
  have n1 := c1.next
  have o' := o.chg c1 (by simp)
  rw [hp] at o1 ⊢
  by_cases h8 : 8 < n
  · rw [if_pos h8] at o1 ⊢
    (repeat(first|refine pSeq ?_|refine pReg ?_|refine sCons ?_|refine sNil ?_|refine pBlock ?_|refine pSkip ?_|refine pExit ?_|refine pRet ?_|refine pCond ?_|refine gNone ?_|refine gOn rfl ?_|refine gOff rfl rfl ?_|refine gTup rfl ?_))
    refine st_abs (cs' := ptCells ptZ W2 cw2) rfl rfl lkH (Nat.lt_succ_self _) rfl rfl fun s2 e2 c2 n2 => ?_
    have c02 : Chg s s2 [] := c1.nil ((Chg.new []).fresh c2 (by simp))
    (repeat(first|refine pSeq ?_|refine pReg ?_|refine sCons ?_|refine sNil ?_|refine pBlock ?_|refine pSkip ?_|refine pExit ?_|refine pRet ?_|refine pCond ?_|refine gNone ?_|refine gOn rfl ?_|refine gOff rfl rfl ?_|refine gTup rfl ?_))
    intro q hq
    obtain rfl : q = true := by rw [hq]; simp <;> omega
    (repeat(first|refine pSeq ?_|refine pReg ?_|refine sCons ?_|refine sNil ?_|refine pBlock ?_|refine pSkip ?_|refine pExit ?_|refine pRet ?_|refine pCond ?_|refine gNone ?_|refine gOn rfl ?_|refine gOff rfl rfl ?_|refine gTup rfl ?_))
    intro q hq
    obtain rfl : q = true := by rw [hq]; rfl
    (repeat(first|refine pSeq ?_|refine pReg ?_|refine sCons ?_|refine sNil ?_|refine pBlock ?_|refine pSkip ?_|refine pExit ?_|refine pRet ?_|refine pCond ?_|refine gNone ?_|refine gOn rfl ?_|refine gOff rfl rfl ?_|refine gTup rfl ?_))
    refine (ptells_w (hG.chg c02 (by simp)) (c02.fine hf)).mono fun v s3 q => ?_
    obtain ⟨rfl, c3⟩ := q
    (repeat(first|refine pSeq ?_|refine pReg ?_|refine sCons ?_|refine sNil ?_|refine pBlock ?_|refine pSkip ?_|refine pExit ?_|refine pRet ?_|refine pCond ?_|refine gNone ?_|refine gOn rfl ?_|refine gOff rfl rfl ?_|refine gTup rfl ?_))
    (repeat (first | with_reducible refine sqRet ?_ | with_reducible refine bkRet ?_ | with_reducible refine hdRet ?_))
    rfl
  · rw [if_neg h8] at o1 ⊢
    have hdl : (dms n).length = n := (rt_len n).2
    (repeat(first|refine pSeq ?_|refine pReg ?_|refine sCons ?_|refine sNil ?_|refine pBlock ?_|refine pSkip ?_|refine pExit ?_|refine pRet ?_|refine pCond ?_|refine gNone ?_|refine gOn rfl ?_|refine gOff rfl rfl ?_|refine gTup rfl ?_))
    refine st_abs (cs' := ptCells ⟨false, false, dms n, 117 :: loc, farL⟩ W2 cw2) rfl rfl lkH (Nat.lt_succ_self _) rfl rfl fun s2 e2 c2 n2 => ?_
    have c12 : Chg s1 s2 [] := (Chg.new []).fresh c2 (by simp)
    have c02 : Chg s s2 [] := c1.nil c12
    have n2' : s2.next = s1.next + 1 := n2
    have o2 := o1.chg c12 (by simp)
    have o'' := o'.chg c12 (by simp)
    have e2' : lookH s2.heap s1.next = some (.cells [.bool false, .bool false, .slice W2 n cw2, str (117 :: loc), str farL] tPt false false) := by
      rw [e2]
      unfold ptCells
      rw [hdl]
    (repeat(first|refine pSeq ?_|refine pReg ?_|refine sCons ?_|refine sNil ?_|refine pBlock ?_|refine pSkip ?_|refine pExit ?_|refine pRet ?_|refine pCond ?_|refine gNone ?_|refine gOn rfl ?_|refine gOff rfl rfl ?_|refine gTup rfl ?_))
    intro q hq
    obtain rfl : q = false := by rw [hq]; simp <;> omega
    (repeat(first|refine pSeq ?_|refine pReg ?_|refine sCons ?_|refine sNil ?_|refine pBlock ?_|refine pSkip ?_|refine pExit ?_|refine pRet ?_|refine pCond ?_|refine gNone ?_|refine gOn rfl ?_|refine gOff rfl rfl ?_|refine gTup rfl ?_))
    intro q hq
    obtain rfl : q = false := by rw [hq]; rfl
    (repeat(first|refine pSeq ?_|refine pReg ?_|refine sCons ?_|refine sNil ?_|refine pBlock ?_|refine pSkip ?_|refine pExit ?_|refine pRet ?_|refine pCond ?_|refine gNone ?_|refine gOn rfl ?_|refine gOff rfl rfl ?_|refine gTup rfl ?_))
    intro q hq
    obtain rfl : q = false := by rw [hq]; rfl
    (repeat(first|refine pSeq ?_|refine pReg ?_|refine sCons ?_|refine sNil ?_|refine pBlock ?_|refine pSkip ?_|refine pExit ?_|refine pRet ?_|refine pCond ?_|refine gNone ?_|refine gOn rfl ?_|refine gOff rfl rfl ?_|refine gTup rfl ?_))
    refine ld1_is rfl e2' rfl ?_
    (repeat(first|refine pSeq ?_|refine pReg ?_|refine sCons ?_|refine sNil ?_|refine pBlock ?_|refine pSkip ?_|refine pExit ?_|refine pRet ?_|refine pCond ?_|refine gNone ?_|refine gOn rfl ?_|refine gOff rfl rfl ?_|refine gTup rfl ?_))
    intro q hq
    obtain rfl : q = false := by rw [hq]; simp
    (repeat(first|refine pSeq ?_|refine pReg ?_|refine sCons ?_|refine sNil ?_|refine pBlock ?_|refine pSkip ?_|refine pExit ?_|refine pRet ?_|refine pCond ?_|refine gNone ?_|refine gOn rfl ?_|refine gOff rfl rfl ?_|refine gTup rfl ?_))
    refine ldN_is (new := [str (117 :: loc), str farL]) rfl e2' rfl ?_
    (repeat(first|refine pSeq ?_|refine pReg ?_|refine sCons ?_|refine sNil ?_|refine pBlock ?_|refine pSkip ?_|refine pExit ?_|refine pRet ?_|refine pCond ?_|refine gNone ?_|refine gOn rfl ?_|refine gOff rfl rfl ?_|refine gTup rfl ?_))
    refine ⟨by simp; omega, ?_⟩
    intro w hw
    obtain rfl : w = 117 :: loc := hw
    (repeat(first|refine pSeq ?_|refine pReg ?_|refine sCons ?_|refine sNil ?_|refine pBlock ?_|refine pSkip ?_|refine pExit ?_|refine pRet ?_|refine pCond ?_|refine gNone ?_|refine gOn rfl ?_|refine gOff rfl rfl ?_|refine gTup rfl ?_))
    intro q hq
    obtain rfl : q = false := by rw [hq]; simp [farL]
    (repeat(first|refine pSeq ?_|refine pReg ?_|refine sCons ?_|refine sNil ?_|refine pBlock ?_|refine pSkip ?_|refine pExit ?_|refine pRet ?_|refine pCond ?_|refine gNone ?_|refine gOn rfl ?_|refine gOff rfl rfl ?_|refine gTup rfl ?_))
    refine ldN_is rfl e2 agg5 ?_
    (repeat(first|refine pSeq ?_|refine pReg ?_|refine sCons ?_|refine sNil ?_|refine pBlock ?_|refine pSkip ?_|refine pExit ?_|refine pRet ?_|refine pCond ?_|refine gNone ?_|refine gOn rfl ?_|refine gOff rfl rfl ?_|refine gTup rfl ?_))
    refine (ptext_w (p := ⟨false, false, dms n, 117 :: loc, farL⟩) (hG.chg c02 (by simp)) (by simp; omega) (by simp [farL])).mono fun v s3 q => ?_
    obtain ⟨rfl, c23⟩ := q
    have e3 := c23.blk _ _ (by omega) (by simp) e2'
    have o3 := o2.chg c23 (by simp)
    have q3 := o''.chg c23 (by simp)
    have c03 := c02.nil c23
    have n3 := c23.next
    (repeat(first|refine pSeq ?_|refine pReg ?_|refine sCons ?_|refine sNil ?_|refine pBlock ?_|refine pSkip ?_|refine pExit ?_|refine pRet ?_|refine pCond ?_|refine gNone ?_|refine gOn rfl ?_|refine gOff rfl rfl ?_|refine gTup rfl ?_))
    refine ⟨by simp; omega, ?_⟩
    intro w hw
    subst hw
    (repeat(first|refine pSeq ?_|refine pReg ?_|refine sCons ?_|refine sNil ?_|refine pBlock ?_|refine pSkip ?_|refine pExit ?_|refine pRet ?_|refine pCond ?_|refine gNone ?_|refine gOn rfl ?_|refine gOff rfl rfl ?_|refine gTup rfl ?_))
    refine ⟨by simp; omega, ?_⟩
    intro w hw
    subst hw
    (repeat(first|refine pSeq ?_|refine pReg ?_|refine sCons ?_|refine sNil ?_|refine pBlock ?_|refine pSkip ?_|refine pExit ?_|refine pRet ?_|refine pCond ?_|refine gNone ?_|refine gOn rfl ?_|refine gOff rfl rfl ?_|refine gTup rfl ?_))
    intro q hq
    obtain rfl : q = false := by rw [hq, htx]; simp
    (repeat(first|refine pSeq ?_|refine pReg ?_|refine sCons ?_|refine sNil ?_|refine pBlock ?_|refine pSkip ?_|refine pExit ?_|refine pRet ?_|refine pCond ?_|refine gNone ?_|refine gOn rfl ?_|refine gOff rfl rfl ?_|refine gTup rfl ?_))
    refine ld1_is rfl e3 rfl ?_
    (repeat(first|refine pSeq ?_|refine pReg ?_|refine sCons ?_|refine sNil ?_|refine pBlock ?_|refine pSkip ?_|refine pExit ?_|refine pRet ?_|refine pCond ?_|refine gNone ?_|refine gOn rfl ?_|refine gOff rfl rfl ?_|refine gTup rfl ?_))
    refine pLoop (MW.head good (fun x : Nat => n - x) (fun x => x ≤ n) (fun x => [(6, .slice Wa n cw), (91, .slice W2 n cw2), (92, .int .i64 n), (93, .int .i64 x)]) (fun x => s3) 0 (Nat.zero_le _) (Wk.same ⟨rfl, rfl, rfl, rfl, trivial⟩) ?_)
    intro i hi
    have hi : i ≤ n := hi
    (repeat(first|refine pSeq ?_|refine pReg ?_|refine sCons ?_|refine sNil ?_|refine pBlock ?_|refine pSkip ?_|refine pExit ?_|refine pRet ?_|refine pCond ?_|refine gNone ?_|refine gOn rfl ?_|refine gOff rfl rfl ?_|refine gTup rfl ?_))
    intro q hq
    by_cases hin : i < n
    · obtain rfl : q = true := by rw [hq]; simp <;> omega
      obtain ⟨b, g, rfl, hb⟩ := o3.1.pos (by show 0 < (dms n).length; omega)
      obtain ⟨b', g', rfl, hb'⟩ := q3.1.pos (by rw [(rt_len n).1]; omega)
      (repeat(first|refine pSeq ?_|refine pReg ?_|refine sCons ?_|refine sNil ?_|refine pBlock ?_|refine pSkip ?_|refine pExit ?_|refine pRet ?_|refine pCond ?_|refine gNone ?_|refine gOn rfl ?_|refine gOff rfl rfl ?_|refine gTup rfl ?_))
      refine ⟨by omega, ?_⟩
      intro m hm of hof
      obtain rfl : m = i := by omega
      obtain rfl : of = m := by omega
      have hc1 : (strV (dms n))[of]? = some (str (dm of)) := by simp only [strV, List.getElem?_map, (rt_at hin).2]; rfl
      have hc2 : (strV (rts n))[of]? = some (str (rt of)) := by simp only [strV, List.getElem?_map, (rt_at hin).1]; rfl
      (repeat(first|refine pSeq ?_|refine pReg ?_|refine sCons ?_|refine sNil ?_|refine pBlock ?_|refine pSkip ?_|refine pExit ?_|refine pRet ?_|refine pCond ?_|refine gNone ?_|refine gOn rfl ?_|refine gOff rfl rfl ?_|refine gTup rfl ?_))
      refine ldS_is rfl hb hc1 ?_
      (repeat(first|refine pSeq ?_|refine pReg ?_|refine sCons ?_|refine sNil ?_|refine pBlock ?_|refine pSkip ?_|refine pExit ?_|refine pRet ?_|refine pCond ?_|refine gNone ?_|refine gOn rfl ?_|refine gOff rfl rfl ?_|refine gTup rfl ?_))
      refine ⟨by omega, ?_⟩
      intro m2 hm2 of2 hof2
      obtain rfl : m2 = of := by omega
      obtain rfl : of2 = m2 := by omega
      (repeat(first|refine pSeq ?_|refine pReg ?_|refine sCons ?_|refine sNil ?_|refine pBlock ?_|refine pSkip ?_|refine pExit ?_|refine pRet ?_|refine pCond ?_|refine gNone ?_|refine gOn rfl ?_|refine gOff rfl rfl ?_|refine gTup rfl ?_))
      refine ldS_is rfl hb' hc2 ?_
      (repeat(first|refine pSeq ?_|refine pReg ?_|refine sCons ?_|refine sNil ?_|refine pBlock ?_|refine pSkip ?_|refine pExit ?_|refine pRet ?_|refine pCond ?_|refine gNone ?_|refine gOn rfl ?_|refine gOff rfl rfl ?_|refine gTup rfl ?_))
      refine ⟨by simp [rt, dm], ?_⟩
      intro m3 hm3 r hr
      have hm3 : (m3 : Int) = 1 := hm3
      obtain rfl : m3 = 1 := by omega
      have er : r = dm of2 := by rw [hr, List.take_of_length_le (by simp)]; rfl
      subst er
      (repeat(first|refine pSeq ?_|refine pReg ?_|refine sCons ?_|refine sNil ?_|refine pBlock ?_|refine pSkip ?_|refine pExit ?_|refine pRet ?_|refine pCond ?_|refine gNone ?_|refine gOn rfl ?_|refine gOff rfl rfl ?_|refine gTup rfl ?_))
      intro q hq
      obtain rfl : q = false := by rw [hq]; simp
      (repeat(first|refine pSeq ?_|refine pReg ?_|refine sCons ?_|refine sNil ?_|refine pBlock ?_|refine pSkip ?_|refine pExit ?_|refine pRet ?_|refine pCond ?_|refine gNone ?_|refine gOn rfl ?_|refine gOff rfl rfl ?_|refine gTup rfl ?_))
      intro z hz
      rw [i64_id (by omega)] at hz
      obtain rfl : z = ((of2 + 1 : Nat) : Int) := by omega
      (repeat(first|refine pSeq ?_|refine pReg ?_|refine sCons ?_|refine sNil ?_|refine pBlock ?_|refine pSkip ?_|refine pExit ?_|refine pRet ?_|refine pCond ?_|refine gNone ?_|refine gOn rfl ?_|refine gOff rfl rfl ?_|refine gTup rfl ?_))
      exact ⟨of2 + 1, (by show of2 + 1 ≤ n; omega), by show n - (of2 + 1) < n - of2; omega, Wk.same ⟨rfl, rfl, rfl, rfl, trivial⟩⟩
    · obtain rfl : q = false := by rw [hq]; simp <;> omega
      (repeat(first|refine pSeq ?_|refine pReg ?_|refine sCons ?_|refine sNil ?_|refine pBlock ?_|refine pSkip ?_|refine pExit ?_|refine pRet ?_|refine pCond ?_|refine gNone ?_|refine gOn rfl ?_|refine gOff rfl rfl ?_|refine gTup rfl ?_))
      refine (ptells_w (hG.chg c03 (by simp)) (c03.fine hf)).mono fun v s4 q => ?_
      obtain ⟨rfl, c4⟩ := q
      (repeat(first|refine pSeq ?_|refine pReg ?_|refine sCons ?_|refine sNil ?_|refine pBlock ?_|refine pSkip ?_|refine pExit ?_|refine pRet ?_|refine pCond ?_|refine gNone ?_|refine gOn rfl ?_|refine gOff rfl rfl ?_|refine gTup rfl ?_))
      (repeat (first | with_reducible refine sqRet ?_ | with_reducible refine bkRet ?_ | with_reducible refine hdRet ?_))
      rfl

structure RlIt where
  i : Nat
  Wa : Option Addr
  cw : Nat
  s : SS

set_option maxHeartbeats 2000000 in
theorem proutes_w {s : SS} {b : Nat} {l0 : List UInt8} (hG : Gb s) (hV : Gv s) (hf : Fine s) (hb : b < 256) : CallW pr n_law06_PathRoutes [.int .u8 b, str l0] s fun v s' => v = .bool true := by
  have hn : b % 13 < 13 := Nat.mod_lt _ (by omega)
  refine CallW.pieces (nt := 107) (res := [.tmp 4]) (c := .seq code_K05_P0 (.seq code_K05_P1 (.seq code_K05_P2 (.seq code_K05_P3 (.seq code_K05_LP (.seq code_K05_P5 (.seq code_K05_CD code_K05_RS))))))) (by kernel_rfl) (by kernel_rfl) (by kernel_rfl) (by kernel_rfl) (by simp) ?_
  refine W.seq (comp_ok good ok_K05_P0 (Box.out (p := wp pr 107 s.next _ _ _ _) ?_))
  (repeat(first|refine pSeq ?_|refine pReg ?_|refine sCons ?_|refine sNil ?_|refine pBlock ?_|refine pSkip ?_|refine pExit ?_|refine pCond ?_|refine gNone ?_))
  refine W.seq (comp_ok good ok_K05_P1 (Box.out (p := wp pr 107 s.next _ _ _ _) ?_))
  (repeat(first|refine pSeq ?_|refine pReg ?_|refine sCons ?_|refine sNil ?_|refine pBlock ?_|refine pSkip ?_|refine pExit ?_|refine pCond ?_|refine gNone ?_))
  refine ⟨by decide, ?_⟩
  intro z hz
  obtain rfl : z = ((b % 13 : Nat) : Int) := by rw [hz]; exact (Int.ofNat_tmod b 13).symm
  clear hz
  generalize b % 13 = n at hn ⊢
  (repeat(first|refine pSeq ?_|refine pReg ?_|refine sCons ?_|refine sNil ?_|refine pBlock ?_|refine pSkip ?_|refine pExit ?_|refine pCond ?_|refine gNone ?_))
  intro z hz
  rw [i64_id (by omega)] at hz
  subst hz
  (repeat(first|refine pSeq ?_|refine pReg ?_|refine sCons ?_|refine sNil ?_|refine pBlock ?_|refine pSkip ?_|refine pExit ?_|refine pCond ?_|refine gNone ?_))
  refine W.seq (comp_ok good ok_K05_P2 (Box.out (p := wp pr 107 s.next _ _ _ _) ?_))
  (repeat(first|refine pSeq ?_|refine pReg ?_|refine sCons ?_|refine sNil ?_|refine pBlock ?_|refine pSkip ?_|refine pExit ?_|refine pCond ?_|refine gNone ?_))
  intro m hm
  (repeat(first|refine pSeq ?_|refine pReg ?_|refine sCons ?_|refine sNil ?_|refine pBlock ?_|refine pSkip ?_|refine pExit ?_|refine pCond ?_|refine gNone ?_))
  intro z hz
  (repeat(first|refine pSeq ?_|refine pReg ?_|refine sCons ?_|refine sNil ?_|refine pBlock ?_|refine pSkip ?_|refine pExit ?_|refine pCond ?_|refine gNone ?_))
  refine ⟨by omega, ?_⟩
  intro m2 hm2 y hy
  have ly : y.length ≤ 10 := by rw [hy, List.length_take]; omega
  clear hy hm2 hz hm
  (repeat(first|refine pSeq ?_|refine pReg ?_|refine sCons ?_|refine sNil ?_|refine pBlock ?_|refine pSkip ?_|refine pExit ?_|refine pCond ?_|refine gNone ?_))
  refine (mapAz_w (l := y) hV (by omega)).mono fun v s q => ?_
  obtain ⟨rfl, rfl⟩ := q
  obtain ⟨hz, hl0⟩ := map_az y.length y (Nat.le_refl _)
  have hl : (Lib.mapD az y).length ≤ 10 := by omega
  generalize Lib.mapD az y = loc at hz hl
  clear hl0 ly
  (repeat(first|refine pSeq ?_|refine pReg ?_|refine sCons ?_|refine sNil ?_|refine pBlock ?_|refine pSkip ?_|refine pExit ?_|refine pCond ?_|refine gNone ?_))
  refine W.seq (comp_ok good ok_K05_P3 (Box.out (p := wp pr 107 s.next _ _ _ _) ?_))
  (repeat(first|refine pSeq ?_|refine pReg ?_|refine sCons ?_|refine sNil ?_|refine pBlock ?_|refine pSkip ?_|refine pExit ?_|refine pCond ?_|refine gNone ?_))
  refine W.seq (comp_ok good ok_K05_LP (Box.out (p := wp pr 107 s.next _ _ _ _) ?_))
  (repeat(first|refine pSeq ?_|refine pReg ?_|refine sCons ?_|refine sNil ?_|refine pBlock ?_|refine pSkip ?_|refine pExit ?_|refine pCond ?_|refine gNone ?_))
  refine pLoop (MW.head good (fun x : RlIt => n - x.i) (fun x => x.i ≤ n ∧ RowAt6 x.s x.Wa x.cw (rts x.i) ∧ Chg s x.s [] ∧ ∀ id ∈ blkOf x.Wa, s.next ≤ id) (fun x => [(1, str loc), (5, .int .i64 n), (6, .slice x.Wa x.i x.cw), (23, .int .i64 n), (24, .int .i64 x.i)]) (fun x => x.s) ⟨0, none, 0, s⟩ ⟨Nat.zero_le _, row_none, .refl _ _, by simp [blkOf]⟩ (Wk.same ⟨rfl, rfl, rfl, rfl, rfl, trivial⟩) ?_)
  intro ⟨i, Wa, cw, s1⟩ ⟨hi, o1, c1, hW⟩
  dsimp only at hi o1 c1 hW ⊢
  have n1 := c1.next
  (repeat(first|refine pSeq ?_|refine pReg ?_|refine sCons ?_|refine sNil ?_|refine pBlock ?_|refine pSkip ?_|refine pExit ?_|refine pCond ?_|refine gNone ?_))
  intro q hq
  by_cases hin : i < n
  · obtain rfl : q = true := by rw [hq]; simp <;> omega
    (repeat(first|refine pSeq ?_|refine pReg ?_|refine sCons ?_|refine sNil ?_|refine pBlock ?_|refine pSkip ?_|refine pExit ?_|refine pCond ?_|refine gNone ?_))
    intro z hz2
    rw [i64_id (by omega)] at hz2
    (repeat(first|refine pSeq ?_|refine pReg ?_|refine sCons ?_|refine sNil ?_|refine pBlock ?_|refine pSkip ?_|refine pExit ?_|refine pCond ?_|refine gNone ?_))
    intro z2 hz3
    rw [u8_id (by omega)] at hz3
    obtain rfl : z2 = ((UInt8.ofNat (97 + i)).toNat : Int) := by rw [UInt8.toNat_ofNat']; omega
    (repeat(first|refine pSeq ?_|refine pReg ?_|refine sCons ?_|refine sNil ?_|refine pBlock ?_|refine pSkip ?_|refine pExit ?_|refine pCond ?_|refine gNone ?_))
    refine toStr_Rdb rfl (rdb_lit (l := [UInt8.ofNat (97 + i)]) lkH (Nat.lt_succ_self _)) ?_
    (repeat(first|refine pSeq ?_|refine pReg ?_|refine sCons ?_|refine sNil ?_|refine pBlock ?_|refine pSkip ?_|refine pExit ?_|refine pCond ?_|refine gNone ?_))
    refine ⟨by simp, ?_⟩
    intro w hw
    subst hw
    (repeat(first|refine pSeq ?_|refine pReg ?_|refine sCons ?_|refine sNil ?_|refine pBlock ?_|refine pSkip ?_|refine pExit ?_|refine pCond ?_|refine gNone ?_))
    refine ⟨by simp, ?_⟩
    intro w hw
    obtain rfl : w = rt i := hw
    (repeat(first|refine pSeq ?_|refine pReg ?_|refine sCons ?_|refine sNil ?_|refine pBlock ?_|refine pSkip ?_|refine pExit ?_|refine pCond ?_|refine gNone ?_))
    have o2 := (o1.chg (Chg.new (A := []) (b := .cells [.int .u8 ((UInt8.ofNat (97 + i)).toNat : Int)] tU8 false false)) (by simp)).chg (Chg.new (A := []) (b := .cells [str (rt i)] tS false false)) (by simp)
    have hlen := (rt_len i).1
    have h1 := o2.1
    rw [hlen] at h1
    refine appR (h := h1) (size := 1) (by rw [strV_len, hlen, Nat.mul_one]) (by omega) rfl rfl lkH rfl rfl fun s4 o4 c4 n4 => ?_
    have c14 : Chg s1 s4 (blkOf Wa) := (((Chg.new []).nil (Chg.new [])).nil c4)
    (repeat(first|refine pSeq ?_|refine pReg ?_|refine sCons ?_|refine sNil ?_|refine pBlock ?_|refine pSkip ?_|refine pExit ?_|refine pCond ?_|refine gNone ?_))
    intro z hz4
    rw [i64_id (by omega)] at hz4
    obtain rfl : z = ((i + 1 : Nat) : Int) := by omega
    (repeat(first|refine pSeq ?_|refine pReg ?_|refine sCons ?_|refine sNil ?_|refine pBlock ?_|refine pSkip ?_|refine pExit ?_|refine pCond ?_|refine gNone ?_))
    have er : rts (i + 1) = rts i ++ [rt i] := by unfold rts; rw [List.range_succ, List.map_append]; rfl
    refine ⟨⟨i + 1, some ⟨s1.next + 2, 0, none⟩, 0, s4⟩, ⟨(by show i + 1 ≤ n; omega), ⟨?_, by rw [er]; simp⟩, c1.fresh c14 hW, by intro id hid; simp only [blkOf, List.mem_singleton] at hid; omega⟩, by show n - (i + 1) < n - i; omega, Wk.same ⟨rfl, rfl, rfl, rfl, rfl, trivial⟩⟩
    show OwnR tS s4 _ 0 (rts (i + 1)).length (strV (rts (i + 1)))
    rw [(rt_len (i + 1)).1, er]
    simp only [strV, List.map_append]
    exact o4
  · obtain rfl : q = false := by rw [hq]; simp <;> omega
    obtain rfl : i = n := by omega
    (repeat(first|refine pSeq ?_|refine pReg ?_|refine sCons ?_|refine sNil ?_|refine pBlock ?_|refine pSkip ?_|refine pExit ?_|refine pCond ?_|refine gNone ?_))
    refine W.seq (comp_ok good ok_K05_P5 (Box.out (p := wp pr 107 s.next _ _ _ _) ?_))
    (repeat(first|refine pSeq ?_|refine pReg ?_|refine sCons ?_|refine sNil ?_|refine pBlock ?_|refine pSkip ?_|refine pExit ?_|refine pCond ?_|refine gNone ?_))
    refine W.seq (comp_ok good ok_K05_CD (Box.out (p := wp pr 107 s.next _ _ _ _) ?_))
    (repeat(first|refine pSeq ?_|refine pReg ?_|refine sCons ?_|refine sNil ?_|refine pBlock ?_|refine pSkip ?_|refine pExit ?_|refine pCond ?_|refine gNone ?_))
    intro q hq
    by_cases h0 : 0 < i
    · obtain rfl : q = true := by rw [hq]; simp <;> omega
      have hlen := (rt_len i).1
      have hjl := (rt_one i hn).2.1
      have eR : rtL i = rtJ i ++ [58] := by unfold rtL; rw [if_pos h0]
      (repeat(first|refine pSeq ?_|refine pReg ?_|refine sCons ?_|refine sNil ?_|refine pBlock ?_|refine pSkip ?_|refine pExit ?_|refine pCond ?_|refine gNone ?_))
      refine (show CallW pr _ [.slice Wa i cw, str [44]] s1 fun v s' => v = str (rtJ i) ∧ s' = s1 from by
        have := join6_w (c := 44) o1 (by omega) (by omega) (show (rtJ i).length ≤ _ by omega)
        rw [hlen] at this
        exact this).mono fun v s1 q => ?_
      obtain ⟨rfl, rfl⟩ := q
      (repeat(first|refine pSeq ?_|refine pReg ?_|refine sCons ?_|refine sNil ?_|refine pBlock ?_|refine pSkip ?_|refine pExit ?_|refine pCond ?_|refine gNone ?_))
      refine ⟨by simp; omega, ?_⟩
      intro w hw
      obtain rfl : w = rtL i := by rw [hw, eR]
      (repeat(first|refine pSeq ?_|refine pReg ?_|refine sCons ?_|refine sNil ?_|refine pBlock ?_|refine pSkip ?_|refine pExit ?_|refine pCond ?_|refine gNone ?_))
      exact W.weak (k := s.next) (T' := [(1, str loc), (5, .int .i64 i), (6, .slice Wa i cw), (8, str (rtL i))]) (s' := s1) (Wk.same ⟨rfl, rfl, rfl, rfl, trivial⟩) (routes_rest (hG.chg c1 (by simp)) (c1.fine hf) hn hz hl o1)
    · obtain rfl : q = false := by rw [hq]; simp <;> omega
      have eR : rtL i = [] := by unfold rtL; rw [if_neg h0]
      (repeat(first|refine pSeq ?_|refine pReg ?_|refine sCons ?_|refine sNil ?_|refine pBlock ?_|refine pSkip ?_|refine pExit ?_|refine pCond ?_|refine gNone ?_))
      exact W.weak (k := s.next) (T' := [(1, str loc), (5, .int .i64 i), (6, .slice Wa i cw), (8, str (rtL i))]) (s' := s1) (Wk.same ⟨rfl, rfl, rfl, by rw [eR]; rfl, trivial⟩) (routes_rest (hG.chg c1 (by simp)) (c1.fine hf) hn hz hl o1)
end Go.Vf.S

import Derived.Test.YtjkbllbjelpdpaaGreatDoorMg2
import Derived.Test.YtjkbllbjelpdpaaGreatDoorFnKR
import Derived.Test.YtjkbllbjelpdpaaGreatDoorEngSc
import Derived.Test.YtjkbllbjelpdpaaGreatDoorAdS
import Derived.Test.YtjkbllbjelpdpaaGreatDoorMg1
import Derived.Test.YtjkbllbjelpdpaaGreatDoorEngBl
section
/- What a row says: an entry. -/
namespace Go.Vf.S
open Go Go.Vf Go.Proofs Go.RowKit
attribute [local irreducible] wSeq wRow wp wG
set_option linter.unusedVariables false
set_option linter.unusedSimpArgs false
set_option maxRecDepth 10000

theorem alloc13 {P : Program} {T : TL} {s : SS} {K : RR → Prop} {e : TypeId} {z : List Value} (h : K (.new (.cells z e false false) fun id => .pointer (some ⟨id, 0, none⟩))) : wN P (.alloc e z) T s K := h
abbrev tRw13 : TypeId := 66
abbrev tEn13 : TypeId := 28
def saC (x : Sai) : List Value := [.int .i64 (x.n : Int), str x.t, .bool x.al]
theorem agg_En : aggB pr tEn13 = some true := by kernel_rfl
theorem sz_En : sizeB pr tEn13 = some 3 := by kernel_rfl
set_option maxHeartbeats 1000000 in
theorem entry13_w {s : SS} {x : Sai} {vals : Bool} (f : Fine s) (hl : x.t.length ≤ 100000) : CallW pr n_lines_row_entry [.agg ⟨saC x⟩, .bool vals] s fun v s' =>
    ∃ k W ws, v = .tuple ⟨[.agg ⟨[.int .i64 (x.n : Int), str k, .slice W ws.length 0]⟩, .int .i64 (enF vals x).2]⟩ ∧ TsO s' W ws ∧ (∀ id ∈ blkOf W, s.next ≤ id) ∧ Chg s s' [] ∧ ((enF vals x).2 = 0 → (enF vals x).1 = ⟨x.n, k, ws⟩) := by
  refine CallW.run good ok_lines_row_entry (by simp) rfl ?_
  obtain ⟨n, t, al⟩ := x
  dsimp only at hl ⊢
  obtain ⟨k0, k1, c2, f2⟩ := new2_at f (.cells (saC ⟨n, t, al⟩) tRw13 false false) (.cells [.int .i64 0, str [], .slice none 0 0] tEn13 false false)
  obtain ⟨j0, j1, j2, c3, f3⟩ := new3_at f (.cells (saC ⟨n, t, al⟩) tRw13 false false) (.cells [.int .i64 0, str [], .slice none 0 0] tEn13 false false) (.cells [str [], .bool false, .bool false] tRd13 false false)
  (try refine pSeq ?_); (repeat(first|refine sb ?_|refine kNo ?_|refine gOn rfl ?_|refine gOff rfl rfl ?_|refine gTup rfl ?_))
  refine ldS_is (l := t) rfl k0 rfl ?_
  (repeat(first|refine sb ?_|refine kNo ?_|refine gOn rfl ?_|refine gOff rfl rfl ?_|refine gTup rfl ?_))
  refine ldB_is rfl k0 rfl ?_
  cases al with
  | true =>
    (repeat(first|refine sb ?_|refine kNo ?_|refine gOn rfl ?_|refine gOff rfl rfl ?_|refine gTup rfl ?_))
    refine alloc13 (rNew f2.at ?_)
    (repeat(first|refine sb ?_|refine kNo ?_|refine gOn rfl ?_|refine gOff rfl rfl ?_|refine gTup rfl ?_))
    refine st_abs (cs' := [str t, .bool false, .bool true]) rfl rfl j2 (Nat.lt_succ_self _) rfl rfl fun sX eX cx nX => ?_
    have nX : sX.next = s.next + 1 + 1 + 1 := nX
    obtain ⟨W0, hW⟩ : ∃ y, y = true := ⟨true, rfl⟩
    rw [← hW] at eX
    have RX : RdL sX (s.next + 1 + 1) t false W0 := ⟨by omega, eX⟩
    have cX : Chg s sX [] := c3.fresh cx (by simp; omega)
    have kr := cx.blk _ _ (show s.next < s.next + 1 + 1 + 1 by omega) (by simp; omega) j0
    have kc := cx.blk _ _ (show s.next + 1 < s.next + 1 + 1 + 1 by omega) (by simp) j1
    have hW0 : (true || !(t.all txB)) = W0 := by rw [hW, Bool.true_or]
    refine kNo ?_
    (repeat(first|refine sb ?_|refine kNo ?_|refine gOn rfl ?_|refine gOff rfl rfl ?_|refine gTup rfl ?_))
    refine ldI_is rfl kr rfl ?_
    (repeat(first|refine sb ?_|refine kNo ?_|refine gOn rfl ?_|refine gOff rfl rfl ?_|refine gTup rfl ?_))
    refine st_abs (cs' := [.int .i64 (n : Int), str [], .slice none 0 0]) rfl rfl lkH (Nat.lt_succ_self _) rfl rfl fun s5 e5 c5 n5 => ?_
    have n5 : s5.next = sX.next + 1 := n5
    have c05 : Chg sX s5 [] := (Chg.new []).fresh c5 (by simp)
    have R5 := RX.chg c05 (by simp)
    have kc5 := c05.blk _ _ (by omega) (by simp) kc
    have f5 := c05.fine (cX.fine f)
    (repeat(first|refine sb ?_|refine kNo ?_|refine gOn rfl ?_|refine gOff rfl rfl ?_|refine gTup rfl ?_))
    cases vals with
    | true =>
      have hen := en_true (x := ⟨n, t, true⟩)
      unfold keF at hen
      dsimp only at hen
      rw [hW0] at hen
      (repeat(first|refine sb ?_|refine kNo ?_|refine gOn rfl ?_|refine gOff rfl rfl ?_|refine gTup rfl ?_))
      refine (key13_w f5 R5 hl).mono fun v s6 q => ?_
      obtain ⟨rfl, R6, c6⟩ := q
      have hlp := lp_len 58 t
      generalize lpF 58 t = P at *
      obtain ⟨k, d, e, xw⟩ := P
      dsimp only at R6 hen hlp ⊢
      have e6 := c6.blk _ _ (show sX.next < s5.next by omega) (by simp; omega) e5
      have n6 := c6.next
      (repeat(first|refine sb ?_|refine kNo ?_|refine gOn rfl ?_|refine gOff rfl rfl ?_|refine gTup rfl ?_))
      refine st_abs (cs' := [.int .i64 (n : Int), str k, .slice none 0 0]) rfl rfl e6 (by omega) rfl rfl fun s7 e7 c7 n7 => ?_
      have R7 := R6.chg c7 (by simp; omega)
      have f7 := c7.fine (c6.fine f5)
      (repeat(first|refine sb ?_|refine kNo ?_|refine gOn rfl ?_|refine gOff rfl rfl ?_|refine gTup rfl ?_))
      refine (values13_w f7 R7 (by omega)).mono fun v s8 q => ?_
      obtain ⟨W, rfl, o8, hW, c8⟩ := q
      have e8 := c8.blk _ _ (show sX.next < s7.next by omega) (by simp; omega) e7
      have n8 := c8.next
      have hE : ∀ ve, ve = vwE (vaF e [] d (W0 || (xw || decide (k = []) || e))).2 (vaF e [] d (W0 || (xw || decide (k = []) || e))).1 → (enF true ⟨n, t, true⟩).2 = ve.2 ∧ (ve.2 = 0 → (enF true ⟨n, t, true⟩).1 = ⟨n, k, ve.1⟩) := by
        intro ve hve
        rw [hen]
        by_cases hw : (W0 || (xw || decide (k = []) || e)) = true
        · rw [if_pos hw]
          have : (vaF e [] d (W0 || (xw || decide (k = []) || e))).2 = true := by
            rw [hw]
            unfold vaF
            split <;> simp
          rw [hve]
          unfold vwE
          rw [if_pos this]
          exact ⟨rfl, fun q => by cases q⟩
        · rw [if_neg hw]
          have hw : (W0 || (xw || decide (k = []) || e)) = false := by simpa using hw
          have he : e = false := by cases e <;> simp_all
          rw [hw, he] at hve
          have : vaF false [] d false = ((vwA d).1, (vwA d).2) := by unfold vaF; rw [if_neg (by simp)]; simp
          rw [this] at hve
          rw [← hve]
          obtain ⟨ws, z⟩ := ve
          cases z with
          | zero => exact ⟨rfl, fun _ => rfl⟩
          | succ z => exact ⟨rfl, fun q => by cases q⟩
      generalize hve : vwE (vaF e [] d (W0 || (xw || decide (k = []) || e))).2 (vaF e [] d (W0 || (xw || decide (k = []) || e))).1 = ve at o8 ⊢
      obtain ⟨hE1, hE2⟩ := hE ve hve.symm
      (repeat(first|refine sb ?_|refine kNo ?_|refine gOn rfl ?_|refine gOff rfl rfl ?_|refine gTup rfl ?_))
      refine st_abs (cs' := [.int .i64 (n : Int), str k, .slice W ve.1.length 0]) rfl rfl e8 (by omega) rfl rfl fun s9 e9 c9 n9 => ?_
      (repeat(first|refine sb ?_|refine kNo ?_|refine gOn rfl ?_|refine gOff rfl rfl ?_|refine gTup rfl ?_))
      refine ldN_is rfl e9 rfl ?_
      have kc6 := c6.blk _ _ (show s.next + 1 < s5.next by omega) (by simp) kc5
      have kc7 := c7.blk _ _ (show s.next + 1 < s6.next by omega) (by simp; omega) kc6
      have kc8 := c8.blk _ _ (show s.next + 1 < s7.next by omega) (by simp) kc7
      have kc9 := c9.blk _ _ (show s.next + 1 < s8.next by omega) (by simp; omega) kc8
      (repeat(first|refine sb ?_|refine kNo ?_|refine gOn rfl ?_|refine gOff rfl rfl ?_|refine gTup rfl ?_))
      refine st_abs (cs' := [.int .i64 (n : Int), str k, .slice W ve.1.length 0]) rfl rfl kc9 (by show s.next + 1 < s9.next; omega) rfl rfl fun sA eA cA nA => ?_
      (repeat(first|refine sb ?_|refine kNo ?_|refine gOn rfl ?_|refine gOff rfl rfl ?_|refine gTup rfl ?_))
      (repeat (first | with_reducible refine sqRet ?_ | with_reducible refine bkRet ?_ | with_reducible refine hdRet ?_))
      refine ret_cell agg_En sz_En rfl eA rfl rfl ⟨k, W, ve.1, by rw [hE1], (o8.chg c9 (fun id q1 q2 => by have := hW id q1; simp at q2; omega)).chg cA (fun id q1 q2 => by have := hW id q1; simp at q2; omega), fun id q => by have := hW id q; omega, ?_, fun q => hE2 (by rw [← hE1]; exact q)⟩
      exact ((((((cX.nil c05).fresh c6 (by simp; omega)).fresh c7 (by simp; omega)).fresh c8 (by simp; omega)).fresh c9 (by simp; omega)).fresh cA (by simp))
    | false =>
      have hen := en_false (x := ⟨n, t, true⟩)
      dsimp only at hen
      rw [hW0] at hen
      (repeat(first|refine sb ?_|refine kNo ?_|refine gOn rfl ?_|refine gOff rfl rfl ?_|refine gTup rfl ?_))
      refine (whole13_w f5 R5 hl).mono fun v s6 q => ?_
      obtain ⟨hv, c6⟩ := q
      obtain ⟨k, z, hv2, hz1, hz2⟩ : ∃ (k : List UInt8) (z : Nat), v = .tuple ⟨[str k, .int .i64 (z : Int)]⟩ ∧ (enF false ⟨n, t, true⟩).2 = z ∧ (z = 0 → (enF false ⟨n, t, true⟩).1 = ⟨n, k, []⟩) := by
        rw [hen]
        split at hv
        · rename_i hc
          rw [if_pos hc]
          exact ⟨[], 5, hv, rfl, fun q => by cases q⟩
        · rename_i hc
          rw [if_neg hc]
          exact ⟨trB t, 0, hv, rfl, fun _ => rfl⟩
      subst hv2
      have e6 := c6.blk _ _ (show sX.next < s5.next by omega) (by simp) e5
      have kc6 := c6.blk _ _ (show s.next + 1 < s5.next by omega) (by simp) kc5
      have n6 := c6.next
      (repeat(first|refine sb ?_|refine kNo ?_|refine gOn rfl ?_|refine gOff rfl rfl ?_|refine gTup rfl ?_))
      refine st_abs (cs' := [.int .i64 (n : Int), str k, .slice none 0 0]) rfl rfl e6 (by omega) rfl rfl fun s9 e9 c9 n9 => ?_
      (repeat(first|refine sb ?_|refine kNo ?_|refine gOn rfl ?_|refine gOff rfl rfl ?_|refine gTup rfl ?_))
      refine ldN_is rfl e9 rfl ?_
      have kc9 := c9.blk _ _ (show s.next + 1 < s6.next by omega) (by simp; omega) kc6
      (repeat(first|refine sb ?_|refine kNo ?_|refine gOn rfl ?_|refine gOff rfl rfl ?_|refine gTup rfl ?_))
      refine st_abs (cs' := [.int .i64 (n : Int), str k, .slice none 0 0]) rfl rfl kc9 (by show s.next + 1 < s9.next; omega) rfl rfl fun sA eA cA nA => ?_
      (repeat(first|refine sb ?_|refine kNo ?_|refine gOn rfl ?_|refine gOff rfl rfl ?_|refine gTup rfl ?_))
      (repeat (first | with_reducible refine sqRet ?_ | with_reducible refine bkRet ?_ | with_reducible refine hdRet ?_))
      refine ret_cell agg_En sz_En rfl eA rfl rfl ⟨k, none, [], by rw [hz1]; rfl, ⟨rfl, rfl, rfl⟩, by simp [blkOf], ?_, fun q => hz2 (by rw [← hz1]; exact q)⟩
      exact (((cX.nil c05).nil c6).fresh c9 (by simp; omega)).fresh cA (by simp)
  | false =>
    (repeat(first|refine sb ?_|refine kNo ?_|refine gOn rfl ?_|refine gOff rfl rfl ?_|refine gTup rfl ?_))
    refine ldS_is (l := t) rfl k0 rfl ?_
    (repeat(first|refine sb ?_|refine kNo ?_|refine gOn rfl ?_|refine gOff rfl rfl ?_|refine gTup rfl ?_))
    refine alloc13 (rNew f2.at ?_)
    (repeat(first|refine sb ?_|refine kNo ?_|refine gOn rfl ?_|refine gOff rfl rfl ?_|refine gTup rfl ?_))
    refine printable_w.mono fun v s4 q => ?_
    obtain ⟨rfl, c4⟩ := q
    have i0 := c4.blk _ _ (show s.next < s.next + 1 + 1 + 1 by omega) (by simp) j0
    have i1 := c4.blk _ _ (show s.next + 1 < s.next + 1 + 1 + 1 by omega) (by simp) j1
    have i2 := c4.blk _ _ (show s.next + 1 + 1 < s.next + 1 + 1 + 1 by omega) (by simp) j2
    have n4 : s.next + 1 + 1 + 1 ≤ s4.next := c4.next
    refine kAll (c4.keep f3) ?_
    (repeat(first|refine sb ?_|refine kNo ?_|refine gOn rfl ?_|refine gOff rfl rfl ?_|refine gTup rfl ?_))
    intro q hq
    subst hq
    (repeat(first|refine sb ?_|refine kNo ?_|refine gOn rfl ?_|refine gOff rfl rfl ?_|refine gTup rfl ?_))
    refine st_abs (cs' := [str t, .bool false, .bool (!(t.all txB))]) rfl rfl i2 (by show s.next + 1 + 1 < s4.next; omega) rfl rfl fun sX eX cx nX => ?_
    obtain ⟨W0, hW⟩ : ∃ y, y = !(t.all txB) := ⟨_, rfl⟩
    rw [← hW] at eX
    have RX : RdL sX (s.next + 1 + 1) t false W0 := ⟨by omega, eX⟩
    have cX : Chg s sX [] := (c3.nil c4).fresh cx (by simp; omega)
    have kr := cx.blk _ _ (show s.next < s4.next by omega) (by simp; omega) i0
    have kc := cx.blk _ _ (show s.next + 1 < s4.next by omega) (by simp) i1
    have hW0 : (false || !(t.all txB)) = W0 := by rw [hW, Bool.false_or]
    refine kNo ?_
    (repeat(first|refine sb ?_|refine kNo ?_|refine gOn rfl ?_|refine gOff rfl rfl ?_|refine gTup rfl ?_))
    refine ldI_is rfl kr rfl ?_
    (repeat(first|refine sb ?_|refine kNo ?_|refine gOn rfl ?_|refine gOff rfl rfl ?_|refine gTup rfl ?_))
    refine st_abs (cs' := [.int .i64 (n : Int), str [], .slice none 0 0]) rfl rfl lkH (Nat.lt_succ_self _) rfl rfl fun s5 e5 c5 n5 => ?_
    have n5 : s5.next = sX.next + 1 := n5
    have c05 : Chg sX s5 [] := (Chg.new []).fresh c5 (by simp)
    have R5 := RX.chg c05 (by simp)
    have kc5 := c05.blk _ _ (by omega) (by simp) kc
    have f5 := c05.fine (cX.fine f)
    (repeat(first|refine sb ?_|refine kNo ?_|refine gOn rfl ?_|refine gOff rfl rfl ?_|refine gTup rfl ?_))
    cases vals with
    | true =>
      have hen := en_true (x := ⟨n, t, false⟩)
      unfold keF at hen
      dsimp only at hen
      rw [hW0] at hen
      (repeat(first|refine sb ?_|refine kNo ?_|refine gOn rfl ?_|refine gOff rfl rfl ?_|refine gTup rfl ?_))
      refine (key13_w f5 R5 hl).mono fun v s6 q => ?_
      obtain ⟨rfl, R6, c6⟩ := q
      have hlp := lp_len 58 t
      generalize lpF 58 t = P at *
      obtain ⟨k, d, e, xw⟩ := P
      dsimp only at R6 hen hlp ⊢
      have e6 := c6.blk _ _ (show sX.next < s5.next by omega) (by simp; omega) e5
      have n6 := c6.next
      (repeat(first|refine sb ?_|refine kNo ?_|refine gOn rfl ?_|refine gOff rfl rfl ?_|refine gTup rfl ?_))
      refine st_abs (cs' := [.int .i64 (n : Int), str k, .slice none 0 0]) rfl rfl e6 (by omega) rfl rfl fun s7 e7 c7 n7 => ?_
      have R7 := R6.chg c7 (by simp; omega)
      have f7 := c7.fine (c6.fine f5)
      (repeat(first|refine sb ?_|refine kNo ?_|refine gOn rfl ?_|refine gOff rfl rfl ?_|refine gTup rfl ?_))
      refine (values13_w f7 R7 (by omega)).mono fun v s8 q => ?_
      obtain ⟨W, rfl, o8, hW, c8⟩ := q
      have e8 := c8.blk _ _ (show sX.next < s7.next by omega) (by simp; omega) e7
      have n8 := c8.next
      have hE : ∀ ve, ve = vwE (vaF e [] d (W0 || (xw || decide (k = []) || e))).2 (vaF e [] d (W0 || (xw || decide (k = []) || e))).1 → (enF true ⟨n, t, false⟩).2 = ve.2 ∧ (ve.2 = 0 → (enF true ⟨n, t, false⟩).1 = ⟨n, k, ve.1⟩) := by
        intro ve hve
        rw [hen]
        by_cases hw : (W0 || (xw || decide (k = []) || e)) = true
        · rw [if_pos hw]
          have : (vaF e [] d (W0 || (xw || decide (k = []) || e))).2 = true := by
            rw [hw]
            unfold vaF
            split <;> simp
          rw [hve]
          unfold vwE
          rw [if_pos this]
          exact ⟨rfl, fun q => by cases q⟩
        · rw [if_neg hw]
          have hw : (W0 || (xw || decide (k = []) || e)) = false := by simpa using hw
          have he : e = false := by cases e <;> simp_all
          rw [hw, he] at hve
          have : vaF false [] d false = ((vwA d).1, (vwA d).2) := by unfold vaF; rw [if_neg (by simp)]; simp
          rw [this] at hve
          rw [← hve]
          obtain ⟨ws, z⟩ := ve
          cases z with
          | zero => exact ⟨rfl, fun _ => rfl⟩
          | succ z => exact ⟨rfl, fun q => by cases q⟩
      generalize hve : vwE (vaF e [] d (W0 || (xw || decide (k = []) || e))).2 (vaF e [] d (W0 || (xw || decide (k = []) || e))).1 = ve at o8 ⊢
      obtain ⟨hE1, hE2⟩ := hE ve hve.symm
      (repeat(first|refine sb ?_|refine kNo ?_|refine gOn rfl ?_|refine gOff rfl rfl ?_|refine gTup rfl ?_))
      refine st_abs (cs' := [.int .i64 (n : Int), str k, .slice W ve.1.length 0]) rfl rfl e8 (by omega) rfl rfl fun s9 e9 c9 n9 => ?_
      (repeat(first|refine sb ?_|refine kNo ?_|refine gOn rfl ?_|refine gOff rfl rfl ?_|refine gTup rfl ?_))
      refine ldN_is rfl e9 rfl ?_
      have kc6 := c6.blk _ _ (show s.next + 1 < s5.next by omega) (by simp) kc5
      have kc7 := c7.blk _ _ (show s.next + 1 < s6.next by omega) (by simp; omega) kc6
      have kc8 := c8.blk _ _ (show s.next + 1 < s7.next by omega) (by simp) kc7
      have kc9 := c9.blk _ _ (show s.next + 1 < s8.next by omega) (by simp; omega) kc8
      (repeat(first|refine sb ?_|refine kNo ?_|refine gOn rfl ?_|refine gOff rfl rfl ?_|refine gTup rfl ?_))
      refine st_abs (cs' := [.int .i64 (n : Int), str k, .slice W ve.1.length 0]) rfl rfl kc9 (by show s.next + 1 < s9.next; omega) rfl rfl fun sA eA cA nA => ?_
      (repeat(first|refine sb ?_|refine kNo ?_|refine gOn rfl ?_|refine gOff rfl rfl ?_|refine gTup rfl ?_))
      (repeat (first | with_reducible refine sqRet ?_ | with_reducible refine bkRet ?_ | with_reducible refine hdRet ?_))
      refine ret_cell agg_En sz_En rfl eA rfl rfl ⟨k, W, ve.1, by rw [hE1], (o8.chg c9 (fun id q1 q2 => by have := hW id q1; simp at q2; omega)).chg cA (fun id q1 q2 => by have := hW id q1; simp at q2; omega), fun id q => by have := hW id q; omega, ?_, fun q => hE2 (by rw [← hE1]; exact q)⟩
      exact ((((((cX.nil c05).fresh c6 (by simp; omega)).fresh c7 (by simp; omega)).fresh c8 (by simp; omega)).fresh c9 (by simp; omega)).fresh cA (by simp))
    | false =>
      have hen := en_false (x := ⟨n, t, false⟩)
      dsimp only at hen
      rw [hW0] at hen
      (repeat(first|refine sb ?_|refine kNo ?_|refine gOn rfl ?_|refine gOff rfl rfl ?_|refine gTup rfl ?_))
      refine (whole13_w f5 R5 hl).mono fun v s6 q => ?_
      obtain ⟨hv, c6⟩ := q
      obtain ⟨k, z, hv2, hz1, hz2⟩ : ∃ (k : List UInt8) (z : Nat), v = .tuple ⟨[str k, .int .i64 (z : Int)]⟩ ∧ (enF false ⟨n, t, false⟩).2 = z ∧ (z = 0 → (enF false ⟨n, t, false⟩).1 = ⟨n, k, []⟩) := by
        rw [hen]
        split at hv
        · rename_i hc
          rw [if_pos hc]
          exact ⟨[], 5, hv, rfl, fun q => by cases q⟩
        · rename_i hc
          rw [if_neg hc]
          exact ⟨trB t, 0, hv, rfl, fun _ => rfl⟩
      subst hv2
      have e6 := c6.blk _ _ (show sX.next < s5.next by omega) (by simp) e5
      have kc6 := c6.blk _ _ (show s.next + 1 < s5.next by omega) (by simp) kc5
      have n6 := c6.next
      (repeat(first|refine sb ?_|refine kNo ?_|refine gOn rfl ?_|refine gOff rfl rfl ?_|refine gTup rfl ?_))
      refine st_abs (cs' := [.int .i64 (n : Int), str k, .slice none 0 0]) rfl rfl e6 (by omega) rfl rfl fun s9 e9 c9 n9 => ?_
      (repeat(first|refine sb ?_|refine kNo ?_|refine gOn rfl ?_|refine gOff rfl rfl ?_|refine gTup rfl ?_))
      refine ldN_is rfl e9 rfl ?_
      have kc9 := c9.blk _ _ (show s.next + 1 < s6.next by omega) (by simp; omega) kc6
      (repeat(first|refine sb ?_|refine kNo ?_|refine gOn rfl ?_|refine gOff rfl rfl ?_|refine gTup rfl ?_))
      refine st_abs (cs' := [.int .i64 (n : Int), str k, .slice none 0 0]) rfl rfl kc9 (by show s.next + 1 < s9.next; omega) rfl rfl fun sA eA cA nA => ?_
      (repeat(first|refine sb ?_|refine kNo ?_|refine gOn rfl ?_|refine gOff rfl rfl ?_|refine gTup rfl ?_))
      (repeat (first | with_reducible refine sqRet ?_ | with_reducible refine bkRet ?_ | with_reducible refine hdRet ?_))
      refine ret_cell agg_En sz_En rfl eA rfl rfl ⟨k, none, [], by rw [hz1]; rfl, ⟨rfl, rfl, rfl⟩, by simp [blkOf], ?_, fun q => hz2 (by rw [← hz1]; exact q)⟩
      exact (((cX.nil c05).nil c6).fresh c9 (by simp; omega)).fresh cA (by simp)
end Go.Vf.S
end
section
/- Rows, pure: what the program looks at; how long they are. -/
namespace Go.Vf.S
open Go Go.Vf
set_option linter.unusedVariables false
set_option linter.unusedSimpArgs false
set_option maxRecDepth 10000

theorem ln_suf (l : List UInt8) : (if [13] <:+ l then l.take (l.length - [(13 : UInt8)].length) else l) = lnE l := by
  unfold lnE
  by_cases h : l.getLast? = some 13
  · obtain ⟨ys, rfl⟩ := List.getLast?_eq_some_iff.1 h
    rw [if_pos h, if_pos ⟨ys, rfl⟩]
    simp
  · rw [if_neg h, if_neg]
    rintro ⟨ys, rfl⟩
    exact h (by simp)
theorem ln_len (l : List UInt8) : (lnE l).length ≤ l.length := by
  unfold lnE
  split
  · simp
  · exact Nat.le_refl _
theorem trB_len (l : List UInt8) : (trB l).length ≤ l.length := by
  unfold trB
  have h1 := trR_len (trL l)
  have h2 := trL_len l
  omega
/-- The first bytes of a line and of what it holds. -/
theorem heads {l : List UInt8} (h : trB l ≠ []) : ∃ c r d q, l = c :: r ∧ trB l = d :: q ∧ (ctB l = false ↔ c = d) := by
  obtain ⟨p, h1, h2, h3⟩ := trL_dec l
  have h0 : trL l ≠ [] := fun e => h (by unfold trB; rw [e]; rfl)
  obtain ⟨d, r, hd, hw⟩ := h3.resolve_left h0
  obtain ⟨p2, g1, g2⟩ := trR_dec (trL l)
  have hq : ∃ q, trB l = d :: q := by
    cases hb : trB l with
    | nil => exact absurd hb h
    | cons x q =>
      unfold trB at hb
      rw [hb, hd] at g2
      exact ⟨q, by rw [(List.cons.inj g2).1]⟩
  obtain ⟨q, hq⟩ := hq
  rw [hd] at h2
  cases p with
  | nil => exact ⟨d, r, d, q, h2, hq, by unfold ctB; rw [h2]; simp [hw]⟩
  | cons c p =>
    have hc : wsB c = true := List.all_eq_true.1 h1 c (by simp)
    refine ⟨c, p ++ d :: r, d, q, h2, hq, ?_⟩
    unfold ctB
    rw [h2]
    simp only [List.cons_append, List.head?_cons, hc]
    constructor
    · intro e; cases e
    · intro e; rw [e, hw] at hc; cases hc
theorem pass_is (l : List UInt8) : (trB l = [] ∨ (trB l).head? = some 35) ↔ (trB l = [] ∨ (trB l).take 1 = [35]) := by
  cases trB l with
  | nil => simp
  | cons c r => simp
theorem sp_sum (c : UInt8) : ∀ l : List UInt8, ((splitF c l).map fun x => x.length + 1).sum = l.length + 1
  | [] => rfl
  | x :: l => by
    have ih := sp_sum c l
    unfold splitF at ih ⊢
    rw [sp]
    by_cases h : x = c
    · rw [if_pos h]
      simp only [List.map_cons, List.sum_cons, List.length_nil, List.length_cons] at ih ⊢
      omega
    · rw [if_neg h]
      simp only [List.map_cons, List.sum_cons, List.length_cons] at ih ⊢
      omega
def cuL (cur : Option (Nat × List UInt8)) : Nat := match cur with
  | none => 0
  | some x => x.2.length
theorem sa_len : ∀ (ls : List (List UInt8)) (n : Nat) (cur : Option (Nat × List UInt8)), ∀ x ∈ saG n cur ls, x.t.length ≤ cuL cur + (ls.map fun x => x.length + 1).sum
  | [], n, cur, x, hx => by
    rw [saG] at hx
    cases cur with
    | none => cases hx
    | some y => obtain ⟨a, b⟩ := y; rw [List.mem_singleton.1 hx]; simp [cuL]
  | l :: r, n, cur, x, hx => by
    have h1 := ln_len l
    have h2 := trB_len (lnE l)
    rw [List.map_cons, List.sum_cons]
    rw [saG] at hx
    split at hx
    · have := sa_len r (n + 1) cur x hx
      omega
    · split at hx
      · rcases List.mem_append.1 hx with hx | hx
        · cases cur with
          | none => rw [List.mem_singleton.1 hx]; simp
          | some y => cases hx
        · have := sa_len r (n + 1) _ x hx
          cases cur with
          | none => simp only [onS, Option.map_none, cuL] at this ⊢; omega
          | some y => simp only [onS, Option.map_some, cuL, List.length_append, List.length_cons] at this ⊢; omega
      · rcases List.mem_append.1 hx with hx | hx
        · cases cur with
          | none => cases hx
          | some y => obtain ⟨a, b⟩ := y; rw [List.mem_singleton.1 hx]; simp [cuL]
        · have := sa_len r (n + 1) _ x hx
          simp only [cuL] at this
          omega
theorem saF_len {l : List UInt8} : ∀ x ∈ saF l, x.t.length ≤ l.length + 1 := by
  intro x hx
  have := sa_len (splitF 10 l) 1 none x hx
  rw [sp_sum] at this
  simpa [cuL] using this
theorem sa_many : ∀ (ls : List (List UInt8)) (n : Nat) (cur : Option (Nat × List UInt8)), (saG n cur ls).length ≤ ls.length + (if cur = none then 0 else 1)
  | [], n, cur => by
    rw [saG]
    cases cur with
    | none => simp [flS]
    | some y => simp [flS]
  | l :: r, n, cur => by
    rw [saG]
    split
    · have := sa_many r (n + 1) cur
      simp only [List.length_cons]; omega
    · split
      · have := sa_many r (n + 1) (onS cur (trB (lnE l)))
        rw [List.length_append]
        cases cur with
        | none => simp only [onS, Option.map_none, alS, if_true, List.length_cons, List.length_nil] at this ⊢; omega
        | some y => simp only [onS, Option.map_some, alS, reduceCtorEq, if_false, List.length_cons, List.length_nil] at this ⊢; omega
      · have := sa_many r (n + 1) (some (n, lnE l))
        rw [List.length_append]
        cases cur with
        | none => simp only [flS, reduceCtorEq, if_false, if_true, List.length_cons, List.length_nil] at this ⊢; omega
        | some y => simp only [flS, reduceCtorEq, if_false, List.length_cons, List.length_nil] at this ⊢; omega
theorem splitN_len (c : UInt8) (l : List UInt8) : (splitF c l).length ≤ l.length + 1 := by
  have h := sp_sum c l
  have : ∀ ls : List (List UInt8), ls.length ≤ (ls.map fun x => x.length + 1).sum := by
    intro ls
    induction ls with
    | nil => exact Nat.le_refl _
    | cons a r ih => rw [List.map_cons, List.sum_cons, List.length_cons]; omega
  have := this (splitF c l)
  omega
theorem saF_many (l : List UInt8) : (saF l).length ≤ l.length + 1 := by
  have h1 := sa_many (splitF 10 l) 1 none
  have h2 := splitN_len 10 l
  unfold saF
  simp only [if_true] at h1
  omega
theorem part_le {c : UInt8} {l x : List UInt8} (h : x ∈ splitF c l) : x.length ≤ l.length := by
  have h1 := sp_sum c l
  have : ∀ ls : List (List UInt8), x ∈ ls → x.length + 1 ≤ (ls.map fun x => x.length + 1).sum := by
    intro ls
    induction ls with
    | nil => intro q; cases q
    | cons a r ih =>
      intro q
      rw [List.map_cons, List.sum_cons]
      rcases List.mem_cons.1 q with rfl | q
      · omega
      · have := ih q; omega
  have := this _ h
  omega
end Go.Vf.S
end
section
/- A text's rows. -/
namespace Go.Vf.S
open Go Go.Vf Go.Proofs Go.RowKit
attribute [local irreducible] wSeq wRow wp wG
set_option linter.unusedVariables false
set_option linter.unusedSimpArgs false
set_option maxRecDepth 10000

def saCs (R : List Sai) : List Value := R.flatMap saC
theorem saCs_len (R : List Sai) : (saCs R).length = R.length * 3 := by
  unfold saCs
  induction R with
  | nil => rfl
  | cons x R ih => rw [List.flatMap_cons, List.length_append, ih, List.length_cons]; simp [saC]; omega
theorem saCs_app (R : List Sai) (x : Sai) : saCs (R ++ [x]) = saCs R ++ saC x := by unfold saCs; rw [List.flatMap_append]; simp
theorem saCs_last (R : List Sai) (x : Sai) (j : Nat) : (saCs (R ++ [x]))[R.length * 3 + j]? = (saC x)[j]? := by
  rw [saCs_app, List.getElem?_append_right (by rw [saCs_len]; omega), saCs_len, show R.length * 3 + j - R.length * 3 = j by omega]
theorem saCs_drop (R : List Sai) (k : Nat) : (saCs R).drop (k * 3) = saCs (R.drop k) := by
  unfold saCs
  induction R generalizing k with
  | nil => simp
  | cons x R ih =>
    cases k with
    | zero => simp
    | succ k =>
      rw [List.drop_succ_cons, ← ih k, List.flatMap_cons, List.drop_append, show (k + 1) * 3 = (saC x).length + k * 3 by simp [saC]; omega, List.drop_of_length_le (by omega), List.nil_append]
      congr 1
      omega
abbrev RwO (s : SS) (W : Option Addr) (R : List Sai) : Prop := OwnR tRw13 s W 0 R.length (saCs R)
theorem ownR_set {t : TypeId} {s s' : SS} {b n : Nat} {cs cs' : List Value} {g : Bool} (h : OwnR t s (some ⟨b, 0, none⟩) 0 n cs) (hn : 0 < n) (hl : lookH s'.heap b = some (.cells cs' t g false)) (hlt : b < s'.next) (hg : lookH s.heap b = some (.cells cs t g false)) : OwnR t s' (some ⟨b, 0, none⟩) 0 n cs' := by
  obtain ⟨_, _, _, g', h4, h5⟩ := h
  rw [hg] at h4
  cases h4
  exact ⟨rfl, rfl, hlt, g, hl, fun q => by have := h5 q; omega⟩
theorem trimSuffix13_w {s : SS} {l : List UInt8} (hl : l.length ≤ 1000000) : CallW pr n_strings_TrimSuffix [str l, str [13]] s fun v s' => v = str (lnE l) ∧ s' = s := by
  refine (trimSuffix_w hl).mono fun v s q => ?_
  obtain ⟨rfl, rfl⟩ := q
  exact ⟨by rw [ln_suf], rfl⟩
theorem len_snoc (R : List Sai) (x : Sai) : (R ++ [x]).length = R.length + 1 := by rw [List.length_append]; rfl
def bigS (i : Nat) : Nat := i * 200000
theorem bigS_next (i : Nat) : bigS (i + 1) = bigS i + 200000 := by unfold bigS; omega
theorem bigS_le {i : Nat} (h : i ≤ 20000) : bigS i ≤ 4000000000 := by unfold bigS; omega
attribute [local irreducible] bigS
structure RowIx where
  i : Nat
  R : List Sai
  W : Option Addr
  s : SS
theorem strings_split_w {s : SS} {l : List UInt8} (hl : l.length ≤ 1000000) : CallW pr n_strings_Split [str l, str [10]] s fun v s' => ∃ base cap, v = .slice base (splitF 10 l).length cap ∧ StrsAt s' base (splitF 10 l) ∧ Chg s s' [] ∧ (∀ id ∈ blkOf base, s.next ≤ id) := by
  refine CallW.run good ok_strings_Split (by simp) rfl ?_
  (try refine pSeq ?_); (repeat refine sb ?_)
  refine (split_w (c := 10) hl).mono fun v s1 q => ?_
  obtain ⟨base, cap, rfl, h1, c1, h2, _⟩ := q
  (repeat refine sb ?_)
  exact ⟨base, cap, rfl, h1, c1, h2⟩
set_option maxHeartbeats 2000000 in
theorem rows13_w {s : SS} {l : List UInt8} (f : Fine s) (hl : l.length ≤ 10000) : CallW pr n_lines_rows [str l] s fun v s' =>
    ∃ W, v = .slice W (saF l).length 0 ∧ RwO s' W (saF l) ∧ (∀ id ∈ blkOf W, s.next ≤ id) ∧ Chg s s' [] := by
  refine CallW.pieces (nt := 70) (res := [.tmp 2]) (c := .seq code_KR_R0 (.scope (.seq (.label 0) code_KR_X))) (by kernel_rfl) (by kernel_rfl) (by kernel_rfl) (by kernel_rfl) (by simp) ?_
  refine W.seq (comp_ok good ok_KR_R0 (Box.out (p := wp pr 70 s.next _ _ _ _) ?_))
  (try (first|refine pSeq ?_|refine pReg ?_)); (repeat(first|refine sb ?_|refine kNo ?_|refine gOn rfl ?_|refine gOff rfl rfl ?_|refine gTup rfl ?_))
  refine W.scope (k := s.next) (W.seq (k := s.next) (W.label (k := s.next) ?_))
  refine comp_ok good ok_KR_X (Box.out (p := wp pr 70 s.next _ _ _ _) ?_)
  (try (first|refine pSeq ?_|refine pReg ?_)); (repeat(first|refine sb ?_|refine kNo ?_|refine gOn rfl ?_|refine gOff rfl rfl ?_|refine gTup rfl ?_))
  refine (strings_split_w (by omega)).mono fun v s1 q => ?_
  obtain ⟨base, cap, rfl, h1, c1, hB⟩ := q
  have hpl := fun x => part_le (c := 10) (l := l) (x := x)
  have hnl := splitN_len 10 l
  have hrw := rw_0 l
  generalize hls : splitF 10 l = ls at *
  obtain ⟨b, rfl, cs, t, g, r, hb, hcs⟩ := h1.at
  have lb : b < s1.next := by obtain ⟨b', _, _, _, _, e, q, _⟩ := h1; cases e; exact q
  (repeat(first|refine sb ?_|refine kNo ?_|refine gOn rfl ?_|refine gOff rfl rfl ?_|refine gTup rfl ?_))
  refine pLoop (MW.head good (fun x : RowIx => ls.length - x.i) (fun x => x.i ≤ ls.length ∧ RwO x.s x.W x.R ∧ Chg s1 x.s [] ∧ (∀ id ∈ blkOf x.W, s1.next ≤ id) ∧ rwI x.R x.i (ls.drop x.i) = saF l ∧ (∀ y ∈ x.R, y.t.length ≤ bigS x.i) ∧ x.R.length ≤ x.i)
    (fun x => [(2, .slice x.W x.R.length 0), (8, .slice (some ⟨b, 0, none⟩) ls.length cap), (9, .int .i64 (ls.length : Int)), (10, .int .i64 (x.i : Int))]) (fun x => x.s) ⟨0, [], none, s1⟩ ⟨Nat.zero_le _, ⟨rfl, rfl, rfl⟩, .refl _ _, by simp [blkOf], hrw, by simp, by simp⟩ (Wk.same ⟨rfl, rfl, rfl, rfl, trivial⟩) ?_)
  rintro ⟨i, R, W, s2⟩ ⟨hi, o2, c2, hW, hR, hRl, hRi⟩
  dsimp only at hi o2 c2 hW hR hRl hRi ⊢
  (repeat(first|refine sb ?_|refine kNo ?_|refine gOn rfl ?_|refine gOff rfl rfl ?_|refine gTup rfl ?_))
  intro q hq
  by_cases hlt : i < ls.length
  · obtain rfl : q = true := by rw [hq]; simp; omega
    obtain ⟨x, hx⟩ : ∃ x, ls[i]? = some x := ⟨_, List.getElem?_eq_getElem hlt⟩
    have hxl := hpl x (List.mem_of_getElem? hx)
    have hb2 := c2.blk _ _ lb (by simp) hb
    have hbn := bigS_next i
    have hbl := bigS_le (i := i) (by omega)
    rw [List.drop_eq_getElem_cons hlt, show ls[i] = x from by rw [List.getElem?_eq_getElem hlt] at hx; exact Option.some.inj hx] at hR
    (repeat(first|refine sb ?_|refine kNo ?_|refine gOn rfl ?_|refine gOff rfl rfl ?_|refine gTup rfl ?_))
    refine ⟨by omega, ?_⟩
    intro m hm o ho
    obtain rfl : m = i := by omega
    (repeat(first|refine sb ?_|refine kNo ?_|refine gOn rfl ?_|refine gOff rfl rfl ?_|refine gTup rfl ?_))
    refine ldS_is (l := x) rfl hb2 (by rw [ho, Nat.mul_one, Nat.zero_add]; exact hcs m x hx) ?_
    (repeat(first|refine sb ?_|refine kNo ?_|refine gOn rfl ?_|refine gOff rfl rfl ?_|refine gTup rfl ?_))
    refine (trimSuffix13_w (by omega)).mono fun v s q => ?_
    obtain ⟨rfl, rfl⟩ := q
    have hln := ln_len x
    (repeat(first|refine sb ?_|refine kNo ?_|refine gOn rfl ?_|refine gOff rfl rfl ?_|refine gTup rfl ?_))
    refine (Trim_w (by omega)).mono fun v s3 q => ?_
    obtain ⟨rfl, c3⟩ := q
    rw [trimF_trB]
    have o3 := o2.chg c3 (fun _ _ q => by cases q)
    have c23 := c2.nil c3
    (repeat(first|refine sb ?_|refine kNo ?_|refine gOn rfl ?_|refine gOff rfl rfl ?_|refine gTup rfl ?_))
    intro z hz
    rw [i64_id (by omega)] at hz
    (repeat(first|refine sb ?_|refine kNo ?_|refine gOn rfl ?_|refine gOff rfl rfl ?_|refine gTup rfl ?_))
    intro q hq
    by_cases hi0 : trB (lnE x) = []
    · obtain rfl : q = true := by rw [hq, hi0]; rfl
      (repeat(first|refine sb ?_|refine kNo ?_|refine gOn rfl ?_|refine gOff rfl rfl ?_|refine gTup rfl ?_))
      intro z2 hz2
      rw [i64_id (by omega)] at hz2
      (repeat(first|refine sb ?_|refine kNo ?_|refine gOn rfl ?_|refine gOff rfl rfl ?_|refine gTup rfl ?_))
      refine ⟨⟨m + 1, R, W, s3⟩, ⟨by show m + 1 ≤ ls.length; omega, o3, c23, hW, by show rwI R (m + 1) _ = _; rw [← hR]; exact (rw_pass (.inl hi0)).symm, fun y hy => by have := hRl y hy; dsimp only; omega, by show R.length ≤ m + 1; omega⟩, by show ls.length - (m + 1) < ls.length - m; omega, Wk.same ⟨rfl, rfl, rfl, ?_, trivial⟩⟩
      rw [show z2 = ((m + 1 : Nat) : Int) by omega]; rfl
    · obtain rfl : q = false := by rw [hq]; simp [hi0]
      (repeat(first|refine sb ?_|refine kNo ?_|refine gOn rfl ?_|refine gOff rfl rfl ?_|refine gTup rfl ?_))
      refine prefix_w.mono fun v s3 q => ?_
      obtain ⟨rfl, rfl⟩ := q
      by_cases hi1 : (trB (lnE x)).take 1 = [35]
      · rw [show decide ((trB (lnE x)).take [(35 : UInt8)].length = [35]) = true from decide_eq_true hi1]
        (repeat(first|refine sb ?_|refine kNo ?_|refine gOn rfl ?_|refine gOff rfl rfl ?_|refine gTup rfl ?_))
        intro z2 hz2
        rw [i64_id (by omega)] at hz2
        (repeat(first|refine sb ?_|refine kNo ?_|refine gOn rfl ?_|refine gOff rfl rfl ?_|refine gTup rfl ?_))
        refine ⟨⟨m + 1, R, W, s3⟩, ⟨by show m + 1 ≤ ls.length; omega, o3, c23, hW, by show rwI R (m + 1) _ = _; rw [← hR]; exact (rw_pass ((pass_is (lnE x)).2 (.inr hi1))).symm, fun y hy => by have := hRl y hy; dsimp only; omega, by show R.length ≤ m + 1; omega⟩, by show ls.length - (m + 1) < ls.length - m; omega, Wk.same ⟨rfl, rfl, rfl, ?_, trivial⟩⟩
        rw [show z2 = ((m + 1 : Nat) : Int) by omega]; rfl
      · rw [show decide ((trB (lnE x)).take [(35 : UInt8)].length = [35]) = false from decide_eq_false hi1]
        have hnp : ¬(trB (lnE x) = [] ∨ (trB (lnE x)).head? = some 35) := fun q => ((pass_is (lnE x)).1 q).elim hi0 hi1
        obtain ⟨c, r1, d, q1, hL, hI, hcd⟩ := heads hi0
        (repeat(first|refine sb ?_|refine kNo ?_|refine gOn rfl ?_|refine gOff rfl rfl ?_|refine gTup rfl ?_))
        refine ⟨⟨Int.le_refl _, by rw [hL, List.length_cons]; omega⟩, ?_⟩
        intro m1 hm1
        obtain rfl : m1 = 0 := by omega
        refine ⟨c, by rw [hL]; rfl, ?_⟩
        (repeat(first|refine sb ?_|refine kNo ?_|refine gOn rfl ?_|refine gOff rfl rfl ?_|refine gTup rfl ?_))
        refine ⟨⟨Int.le_refl _, by rw [hI, List.length_cons]; omega⟩, ?_⟩
        intro m1 hm1
        obtain rfl : m1 = 0 := by omega
        refine ⟨d, by rw [hI]; rfl, ?_⟩
        (repeat(first|refine sb ?_|refine kNo ?_|refine gOn rfl ?_|refine gOff rfl rfl ?_|refine gTup rfl ?_))
        intro q hq
        by_cases he : c = d
        · have hct : ctB (lnE x) = false := hcd.2 he
          obtain rfl : q = true := by rw [hq, he]; exact decide_eq_true rfl
          (repeat(first|refine sb ?_|refine kNo ?_|refine gOn rfl ?_|refine gOff rfl rfl ?_|refine gTup rfl ?_))
          intro z1 hz1
          rw [i64_id (by omega)] at hz1
          obtain rfl : z1 = ((m + 1 : Nat) : Int) := by omega
          (repeat(first|refine sb ?_|refine kNo ?_|refine gOn rfl ?_|refine gOff rfl rfl ?_|refine gTup rfl ?_))
          have c0 : Chg s3 { s3 with heap := (s3.next, some (.cells (saC (⟨m + 1, lnE x, false⟩ : Sai)) tRw13 false false)) :: s3.heap, next := s3.next + 1 } [] := .new []
          refine appR (o3.chg c0 (fun _ _ q => by cases q)) (saCs_len R) ⟨by omega, by omega⟩ rfl rfl lkH rfl rfl fun s4 o4 c4 n4 => ?_
          have c34 := c0.nil c4
          (repeat(first|refine sb ?_|refine kNo ?_|refine gOn rfl ?_|refine gOff rfl rfl ?_|refine gTup rfl ?_))
          intro z2 hz2
          rw [i64_id (by omega)] at hz2
          (repeat(first|refine sb ?_|refine kNo ?_|refine gOn rfl ?_|refine gOff rfl rfl ?_|refine gTup rfl ?_))
          refine ⟨⟨m + 1, R ++ [(⟨m + 1, lnE x, false⟩ : Sai)], some ⟨s3.next + 1, 0, none⟩, s4⟩, ⟨by show m + 1 ≤ ls.length; omega, ?_, c23.fresh c34 hW, fun id q => by simp [blkOf] at q; have := c23.next; omega, ?_, ?_, by show (R ++ [(⟨m + 1, lnE x, false⟩ : Sai)]).length ≤ m + 1; rw [List.length_append, List.length_singleton]; omega⟩, by show ls.length - (m + 1) < ls.length - m; omega, Wk.same ⟨?_, rfl, rfl, ?_, trivial⟩⟩
          · show OwnR tRw13 s4 _ 0 (R ++ [(⟨m + 1, lnE x, false⟩ : Sai)]).length (saCs (R ++ [(⟨m + 1, lnE x, false⟩ : Sai)]))
            rw [List.length_append, saCs_app]
            exact o4
          · show rwI (R ++ [(⟨m + 1, lnE x, false⟩ : Sai)]) (m + 1) _ = _
            rw [← hR]
            exact (rw_new hnp hct).symm
          · intro y hy
            dsimp only
            rcases List.mem_append.1 hy with hy | hy
            · have := hRl y hy; omega
            · rw [List.mem_singleton.1 hy]
              show (lnE x).length ≤ _
              omega
          · show some (Value.slice _ (R.length + 1) 0) = some (.slice _ (R ++ [(⟨m + 1, lnE x, false⟩ : Sai)]).length 0)
            rw [len_snoc (R) (⟨m + 1, lnE x, false⟩ : Sai)]
          · rw [show z2 = ((m + 1 : Nat) : Int) by omega]; rfl
        · have hct : ctB (lnE x) = true := by cases h : ctB (lnE x) with | true => rfl | false => exact absurd (hcd.1 h) he
          obtain rfl : q = false := by rw [hq]; exact decide_eq_false (fun q => he (UInt8.toNat_inj.1 (by omega)))
          (repeat(first|refine sb ?_|refine kNo ?_|refine gOn rfl ?_|refine gOff rfl rfl ?_|refine gTup rfl ?_))
          intro q hq
          rcases List.eq_nil_or_concat R with rfl | ⟨R', y, hRe⟩
          · obtain rfl : q = true := by rw [hq]; simp at hz; simp; omega
            have hcur : curR ([] : List Sai) = none := rfl
            (repeat(first|refine sb ?_|refine kNo ?_|refine gOn rfl ?_|refine gOff rfl rfl ?_|refine gTup rfl ?_))
            intro z1 hz1
            rw [i64_id (by omega)] at hz1
            obtain rfl : z1 = ((m + 1 : Nat) : Int) := by omega
            (repeat(first|refine sb ?_|refine kNo ?_|refine gOn rfl ?_|refine gOff rfl rfl ?_|refine gTup rfl ?_))
            have c0 : Chg s3 { s3 with heap := (s3.next, some (.cells (saC (⟨m + 1, [], true⟩ : Sai)) tRw13 false false)) :: s3.heap, next := s3.next + 1 } [] := .new []
            refine appR (o3.chg c0 (fun _ _ q => by cases q)) (saCs_len []) ⟨by omega, by omega⟩ rfl rfl lkH rfl rfl fun s4 o4 c4 n4 => ?_
            have c34 := c0.nil c4
            (repeat(first|refine sb ?_|refine kNo ?_|refine gOn rfl ?_|refine gOff rfl rfl ?_|refine gTup rfl ?_))
            intro z2 hz2
            rw [i64_id (by omega)] at hz2
            (repeat(first|refine sb ?_|refine kNo ?_|refine gOn rfl ?_|refine gOff rfl rfl ?_|refine gTup rfl ?_))
            refine ⟨⟨m + 1, [] ++ [(⟨m + 1, [], true⟩ : Sai)], some ⟨s3.next + 1, 0, none⟩, s4⟩, ⟨by show m + 1 ≤ ls.length; omega, ?_, c23.fresh c34 hW, fun id q => by simp [blkOf] at q; have := c23.next; omega, ?_, ?_, by show ([] ++ [(⟨m + 1, [], true⟩ : Sai)]).length ≤ m + 1; rw [List.length_append, List.length_singleton]; omega⟩, by show ls.length - (m + 1) < ls.length - m; omega, Wk.same ⟨?_, rfl, rfl, ?_, trivial⟩⟩
            · show OwnR tRw13 s4 _ 0 ([] ++ [(⟨m + 1, [], true⟩ : Sai)]).length (saCs ([] ++ [(⟨m + 1, [], true⟩ : Sai)]))
              rw [List.length_append, saCs_app]
              exact o4
            · show rwI ([] ++ [(⟨m + 1, [], true⟩ : Sai)]) (m + 1) _ = _
              rw [← hR]
              exact (rw_stray hnp hct hcur).symm
            · intro y hy
              dsimp only
              rcases List.mem_append.1 hy with hy | hy
              · have := hRl y hy; omega
              · rw [List.mem_singleton.1 hy]
                show ([] : List UInt8).length ≤ _
                simp
            · show some (Value.slice _ (([] : List Sai).length + 1) 0) = some (.slice _ ([] ++ [(⟨m + 1, [], true⟩ : Sai)]).length 0)
              rw [len_snoc [] (⟨m + 1, [], true⟩ : Sai)]
            · rw [show z2 = ((m + 1 : Nat) : Int) by omega]; rfl
          · obtain rfl : R = R' ++ [y] := by rw [hRe, List.concat_eq_append]
            have hlen : (R' ++ [y]).length = R'.length + 1 := by rw [List.length_append, List.length_singleton]
            obtain rfl : q = false := by rw [hq]; simp; omega
            obtain ⟨wb, g2, rfl, kb⟩ := o3.pos (by omega)
            (repeat(first|refine sb ?_|refine kNo ?_|refine gOn rfl ?_|refine gOff rfl rfl ?_|refine gTup rfl ?_))
            refine ⟨by omega, ?_⟩
            intro m2 hm2 o2' ho2
            obtain rfl : m2 = R'.length := by omega
            (repeat(first|refine sb ?_|refine kNo ?_|refine gOn rfl ?_|refine gOff rfl rfl ?_|refine gTup rfl ?_))
            refine ldB_is (z := y.al) rfl kb (by rw [ho2, Nat.zero_add]; exact saCs_last R' y 2) ?_
            cases hya : y.al with
            | true =>
              have hcur : curR (R' ++ [y]) = none := by rw [curR_app, if_pos hya]
              (repeat(first|refine sb ?_|refine kNo ?_|refine gOn rfl ?_|refine gOff rfl rfl ?_|refine gTup rfl ?_))
              intro z1 hz1
              rw [i64_id (by omega)] at hz1
              obtain rfl : z1 = ((m + 1 : Nat) : Int) := by omega
              (repeat(first|refine sb ?_|refine kNo ?_|refine gOn rfl ?_|refine gOff rfl rfl ?_|refine gTup rfl ?_))
              have c0 : Chg s3 { s3 with heap := (s3.next, some (.cells (saC (⟨m + 1, [], true⟩ : Sai)) tRw13 false false)) :: s3.heap, next := s3.next + 1 } [] := .new []
              refine appR (o3.chg c0 (fun _ _ q => by cases q)) (saCs_len (R' ++ [y])) ⟨by omega, by omega⟩ rfl rfl lkH rfl rfl fun s4 o4 c4 n4 => ?_
              have c34 := c0.nil c4
              (repeat(first|refine sb ?_|refine kNo ?_|refine gOn rfl ?_|refine gOff rfl rfl ?_|refine gTup rfl ?_))
              intro z2 hz2
              rw [i64_id (by omega)] at hz2
              (repeat(first|refine sb ?_|refine kNo ?_|refine gOn rfl ?_|refine gOff rfl rfl ?_|refine gTup rfl ?_))
              refine ⟨⟨m + 1, (R' ++ [y]) ++ [(⟨m + 1, [], true⟩ : Sai)], some ⟨s3.next + 1, 0, none⟩, s4⟩, ⟨by show m + 1 ≤ ls.length; omega, ?_, c23.fresh c34 hW, fun id q => by simp [blkOf] at q; have := c23.next; omega, ?_, ?_, by show ((R' ++ [y]) ++ [(⟨m + 1, [], true⟩ : Sai)]).length ≤ m + 1; rw [List.length_append, List.length_singleton]; omega⟩, by show ls.length - (m + 1) < ls.length - m; omega, Wk.same ⟨?_, rfl, rfl, ?_, trivial⟩⟩
              · show OwnR tRw13 s4 _ 0 ((R' ++ [y]) ++ [(⟨m + 1, [], true⟩ : Sai)]).length (saCs ((R' ++ [y]) ++ [(⟨m + 1, [], true⟩ : Sai)]))
                rw [List.length_append, saCs_app]
                exact o4
              · show rwI ((R' ++ [y]) ++ [(⟨m + 1, [], true⟩ : Sai)]) (m + 1) _ = _
                rw [← hR]
                exact (rw_stray hnp hct hcur).symm
              · intro y hy
                dsimp only
                rcases List.mem_append.1 hy with hy | hy
                · have := hRl y hy; omega
                · rw [List.mem_singleton.1 hy]
                  show ([] : List UInt8).length ≤ _
                  simp
              · show some (Value.slice _ ((R' ++ [y]).length + 1) 0) = some (.slice _ ((R' ++ [y]) ++ [(⟨m + 1, [], true⟩ : Sai)]).length 0)
                rw [len_snoc (R' ++ [y]) (⟨m + 1, [], true⟩ : Sai)]
              · rw [show z2 = ((m + 1 : Nat) : Int) by omega]; rfl
            | false =>
              (repeat(first|refine sb ?_|refine kNo ?_|refine gOn rfl ?_|refine gOff rfl rfl ?_|refine gTup rfl ?_))
              refine ⟨by omega, ?_⟩
              intro m2 hm2 o2' ho2
              obtain rfl : m2 = R'.length := by omega
              (repeat(first|refine sb ?_|refine kNo ?_|refine gOn rfl ?_|refine gOff rfl rfl ?_|refine gTup rfl ?_))
              refine ldS_is (l := y.t) rfl kb (by rw [ho2, Nat.zero_add]; exact saCs_last R' y 1) ?_
              have hyl : y.t.length ≤ bigS m := hRl y (by simp)
              have htl := trB_len (lnE x)
              (repeat(first|refine sb ?_|refine kNo ?_|refine gOn rfl ?_|refine gOff rfl rfl ?_|refine gTup rfl ?_))
              refine ⟨by simp only [List.length_cons, List.length_nil]; omega, ?_⟩
              intro w1 hw1
              subst hw1
              (repeat(first|refine sb ?_|refine kNo ?_|refine gOn rfl ?_|refine gOff rfl rfl ?_|refine gTup rfl ?_))
              refine ⟨by simp only [List.length_append, List.length_cons, List.length_nil]; omega, ?_⟩
              intro w1 hw1
              subst hw1
              (repeat(first|refine sb ?_|refine kNo ?_|refine gOn rfl ?_|refine gOff rfl rfl ?_|refine gTup rfl ?_))
              refine ⟨by omega, ?_⟩
              intro m3 hm3 o3' ho3
              obtain rfl : m3 = R'.length := by omega
              (repeat(first|refine sb ?_|refine kNo ?_|refine gOn rfl ?_|refine gOff rfl rfl ?_|refine gTup rfl ?_))
              refine st_abs (cs' := saCs (R' ++ [(⟨y.n, y.t ++ 32 :: trB (lnE x), false⟩ : Sai)])) rfl rfl kb o3.2.2.1 rfl ?_ fun s4 e4 c4 n4 => ?_
              · rw [ho3, Nat.zero_add]
                refine (setRow_one (by rw [saCs_len, List.length_append, List.length_singleton]; omega)).trans ?_
                rw [saCs_app, saCs_app, List.set_append_right _ _ (by rw [saCs_len]; omega), saCs_len, show R'.length * 3 + 1 - R'.length * 3 = 1 by omega]
                obtain ⟨a1, a2, a3⟩ := y
                obtain rfl : a3 = false := hya
                rfl
              (repeat(first|refine sb ?_|refine kNo ?_|refine gOn rfl ?_|refine gOff rfl rfl ?_|refine gTup rfl ?_))
              intro z2 hz2
              rw [i64_id (by omega)] at hz2
              (repeat(first|refine sb ?_|refine kNo ?_|refine gOn rfl ?_|refine gOff rfl rfl ?_|refine gTup rfl ?_))
              refine ⟨⟨m + 1, R' ++ [(⟨y.n, y.t ++ 32 :: trB (lnE x), false⟩ : Sai)], some ⟨wb, 0, none⟩, s4⟩, ⟨by show m + 1 ≤ ls.length; omega, ?_, c23.fresh c4 (fun id q => hW id q), hW, ?_, ?_, by show (R' ++ [_]).length ≤ m + 1; rw [List.length_append, List.length_singleton]; omega⟩, by show ls.length - (m + 1) < ls.length - m; omega, Wk.same ⟨?_, rfl, rfl, ?_, trivial⟩⟩
              · show OwnR tRw13 s4 _ 0 (R' ++ [_]).length (saCs (R' ++ [_]))
                rw [List.length_append] at o3 ⊢
                exact ownR_set o3 (by simp) e4 (by have := o3.2.2.1; omega) kb
              · show rwI (R' ++ [_]) (m + 1) _ = _
                rw [← hR]
                exact (rw_on hnp hct hya).symm
              · intro z hz
                dsimp only
                rcases List.mem_append.1 hz with hz | hz
                · have := hRl z (by simp [hz]); omega
                · rw [List.mem_singleton.1 hz]
                  show (y.t ++ 32 :: trB (lnE x)).length ≤ _
                  rw [List.length_append, List.length_cons]
                  omega
              · show some (Value.slice _ (R' ++ [y]).length 0) = some (.slice _ (R' ++ [_]).length 0)
                rw [List.length_append, List.length_append]
                rfl
              · rw [show z2 = ((m + 1 : Nat) : Int) by omega]; rfl
  · obtain rfl : q = false := by rw [hq]; simp; omega
    obtain rfl : i = ls.length := by omega
    rw [List.drop_length, rw_end] at hR
    subst hR
    (repeat(first|refine sb ?_|refine kNo ?_|refine gOn rfl ?_|refine gOff rfl rfl ?_|refine gTup rfl ?_))
    exact ⟨W, rfl, o2, fun id q => by have := hW id q; have := c1.next; omega, c1.nil c2⟩
end Go.Vf.S
end
section
/- Is a key there? -/
namespace Go.Vf.S
open Go Go.Vf Go.Proofs Go.RowKit
attribute [local irreducible] wSeq wRow wp wG
set_option linter.unusedVariables false
set_option linter.unusedSimpArgs false
set_option maxRecDepth 10000

theorem fold_eq (x y : UInt8) : Lib.foldEq x y = decide (lowB x = lowB y) := by
  unfold Lib.foldEq
  rw [Bool.eq_iff_iff]
  simp only [decide_eq_true_eq]
  have e : ∀ c : UInt8, (lowB c).toNat = if 65 ≤ c.toNat ∧ c.toNat ≤ 90 then c.toNat + 32 else c.toNat := by
    intro c
    by_cases h : upB c = true
    · rw [lowB_up h, if_pos (by simpa [upB] using h)]
    · rw [lowB_no h, if_neg (by simpa [upB] using h)]
  rw [← UInt8.toNat_inj, e, e]
  split <;> split <;> omega
theorem fold_is : ∀ l m : List UInt8, Lib.equalFold l m = decide (lwF l = lwF m)
  | [], [] => rfl
  | [], y :: m => by simp [Lib.equalFold, lwF]
  | x :: l, [] => by simp [Lib.equalFold, lwF]
  | x :: l, y :: m => by
    rw [Lib.equalFold, fold_eq, fold_is l m, Bool.eq_iff_iff]
    simp only [Bool.and_eq_true, decide_eq_true_eq, lwF, List.map_cons, List.cons.injEq]
    exact ⟨fun ⟨a, b⟩ => ⟨a, of_decide_eq_true b⟩, fun ⟨a, b⟩ => ⟨a, decide_eq_true b⟩⟩
theorem equalFold13_w {s : SS} {l m : List UInt8} (hl : l.length ≤ 1000000) (ha : asc l) (hm : asc m) : CallW pr 52 [str l, str m] s fun v s' => v = .bool (decide (lwF l = lwF m)) ∧ s' = s := by
  rw [← fold_is]
  refine CallW.kit rfl fun B w0 ρ args' w H hr => ?_
  obtain ⟨v1, v2, rfl, q1, q2⟩ := lrel_2 hr
  obtain rfl := str_inv q1
  obtain rfl := str_inv q2
  exact (Any.strings_EqualFold Tryz.lays164 ⟨⟨l⟩⟩ ⟨⟨m⟩⟩ w (by show l.length < _; omega) (asc_at ha) (asc_at hm)).mono fun e w' ⟨q, r⟩ => ⟨q, by rw [r]; exact Below.refl _ _⟩
/-- An entry, and where its values lie. -/
structure EnV where
  e : Ent
  W : Option Addr
def enC (x : EnV) : List Value := [.int .i64 (x.e.n : Int), str x.e.k, .slice x.W x.e.vs.length 0]
def enCs (xs : List EnV) : List Value := xs.flatMap enC
theorem enCs_len (R : List EnV) : (enCs R).length = R.length * 3 := by
  unfold enCs
  induction R with
  | nil => rfl
  | cons x R ih => rw [List.flatMap_cons, List.length_append, ih, List.length_cons]; simp [enC]; omega
theorem enCs_app (R : List EnV) (x : EnV) : enCs (R ++ [x]) = enCs R ++ enC x := by unfold enCs; rw [List.flatMap_append]; simp
theorem enCs_drop (R : List EnV) (k : Nat) : (enCs R).drop (k * 3) = enCs (R.drop k) := by
  unfold enCs
  induction R generalizing k with
  | nil => simp
  | cons x R ih =>
    cases k with
    | zero => simp
    | succ k =>
      rw [List.drop_succ_cons, ← ih k, List.flatMap_cons, List.drop_append, show (k + 1) * 3 = (enC x).length + k * 3 by simp [enC]; omega, List.drop_of_length_le (by omega), List.nil_append]
      congr 1
      omega
theorem enCs_take {R : List EnV} {k : Nat} {x : EnV} (h : R[k]? = some x) : takeN 3 ((enCs R).drop (k * 3)) = some (enC x) := by
  obtain ⟨hk, e⟩ := List.getElem?_eq_some_iff.1 h
  rw [enCs_drop, List.drop_eq_getElem_cons hk, e]
  rfl
/-- Entries that a slice reads. -/
def EsR (s : SS) (W : Option Addr) (xs : List EnV) : Prop := (xs = [] ∨ ∃ b t g r, W = some ⟨b, 0, none⟩ ∧ b < s.next ∧ lookH s.heap b = some (.cells (enCs xs) t g r))
theorem EsR.chg {s s' : SS} {W : Option Addr} {xs : List EnV} {A : List Nat} (h : EsR s W xs) (c : Chg s s' A) (hA : ∀ id ∈ blkOf W, id ∉ A) : EsR s' W xs := by
  rcases h with h | ⟨b, t, g, r, rfl, h1, h2⟩
  · exact .inl h
  · exact .inr ⟨b, t, g, r, rfl, Nat.lt_of_lt_of_le h1 c.next, c.blk _ _ h1 (hA b (by simp [blkOf])) h2⟩
abbrev EsO (s : SS) (W : Option Addr) (xs : List EnV) : Prop := OwnR tEn13 s W 0 xs.length (enCs xs)
theorem EsO.rd {s : SS} {W : Option Addr} {xs : List EnV} (h : EsO s W xs) : EsR s W xs := by
  cases W with
  | none => exact .inl (List.eq_nil_of_length_eq_zero h.2.1)
  | some a =>
    obtain ⟨b, off, sp⟩ := a
    obtain ⟨rfl, rfl, h3, g, h4, _⟩ := h
    exact .inr ⟨b, _, _, _, rfl, h3, h4⟩
abbrev clT (c : Nat) : Value := .func (.func n_lines_there_1) #[] #[ptrV c]
theorem gen_mf {T : TL} {s : SS} {K : RR → Prop} {g : Nat} {c : Tmp} {u : Value} (hc : look T c = some u) (hK : K (.val (.func (.func g) #[] #[u]))) : wN pr (.gen (.makeFunc (.func g) #[] #[.tmp c])) T s K := by
  refine ⟨.val (.func (.func g) #[] #[u]), ?_, hK⟩
  simp only [aOp, operands, operand, toTr_get, hc]
  rfl
theorem gen_th {T : TL} {s : SS} {K : RR → Prop} {x a : Tmp} {ts : Array TypeId} {u : Value} {c : Nat} (hx : look T x = some (clT c)) (ha : look T a = some u) (hK : K (.call n_lines_there_1 [u, ptrV c])) : wN pr (.gen (.call ⟨.value (.tmp x), #[.tmp a], ts⟩)) T s K := by
  refine ⟨.call n_lines_there_1 [u, ptrV c], ?_, hK⟩
  simp only [aOp, operand, operands, toTr_get, hx, ha]
  exact (show callV pr (clT c) [u] = some (.enter n_lines_there_1 ([] ++ [u] ++ [ptrV c])) by kernel_rfl)
theorem there1_w {s : SS} {x : EnV} {c : Nat} {k : List UInt8} {t : TypeId} (f : Fine s) (hc : lookH s.heap c = some (.cells [str k] t false false)) (lc : c < s.next) (hl : x.e.k.length ≤ 100000) (ha : asc x.e.k) (hk : asc k) :
    CallW pr n_lines_there_1 [.agg ⟨enC x⟩, ptrV c] s fun v s' => v = .bool (decide (lwF x.e.k = lwF k)) ∧ Chg s s' [] := by
  refine CallW.run good ok_lines_there_1 (by simp) rfl ?_
  have c0 : Chg s { s with heap := (s.next, some (.cells (enC x) tEn13 false false)) :: s.heap, next := s.next + 1 } [] := .new []
  (try refine pSeq ?_); (repeat refine sb ?_)
  refine ldS_is (l := x.e.k) rfl lkH rfl ?_
  (repeat refine sb ?_)
  refine ldS_is (l := k) rfl (c0.blk _ _ lc (by simp) hc) rfl ?_
  (repeat refine sb ?_)
  refine (equalFold13_w (by omega) ha hk).mono fun v s q => ?_
  obtain ⟨rfl, rfl⟩ := q
  (repeat refine sb ?_)
  exact ⟨rfl, c0⟩
def hasV (xs : List EnV) (k : List UInt8) : Bool := xs.any fun z => decide (lwF z.e.k = lwF k)
theorem ixth_w {s : SS} {W : Option Addr} {xs : List EnV} {c cw : Nat} {k : List UInt8} {t : TypeId} (f : Fine s) (hc : lookH s.heap c = some (.cells [str k] t false false)) (lc : c < s.next) (hx : EsR s W xs) (hn : xs.length ≤ 100000) (ha : ∀ x ∈ xs, asc x.e.k ∧ x.e.k.length ≤ 100000) (hk : asc k) :
    CallW pr n_slices_IndexFunc_lines_Entry_lines_Entry [.slice W xs.length cw, clT c] s fun v s' => (∃ z : Int, v = .int .i64 z ∧ decide (0 ≤ z) = hasV xs k) ∧ Chg s s' [] := by
  refine CallW.run good ok_slices_IndexFunc_lines_Entry_lines_Entry (by simp) rfl ?_
  (try refine pSeq ?_); (repeat refine sb ?_)
  refine pLoop (MW.head good (fun x : Nat × SS => xs.length - x.1) (fun x => x.1 ≤ xs.length ∧ hasV (xs.take x.1) k = false ∧ Chg s x.2 []) (fun x => [(0, .slice W xs.length cw), (1, clT c), (7, .int .i64 (xs.length : Int)), (8, .int .i64 (x.1 : Int))]) (fun x => x.2) (0, s) ⟨Nat.zero_le _, rfl, .refl _ _⟩ (Wk.same ⟨rfl, rfl, rfl, rfl, trivial⟩) ?_)
  rintro ⟨i, s1⟩ ⟨hi, h0, c1⟩
  dsimp only at hi h0 c1 ⊢
  (repeat refine sb ?_)
  intro q hq
  by_cases hlt : i < xs.length
  · obtain rfl : q = true := by rw [hq]; simp; omega
    obtain ⟨x, hxi⟩ : ∃ x, xs[i]? = some x := ⟨_, List.getElem?_eq_getElem hlt⟩
    obtain ⟨b, tb, g, r, rfl, lb, hb⟩ := hx.resolve_left (fun e => by rw [e] at hlt; simp at hlt)
    have hm := List.mem_of_getElem? hxi
    have hb1 := c1.blk _ _ lb (by simp) hb
    have e : hasV (xs.take (i + 1)) k = decide (lwF x.e.k = lwF k) := by
      unfold hasV at h0 ⊢
      rw [List.take_add_one, hxi, List.any_append, h0]
      simp
    (repeat refine sb ?_)
    refine ⟨by omega, ?_⟩
    intro m hm2 o ho
    obtain rfl : m = i := by omega
    (repeat refine sb ?_)
    refine ldN_is rfl hb1 (by rw [ho, Nat.zero_add]; exact enCs_take hxi) ?_
    (repeat refine sb ?_)
    refine gen_th rfl rfl ?_
    (repeat refine sb ?_)
    refine (there1_w (c1.fine f) (c1.blk _ _ lc (by simp) hc) (Nat.lt_of_lt_of_le lc c1.next) (ha x hm).2 (ha x hm).1 hk).mono fun v s2 q => ?_
    obtain ⟨rfl, c2⟩ := q
    by_cases he : lwF x.e.k = lwF k
    · rw [show decide (lwF x.e.k = lwF k) = true from decide_eq_true he]
      (repeat refine sb ?_)
      refine ⟨⟨_, rfl, ?_⟩, c1.nil c2⟩
      have : hasV xs k = true := by
        unfold hasV
        exact List.any_eq_true.2 ⟨x, hm, decide_eq_true he⟩
      rw [this]
      exact decide_eq_true (Int.natCast_nonneg m)
    · rw [show decide (lwF x.e.k = lwF k) = false from decide_eq_false he] at e ⊢
      (repeat refine sb ?_)
      intro z hz
      rw [i64_id (by omega)] at hz
      (repeat refine sb ?_)
      exact ⟨(m + 1, s2), ⟨by show m + 1 ≤ xs.length; omega, e, c1.nil c2⟩, by show xs.length - (m + 1) < xs.length - m; omega, Wk.same ⟨rfl, rfl, rfl, by rw [show z = ((m + 1 : Nat) : Int) by omega]; rfl, trivial⟩⟩
  · obtain rfl : q = false := by rw [hq]; simp; omega
    obtain rfl : i = xs.length := by omega
    rw [List.take_length] at h0
    (repeat refine sb ?_)
    exact ⟨⟨_, rfl, by rw [h0]; rfl⟩, c1⟩
theorem there_w {s : SS} {W : Option Addr} {xs : List EnV} {cw : Nat} {k : List UInt8} (f : Fine s) (hx : EsR s W xs) (hn : xs.length ≤ 100000) (ha : ∀ x ∈ xs, asc x.e.k ∧ x.e.k.length ≤ 100000) (hk : asc k) :
    CallW pr n_lines_there [.slice W xs.length cw, str k] s fun v s' => v = .bool (hasV xs k) ∧ Chg s s' [] := by
  refine CallW.run good ok_lines_there (by simp) rfl ?_
  have c0 : Chg s { s with heap := (s.next, some (.cells [str k] tS false false)) :: s.heap, next := s.next + 1 } [] := .new []
  (try refine pSeq ?_); (repeat refine sb ?_)
  refine gen_mf rfl ?_
  (repeat refine sb ?_)
  refine (show CallW pr n_slices_ContainsFunc_lines_Entry_lines_Entry [.slice W xs.length cw, clT s.next] _ fun v s' => v = .bool (hasV xs k) ∧ Chg s s' [] from ?_).mono fun v s1 q => ?_
  · refine CallW.run good ok_slices_ContainsFunc_lines_Entry_lines_Entry (by simp) rfl ?_
    (try refine pSeq ?_); (repeat refine sb ?_)
    refine (ixth_w (c0.fine f) lkH (Nat.lt_succ_self _) (hx.chg c0 (fun _ _ q => by cases q)) hn ha hk).mono fun v s1 q => ?_
    obtain ⟨⟨z, rfl, hz⟩, c1⟩ := q
    (repeat refine sb ?_)
    intro q hq
    (repeat refine sb ?_)
    exact ⟨by rw [hq, hz]; rfl, c0.nil c1⟩
  · obtain ⟨rfl, c1⟩ := q
    (repeat refine sb ?_)
    exact ⟨rfl, c1⟩
end Go.Vf.S
end
section
/- A text's entries and faults: Parse. -/
namespace Go.Vf.S
open Go Go.Vf Go.Proofs Go.RowKit
attribute [local irreducible] wSeq wRow wp wG
set_option linter.unusedVariables false
set_option linter.unusedSimpArgs false
set_option maxRecDepth 10000

/-! ### Keys are of ASCII -/
theorem all_lp1 {l : List UInt8} {e : UInt8} {p : UInt8 → Bool} (h : l.all p = true) : (lpF e l).1.all p = true := by
  have sub : ∀ m : List UInt8, (∀ c ∈ m, c ∈ l) → m.all p = true := fun m hm => List.all_eq_true.2 fun c hc => List.all_eq_true.1 h c (hm c hc)
  have cutm : ∀ m : List UInt8, ∀ c ∈ (cutF e m).1, c ∈ m := by
    intro m c hc
    rcases cut_two e m with ⟨_, g2⟩ | ⟨a, r, _, g2, g3⟩
    · rw [g2] at hc; exact hc
    · rw [g3] at hc; rw [g2]; exact List.mem_append.2 (.inl hc)
  have trm : ∀ c ∈ trL l, c ∈ l := fun c hc => (List.dropWhile_sublist _).subset hc
  have trr : ∀ m : List UInt8, ∀ c ∈ trR m, c ∈ m := by
    intro m c hc
    obtain ⟨q, _, h2⟩ := trR_dec m
    rw [h2]
    exact List.mem_append.2 (.inl hc)
  have qum : ∀ (b : Bool) (m w t : List UInt8), quG b m = some (w, t) → ∀ c ∈ w, c ∈ m := by
    intro b m
    induction m generalizing b with
    | nil => intro w t q; simp [quG] at q
    | cons x r ih =>
      intro w t q c hc
      have one : ∀ y : List UInt8 × List UInt8, quG false r = some y → (x :: y.1, y.2) = (w, t) → c ∈ x :: r := by
        intro y h1 h2
        cases h2
        rcases List.mem_cons.1 hc with rfl | hc
        · simp
        · exact List.mem_cons_of_mem _ (ih _ _ _ h1 c hc)
      cases b with
      | true =>
        rw [quG] at q
        obtain ⟨y, h1, h2⟩ := Option.map_eq_some_iff.1 q
        exact one y h1 h2
      | false =>
        rw [quG] at q
        split at q
        · cases q; cases hc
        · split at q
          · exact List.mem_cons_of_mem _ (ih _ _ _ q c hc)
          · obtain ⟨y, h1, h2⟩ := Option.map_eq_some_iff.1 q
            exact one y h1 h2
  refine sub _ fun c hc => ?_
  unfold lpF at hc
  split at hc
  · cases hq : quF (trL l).tail with
    | none => rw [hq] at hc; cases hc
    | some y =>
      obtain ⟨w, t⟩ := y
      rw [hq] at hc
      dsimp only at hc
      split at hc
      · exact trm c (List.mem_of_mem_tail (qum _ _ _ _ hq c hc))
      · cases hc
  · split at hc
    · cases hc
    · exact trm c (cutm _ c (trr _ c hc))
theorem tx_asc {l : List UInt8} (h : l.all txB = true) : asc l := by
  intro c hc
  have := List.all_eq_true.1 h c hc
  rcases Nat.lt_or_ge c.toNat 128 with q | q
  · exact q
  · rw [tx_hi q] at this; cases this
theorem en_key {vals : Bool} {x : Sai} (h : (enF vals x).2 = 0) : asc (enF vals x).1.k ∧ (enF vals x).1.k.length ≤ x.t.length := by
  cases vals with
  | true =>
    rw [en_true] at h ⊢
    split at h
    · cases h
    · rename_i hc
      have ht : x.t.all txB = true := by
        cases hx : x.t.all txB with
        | true => rfl
        | false => exact absurd (by simp [hx]) hc
      rw [if_neg hc]
      generalize vwE (vwA (lpF 58 x.t).2.1).2 (vwA (lpF 58 x.t).2.1).1 = V
      obtain ⟨ws, e⟩ := V
      cases e with
      | zero => exact ⟨tx_asc (all_lp1 ht), (lp_len 58 x.t).1⟩
      | succ e => exact ⟨(by intro c hc; cases hc), Nat.zero_le _⟩
  | false =>
    rw [en_false] at h ⊢
    split at h
    · cases h
    · rename_i hc
      have ht : x.t.all txB = true := by
        cases hx : x.t.all txB with
        | true => rfl
        | false => exact absurd (by simp [hx]) hc
      rw [if_neg hc]
      refine ⟨tx_asc (List.all_eq_true.2 fun c hc => List.all_eq_true.1 ht c ?_), trB_len _⟩
      obtain ⟨q, _, h2⟩ := trR_dec (trL x.t)
      exact (List.dropWhile_sublist _).subset (show c ∈ trL x.t by rw [h2]; exact List.mem_append.2 (.inl hc))
/-! ### Faults -/
def flC (x : Nat × Nat) : List Value := [.int .i64 (x.1 : Int), .int .i64 (x.2 : Int)]
def flCs (fs : List (Nat × Nat)) : List Value := fs.flatMap flC
theorem flCs_len (R : List (Nat × Nat)) : (flCs R).length = R.length * 2 := by
  unfold flCs
  induction R with
  | nil => rfl
  | cons x R ih => rw [List.flatMap_cons, List.length_append, ih, List.length_cons]; simp [flC]; omega
theorem flCs_app (R : List (Nat × Nat)) (x : Nat × Nat) : flCs (R ++ [x]) = flCs R ++ flC x := by unfold flCs; rw [List.flatMap_append]; simp
abbrev tFt13 : TypeId := 48
abbrev FsO13 (s : SS) (W : Option Addr) (fs : List (Nat × Nat)) : Prop := OwnR tFt13 s W 0 fs.length (flCs fs)
structure PaIx where
  i : Nat
  xs : List EnV
  fs : List (Nat × Nat)
  W : Option Addr
  V : Option Addr
  s : SS
theorem hasV_K (xs : List EnV) (k : List UInt8) : hasV xs k = hasK (xs.map (·.e)) k := by
  unfold hasV hasK
  rw [List.any_map]
  rfl
/-- Entries of one's own, and where their values lie. -/
structure EsA (s0 s : SS) (W : Option Addr) (xs : List EnV) : Prop where
  own : EsO s W xs
  vals : ∀ x ∈ xs, TsO s x.W x.e.vs
  newW : ∀ id ∈ blkOf W, s0.next ≤ id
  newV : ∀ x ∈ xs, ∀ id ∈ blkOf x.W, s0.next ≤ id
theorem tyNeO {s : SS} {t t' : TypeId} {W V : Option Addr} {n m : Nat} {cs cs' : List Value} (h : OwnR t s W 0 n cs) (h' : OwnR t' s V 0 m cs') (ht : t ≠ t') : ∀ id ∈ blkOf W, id ∉ blkOf V := by
  intro id h1 h2
  obtain ⟨g, k1⟩ := h.at id h1
  obtain ⟨g', k2⟩ := h'.at id h2
  exact absurd rfl (tyNe k1 k2 ht)
/-- Faults that a slice reads. -/
def FlR (s : SS) (V : Option Addr) (fs : List (Nat × Nat)) : Prop := (fs = [] ∨ ∃ b t g r, V = some ⟨b, 0, none⟩ ∧ b < s.next ∧ lookH s.heap b = some (.cells (flCs fs) t g r))
theorem FlR.chg {s s' : SS} {W : Option Addr} {fs : List (Nat × Nat)} {A : List Nat} (h : FlR s W fs) (c : Chg s s' A) (hA : ∀ id ∈ blkOf W, id ∉ A) : FlR s' W fs := by
  rcases h with h | ⟨b, t, g, r, rfl, h1, h2⟩
  · exact .inl h
  · exact .inr ⟨b, t, g, r, rfl, Nat.lt_of_lt_of_le h1 c.next, c.blk _ _ h1 (hA b (by simp [blkOf])) h2⟩
theorem fso_rd {s : SS} {W : Option Addr} {xs : List (Nat × Nat)} (h : FsO13 s W xs) : FlR s W xs := by
  cases W with
  | none => exact .inl (List.eq_nil_of_length_eq_zero h.2.1)
  | some a =>
    obtain ⟨b, off, sp⟩ := a
    obtain ⟨rfl, rfl, h3, g, h4, _⟩ := h
    exact .inr ⟨b, _, _, _, rfl, h3, h4⟩
theorem saCs_take {R : List Sai} {k : Nat} {x : Sai} (h : R[k]? = some x) : takeN 3 ((saCs R).drop (k * 3)) = some (saC x) := by
  obtain ⟨hk, e⟩ := List.getElem?_eq_some_iff.1 h
  rw [saCs_drop, List.drop_eq_getElem_cons hk, e]
  rfl
set_option maxHeartbeats 4000000 in
theorem parse13_w {s : SS} {l : List UInt8} {vals : Bool} (f : Fine s) (hl : l.length ≤ 10000) : CallW pr n_lines_Parse [str l, .bool vals] s fun v s' =>
    ∃ W V cv xs fs, v = .tuple ⟨[.slice W xs.length 0, .slice V fs.length cv]⟩ ∧ (xs.map (·.e), fs) = tabF l vals ∧ EsA s s' W xs ∧ FlR s' V fs ∧ (∀ id ∈ blkOf V, s.next ≤ id) ∧ Chg s s' [] := by
  refine CallW.run good ok_lines_Parse (by simp) rfl ?_
  (try refine pSeq ?_); (repeat refine sb ?_)
  intro n hn
  subst hn
  (repeat refine sb ?_)
  intro q hq
  by_cases hlong : 8192 < l.length
  · obtain rfl : q = true := by rw [hq]; simp; omega
    (repeat refine sb ?_)
    exact ⟨none, some ⟨s.next, 0, none⟩, 1, [], [(0, 3)], rfl, by unfold tabF; rw [if_pos hlong]; rfl, ⟨⟨rfl, rfl, rfl⟩, by simp, by simp [blkOf], by simp⟩, .inr ⟨s.next, _, _, _, rfl, Nat.lt_succ_self _, lkH⟩, by simp [blkOf], .new []⟩
  · obtain rfl : q = false := by rw [hq]; simp; omega
    have htab : tabF l vals = tbG vals (saF l) [] [] := by unfold tabF; rw [if_neg hlong]
    rw [htab]
    (repeat refine sb ?_)
    refine (rows13_w f hl).mono fun v s1 q => ?_
    obtain ⟨Wr, rfl, oR, hWr, c1⟩ := q
    have hRn := saF_many l
    have hRl := saF_len (l := l)
    generalize saF l = R at *
    have lWr := oR.lt
    (repeat refine sb ?_)
    refine pLoop (MW.head good (fun x : PaIx => R.length - x.i) (fun x => x.i ≤ R.length ∧ EsA s1 x.s x.W x.xs ∧ FsO13 x.s x.V x.fs ∧ Chg s1 x.s [] ∧ (∀ id ∈ blkOf x.V, s1.next ≤ id) ∧ tbG vals (R.drop x.i) (x.xs.map (·.e)) x.fs = tbG vals R [] [] ∧ x.xs.length ≤ 64 ∧ x.fs.length ≤ x.i ∧ (∀ y ∈ x.xs, asc y.e.k ∧ y.e.k.length ≤ 100000))
      (fun x => [(1, .bool vals), (4, .slice x.W x.xs.length 0), (5, .slice x.V x.fs.length 0), (16, .slice Wr R.length 0), (17, .int .i64 (R.length : Int)), (18, .int .i64 (x.i : Int))]) (fun x => x.s) ⟨0, [], [], none, none, s1⟩ ⟨Nat.zero_le _, ⟨⟨rfl, rfl, rfl⟩, by simp, by simp [blkOf], by simp⟩, ⟨rfl, rfl, rfl⟩, .refl _ _, by simp [blkOf], rfl, by simp, by simp, by simp⟩ (Wk.same ⟨rfl, rfl, rfl, rfl, rfl, rfl, trivial⟩) ?_)
    rintro ⟨i, xs, fs, W, V, s2⟩ ⟨hi, ⟨oW, oT, hW, hTn⟩, oV, c12, hV, hT, h64, hfi, hasc⟩
    dsimp only at hi oW oT hW hTn oV c12 hV hT h64 hfi hasc ⊢
    (repeat refine sb ?_)
    intro q hq
    by_cases hlt : i < R.length
    · obtain rfl : q = true := by rw [hq]; simp; omega
      obtain ⟨x, hx⟩ : ∃ x, R[i]? = some x := ⟨_, List.getElem?_eq_getElem hlt⟩
      have hxl := hRl x (List.mem_of_getElem? hx)
      have hdr : R.drop i = x :: R.drop (i + 1) := by
        rw [List.drop_eq_getElem_cons hlt, show R[i] = x from by rw [List.getElem?_eq_getElem hlt] at hx; exact Option.some.inj hx]
      have oR2 := oR.chg c12 (fun _ _ q => by cases q)
      obtain ⟨br, gr, rfl, kr⟩ := oR2.pos (by omega)
      (repeat refine sb ?_)
      refine ⟨by omega, ?_⟩
      intro m hm o ho
      obtain rfl : m = i := by omega
      (repeat refine sb ?_)
      refine ldN_is rfl kr (by rw [ho, Nat.zero_add]; exact saCs_take hx) ?_
      (repeat refine sb ?_)
      refine st_abs (cs' := saC x) rfl rfl lkH (Nat.lt_succ_self _) rfl rfl fun s3 e3 c3 n3 => ?_
      have n3 : s3.next = s2.next + 1 := n3
      have c3 : Chg s2 s3 [] := (Chg.new []).fresh c3 (by simp)
      (repeat refine sb ?_)
      refine ldN_is rfl e3 rfl ?_
      have f3 := (c1.nil (c12.nil c3)).fine f
      (repeat refine sb ?_)
      refine (entry13_w (x := x) f3 (by omega)).mono fun v s4 q => ?_
      obtain ⟨k, W', ws, rfl, oN, hW', c4, hE⟩ := q
      have e4 := c4.blk _ _ (show s2.next < s3.next by omega) (by simp) e3
      have n4 := c4.next
      (repeat refine sb ?_)
      refine st_abs (cs' := enC ⟨⟨x.n, k, ws⟩, W'⟩) rfl rfl lkH (Nat.lt_succ_self _) rfl rfl fun s5 e5 c5 n5 => ?_
      have n5 : s5.next = s4.next + 1 := n5
      have c5 : Chg s4 s5 [] := (Chg.new []).fresh c5 (by simp)
      have k7 := c5.blk _ _ (show s2.next < s4.next by omega) (by simp) e4
      have c25 := (c3.nil c4).nil c5
      (repeat refine sb ?_)
      intro q hq
      by_cases he0 : (enF vals x).2 = 0
      · obtain rfl : q = false := by rw [hq, he0]; rfl
        have hE := hE he0
        rw [he0]
        (repeat refine sb ?_)
        intro q hq
        by_cases hfull : xs.length = 64
        · obtain rfl : q = true := by rw [hq]; simp; omega
          have c2X := c25
          have k7X := k7
          have oWX := oW.chg c2X (fun _ _ q => by cases q)
          have oTX := fun y hy => (oT y hy).chg c2X (fun _ _ q => by cases q)
          have oVX := oV.chg c2X (fun _ _ q => by cases q)
          (repeat refine sb ?_)
          intro q hq
          obtain rfl : q = true := by rw [hq]; decide
          (repeat refine sb ?_)
          refine ldI_is (z := (x.n : Int)) rfl k7X rfl ?_
          (repeat refine sb ?_)
          have cm : Chg s5 { s5 with heap := (s5.next, some (.cells (flC (x.n, 7)) tFt13 false false)) :: s5.heap, next := s5.next + 1 } [] := .new []
          refine appR (oVX.chg cm (fun _ _ q => by cases q)) (flCs_len fs) ⟨by omega, by omega⟩ rfl rfl lkH rfl rfl fun s8 o8 c8 n8 => ?_
          have c28 := (c12.nil (c2X.nil cm)).fresh c8 (fun id q => by have := hV id q; omega)
          have cXm := cm.nil c8
          (repeat refine sb ?_)
          intro z2 hz2
          rw [i64_id (by omega)] at hz2
          (repeat refine sb ?_)
          refine ⟨⟨m + 1, xs, fs ++ [(x.n, 7)], W, some ⟨s5.next + 1, 0, none⟩, s8⟩, ⟨by show m + 1 ≤ R.length; omega, ⟨oWX.chg cXm (tyNeO oWX oVX (by decide)), fun y hy => (oTX y hy).chg cXm (tyNeO (oTX y hy) oVX (by decide)), hW, hTn⟩, ?_, c28, fun id q => by simp [blkOf] at q; have := c2X.next; have := c12.next; omega, ?_, h64, by show (fs ++ [_]).length ≤ m + 1; rw [List.length_append, List.length_singleton]; omega, hasc⟩, by show R.length - (m + 1) < R.length - m; omega, Wk.same ⟨rfl, rfl, ?_, rfl, rfl, ?_, trivial⟩⟩
          · show OwnR tFt13 s8 _ 0 (fs ++ [(x.n, 7)]).length (flCs (fs ++ [(x.n, 7)]))
            rw [List.length_append, flCs_app]
            exact o8
          · show tbG vals (R.drop (m + 1)) _ (fs ++ [(x.n, 7)]) = _
            rw [← hT, hdr]
            exact (by rw [tbG, if_neg (by rw [he0]; simp), if_pos (by rw [List.length_map]; omega)])
          · show some (Value.slice _ (fs.length + 1) 0) = some (.slice _ (fs ++ [(x.n, 7)]).length 0)
            rw [List.length_append]
            rfl
          · rw [show z2 = ((m + 1 : Nat) : Int) by omega]; rfl
        · obtain rfl : q = false := by rw [hq]; simp; omega
          (repeat refine sb ?_)
          refine ldS_is (l := k) rfl e5 rfl ?_
          have oW5 := oW.chg c25 (fun _ _ q => by cases q)
          have hk := en_key he0
          rw [hE] at hk
          (repeat refine sb ?_)
          refine (there_w ((c1.nil (c12.nil c25)).fine f) (EsO.rd oW5) (by omega) hasc hk.1).mono fun v sX q => ?_
          obtain ⟨rfl, cX⟩ := q
          have c2X := c25.nil cX
          have k7X := cX.blk _ _ (show s2.next < s5.next by omega) (by simp) k7
          have k8X := cX.blk _ _ (show s4.next < s5.next by omega) (by simp) e5
          have oWX := oW.chg c2X (fun _ _ q => by cases q)
          have oTX := fun y hy => (oT y hy).chg c2X (fun _ _ q => by cases q)
          have oVX := oV.chg c2X (fun _ _ q => by cases q)
          have oNX := oN.chg (c5.nil cX) (fun _ _ q => by cases q)
          cases hth : hasV xs k with
          | true =>
            (repeat refine sb ?_)
            intro q hq
            obtain rfl : q = true := by rw [hq]; decide
            (repeat refine sb ?_)
            refine ldI_is (z := (x.n : Int)) rfl k7X rfl ?_
            (repeat refine sb ?_)
            have cm : Chg sX { sX with heap := (sX.next, some (.cells (flC (x.n, 9)) tFt13 false false)) :: sX.heap, next := sX.next + 1 } [] := .new []
            refine appR (oVX.chg cm (fun _ _ q => by cases q)) (flCs_len fs) ⟨by omega, by omega⟩ rfl rfl lkH rfl rfl fun s8 o8 c8 n8 => ?_
            have c28 := (c12.nil (c2X.nil cm)).fresh c8 (fun id q => by have := hV id q; omega)
            have cXm := cm.nil c8
            (repeat refine sb ?_)
            intro z2 hz2
            rw [i64_id (by omega)] at hz2
            (repeat refine sb ?_)
            refine ⟨⟨m + 1, xs, fs ++ [(x.n, 9)], W, some ⟨sX.next + 1, 0, none⟩, s8⟩, ⟨by show m + 1 ≤ R.length; omega, ⟨oWX.chg cXm (tyNeO oWX oVX (by decide)), fun y hy => (oTX y hy).chg cXm (tyNeO (oTX y hy) oVX (by decide)), hW, hTn⟩, ?_, c28, fun id q => by simp [blkOf] at q; have := c2X.next; have := c12.next; omega, ?_, h64, by show (fs ++ [_]).length ≤ m + 1; rw [List.length_append, List.length_singleton]; omega, hasc⟩, by show R.length - (m + 1) < R.length - m; omega, Wk.same ⟨rfl, rfl, ?_, rfl, rfl, ?_, trivial⟩⟩
            · show OwnR tFt13 s8 _ 0 (fs ++ [(x.n, 9)]).length (flCs (fs ++ [(x.n, 9)]))
              rw [List.length_append, flCs_app]
              exact o8
            · show tbG vals (R.drop (m + 1)) _ (fs ++ [(x.n, 9)]) = _
              rw [← hT, hdr]
              exact (by rw [tbG, if_neg (by rw [he0]; simp), if_neg (by rw [List.length_map]; omega), if_pos (by rw [hE, ← hasV_K]; exact hth)])
            · show some (Value.slice _ (fs.length + 1) 0) = some (.slice _ (fs ++ [(x.n, 9)]).length 0)
              rw [List.length_append]
              rfl
            · rw [show z2 = ((m + 1 : Nat) : Int) by omega]; rfl
          | false =>
            (repeat refine sb ?_)
            intro q hq
            obtain rfl : q = false := by rw [hq]; decide
            (repeat refine sb ?_)
            refine ldN_is (off := 0) (new := enC ⟨⟨x.n, k, ws⟩, W'⟩) rfl k8X rfl ?_
            (repeat refine sb ?_)
            have cm : Chg sX { sX with heap := (sX.next, some (.cells (enC ⟨⟨x.n, k, ws⟩, W'⟩) tEn13 false false)) :: sX.heap, next := sX.next + 1 } [] := .new []
            refine appR (oWX.chg cm (fun _ _ q => by cases q)) (enCs_len xs) ⟨by omega, by omega⟩ rfl rfl lkH rfl rfl fun s8 o8 c8 n8 => ?_
            have c28 := (c12.nil (c2X.nil cm)).fresh c8 (fun id q => by have := hW id q; omega)
            have cXm := cm.nil c8
            (repeat refine sb ?_)
            intro z2 hz2
            rw [i64_id (by omega)] at hz2
            (repeat refine sb ?_)
            refine ⟨⟨m + 1, xs ++ [⟨⟨x.n, k, ws⟩, W'⟩], fs, some ⟨sX.next + 1, 0, none⟩, V, s8⟩, ⟨by show m + 1 ≤ R.length; omega, ⟨?_, ?_, fun id q => by simp [blkOf] at q; have := c2X.next; have := c12.next; omega, ?_⟩, oVX.chg cXm (tyNeO oVX oWX (by decide)), c28, hV, ?_, by show (xs ++ [_]).length ≤ 64; rw [List.length_append, List.length_singleton]; omega, by show fs.length ≤ m + 1; omega, ?_⟩, by show R.length - (m + 1) < R.length - m; omega, Wk.same ⟨rfl, ?_, rfl, rfl, rfl, ?_, trivial⟩⟩
            · show OwnR tEn13 s8 _ 0 (xs ++ [_]).length (enCs (xs ++ [_]))
              rw [List.length_append, enCs_app]
              exact o8
            · intro y hy
              rcases List.mem_append.1 hy with hy | hy
              · exact (oTX y hy).chg cXm (tyNeO (oTX y hy) oWX (by decide))
              · rw [List.mem_singleton.1 hy]
                exact oNX.chg cXm (tyNeO oNX oWX (by decide))
            · intro y hy
              rcases List.mem_append.1 hy with hy | hy
              · exact hTn y hy
              · rw [List.mem_singleton.1 hy]
                intro id q
                have := hW' id q
                have := c12.next
                have := c3.next
                omega
            · show tbG vals (R.drop (m + 1)) ((xs ++ [(⟨⟨x.n, k, ws⟩, W'⟩ : EnV)]).map (·.e)) fs = _
              rw [← hT, hdr, List.map_append, tbG, if_neg (by rw [he0]; simp), if_neg (by rw [List.length_map]; omega), if_neg (by rw [hE, ← hasV_K, hth]; simp), hE]
              rfl
            · intro y hy
              rcases List.mem_append.1 hy with hy | hy
              · exact hasc y hy
              · rw [List.mem_singleton.1 hy]
                have h1 := en_key he0
                rw [hE] at h1
                exact ⟨h1.1, Nat.le_trans h1.2 (by omega)⟩
            · show some (Value.slice _ (xs.length + 1) 0) = some (.slice _ (xs ++ [_]).length 0)
              rw [List.length_append]
              rfl
            · rw [show z2 = ((m + 1 : Nat) : Int) by omega]; rfl
      · obtain rfl : q = true := by rw [hq]; simp; omega
        have c2X := c25
        have k7X := k7
        have oWX := oW.chg c2X (fun _ _ q => by cases q)
        have oTX := fun y hy => (oT y hy).chg c2X (fun _ _ q => by cases q)
        have oVX := oV.chg c2X (fun _ _ q => by cases q)
        (repeat refine sb ?_)
        intro q hq
        obtain rfl : q = true := by rw [hq]; simp; omega
        (repeat refine sb ?_)
        refine ldI_is (z := (x.n : Int)) rfl k7X rfl ?_
        (repeat refine sb ?_)
        have cm : Chg s5 { s5 with heap := (s5.next, some (.cells (flC (x.n, (enF vals x).2)) tFt13 false false)) :: s5.heap, next := s5.next + 1 } [] := .new []
        refine appR (oVX.chg cm (fun _ _ q => by cases q)) (flCs_len fs) ⟨by omega, by omega⟩ rfl rfl lkH rfl rfl fun s8 o8 c8 n8 => ?_
        have c28 := (c12.nil (c2X.nil cm)).fresh c8 (fun id q => by have := hV id q; omega)
        have cXm := cm.nil c8
        (repeat refine sb ?_)
        intro z2 hz2
        rw [i64_id (by omega)] at hz2
        (repeat refine sb ?_)
        refine ⟨⟨m + 1, xs, fs ++ [(x.n, (enF vals x).2)], W, some ⟨s5.next + 1, 0, none⟩, s8⟩, ⟨by show m + 1 ≤ R.length; omega, ⟨oWX.chg cXm (tyNeO oWX oVX (by decide)), fun y hy => (oTX y hy).chg cXm (tyNeO (oTX y hy) oVX (by decide)), hW, hTn⟩, ?_, c28, fun id q => by simp [blkOf] at q; have := c2X.next; have := c12.next; omega, ?_, h64, by show (fs ++ [_]).length ≤ m + 1; rw [List.length_append, List.length_singleton]; omega, hasc⟩, by show R.length - (m + 1) < R.length - m; omega, Wk.same ⟨rfl, rfl, ?_, rfl, rfl, ?_, trivial⟩⟩
        · show OwnR tFt13 s8 _ 0 (fs ++ [(x.n, (enF vals x).2)]).length (flCs (fs ++ [(x.n, (enF vals x).2)]))
          rw [List.length_append, flCs_app]
          exact o8
        · show tbG vals (R.drop (m + 1)) _ (fs ++ [(x.n, (enF vals x).2)]) = _
          rw [← hT, hdr]
          exact (by rw [tbG, if_pos he0])
        · show some (Value.slice _ (fs.length + 1) 0) = some (.slice _ (fs ++ [(x.n, (enF vals x).2)]).length 0)
          rw [List.length_append]
          rfl
        · rw [show z2 = ((m + 1 : Nat) : Int) by omega]; rfl
    · obtain rfl : q = false := by rw [hq]; simp; omega
      obtain rfl : i = R.length := by omega
      rw [List.drop_length, tbG] at hT
      (repeat refine sb ?_)
      exact ⟨W, V, 0, xs, fs, rfl, hT, ⟨oW, oT, fun id q => by have := hW id q; have := c1.next; omega, fun y hy id q => by have := hTn y hy id q; have := c1.next; omega⟩, fso_rd oV, fun id q => by have := hV id q; have := c1.next; omega, c1.nil c12⟩
end Go.Vf.S
end
section
/- Where a builder's check lies in the program. -/
namespace Go.Vf.S
open Go Go.Vf Go.Proofs Go.RowKit
def ccRen : Go.Shelf.Ren := ⟨fun | 240 => 39 | 276 => 69 | n => n, fun | 0 => 0 | 4 => 4 | 9 => 9 | 20 => 20 | 37 => 23 | 70 => 49 | 72 => 51 | 164 => 126 | n => n, fun | n => n⟩
theorem layCC : Go.Proofs.Lays.n240 Tryz.prog ccRen := {
  mixed := by kernel_rfl
  f240 := Tryz.func39.trans (congrArg some (by kernel_rfl))
  f276 := Tryz.func69.trans (congrArg some (by kernel_rfl))
  t0 := Tryz.underlying0
  a0 := Tryz.isAgg0
  z0 := Tryz.sizeOf0
  v0 := Tryz.zeroValue0
  t4 := Tryz.underlying4
  a4 := Tryz.isAgg4
  z4 := Tryz.sizeOf4
  v4 := Tryz.zeroValue4
  t9 := Tryz.underlying9
  a9 := Tryz.isAgg9
  z9 := Tryz.sizeOf9
  v9 := Tryz.zeroValue9
  t20 := Tryz.underlying20
  a20 := Tryz.isAgg20
  z20 := Tryz.sizeOf20
  v20 := Tryz.zeroValue20
  t70 := Tryz.underlying49
  a70 := Tryz.isAgg49
  z70 := Tryz.sizeOf49
  v70 := Tryz.zeroValue49
  t72 := Tryz.underlying51
  a72 := Tryz.isAgg51
  z72 := Tryz.sizeOf51
  v72 := Tryz.zeroValue51
  t164 := Tryz.underlying126
  a164 := Tryz.isAgg126
  z164 := Tryz.sizeOf126
  v164 := Tryz.zeroValue126 }
theorem xCC : Go.Proofs.Builder.X72 Tryz.prog ccRen := {
  sizeBuilder := by kernel_rfl
  liesBuilder := by kernel_rfl }
end Go.Vf.S
end
section
/- A strings.Builder: its calls. -/
namespace Go.Vf.S
open Go Go.Vf Go.Proofs Go.RowKit
attribute [local irreducible] wSeq wRow wp wG
set_option linter.unusedVariables false
set_option linter.unusedSimpArgs false
set_option maxRecDepth 10000

abbrev tBl : TypeId := 51

/-- A builder in a block of its own: where its bytes lie, and which they are. -/
structure Bld (s : SS) (b : Nat) (W : Option Addr) (l : List UInt8) : Prop where
  lt : b < s.next
  cell : ∃ p, lookH s.heap b = some (.cells [p, .slice W l.length 0] tBl false false) ∧ (p = .pointer none ∨ p = .pointer (some ⟨b, 0, none⟩))
  own : Own tB s W l
  nil : l = [] → W = none

theorem Bld.off {s : SS} {b : Nat} {W : Option Addr} {l : List UInt8} (h : Bld s b W l) : ∀ id ∈ blkOf W, id ≠ b := by
  obtain ⟨p, h1, -⟩ := h.cell
  have ho := h.own
  cases W with
  | none => simp [blkOf]
  | some a =>
    obtain ⟨g, off, sp⟩ := a
    obtain ⟨-, -, -, gr, h2, -⟩ := ho
    intro id hid
    simp only [blkOf, List.mem_singleton] at hid
    subst hid
    exact tyNe h2 h1 (by decide)
theorem Bld.chg {s s' : SS} {b : Nat} {W : Option Addr} {l : List UInt8} {A : List Nat} (h : Bld s b W l) (c : Chg s s' A) (hb : b ∉ A) (hA : ∀ id ∈ blkOf W, id ∉ A) : Bld s' b W l := by
  obtain ⟨p, h1, h2⟩ := h.cell
  exact ⟨Nat.lt_of_lt_of_le h.lt c.next, ⟨p, c.blk _ _ h.lt hb h1, h2⟩, h.own.chg c hA, h.nil⟩
theorem Bld.new (s : SS) : Bld { s with heap := (s.next, some (.cells [.pointer none, .slice none 0 0] tBl false false)) :: s.heap, next := s.next + 1 } s.next none [] :=
  ⟨Nat.lt_succ_self _, ⟨_, lkH, .inl rfl⟩, rfl, fun _ => rfl⟩

theorem bytesV_get' {l : List UInt8} {j : Nat} {x : UInt8} (h : l[j]? = some x) : (bytesV l)[j]? = some (.int .u8 x.toNat) := by
  unfold bytesV
  rw [List.getElem?_map, h]
  rfl
theorem ptr_at {ρ : Ren} {b : Nat} {e : RE} {v' : Value} (h : VRel ρ (.pointer (some ⟨b, 0, none⟩)) v') (he : ρ b = some e) (h0 : e.off = 0) : v' = .pointer (some ⟨e.blk, 0, none⟩) := by
  obtain ⟨a', rfl, h1, h2, e1, h3, h4, h5⟩ := ptr_inv h
  rw [he] at h3
  cases h3
  obtain ⟨x, y, z⟩ := a'
  simp only at h2 h4 h5
  rw [h2, h4, h5, h0]

set_option maxHeartbeats 1000000 in
theorem copyCheck_w {s : SS} {b : Nat} {p v : Value} (hb : lookH s.heap b = some (.cells [p, v] tBl false false)) (hp : p = .pointer none ∨ p = .pointer (some ⟨b, 0, none⟩)) (hlt : b < s.next) :
    CallW pr 39 [.pointer (some ⟨b, 0, none⟩)] s fun u s' => u = .tuple ⟨[]⟩ ∧ lookH s'.heap b = some (.cells [.pointer (some ⟨b, 0, none⟩), v] tBl false false) ∧ Chg s s' [b] ∧ s'.next = s.next := by
  have hb' : s.st.heap.get b = some (.cells [p, v] tBl false false) := by rw [SS.get]; exact hb
  rcases hp with rfl | rfl
  · refine ⟨.tuple ⟨[]⟩, { s with heap := (b, some (.cells [.pointer (some ⟨b, 0, none⟩), v] tBl false false)) :: s.heap }, ⟨rfl, lkH, .turn hlt, rfl⟩, Nat.le_refl _, rfl, fun B w0 ρ args' w H ha hf => ?_⟩
    obtain ⟨v1, rfl, q1⟩ := lrel_1 ha
    obtain ⟨a', rfl, h1, h2, e, h3, h4, h5⟩ := ptr_inv q1
    obtain ⟨g1, rc, lo, hi, t0, g2, g3, g4, g5, g6, g7, g8⟩ := H.blk _ _ _ hb' h3
    obtain ⟨rfl, g9⟩ := g3 rfl
    obtain ⟨o0, o1, o2⟩ := g9 rfl
    have e1 := ptr_at q1 h3 o0
    rw [e1]
    simp only [List.length_cons, List.length_nil, o0, Nat.zero_add] at g6 g8 g4
    obtain ⟨v0, r0, r1⟩ := g8 0 _ rfl
    cases r1
    have hlr : 2 ≤ rc.length := by omega
    refine (cc_first layCC xCC (c := 1) (by kernel_rfl) e.blk rc.length w (by simp [World.cell?, g2, r0]) (by simp [World.shape?, g2]; rfl) hlr (by
      have := g4 0 (by omega)
      simp [World.frozen?, g2]
      omega)).mono fun x w' hx => ?_
    obtain ⟨rfl, rfl⟩ := hx
    have hsz : e.blk < w.heap.size := H.lt _ _ h3
    refine ⟨_, ρ, rfl, plain_rel rfl, ?_, .refl _ _ _⟩
    refine H.turn (b' := .cells [.pointer (some ⟨b, 0, none⟩), v] tBl false false) h3 hb' rfl rfl (fun i => ?_) rfl (by simp [World.setCell]) (fun k hk => by simp [World.setCell, Array.getElem?_modify, Ne.symm hk]) rfl rfl rfl ?_
    · rw [SS.get, SS.get]
      show lookH ((b, some _) :: s.heap) i = _
      by_cases q : i = b
      · subst q; rw [if_pos rfl]; exact lkH
      · rw [if_neg q]
        simp only [lookH, beqF (Ne.symm q), cond_false]
    · refine ⟨g1, rc.set 0 (.pointer (some ⟨e.blk, 0, none⟩)), lo, hi, tBl, ?_, fun _ => ⟨rfl, fun _ => ⟨o0, by rw [List.length_set]; exact o1, by rw [List.length_set]; exact o2⟩⟩, ?_, ?_, ?_, g7, ?_⟩
      · simp [World.setCell, Array.getElem?_modify, g2]
      · simpa [o0] using g4
      · rw [List.length_set, o0]; omega
      · simp only [List.length_cons, List.length_nil]; omega
      · intro i u hi
        rw [o0, Nat.zero_add]
        match i, hi with
        | 0, hi =>
          cases hi
          exact ⟨_, by rw [List.getElem?_set_self (by omega)], .pointer ⟨rfl, rfl, e, h3, rfl, by simp [o0]⟩⟩
        | i + 1, hi =>
          obtain ⟨v', p1, p2⟩ := g8 (i + 1) u (by simpa using hi)
          exact ⟨v', by rw [List.getElem?_set_ne (by omega)]; exact p1, p2⟩
  · refine ⟨.tuple ⟨[]⟩, s, ⟨rfl, hb, .refl _ _, rfl⟩, Nat.le_refl _, rfl, fun B w0 ρ args' w H ha hf => ?_⟩
    obtain ⟨v1, rfl, q1⟩ := lrel_1 ha
    obtain ⟨a', rfl, h1, h2, e, h3, h4, h5⟩ := ptr_inv q1
    obtain ⟨g1, rc, lo, hi, t0, g2, g3, g4, g5, g6, g7, g8⟩ := H.blk _ _ _ hb' h3
    obtain ⟨rfl, g9⟩ := g3 rfl
    obtain ⟨o0, o1, o2⟩ := g9 rfl
    have e1 := ptr_at q1 h3 o0
    rw [e1]
    obtain ⟨v0, r0, r1⟩ := g8 0 _ rfl
    have e0 := ptr_at r1 h3 o0
    rw [e0, o0] at r0
    refine (Any.Builder_copyCheck_used layCC xCC e.blk w (by simpa [World.cell?, g2] using r0)).mono fun x w' hx => ?_
    obtain ⟨rfl, rfl⟩ := hx
    exact ⟨_, ρ, rfl, plain_rel rfl, H, .refl _ _ _⟩

set_option maxHeartbeats 1000000 in
theorem bString_w {s : SS} {b : Nat} {W : Option Addr} {l : List UInt8} (h : Bld s b W l) (hl : l.length ≤ 1073741824) : CallW pr n_strings_Builder_String [.pointer (some ⟨b, 0, none⟩)] s fun v s' => v = str l ∧ Chg s s' (blkOf W) ∧ s'.next = s.next := by
  obtain ⟨p, hb, -⟩ := h.cell
  have hb' : s.st.heap.get b = some (.cells [p, .slice W l.length 0] tBl false false) := by rw [SS.get]; exact hb
  have ho := h.own
  cases W with
  | none =>
    obtain rfl : l = [] := ho
    refine ⟨_, s, ⟨rfl, .refl _ _, rfl⟩, Nat.le_refl _, rfl, fun B w0 ρ args' w H ha hf => ?_⟩
    obtain ⟨v1, rfl, q1⟩ := lrel_1 ha
    obtain ⟨a', rfl, h1, h2, e, h3, h4, h5⟩ := ptr_inv q1
    obtain ⟨g1, rc, lo, hi, t0, g2, g3, g4, g5, g6, g7, g8⟩ := H.blk _ _ _ hb' h3
    obtain ⟨rfl, g9⟩ := g3 rfl
    obtain ⟨o0, o1, o2⟩ := g9 rfl
    rw [ptr_at q1 h3 o0]
    obtain ⟨v0, r0, r1⟩ := g8 1 _ rfl
    cases r1
    rw [o0] at r0
    have c1 : w.drew.cell? ⟨e.blk, 1, none⟩ = some (.slice none 0 0) := by
      have : w.drew.heap[e.blk]? = some (.cells ⟨rc⟩ tBl (lo, hi)) := g2
      simpa [World.cell?, this] using r0
    refine (str_first Tryz.lays169 Tryz.Builder_Extra_169 e.blk w (.string .empty) w.drew none 0 0 c1 none rfl (Lib.run_unsafeString_none w.drew _ _ _ none)).mono fun x w' hx => ?_
    obtain ⟨rfl, rfl⟩ := hx
    exact ⟨_, ρ, rfl, .string _, H.drew, .refl _ _ _⟩
  | some a =>
    obtain ⟨g, off, sp⟩ := a
    obtain ⟨rfl, rfl, hg, gr, hgb, hgr⟩ := ho
    have hne : l ≠ [] := fun e => by have := h.nil e; cases this
    have hgt : gr = true := by
      cases gr with
      | true => rfl
      | false => exact absurd (hgr rfl) hne
    subst hgt
    have hpos : 0 < l.length := List.length_pos_iff.2 hne
    have hgb' : s.st.heap.get g = some (.cells (bytesV l) tB true false) := by rw [SS.get]; exact hgb
    refine ⟨_, { s with heap := (g, none) :: s.heap }, ⟨rfl, ⟨rfl, Nat.le_refl _, fun id x hid hA hx => lkT (fun e => hA (by simp [blkOf, e])) hx, fun f id hid => ?_⟩, rfl⟩, Nat.le_refl _, rfl, fun B w0 ρ args' w H ha hf => ?_⟩
    · by_cases e : g = id
      · subst e; exact lkH
      · exact lkN e (f id hid)
    obtain ⟨v1, rfl, q1⟩ := lrel_1 ha
    obtain ⟨a', rfl, h1, h2, e, h3, h4, h5⟩ := ptr_inv q1
    obtain ⟨g1, rc, lo, hi, t0, g2, g3, g4, g5, g6, g7, g8⟩ := H.blk _ _ _ hb' h3
    obtain ⟨rfl, g9⟩ := g3 rfl
    obtain ⟨o0, o1, o2⟩ := g9 rfl
    rw [ptr_at q1 h3 o0]
    obtain ⟨v0, r0, r1⟩ := g8 1 _ rfl
    obtain ⟨a2, c2, rfl, hs⟩ := slice_inv r1
    rw [o0] at r0
    obtain ⟨s1, s2, e2, s3, s4, s5⟩ := hs.resolve_right (fun q => by have := q.2.1; omega)
    obtain ⟨k1, rc2, lo2, hi2, t2, k2, k3, k4, k5, k6, k7, k8⟩ := H.blk _ _ _ hgb' s3
    obtain ⟨rfl, -⟩ := k3 rfl
    rcases s5 with ⟨s5, -⟩ | ⟨-, s6, s7, s8, s9⟩
    · rw [k1] at s5; cases s5
    have s10 : a2.off = e2.off := (s9.resolve_left (by omega)).trans (Nat.add_zero _)
    obtain ⟨x2, y2, z2⟩ := a2
    simp only at s2 s4 s10
    subst s2 s4 s10
    have c1 : w.drew.cell? ⟨e.blk, 1, none⟩ = some (.slice (some ⟨e2.blk, e2.off, none⟩) l.length c2) := by
      have : w.drew.heap[e.blk]? = some (.cells ⟨rc⟩ tBl (lo, hi)) := g2
      simpa [World.cell?, this] using r0
    have k2' : w.drew.heap[e2.blk]? = some (.cells ⟨rc2⟩ tB (lo2, hi2)) := k2
    rw [bytesV_len] at k6
    refine (str_first Tryz.lays169 Tryz.Builder_Extra_169 e.blk w (.string ⟨l.toArray⟩) (w.drew.freeze ⟨e2.blk, e2.off, none⟩ l.length) (some ⟨e2.blk, e2.off, none⟩) l.length c2 c1 (some ⟨e2.blk, e2.off, none⟩) (Lib.run_unsafeSliceData_row _ _ _ _ _ _ (by omega))
      (run_strAt Tryz.lays169.t127 Tryz.Builder_Extra_169.cellsByte e2.blk e2.off rc2.length (by simp [World.shape?, k2']; rfl) l hne (by omega) hl (fun j x hx => ?_))).mono fun x w' hx => ?_
    · have hj := lt_of_get hx
      obtain ⟨v', p1, p2⟩ := k8 j _ (bytesV_get' hx)
      rw [int_inv p2] at p1
      have ea : (⟨e2.blk, e2.off, none⟩ : Addr).add j = ⟨e2.blk, e2.off + j, none⟩ := by
        unfold Addr.add
        split
        · rename_i q; subst q; rfl
        · rfl
      rw [ea]
      simpa [World.cell?, k2'] using p1
    obtain ⟨rfl, rfl⟩ := hx
    have hfz : ∀ k, k ≠ e2.blk → (w.drew.freeze ⟨e2.blk, e2.off, none⟩ l.length).heap[k]? = w.drew.heap[k]? := fun k hk => by
      unfold World.freeze
      split
      · rfl
      · simp [Array.getElem?_modify, Ne.symm hk]
    have hfs : (w.drew.freeze ⟨e2.blk, e2.off, none⟩ l.length).heap.size = w.drew.heap.size := by
      unfold World.freeze
      split <;> simp
    refine ⟨_, ρ, rfl, .string _, H.drew.kill s3 hgb' rfl (fun i => ?_) rfl hfs hfz ?_ ?_ ?_, .refl _ _ _⟩
    · rw [SS.get, SS.get]
      show lookH ((g, none) :: s.heap) i = _
      by_cases q : i = g
      · subst q; rw [if_pos rfl]; exact lkH
      · rw [if_neg q]
        simp only [lookH, beqF (Ne.symm q), cond_false]
    all_goals (unfold World.freeze; split <;> rfl)

/-- A text's bytes behind bytes of one's own. -/
theorem app_str {P : Program} {T : TL} {s : SS} {K : RR → Prop} {x y : Operand} {e : TypeId} {base : Option Addr} {a l : List UInt8} {m : Nat} (ho : Own e s base a) (hm : m = a.length) (hx : opd T s.gl x = some (.slice base m 0)) (hy : opd T s.gl y = some (str l)) (h0 : 0 < l.length) (hb : m + l.length ≤ 1073741824)
    (h : ∀ s' : SS, Own e s' (some ⟨s.next, 0, none⟩) (a ++ l) → Chg s s' (blkOf base) → s'.next = s.next + 1 → K (.eff (.slice (some ⟨s.next, 0, none⟩) (m + l.length) 0) s')) : wN P (.app e 1 1 x y) T s K := by
  simp only [wN, hx, hy, wSrc]
  intro new hnew
  subst hnew
  exact appB_own ho hm rfl h0 (by omega) h
theorem app_str0 {P : Program} {T : TL} {s : SS} {K : RR → Prop} {x y : Operand} {e : TypeId} {base : Option Addr} {a : List UInt8} {m : Nat} (ho : Own e s base a) (hn : a = [] → base = none) (hm : m = a.length) (hx : opd T s.gl x = some (.slice base m 0)) (hy : opd T s.gl y = some (str [])) (hb : m ≤ 1073741824)
    (h : K (.val (.slice base m 0))) : wN P (.app e 1 1 x y) T s K := by
  simp only [wN, hx, hy, wSrc]
  intro new hnew
  subst hnew
  refine ⟨⟨by simp; omega, by simp; omega, rfl, rfl⟩, ?_⟩
  cases base with
  | none =>
    obtain rfl : a = [] := ho
    simp only [List.length_nil] at hm
    subst hm
    exact ⟨fun _ => ⟨rfl, h⟩, fun q => by simp at q⟩
  | some q =>
    obtain ⟨b2, off, sp⟩ := q
    obtain ⟨rfl, rfl, h3, g, h4, h5⟩ := ho
    have hg : g = true := by
      cases g with
      | true => rfl
      | false => have := hn (h5 rfl); cases this
    subst hg
    simp only [h4]
    exact ⟨fun _ => h, fun q => by simp at q⟩

theorem bWrite_w {s : SS} {b : Nat} {W : Option Addr} {l m : List UInt8} (h : Bld s b W l) (hl : l.length + m.length ≤ 1000000000) : CallW pr n_strings_Builder_WriteString [.pointer (some ⟨b, 0, none⟩), str m] s fun v s' =>
    ∃ W', v = .tuple ⟨[.int .i64 m.length, .nilIface]⟩ ∧ Bld s' b W' (l ++ m) ∧ Chg s s' (b :: blkOf W) ∧ ∀ id ∈ blkOf W', id ∈ blkOf W ∨ s.next ≤ id := by
  obtain ⟨p, hb, hp⟩ := h.cell
  refine CallW.run good ok_strings_Builder_WriteString (by simp) rfl ?_
  (try refine pSeq ?_); (repeat refine sb ?_)
  refine (copyCheck_w hb hp h.lt).mono fun v s1 q => ?_
  obtain ⟨rfl, hb1, c1, n1⟩ := q
  have own1 : Own tB s1 W l := h.own.chg c1 (fun id hid q => h.off id hid (by simpa using q))
  have lt1 : b < s1.next := by rw [n1]; exact h.lt
  (repeat refine sb ?_)
  refine ld1_is rfl hb1 rfl ?_
  (repeat refine sb ?_)
  by_cases hm : m = []
  · subst hm
    refine app_str0 own1 h.nil rfl rfl rfl (by omega) ?_
    (repeat refine sb ?_)
    refine st_abs (cs' := [.pointer (some ⟨b, 0, none⟩), .slice W l.length 0]) rfl rfl hb1 lt1 rfl rfl fun s2 e2 c2 n2 => ?_
    (repeat refine sb ?_)
    intro n hn
    (repeat refine sb ?_)
    rw [hn]
    have own2 := own1.chg c2 (fun id hid q => h.off id hid (by simpa using q))
    refine ⟨W, rfl, ⟨by rw [n2]; exact lt1, ⟨_, by rw [List.append_nil]; exact e2, .inr rfl⟩, by rw [List.append_nil]; exact own2, fun e => h.nil (by simpa using e)⟩, ?_, fun id hid => .inl hid⟩
    exact c1.trans' c2 (fun id q _ => by simp at q; simp [q]) (fun id q _ => by simp at q; simp [q])
  · have hpos : 0 < m.length := List.length_pos_iff.2 hm
    refine app_str own1 rfl rfl rfl hpos (by omega) fun s2 o2 c2 n2 => ?_
    have hb2 := c2.blk _ _ lt1 (fun q => h.off _ q rfl) hb1
    (repeat refine sb ?_)
    refine st_abs (cs' := [.pointer (some ⟨b, 0, none⟩), .slice (some ⟨s1.next, 0, none⟩) (l.length + m.length) 0]) rfl rfl hb2 (by omega) rfl rfl fun s3 e3 c3 n3 => ?_
    (repeat refine sb ?_)
    intro n hn
    (repeat refine sb ?_)
    rw [hn]
    refine ⟨some ⟨s1.next, 0, none⟩, rfl, ⟨by omega, ⟨_, by rw [List.length_append]; exact e3, .inr rfl⟩, o2.chg c3 (fun id hid q => by simp [blkOf] at hid q; omega), fun e => absurd e (by simp [hm])⟩, ?_, ?_⟩
    · refine (c1.trans' c2 (C := b :: blkOf W) (fun id q _ => by simp at q; simp [q]) (fun id q _ => by simp [q])).trans' c3 (fun id q _ => q) (fun id q _ => by simp at q; simp [q])
    · intro id hid
      simp only [blkOf, List.mem_singleton] at hid
      exact .inr (by omega)
end Go.Vf.S
end
section
/- The text that entries have: Text. -/
namespace Go.Vf.S
open Go Go.Vf Go.Proofs Go.RowKit
attribute [local irreducible] wSeq wRow wp wG
set_option linter.unusedVariables false
set_option linter.unusedSimpArgs false
set_option maxRecDepth 10000

/-- Values, as they stand behind a key. -/
def vaT : UInt8 → List (List UInt8) → List UInt8
  | _, [] => []
  | c, w :: r => c :: 32 :: qtF w ++ vaT 44 r
def enT (k : List UInt8) (vs : List (List UInt8)) : List UInt8 := qtF k ++ vaT 58 vs ++ [10]
def txE (es : List Ent) : List UInt8 := es.flatMap fun e => enT e.k e.vs
theorem vaT_snoc : ∀ (c : UInt8) (ws : List (List UInt8)) (w : List UInt8), vaT c (ws ++ [w]) = vaT c ws ++ (if ws = [] then c else 44) :: 32 :: qtF w
  | c, [], w => by simp [vaT]
  | c, v :: r, w => by
    rw [List.cons_append, vaT, vaT_snoc 44 r w, vaT]
    by_cases h : r = []
    · subst h; simp [vaT]
    · rw [if_neg h, if_neg (by simp)]; simp
/-- A row of texts that a slice reads. -/
def TsR (s : SS) (W : Option Addr) (ws : List (List UInt8)) : Prop := ws = [] ∨ ∃ b t g r, W = some ⟨b, 0, none⟩ ∧ b < s.next ∧ ∃ cs, lookH s.heap b = some (.cells cs t g r) ∧ ∀ (i : Nat) x, ws[i]? = some x → cs[i]? = some (str x)
theorem TsR.nil {s s' : SS} {W : Option Addr} {ws : List (List UInt8)} (h : TsR s W ws) (c : Chg s s' []) : TsR s' W ws := by
  rcases h with h | ⟨b, t, g, r, rfl, h1, cs, h2, h3⟩
  · exact .inl h
  · exact .inr ⟨b, t, g, r, rfl, Nat.lt_of_lt_of_le h1 c.next, cs, c.blk _ _ h1 (by simp) h2, h3⟩
theorem TsO.rd {s : SS} {W : Option Addr} {ws : List (List UInt8)} (h : TsO s W ws) : TsR s W ws := by
  cases W with
  | none => exact .inl (List.eq_nil_of_length_eq_zero h.2.1)
  | some a =>
    obtain ⟨b, off, sp⟩ := a
    obtain ⟨rfl, rfl, h3, g, h4, _⟩ := h
    exact .inr ⟨b, _, _, _, rfl, h3, _, h4, fun i x hx => strV_get hx⟩
/-- Entries that a slice reads, wherever it begins. -/
def EsQ (s : SS) (W : Option Addr) (xs : List EnV) : Prop := xs = [] ∨ ∃ b off t g r cs, W = some ⟨b, off, none⟩ ∧ b < s.next ∧ lookH s.heap b = some (.cells cs t g r) ∧ ∀ (i : Nat) x, xs[i]? = some x → takeN 3 (cs.drop (off + i * 3)) = some (enC x)
theorem EsQ.nil {s s' : SS} {W : Option Addr} {xs : List EnV} (h : EsQ s W xs) (c : Chg s s' []) : EsQ s' W xs := by
  rcases h with h | ⟨b, off, t, g, r, cs, rfl, h1, h2, h3⟩
  · exact .inl h
  · exact .inr ⟨b, off, t, g, r, cs, rfl, Nat.lt_of_lt_of_le h1 c.next, c.blk _ _ h1 (by simp) h2, h3⟩
structure TxIx where
  i : Nat
  W : Option Addr
  s : SS
theorem txE_take {xs : List EnV} {i : Nat} {x : EnV} (h : xs[i]? = some x) : txE ((xs.take (i + 1)).map (·.e)) = txE ((xs.take i).map (·.e)) ++ enT x.e.k x.e.vs := by
  unfold txE
  rw [List.take_add_one, h, List.map_append, List.flatMap_append]
  simp
theorem txE_pre {xs : List EnV} {i : Nat} : (txE ((xs.take i).map (·.e))).length ≤ (txE (xs.map (·.e))).length := by
  have : txE (xs.map (·.e)) = txE ((xs.take i).map (·.e)) ++ txE ((xs.drop i).map (·.e)) := by
    unfold txE
    rw [← List.flatMap_append, ← List.map_append, List.take_append_drop]
  rw [this, List.length_append]
  omega
theorem vaT_pre (c : UInt8) (ws : List (List UInt8)) (j : Nat) : (vaT c (ws.take j)).length ≤ (vaT c ws).length := by
  induction ws generalizing c j with
  | nil => simp
  | cons w r ih =>
    cases j with
    | zero => simp [vaT]
    | succ j =>
      rw [List.take_succ_cons, vaT, vaT]
      have := ih 44 j
      simp only [List.length_append, List.length_cons]
      omega
set_option maxHeartbeats 2000000 in
theorem text13_w {s : SS} {W : Option Addr} {cw : Nat} {xs : List EnV} (f : Fine s) (hx : EsQ s W xs) (hn : xs.length ≤ 1000) (hv : ∀ x ∈ xs, TsR s x.W x.e.vs ∧ asc x.e.k ∧ x.e.k.length ≤ 100000 ∧ x.e.vs.length ≤ 1000 ∧ ∀ w ∈ x.e.vs, asc w ∧ w.length ≤ 100000) (hsz : (txE (xs.map (·.e))).length ≤ 1000000) :
    CallW pr n_lines_Text [.slice W xs.length cw] s fun v s' => v = str (txE (xs.map (·.e))) ∧ Chg s s' [] := by
  refine CallW.run good ok_lines_Text (by simp) rfl ?_
  have B0 := Bld.new s
  (try refine pSeq ?_); (repeat refine sb ?_)
  refine pLoop (MW.head good (fun x : TxIx => xs.length - x.i) (fun x => x.i ≤ xs.length ∧ Bld x.s s.next x.W (txE ((xs.take x.i).map (·.e))) ∧ Chg s x.s [] ∧ ∀ id ∈ blkOf x.W, s.next ≤ id) (fun x => [(3, ptrV s.next), (9, .slice W xs.length cw), (10, .int .i64 (xs.length : Int)), (11, .int .i64 (x.i : Int))]) (fun x => x.s) ⟨0, none, _⟩ ⟨Nat.zero_le _, B0, .new _, by simp [blkOf]⟩ (Wk.same ⟨rfl, rfl, rfl, rfl, trivial⟩) ?_)
  rintro ⟨i, B, s1⟩ ⟨hi, hB, c1, hBn⟩
  dsimp only at hi hB c1 hBn ⊢
  (repeat refine sb ?_)
  intro q hq
  by_cases hlt : i < xs.length
  · obtain rfl : q = true := by rw [hq]; simp; omega
    obtain ⟨x, hxi⟩ : ∃ x, xs[i]? = some x := ⟨_, List.getElem?_eq_getElem hlt⟩
    obtain ⟨hvT, hka, hkl, hvn, hvw⟩ := hv x (List.mem_of_getElem? hxi)
    have hx1 := hx.nil c1
    obtain ⟨b, off, tb, g, r, cs, rfl, lb, hb, hcs⟩ := hx1.resolve_left (fun e => by rw [e] at hlt; simp at hlt)
    have hpre := txE_pre (xs := xs) (i := i + 1)
    rw [txE_take hxi] at hpre
    have hen : (enT x.e.k x.e.vs).length = (qtF x.e.k).length + (vaT 58 x.e.vs).length + 1 := by unfold enT; simp; omega
    rw [List.length_append, hen] at hpre
    generalize hP : txE ((xs.take i).map (·.e)) = P at *
    (repeat refine sb ?_)
    refine ⟨by omega, ?_⟩
    intro m hm o ho
    obtain rfl : m = i := by omega
    (repeat refine sb ?_)
    refine ldN_is rfl hb (by rw [ho]; exact hcs m x hxi) ?_
    (repeat refine sb ?_)
    refine st_abs (cs' := enC x) rfl rfl lkH (Nat.lt_succ_self _) rfl rfl fun s2 e2 c2 n2 => ?_
    have n2 : s2.next = s1.next + 1 := n2
    have c2 : Chg s1 s2 [] := (Chg.new []).fresh c2 (by simp)
    have hB2 := hB.chg c2 (by simp) (fun _ _ q => by cases q)
    (repeat refine sb ?_)
    refine ldS_is (l := x.e.k) rfl e2 rfl ?_
    (repeat refine sb ?_)
    refine (quote13_w ((c1.nil c2).fine f) hkl hka).mono fun v s3 q => ?_
    obtain ⟨rfl, c3⟩ := q
    have hB3 := hB2.chg c3 (by simp) (fun _ _ q => by cases q)
    have e3 := c3.blk _ _ (show s1.next < s2.next by omega) (by simp) e2
    (repeat refine sb ?_)
    refine (bWrite_w hB3 (by omega)).mono fun v s4 q => ?_
    obtain ⟨B4, rfl, hB4, c4, hn4⟩ := q
    have lB := hB.lt
    have n3 := c3.next
    have hne : ∀ id ∈ s.next :: blkOf B, id ≠ s1.next := fun id q => by
      rcases List.mem_cons.1 q with rfl | q
      · omega
      · have := hB.own.lt id q; omega
    have e4 := c4.blk _ _ (show s1.next < s3.next by omega) (fun q => hne _ q rfl) e3
    have c14 : Chg s s4 [] := (c1.nil (c2.nil c3)).fresh c4 (fun id q => by
      rcases List.mem_cons.1 q with rfl | q
      · exact Nat.le_refl _
      · exact hBn id q)
    have hBn4 : ∀ id ∈ blkOf B4, s.next ≤ id := fun id q => by
      rcases hn4 id q with q | q
      · exact hBn id q
      · omega
    (repeat refine sb ?_)
    refine ld1_is rfl e4 rfl ?_
    (repeat refine sb ?_)
    refine pLoop (MW.head good (fun y : TxIx => x.e.vs.length - y.i) (fun y => y.i ≤ x.e.vs.length ∧ Bld y.s s.next y.W (P ++ qtF x.e.k ++ vaT 58 (x.e.vs.take y.i)) ∧ Chg s y.s [] ∧ ∀ id ∈ blkOf y.W, s.next ≤ id)
      (fun y => [(3, ptrV s.next), (6, str [if y.i = 0 then 58 else 44]), (9, .slice (some ⟨b, off, none⟩) xs.length cw), (10, .int .i64 (xs.length : Int)), (11, .int .i64 (m : Int)), (20, .slice x.W x.e.vs.length 0), (21, .int .i64 (x.e.vs.length : Int)), (22, .int .i64 (y.i : Int))]) (fun y => y.s) ⟨0, B4, s4⟩ ⟨Nat.zero_le _, by show Bld s4 s.next B4 (P ++ qtF x.e.k ++ vaT 58 []); rw [show vaT 58 [] = [] from rfl, List.append_nil]; exact hB4, c14, hBn4⟩ (Wk.same ⟨rfl, rfl, rfl, rfl, rfl, rfl, rfl, rfl, trivial⟩) ?_)
    rintro ⟨j, C, s5⟩ ⟨hj, hC, c5, hCn⟩
    dsimp only at hj hC c5 hCn ⊢
    (repeat refine sb ?_)
    intro q hq
    by_cases hjl : j < x.e.vs.length
    · obtain rfl : q = true := by rw [hq]; simp; omega
      obtain ⟨w, hw⟩ : ∃ w, x.e.vs[j]? = some w := ⟨_, List.getElem?_eq_getElem hjl⟩
      obtain ⟨hwa, hwl⟩ := hvw w (List.mem_of_getElem? hw)
      have hvT5 := hvT.nil c5
      obtain ⟨bv, tv, gv, rv, hWv, lv, cv, hbv, hcv⟩ := hvT5.resolve_left (fun e => by rw [e] at hjl; simp at hjl)
      have hst : vaT 58 (x.e.vs.take (j + 1)) = vaT 58 (x.e.vs.take j) ++ [if j = 0 then 58 else 44] ++ [32] ++ qtF w := by
        rw [List.take_add_one, hw]
        show vaT 58 (x.e.vs.take j ++ [w]) = _
        rw [vaT_snoc]
        have : (x.e.vs.take j = []) ↔ j = 0 := by
          rw [List.take_eq_nil_iff]
          constructor
          · rintro (h | h)
            · exact h
            · rw [h] at hjl; simp at hjl
          · exact .inl
        by_cases h0 : j = 0
        · rw [if_pos (this.2 h0), if_pos h0]; simp
        · rw [if_neg (fun q => h0 (this.1 q)), if_neg h0]; simp
      have hvp := vaT_pre 58 x.e.vs (j + 1)
      rw [hst] at hvp
      simp only [List.length_append, List.length_singleton] at hvp
      rw [hWv]
      (repeat refine sb ?_)
      refine ⟨by omega, ?_⟩
      intro m2 hm2 o2 ho2
      obtain rfl : m2 = j := by omega
      (repeat refine sb ?_)
      refine ldS_is (l := w) rfl hbv (by rw [ho2, Nat.zero_add, Nat.mul_one]; exact hcv m2 w hw) ?_
      (repeat refine sb ?_)
      refine ⟨by simp, ?_⟩
      intro w1 hw1
      subst hw1
      (repeat refine sb ?_)
      refine (quote13_w (c5.fine f) hwl hwa).mono fun v s6 q => ?_
      obtain ⟨rfl, c6⟩ := q
      have hC6 := hC.chg c6 (by simp) (fun _ _ q => by cases q)
      (repeat refine sb ?_)
      refine ⟨by simp only [List.length_append, List.length_singleton]; omega, ?_⟩
      intro w1 hw1
      subst hw1
      (repeat refine sb ?_)
      refine (bWrite_w hC6 (by simp only [List.length_append, List.length_singleton]; omega)).mono fun v s7 q => ?_
      obtain ⟨C7, rfl, hC7, c7, hn7⟩ := q
      have n6 := c6.next
      have n5 := c5.next
      (repeat refine sb ?_)
      intro z hz
      rw [i64_id (by omega)] at hz
      (repeat refine sb ?_)
      refine ⟨⟨m2 + 1, C7, s7⟩, ⟨by show m2 + 1 ≤ x.e.vs.length; omega, ?_, (c5.nil c6).fresh c7 (fun id q => by
        rcases List.mem_cons.1 q with rfl | q
        · exact Nat.le_refl _
        · exact hCn id q), fun id q => by
        rcases hn7 id q with q | q
        · exact hCn id q
        · omega⟩, by show x.e.vs.length - (m2 + 1) < x.e.vs.length - m2; omega, Wk.same ⟨rfl, by show look _ _ = some (str [if m2 + 1 = 0 then 58 else 44]); rw [if_neg (Nat.succ_ne_zero m2)]; rfl, rfl, rfl, rfl, rfl, rfl, ?_, trivial⟩⟩
      · show Bld s7 s.next C7 (P ++ qtF x.e.k ++ vaT 58 (x.e.vs.take (m2 + 1)))
        rw [hst]
        simpa [List.append_assoc] using hC7
      · rw [show z = ((m2 + 1 : Nat) : Int) by omega]; rfl
    · obtain rfl : q = false := by rw [hq]; simp; omega
      obtain rfl : j = x.e.vs.length := by omega
      rw [List.take_length] at hC
      (repeat refine sb ?_)
      refine (bWrite_w hC (by simp only [List.length_append, List.length_singleton]; omega)).mono fun v s7 q => ?_
      obtain ⟨C7, rfl, hC7, c7, hn7⟩ := q
      have n5 := c5.next
      (repeat refine sb ?_)
      intro z hz
      rw [i64_id (by omega)] at hz
      (repeat refine sb ?_)
      refine ⟨⟨m + 1, C7, s7⟩, ⟨by show m + 1 ≤ xs.length; omega, ?_, c5.fresh c7 (fun id q => by
        rcases List.mem_cons.1 q with rfl | q
        · exact Nat.le_refl _
        · exact hCn id q), fun id q => by
        rcases hn7 id q with q | q
        · exact hCn id q
        · omega⟩, by show xs.length - (m + 1) < xs.length - m; omega, Wk.same ⟨rfl, rfl, rfl, ?_, trivial⟩⟩
      · show Bld s7 s.next C7 (txE ((xs.take (m + 1)).map (·.e)))
        rw [txE_take hxi, hP]
        unfold enT
        simpa [List.append_assoc] using hC7
      · rw [show z = ((m + 1 : Nat) : Int) by omega]; rfl
  · obtain rfl : q = false := by rw [hq]; simp; omega
    obtain rfl : i = xs.length := by omega
    rw [List.take_length] at hB
    (repeat refine sb ?_)
    refine (bString_w hB (by omega)).mono fun v s2 q => ?_
    obtain ⟨rfl, c2, n2⟩ := q
    (repeat refine sb ?_)
    exact ⟨rfl, c1.fresh c2 hBn⟩
end Go.Vf.S
end

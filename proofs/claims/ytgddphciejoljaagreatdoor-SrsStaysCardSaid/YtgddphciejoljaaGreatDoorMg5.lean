import Derived.Test.YtgddphciejoljaaGreatDoorMg4
import Derived.Test.YtgddphciejoljaaGreatDoorMg2
import Derived.Test.YtgddphciejoljaaGreatDoorMg1
import Derived.Shelf.Vars
import Derived.Handed
import Derived.Lib.LaidU8
import Derived.Lib.SmallJoins
section
/- The law SrsStays, from any state in which the tables lie. -/
namespace Go.Vf.S
open Go Go.Vf Go.Proofs Go.RowKit
attribute [local irreducible] wSeq wRow wp wG hmac tellF pstF tagF agF mayF domF cmayF nsF oursF isF fwdF revF firstF
set_option linter.unusedVariables false
set_option linter.unusedSimpArgs false
set_option maxRecDepth 10000



set_option maxHeartbeats 8000000 in
theorem lsstays_w {s : SS} {a d x : List UInt8} {day : Int} (hG : Gk s) (hV : Gv s) (hF : Fine s) (hd : day ≤ 9223372036854775807) : CallW pr n_law12_SrsStays [adV a d, str x, .int .i64 day] s fun v s' => v = .bool true := by
  refine CallW.run good ok_law12_SrsStays (by simp) rfl ?_
  obtain ⟨e3, c0, f0⟩ := new1_at hF (.cells (adC2 a d) tAd false false)
  (try refine pSeq ?_); (repeat(first|refine sb ?_|refine kNo ?_|refine gOn rfl ?_|refine gOff rfl rfl ?_|refine gTup rfl ?_))
  refine ldN_is rfl e3 rfl ?_
  (repeat(first|refine sb ?_|refine kNo ?_|refine gOn rfl ?_|refine gOff rfl rfl ?_|refine gTup rfl ?_))
  refine (short12_w f0 (a := a) (d := d)).mono fun v s0 q => ?_
  obtain ⟨rfl, c1⟩ := q
  have hAl : (a.take 300).length ≤ 300 := by rw [List.length_take]; omega
  have hDl : (d.take 300).length ≤ 300 := by rw [List.length_take]; omega
  generalize a.take 300 = A at *
  generalize d.take 300 = D at *
  replace e3 := c1.blk _ _ (show s.next < s.next + 1 by omega) (by simp) e3
  have n1 := c1.next
  replace n1 : s.next + 1 ≤ s0.next := n1
  replace c1 := c0.nil c1
  clear c0 f0
  (repeat(first|refine sb ?_|refine kNo ?_|refine gOn rfl ?_|refine gOff rfl rfl ?_|refine gTup rfl ?_))
  refine st_abs (cs' := adC2 A D) rfl rfl e3 (show s.next < s0.next by omega) rfl rfl fun s1 e3 c2 n2 => ?_
  replace n2 : s1.next = s0.next := n2
  have cs1 : Chg s s1 [] := c1.fresh c2 (by simp)
  have fs1 := cs1.fine hF
  clear c1 c2
  (repeat(first|refine sb ?_|refine kNo ?_|refine gOn rfl ?_|refine gOff rfl rfl ?_|refine gTup rfl ?_))
  refine (coder_w fs1 (x := x) (dm := bEx)).mono fun v s2 q => ?_
  obtain ⟨b1, rfl, r1, hb1, cs2⟩ := q
  have ns2 := cs2.next
  replace e3 := cs2.blk _ _ (show s.next < s1.next by omega) (by simp) e3
  have fs2 := cs2.fine fs1
  replace cs2 := cs1.nil cs2
  obtain ⟨k0, k1, k2⟩ := new1_at fs2 (.cells [str [], .slice none 0 0] tCo false false)
  (repeat(first|refine sb ?_|refine kNo ?_|refine gOn rfl ?_|refine gOff rfl rfl ?_|refine gTup rfl ?_))
  refine st_abs (cs' := coC x bEx b1) rfl rfl k0 (Nat.lt_succ_self _) rfl rfl fun s3 e7 cs3 ns3 => ?_
  replace ns3 : s3.next = s2.next + 1 := ns3
  replace cs3 : Chg s2 s3 [] := k1.fresh cs3 (by simp)
  have fs3 := cs3.fine fs2
  replace e3 := cs3.blk _ _ (show s.next < s2.next by omega) (by simp) e3
  replace r1 := r1.chg cs3 (by simp)
  replace cs3 := cs2.nil cs3
  clear k0 k1 k2
  (repeat(first|refine sb ?_|refine kNo ?_|refine gOn rfl ?_|refine gOff rfl rfl ?_|refine gTup rfl ?_))
  refine ldN_is rfl e7 rfl ?_
  (repeat(first|refine sb ?_|refine kNo ?_|refine gOn rfl ?_|refine gOff rfl rfl ?_|refine gTup rfl ?_))
  refine (fwd1_w (x := x) (dm := bEx) (a := []) (d := []) (hG.nil cs3) fs3 r1 (by decide) (by simp) (by simp) hd).mono fun v s4 q => ?_
  obtain ⟨rfl, cs4⟩ := q
  rw [fwd_null]
  have ns4 := cs4.next
  replace e3 := cs4.blk _ _ (show s.next < s3.next by omega) (by simp) e3
  replace e7 := cs4.blk _ _ (show s2.next < s3.next by omega) (by simp) e7
  replace r1 := r1.chg cs4 (by simp)
  have fs4 := cs4.fine fs3
  replace cs4 := cs3.nil cs4
  obtain ⟨k0, k1, k2⟩ := new1_at fs4 (.cells (adC2 [] []) tAd false false)
  (repeat(first|refine sb ?_|refine kNo ?_|refine gOn rfl ?_|refine gOff rfl rfl ?_|refine gTup rfl ?_))
  refine st_abs (cs' := adC2 [] []) rfl rfl k0 (Nat.lt_succ_self _) rfl rfl fun s5 e8 cs5 ns5 => ?_
  replace ns5 : s5.next = s4.next + 1 := ns5
  replace cs5 : Chg s4 s5 [] := k1.fresh cs5 (by simp)
  have fs5 := cs5.fine fs4
  replace e3 := cs5.blk _ _ (show s.next < s4.next by omega) (by simp) e3
  replace e7 := cs5.blk _ _ (show s2.next < s4.next by omega) (by simp) e7
  replace r1 := r1.chg cs5 (by simp)
  replace cs5 := cs4.nil cs5
  clear k0 k1 k2
  (repeat(first|refine sb ?_|refine kNo ?_|refine gOn rfl ?_|refine gOff rfl rfl ?_|refine gTup rfl ?_))
  refine ldN_is rfl e3 rfl ?_
  (repeat(first|refine sb ?_|refine kNo ?_|refine gOn rfl ?_|refine gOff rfl rfl ?_|refine gTup rfl ?_))
  refine (sender_w (hV.chg cs5) fs5 (a := A) (d := D)).mono fun v s6 q => ?_
  obtain ⟨rfl, cs6⟩ := q
  have ns6 := cs6.next
  replace e3 := cs6.blk _ _ (show s.next < s5.next by omega) (by simp) e3
  replace e7 := cs6.blk _ _ (show s2.next < s5.next by omega) (by simp) e7
  replace e8 := cs6.blk _ _ (show s4.next < s5.next by omega) (by simp) e8
  replace r1 := r1.chg cs6 (by simp)
  have fs6 := cs6.fine fs5
  replace cs6 := cs5.nil cs6
  have hS := snd_Sn A D
  generalize sndA A = L at *
  generalize sndD D = D2 at *
  obtain ⟨p1, p2, p3⟩ := hS.pl
  obtain ⟨k0, k1, k2⟩ := new1_at fs6 (.cells (adC2 [] []) tAd false false)
  (repeat(first|refine sb ?_|refine kNo ?_|refine gOn rfl ?_|refine gOff rfl rfl ?_|refine gTup rfl ?_))
  refine st_abs (cs' := adC2 L bEU) rfl rfl k0 (Nat.lt_succ_self _) rfl rfl fun s7 e10 cs7 ns7 => ?_
  replace ns7 : s7.next = s6.next + 1 := ns7
  replace cs7 : Chg s6 s7 [] := k1.fresh cs7 (by simp)
  have fs7 := cs7.fine fs6
  replace e3 := cs7.blk _ _ (show s.next < s6.next by omega) (by simp) e3
  replace e7 := cs7.blk _ _ (show s2.next < s6.next by omega) (by simp) e7
  replace e8 := cs7.blk _ _ (show s4.next < s6.next by omega) (by simp) e8
  replace r1 := r1.chg cs7 (by simp)
  replace cs7 := cs6.nil cs7
  clear k0 k1 k2
  (repeat(first|refine sb ?_|refine kNo ?_|refine gOn rfl ?_|refine gOff rfl rfl ?_|refine gTup rfl ?_))
  refine ldN_is rfl e7 rfl ?_
  (repeat(first|refine sb ?_|refine kNo ?_|refine gOn rfl ?_|refine gOff rfl rfl ?_|refine gTup rfl ?_))
  refine ldN_is rfl e10 rfl ?_
  (repeat(first|refine sb ?_|refine kNo ?_|refine gOn rfl ?_|refine gOff rfl rfl ?_|refine gTup rfl ?_))
  refine (fwd1_w (x := x) (dm := bEx) (a := L) (d := bEU) (hG.nil cs7) fs7 r1 (by decide) (by omega) (by decide) hd).mono fun v s8 q => ?_
  obtain ⟨rfl, cs8⟩ := q
  rw [fwd_own hS]
  have ns8 := cs8.next
  replace e3 := cs8.blk _ _ (show s.next < s7.next by omega) (by simp) e3
  replace e7 := cs8.blk _ _ (show s2.next < s7.next by omega) (by simp) e7
  replace e8 := cs8.blk _ _ (show s4.next < s7.next by omega) (by simp) e8
  replace e10 := cs8.blk _ _ (show s6.next < s7.next by omega) (by simp) e10
  replace r1 := r1.chg cs8 (by simp)
  have fs8 := cs8.fine fs7
  replace cs8 := cs7.nil cs8
  obtain ⟨k0, k1, k2⟩ := new1_at fs8 (.cells (adC2 [] []) tAd false false)
  (repeat(first|refine sb ?_|refine kNo ?_|refine gOn rfl ?_|refine gOff rfl rfl ?_|refine gTup rfl ?_))
  refine st_abs (cs' := adC2 L bEU) rfl rfl k0 (Nat.lt_succ_self _) rfl rfl fun s9 e11 cs9 ns9 => ?_
  replace ns9 : s9.next = s8.next + 1 := ns9
  replace cs9 : Chg s8 s9 [] := k1.fresh cs9 (by simp)
  have fs9 := cs9.fine fs8
  replace e3 := cs9.blk _ _ (show s.next < s8.next by omega) (by simp) e3
  replace e7 := cs9.blk _ _ (show s2.next < s8.next by omega) (by simp) e7
  replace e8 := cs9.blk _ _ (show s4.next < s8.next by omega) (by simp) e8
  replace e10 := cs9.blk _ _ (show s6.next < s8.next by omega) (by simp) e10
  replace r1 := r1.chg cs9 (by simp)
  replace cs9 := cs8.nil cs9
  clear k0 k1 k2
  (repeat(first|refine sb ?_|refine kNo ?_|refine gOn rfl ?_|refine gOff rfl rfl ?_|refine gTup rfl ?_))
  refine ldN_is rfl e7 rfl ?_
  (repeat(first|refine sb ?_|refine kNo ?_|refine gOn rfl ?_|refine gOff rfl rfl ?_|refine gTup rfl ?_))
  refine ldN_is rfl e10 rfl ?_
  (repeat(first|refine sb ?_|refine kNo ?_|refine gOn rfl ?_|refine gOff rfl rfl ?_|refine gTup rfl ?_))
  refine (rev1_w (x := x) (dm := bEx) (a := L) (d := bEU) (hG.nil cs9) fs9 r1 (by decide) (by omega) (by decide) hd).mono fun v s10 q => ?_
  obtain ⟨rfl, cs10⟩ := q
  rw [rev_own hS]
  have ns10 := cs10.next
  replace e3 := cs10.blk _ _ (show s.next < s9.next by omega) (by simp) e3
  replace e7 := cs10.blk _ _ (show s2.next < s9.next by omega) (by simp) e7
  replace e8 := cs10.blk _ _ (show s4.next < s9.next by omega) (by simp) e8
  replace e10 := cs10.blk _ _ (show s6.next < s9.next by omega) (by simp) e10
  replace e11 := cs10.blk _ _ (show s8.next < s9.next by omega) (by simp) e11
  replace r1 := r1.chg cs10 (by simp)
  have fs10 := cs10.fine fs9
  replace cs10 := cs9.nil cs10
  obtain ⟨k0, k1, k2⟩ := new1_at fs10 (.cells (adC2 [] []) tAd false false)
  (repeat(first|refine sb ?_|refine kNo ?_|refine gOn rfl ?_|refine gOff rfl rfl ?_|refine gTup rfl ?_))
  refine st_abs (cs' := adC2 [] []) rfl rfl k0 (Nat.lt_succ_self _) rfl rfl fun s11 e13 cs11 ns11 => ?_
  replace ns11 : s11.next = s10.next + 1 := ns11
  replace cs11 : Chg s10 s11 [] := k1.fresh cs11 (by simp)
  have fs11 := cs11.fine fs10
  replace e3 := cs11.blk _ _ (show s.next < s10.next by omega) (by simp) e3
  replace e7 := cs11.blk _ _ (show s2.next < s10.next by omega) (by simp) e7
  replace e8 := cs11.blk _ _ (show s4.next < s10.next by omega) (by simp) e8
  replace e10 := cs11.blk _ _ (show s6.next < s10.next by omega) (by simp) e10
  replace e11 := cs11.blk _ _ (show s8.next < s10.next by omega) (by simp) e11
  replace r1 := r1.chg cs11 (by simp)
  replace cs11 := cs10.nil cs11
  clear k0 k1 k2
  (repeat(first|refine sb ?_|refine kNo ?_|refine gOn rfl ?_|refine gOff rfl rfl ?_|refine gTup rfl ?_))
  refine ldN_is rfl e7 rfl ?_
  (repeat(first|refine sb ?_|refine kNo ?_|refine gOn rfl ?_|refine gOff rfl rfl ?_|refine gTup rfl ?_))
  refine ldN_is rfl e3 rfl ?_
  (repeat(first|refine sb ?_|refine kNo ?_|refine gOn rfl ?_|refine gOff rfl rfl ?_|refine gTup rfl ?_))
  refine (rev1_w (x := x) (dm := bEx) (a := A) (d := D) (hG.nil cs11) fs11 r1 (by decide) (by omega) (by omega) hd).mono fun v s12 q => ?_
  obtain ⟨rfl, cs12⟩ := q
  have ns12 := cs12.next
  replace e3 := cs12.blk _ _ (show s.next < s11.next by omega) (by simp) e3
  replace e7 := cs12.blk _ _ (show s2.next < s11.next by omega) (by simp) e7
  replace e8 := cs12.blk _ _ (show s4.next < s11.next by omega) (by simp) e8
  replace e10 := cs12.blk _ _ (show s6.next < s11.next by omega) (by simp) e10
  replace e11 := cs12.blk _ _ (show s8.next < s11.next by omega) (by simp) e11
  replace e13 := cs12.blk _ _ (show s10.next < s11.next by omega) (by simp) e13
  replace r1 := r1.chg cs12 (by simp)
  have fs12 := cs12.fine fs11
  replace cs12 := cs11.nil cs12
  have hri := rev_code (c := cdr x bEx) (cdr_may (by decide) dom_facts.2.2.1) A D day
  generalize revF (cdr x bEx) A D day = R at *
  obtain ⟨R1, R2, ri⟩ := R
  replace hri : ri = 1 ↔ mayF A D = false := hri
  obtain ⟨k0, k1, k2⟩ := new1_at fs12 (.cells (adC2 [] []) tAd false false)
  (repeat(first|refine sb ?_|refine kNo ?_|refine gOn rfl ?_|refine gOff rfl rfl ?_|refine gTup rfl ?_))
  refine st_abs (cs' := adC2 R1 R2) rfl rfl k0 (Nat.lt_succ_self _) rfl rfl fun s13 e15 cs13 ns13 => ?_
  replace ns13 : s13.next = s12.next + 1 := ns13
  replace cs13 : Chg s12 s13 [] := k1.fresh cs13 (by simp)
  have fs13 := cs13.fine fs12
  replace e3 := cs13.blk _ _ (show s.next < s12.next by omega) (by simp) e3
  replace e7 := cs13.blk _ _ (show s2.next < s12.next by omega) (by simp) e7
  replace e8 := cs13.blk _ _ (show s4.next < s12.next by omega) (by simp) e8
  replace e10 := cs13.blk _ _ (show s6.next < s12.next by omega) (by simp) e10
  replace e11 := cs13.blk _ _ (show s8.next < s12.next by omega) (by simp) e11
  replace e13 := cs13.blk _ _ (show s10.next < s12.next by omega) (by simp) e13
  replace r1 := r1.chg cs13 (by simp)
  replace cs13 := cs12.nil cs13
  clear k0 k1 k2
  (repeat(first|refine sb ?_|refine kNo ?_|refine gOn rfl ?_|refine gOff rfl rfl ?_|refine gTup rfl ?_))
  refine ldS_is rfl e7 rfl ?_
  (repeat(first|refine sb ?_|refine kNo ?_|refine gOn rfl ?_|refine gOff rfl rfl ?_|refine gTup rfl ?_))
  obtain ⟨k0, k1, k2, k3⟩ := new2_at fs13 (.cells (strV [bEU]) tS false false) (.cells [str [], .slice none 0 0] tCo false false)
  (repeat(first|refine sb ?_|refine kNo ?_|refine gOn rfl ?_|refine gOff rfl rfl ?_|refine gTup rfl ?_))
  refine st_abs (cs' := coC x bEU s13.next) rfl rfl k1 (Nat.lt_succ_self _) rfl rfl fun s14 e17 cs14 ns14 => ?_
  replace ns14 : s14.next = s13.next + 1 + 1 := ns14
  replace k0 := cs14.blk _ _ (show s13.next < s13.next + 1 + 1 by omega) (by simp) k0
  have r2 : RowC s14 s13.next [bEU] := ⟨by omega, k0⟩
  replace cs14 : Chg s13 s14 [] := k2.fresh cs14 (by simp)
  have fs14 := cs14.fine fs13
  replace e3 := cs14.blk _ _ (show s.next < s13.next by omega) (by simp) e3
  replace e7 := cs14.blk _ _ (show s2.next < s13.next by omega) (by simp) e7
  replace e8 := cs14.blk _ _ (show s4.next < s13.next by omega) (by simp) e8
  replace e10 := cs14.blk _ _ (show s6.next < s13.next by omega) (by simp) e10
  replace e11 := cs14.blk _ _ (show s8.next < s13.next by omega) (by simp) e11
  replace e13 := cs14.blk _ _ (show s10.next < s13.next by omega) (by simp) e13
  replace e15 := cs14.blk _ _ (show s12.next < s13.next by omega) (by simp) e15
  replace r1 := r1.chg cs14 (by simp)
  replace cs14 := cs13.nil cs14
  clear k0 k1 k2 k3
  (repeat(first|refine sb ?_|refine kNo ?_|refine gOn rfl ?_|refine gOff rfl rfl ?_|refine gTup rfl ?_))
  refine ldN_is rfl e17 rfl ?_
  (repeat(first|refine sb ?_|refine kNo ?_|refine gOn rfl ?_|refine gOff rfl rfl ?_|refine gTup rfl ?_))
  refine ldN_is rfl e10 rfl ?_
  (repeat(first|refine sb ?_|refine kNo ?_|refine gOn rfl ?_|refine gOff rfl rfl ?_|refine gTup rfl ?_))
  refine (fwd1_w (x := x) (dm := bEU) (a := L) (d := bEU) (hG.nil cs14) fs14 r2 (by decide) (by omega) (by decide) hd).mono fun v s16 q => ?_
  obtain ⟨rfl, cs16⟩ := q
  rw [fwd_bad]
  have ns16 := cs16.next
  replace e3 := cs16.blk _ _ (show s.next < s14.next by omega) (by simp) e3
  replace e7 := cs16.blk _ _ (show s2.next < s14.next by omega) (by simp) e7
  replace e8 := cs16.blk _ _ (show s4.next < s14.next by omega) (by simp) e8
  replace e10 := cs16.blk _ _ (show s6.next < s14.next by omega) (by simp) e10
  replace e11 := cs16.blk _ _ (show s8.next < s14.next by omega) (by simp) e11
  replace e13 := cs16.blk _ _ (show s10.next < s14.next by omega) (by simp) e13
  replace e15 := cs16.blk _ _ (show s12.next < s14.next by omega) (by simp) e15
  replace e17 := cs16.blk _ _ (show s13.next + 1 < s14.next by omega) (by simp) e17
  replace r1 := r1.chg cs16 (by simp)
  replace r2 := r2.chg cs16 (by simp)
  have fs16 := cs16.fine fs14
  replace cs16 := cs14.nil cs16
  obtain ⟨k0, k1, k2⟩ := new1_at fs16 (.cells (adC2 [] []) tAd false false)
  (repeat(first|refine sb ?_|refine kNo ?_|refine gOn rfl ?_|refine gOff rfl rfl ?_|refine gTup rfl ?_))
  refine st_abs (cs' := adC2 [] []) rfl rfl k0 (Nat.lt_succ_self _) rfl rfl fun s17 e18 cs17 ns17 => ?_
  replace ns17 : s17.next = s16.next + 1 := ns17
  replace cs17 : Chg s16 s17 [] := k1.fresh cs17 (by simp)
  have fs17 := cs17.fine fs16
  replace e3 := cs17.blk _ _ (show s.next < s16.next by omega) (by simp) e3
  replace e7 := cs17.blk _ _ (show s2.next < s16.next by omega) (by simp) e7
  replace e8 := cs17.blk _ _ (show s4.next < s16.next by omega) (by simp) e8
  replace e10 := cs17.blk _ _ (show s6.next < s16.next by omega) (by simp) e10
  replace e11 := cs17.blk _ _ (show s8.next < s16.next by omega) (by simp) e11
  replace e13 := cs17.blk _ _ (show s10.next < s16.next by omega) (by simp) e13
  replace e15 := cs17.blk _ _ (show s12.next < s16.next by omega) (by simp) e15
  replace e17 := cs17.blk _ _ (show s13.next + 1 < s16.next by omega) (by simp) e17
  replace r1 := r1.chg cs17 (by simp)
  replace r2 := r2.chg cs17 (by simp)
  replace cs17 := cs16.nil cs17
  clear k0 k1 k2
  (repeat(first|refine sb ?_|refine kNo ?_|refine gOn rfl ?_|refine gOff rfl rfl ?_|refine gTup rfl ?_))
  refine ldN_is rfl e7 rfl ?_
  (repeat(first|refine sb ?_|refine kNo ?_|refine gOn rfl ?_|refine gOff rfl rfl ?_|refine gTup rfl ?_))
  refine ldN_is rfl e3 rfl ?_
  (repeat(first|refine sb ?_|refine kNo ?_|refine gOn rfl ?_|refine gOff rfl rfl ?_|refine gTup rfl ?_))
  refine (fwd1_w (x := x) (dm := bEx) (a := A) (d := D) (hG.nil cs17) fs17 r1 (by decide) (by omega) (by omega) hd).mono fun v s18 q => ?_
  obtain ⟨rfl, cs18⟩ := q
  have ns18 := cs18.next
  replace e3 := cs18.blk _ _ (show s.next < s17.next by omega) (by simp) e3
  replace e7 := cs18.blk _ _ (show s2.next < s17.next by omega) (by simp) e7
  replace e8 := cs18.blk _ _ (show s4.next < s17.next by omega) (by simp) e8
  replace e10 := cs18.blk _ _ (show s6.next < s17.next by omega) (by simp) e10
  replace e11 := cs18.blk _ _ (show s8.next < s17.next by omega) (by simp) e11
  replace e13 := cs18.blk _ _ (show s10.next < s17.next by omega) (by simp) e13
  replace e15 := cs18.blk _ _ (show s12.next < s17.next by omega) (by simp) e15
  replace e17 := cs18.blk _ _ (show s13.next + 1 < s17.next by omega) (by simp) e17
  replace e18 := cs18.blk _ _ (show s16.next < s17.next by omega) (by simp) e18
  replace r1 := r1.chg cs18 (by simp)
  replace r2 := r2.chg cs18 (by simp)
  have fs18 := cs18.fine fs17
  replace cs18 := cs17.nil cs18
  have hfk := fwd_code (c := cdr x bEx) (cdr_may (by decide) dom_facts.2.2.1) A D day
  generalize fwdF (cdr x bEx) A D day = R at *
  obtain ⟨S1, S2, fk⟩ := R
  replace hfk : (mayF A D = true → fk = 0 ∨ fk = 3) ∧ (mayF A D = false → ¬(A = [] ∧ D = []) → fk = 1) := hfk
  obtain ⟨k0, k1, k2⟩ := new1_at fs18 (.cells (adC2 [] []) tAd false false)
  (repeat(first|refine sb ?_|refine kNo ?_|refine gOn rfl ?_|refine gOff rfl rfl ?_|refine gTup rfl ?_))
  refine st_abs (cs' := adC2 S1 S2) rfl rfl k0 (Nat.lt_succ_self _) rfl rfl fun s19 e20 cs19 ns19 => ?_
  replace ns19 : s19.next = s18.next + 1 := ns19
  replace cs19 : Chg s18 s19 [] := k1.fresh cs19 (by simp)
  have fs19 := cs19.fine fs18
  replace e3 := cs19.blk _ _ (show s.next < s18.next by omega) (by simp) e3
  replace e7 := cs19.blk _ _ (show s2.next < s18.next by omega) (by simp) e7
  replace e8 := cs19.blk _ _ (show s4.next < s18.next by omega) (by simp) e8
  replace e10 := cs19.blk _ _ (show s6.next < s18.next by omega) (by simp) e10
  replace e11 := cs19.blk _ _ (show s8.next < s18.next by omega) (by simp) e11
  replace e13 := cs19.blk _ _ (show s10.next < s18.next by omega) (by simp) e13
  replace e15 := cs19.blk _ _ (show s12.next < s18.next by omega) (by simp) e15
  replace e17 := cs19.blk _ _ (show s13.next + 1 < s18.next by omega) (by simp) e17
  replace e18 := cs19.blk _ _ (show s16.next < s18.next by omega) (by simp) e18
  replace r1 := r1.chg cs19 (by simp)
  replace r2 := r2.chg cs19 (by simp)
  replace cs19 := cs18.nil cs19
  clear k0 k1 k2
  (repeat(first|refine sb ?_|refine kNo ?_|refine gOn rfl ?_|refine gOff rfl rfl ?_|refine gTup rfl ?_))
  refine ldN_is rfl e3 rfl ?_
  (repeat(first|refine sb ?_|refine kNo ?_|refine gOn rfl ?_|refine gOff rfl rfl ?_|refine gTup rfl ?_))
  refine (may_w (a := A) (d := D) (by omega) (by omega)).mono fun v s20 q => ?_
  obtain ⟨rfl, cs20⟩ := q
  have ns20 := cs20.next
  replace e3 := cs20.blk _ _ (show s.next < s19.next by omega) (by simp) e3
  replace e7 := cs20.blk _ _ (show s2.next < s19.next by omega) (by simp) e7
  replace e8 := cs20.blk _ _ (show s4.next < s19.next by omega) (by simp) e8
  replace e10 := cs20.blk _ _ (show s6.next < s19.next by omega) (by simp) e10
  replace e11 := cs20.blk _ _ (show s8.next < s19.next by omega) (by simp) e11
  replace e13 := cs20.blk _ _ (show s10.next < s19.next by omega) (by simp) e13
  replace e15 := cs20.blk _ _ (show s12.next < s19.next by omega) (by simp) e15
  replace e17 := cs20.blk _ _ (show s13.next + 1 < s19.next by omega) (by simp) e17
  replace e18 := cs20.blk _ _ (show s16.next < s19.next by omega) (by simp) e18
  replace e20 := cs20.blk _ _ (show s18.next < s19.next by omega) (by simp) e20
  replace r1 := r1.chg cs20 (by simp)
  replace r2 := r2.chg cs20 (by simp)
  have fs20 := cs20.fine fs19
  replace cs20 := cs19.nil cs20
  (repeat(first|refine sb ?_|refine kNo ?_|refine gOn rfl ?_|refine gOff rfl rfl ?_|refine gTup rfl ?_))
  intro q hq
  obtain rfl : q = true := by rw [hq]; rfl
  (repeat(first|refine sb ?_|refine kNo ?_|refine gOn rfl ?_|refine gOff rfl rfl ?_|refine gTup rfl ?_))
  refine ldN_is rfl e8 rfl ?_
  (repeat(first|refine sb ?_|refine kNo ?_|refine gOn rfl ?_|refine gOff rfl rfl ?_|refine gTup rfl ?_))
  intro q hq
  obtain rfl : q = true := by rw [hq]; simp
  (repeat(first|refine sb ?_|refine kNo ?_|refine gOn rfl ?_|refine gOff rfl rfl ?_|refine gTup rfl ?_))
  intro q hq
  obtain rfl : q = true := by rw [hq]; rfl
  (repeat(first|refine sb ?_|refine kNo ?_|refine gOn rfl ?_|refine gOff rfl rfl ?_|refine gTup rfl ?_))
  refine ldN_is rfl e11 rfl ?_
  (repeat(first|refine sb ?_|refine kNo ?_|refine gOn rfl ?_|refine gOff rfl rfl ?_|refine gTup rfl ?_))
  refine ldN_is rfl e10 rfl ?_
  (repeat(first|refine sb ?_|refine kNo ?_|refine gOn rfl ?_|refine gOff rfl rfl ?_|refine gTup rfl ?_))
  intro q hq
  obtain rfl : q = true := by rw [hq]; simp
  (repeat(first|refine sb ?_|refine kNo ?_|refine gOn rfl ?_|refine gOff rfl rfl ?_|refine gTup rfl ?_))
  intro q hq
  obtain rfl : q = true := by rw [hq]; rfl
  (repeat(first|refine sb ?_|refine kNo ?_|refine gOn rfl ?_|refine gOff rfl rfl ?_|refine gTup rfl ?_))
  have hm : mayF A D = true ∨ mayF A D = false := by cases mayF A D <;> simp
  rcases hm with hm | hm
  case' inl =>
    have hri0 : ri ≠ 1 := fun e => by have := hri.1 e; rw [hm] at this; cases this
    have hk := hfk.1 hm
    rw [hm]
    intro q hq
    obtain rfl : q = false := by rw [hq]; exact decide_eq_false (fun e => hri0 (by have e : ((ri : Nat) : Int) = 1 := e; omega))
    (repeat(first|refine sb ?_|refine kNo ?_|refine gOn rfl ?_|refine gOff rfl rfl ?_|refine gTup rfl ?_))
    intro q hq
    obtain rfl : q = false := by rw [hq]; rfl
    (repeat(first|refine sb ?_|refine kNo ?_|refine gOn rfl ?_|refine gOff rfl rfl ?_|refine gTup rfl ?_))
    intro q hq
    obtain rfl : q = true := by rw [hq]; rfl
    (repeat(first|refine sb ?_|refine kNo ?_|refine gOn rfl ?_|refine gOff rfl rfl ?_|refine gTup rfl ?_))
    intro q hq
    obtain rfl : q = false := by rw [hq]; rfl
    (repeat(first|refine sb ?_|refine kNo ?_|refine gOn rfl ?_|refine gOff rfl rfl ?_|refine gTup rfl ?_))
    intro q hq
    rcases hk with rfl | rfl
    case' inl =>
      obtain rfl : q = true := by rw [hq]; rfl
      skip
    case' inr =>
      obtain rfl : q = false := by rw [hq]; rfl
      (repeat(first|refine sb ?_|refine kNo ?_|refine gOn rfl ?_|refine gOff rfl rfl ?_|refine gTup rfl ?_))
      intro q hq
      obtain rfl : q = true := by rw [hq]; rfl
      skip
  case' inr =>
    have hri0 : ri = 1 := hri.2 hm
    have hk := hfk.2 hm
    rw [hm]
    intro q hq
    obtain rfl : q = true := by rw [hq]; exact decide_eq_true (show ((ri : Nat) : Int) = 1 by omega)
    (repeat(first|refine sb ?_|refine kNo ?_|refine gOn rfl ?_|refine gOff rfl rfl ?_|refine gTup rfl ?_))
    intro q hq
    obtain rfl : q = true := by rw [hq]; rfl
    (repeat(first|refine sb ?_|refine kNo ?_|refine gOn rfl ?_|refine gOff rfl rfl ?_|refine gTup rfl ?_))
    intro q hq
    obtain rfl : q = true := by rw [hq]; rfl
    (repeat(first|refine sb ?_|refine kNo ?_|refine gOn rfl ?_|refine gOff rfl rfl ?_|refine gTup rfl ?_))
    refine ldN_is rfl e3 rfl ?_
    (repeat(first|refine sb ?_|refine kNo ?_|refine gOn rfl ?_|refine gOff rfl rfl ?_|refine gTup rfl ?_))
    intro q hq
    by_cases hnul : A = [] ∧ D = []
    case' pos =>
      obtain rfl : q = true := by rw [hq]; simp [hnul]
      (repeat(first|refine sb ?_|refine kNo ?_|refine gOn rfl ?_|refine gOff rfl rfl ?_|refine gTup rfl ?_))
    case' neg =>
      obtain rfl : q = false := by
        rw [hq]
        rw [Bool.eq_false_iff]
        intro e
        simp at e
        exact hnul e
      have hk := hk hnul
      (repeat(first|refine sb ?_|refine kNo ?_|refine gOn rfl ?_|refine gOff rfl rfl ?_|refine gTup rfl ?_))
      intro q hq
      obtain rfl : q = true := by rw [hq]; exact decide_eq_true (show ((fk : Nat) : Int) = 1 by omega)
      (repeat(first|refine sb ?_|refine kNo ?_|refine gOn rfl ?_|refine gOff rfl rfl ?_|refine gTup rfl ?_))
    all_goals (
      intro q hq
      obtain rfl : q = true := by rw [hq]; rfl)
  all_goals (
    (repeat(first|refine sb ?_|refine kNo ?_|refine gOn rfl ?_|refine gOff rfl rfl ?_|refine gTup rfl ?_))
    intro q hq
    obtain rfl : q = true := by rw [hq]; rfl
    (repeat(first|refine sb ?_|refine kNo ?_|refine gOn rfl ?_|refine gOff rfl rfl ?_|refine gTup rfl ?_))
    refine ldN_is rfl e7 rfl ?_
    (repeat(first|refine sb ?_|refine kNo ?_|refine gOn rfl ?_|refine gOff rfl rfl ?_|refine gTup rfl ?_))
    refine ldN_is rfl e3 rfl ?_
    (repeat(first|refine sb ?_|refine kNo ?_|refine gOn rfl ?_|refine gOff rfl rfl ?_|refine gTup rfl ?_))
    refine ldN_is rfl e7 rfl ?_
    (repeat(first|refine sb ?_|refine kNo ?_|refine gOn rfl ?_|refine gOff rfl rfl ?_|refine gTup rfl ?_))
    refine ldN_is rfl e3 rfl ?_
    (repeat(first|refine sb ?_|refine kNo ?_|refine gOn rfl ?_|refine gOff rfl rfl ?_|refine gTup rfl ?_))
    refine (is1_w (x := x) (dm := bEx) (a := A) (d := D) fs20 r1 (by omega) (by omega)).mono fun v t1 q => ?_
    obtain ⟨rfl, d1⟩ := q
    have g1 := d1.fine fs20
    have e3 := d1.blk _ _ (show s.next < s20.next by omega) (by simp) e3
    have r1 := r1.chg d1 (by simp)
    have m1 := d1.next
    refine kAll (d1.keep fs20) ?_
    (repeat(first|refine sb ?_|refine kNo ?_|refine gOn rfl ?_|refine gOff rfl rfl ?_|refine gTup rfl ?_))
    refine (ours1_w (x := x) (dm := bEx) (a := A) (d := D) g1 r1 (by omega)).mono fun v t2 q => ?_
    obtain ⟨rfl, d2⟩ := q
    have g2 := d2.fine g1
    have e3 := d2.blk _ _ (show s.next < t1.next by omega) (by simp) e3
    have m2 := d2.next
    have hB0 := beg_is (k := 0) (a := A) (w := [83, 82, 83, 48, 61]) (by decide) rfl
    have hB1 := beg_is (k := 1) (a := A) (w := [83, 82, 83, 49, 61]) (by decide) rfl
    have hIs : isF (cdr x bEx) A D = (oursF (cdr x bEx) D && (begF 0 A || begF 1 A)) := by unfold isF; rfl
    rw [hIs]
    cases ho : oursF (cdr x bEx) D with
    | false =>
      (repeat(first|refine sb ?_|refine kNo ?_|refine gOn rfl ?_|refine gOff rfl rfl ?_|refine gTup rfl ?_))
      intro q hq
      obtain rfl : q = true := by rw [hq]; rfl
      (repeat(first|refine sb ?_|refine kNo ?_|refine gOn rfl ?_|refine gOff rfl rfl ?_|refine gTup rfl ?_))
      refine (tells12_w (hG.nil ((cs20.nil d1).nil d2)) g2).mono fun v s99 q => ?_
      obtain ⟨rfl, _⟩ := q
      (repeat(first|refine sb ?_|refine kNo ?_|refine gOn rfl ?_|refine gOff rfl rfl ?_|refine gTup rfl ?_))
      rfl
    | true =>
      (repeat(first|refine sb ?_|refine kNo ?_|refine gOn rfl ?_|refine gOff rfl rfl ?_|refine gTup rfl ?_))
      refine ldS_is rfl e3 rfl ?_
      (repeat(first|refine sb ?_|refine kNo ?_|refine gOn rfl ?_|refine gOff rfl rfl ?_|refine gTup rfl ?_))
      intro n hn
      (repeat(first|refine sb ?_|refine kNo ?_|refine gOn rfl ?_|refine gOff rfl rfl ?_|refine gTup rfl ?_))
      intro q hq
      by_cases h5 : 5 ≤ A.length
      · obtain rfl : q = true := by rw [hq]; exact decide_eq_true (by omega)
        rw [decide_eq_true h5, Bool.true_and] at hB0 hB1
        (repeat(first|refine sb ?_|refine kNo ?_|refine gOn rfl ?_|refine gOff rfl rfl ?_|refine gTup rfl ?_))
        refine ldS_is rfl e3 rfl ?_
        (repeat(first|refine sb ?_|refine kNo ?_|refine gOn rfl ?_|refine gOff rfl rfl ?_|refine gTup rfl ?_))
        refine slS_hi 5 rfl rfl rfl h5 ?_
        (repeat(first|refine sb ?_|refine kNo ?_|refine gOn rfl ?_|refine gOff rfl rfl ?_|refine gTup rfl ?_))
        refine (same_w (l := A.take 5) (t := [83, 82, 83, 48, 61]) (by rw [List.length_take]; omega) (by decide)).mono fun v t3 q => ?_
        obtain ⟨rfl, d3⟩ := q
        have g3 := d3.fine g2
        have e3 := d3.blk _ _ (show s.next < t2.next by omega) (by simp) e3
        have m3 := d3.next
        have hS0 : decide ((A.take 5).map lowB = [83, 82, 83, 48, 61].map lowB) = begF 0 A := hB0.symm
        rw [hS0]
        cases hb0 : begF 0 A with
        | true =>
          (repeat(first|refine sb ?_|refine kNo ?_|refine gOn rfl ?_|refine gOff rfl rfl ?_|refine gTup rfl ?_))
          intro q hq
          obtain rfl : q = true := by rw [hq]; rfl
          (repeat(first|refine sb ?_|refine kNo ?_|refine gOn rfl ?_|refine gOff rfl rfl ?_|refine gTup rfl ?_))
          refine (tells12_w (hG.nil (((cs20.nil d1).nil d2).nil d3)) g3).mono fun v s99 q => ?_
          obtain ⟨rfl, _⟩ := q
          (repeat(first|refine sb ?_|refine kNo ?_|refine gOn rfl ?_|refine gOff rfl rfl ?_|refine gTup rfl ?_))
          rfl
        | false =>
          (repeat(first|refine sb ?_|refine kNo ?_|refine gOn rfl ?_|refine gOff rfl rfl ?_|refine gTup rfl ?_))
          refine ldS_is rfl e3 rfl ?_
          (repeat(first|refine sb ?_|refine kNo ?_|refine gOn rfl ?_|refine gOff rfl rfl ?_|refine gTup rfl ?_))
          refine slS_hi 5 rfl rfl rfl h5 ?_
          (repeat(first|refine sb ?_|refine kNo ?_|refine gOn rfl ?_|refine gOff rfl rfl ?_|refine gTup rfl ?_))
          refine (same_w (l := A.take 5) (t := [83, 82, 83, 49, 61]) (by rw [List.length_take]; omega) (by decide)).mono fun v t4 q => ?_
          obtain ⟨rfl, d4⟩ := q
          have hS1 : decide ((A.take 5).map lowB = [83, 82, 83, 49, 61].map lowB) = begF 1 A := hB1.symm
          rw [hS1]
          (repeat(first|refine sb ?_|refine kNo ?_|refine gOn rfl ?_|refine gOff rfl rfl ?_|refine gTup rfl ?_))
          intro q hq
          obtain rfl : q = true := by rw [hq]; exact decide_eq_true rfl
          (repeat(first|refine sb ?_|refine kNo ?_|refine gOn rfl ?_|refine gOff rfl rfl ?_|refine gTup rfl ?_))
          refine (tells12_w (hG.nil ((((cs20.nil d1).nil d2).nil d3).nil d4)) (d4.fine g3)).mono fun v s99 q => ?_
          obtain ⟨rfl, _⟩ := q
          (repeat(first|refine sb ?_|refine kNo ?_|refine gOn rfl ?_|refine gOff rfl rfl ?_|refine gTup rfl ?_))
          rfl
      · obtain rfl : q = false := by rw [hq]; exact decide_eq_false (by omega)
        have b0 : begF 0 A = false := by rw [hB0, decide_eq_false h5]; rfl
        have b1 : begF 1 A = false := by rw [hB1, decide_eq_false h5]; rfl
        rw [b0, b1]
        (repeat(first|refine sb ?_|refine kNo ?_|refine gOn rfl ?_|refine gOff rfl rfl ?_|refine gTup rfl ?_))
        intro q hq
        obtain rfl : q = true := by rw [hq]; rfl
        (repeat(first|refine sb ?_|refine kNo ?_|refine gOn rfl ?_|refine gOff rfl rfl ?_|refine gTup rfl ?_))
        refine (tells12_w (hG.nil ((cs20.nil d1).nil d2)) g2).mono fun v s99 q => ?_
        obtain ⟨rfl, _⟩ := q
        (repeat(first|refine sb ?_|refine kNo ?_|refine gOn rfl ?_|refine gOff rfl rfl ?_|refine gTup rfl ?_))
        rfl)
end Go.Vf.S
end
section
/- Starts that know some of their blocks. -/
namespace Go.Vf.S
open Go Go.Vf Go.Proofs Go.Proofs.YtgddphciejoljaaGreatDoor Go.RowKit Go.ChangeShapes
set_option linter.unusedVariables false
set_option linter.unusedSimpArgs false

def renO (bs : List (RE × Option ABlk)) : Ren := fun id => bs[id]?.map Prod.fst
def heapO : Nat → List (RE × Option ABlk) → List (Nat × Option ABlk)
  | _, [] => []
  | n, (_, b) :: r => (n, b) :: heapO (n + 1) r
theorem heapO_look : ∀ (l : List (RE × Option ABlk)) (n id : Nat), lookH (heapO n l) id = if n ≤ id then (l[id - n]?.map Prod.snd).join else none
  | [], n, id => by simp [heapO, lookH]
  | (e, b) :: r, n, id => by
    simp only [heapO, lookH]
    rcases beq_cases n id with ⟨h, hb⟩ | ⟨h, hb⟩
    · subst h; simp
    · rw [hb, cond_false, heapO_look r (n + 1) id]
      by_cases h1 : n + 1 ≤ id
      · rw [if_pos h1, if_pos (by omega), show id - n = (id - (n + 1)) + 1 from by omega, List.getElem?_cons_succ]
      · rw [if_neg h1, if_neg (by omega)]
def startO (bs : List (RE × Option ABlk)) (gl : Nat) : SS := ⟨heapO 0 bs, bs.length, gl⟩
theorem startO_rel {P : Program} {W : World} {bs : List (RE × Option ABlk)} {gl : Nat} (h : ∀ (i : Nat) e b, bs[i]? = some (e, some b) → BRel P (renO bs) W e b ∧ b.ro = true) (hl : ∀ (i : Nat) e b, bs[i]? = some (e, b) → e.blk < W.heap.size)
    (hg : ∀ g, g < gl → ∃ e b, bs[g]? = some (e, b) ∧ e.blk = g ∧ e.off = 0) : HRel P W.heap.size W (renO bs) (startO bs gl).st W ∧ FreeFrom (renO bs) (startO bs gl).next := by
  have get : ∀ id b e, (startO bs gl).st.heap.get id = some b → renO bs id = some e → bs[id]? = some (e, some b) := by
    intro id b e hb he
    rw [SS.get] at hb
    simp only [startO, heapO_look, Nat.zero_le, if_true, Nat.sub_zero] at hb
    simp only [renO] at he
    cases hx : bs[id]? with
    | none => rw [hx] at hb; cases hb
    | some x =>
      rw [hx] at hb he
      obtain ⟨e', b'⟩ := x
      cases he
      simp only [Option.map_some, Option.join_some] at hb
      subst hb
      rfl
  refine ⟨⟨.refl _ _, Nat.le_refl _, .refl _, ?_, ?_, ?_, ?_, ?_⟩, ?_⟩
  · intro id b e hb he; exact (h _ _ _ (get _ _ _ hb he)).1
  · intro id b e hb he hr; rw [(h _ _ _ (get _ _ _ hb he)).2] at hr; cases hr
  · intro i j b b' e e' _ hb _ he hr; rw [(h _ _ _ (get _ _ _ hb he)).2] at hr; cases hr
  · intro id e he
    simp only [renO] at he
    cases hx : bs[id]? with
    | none => rw [hx] at he; cases he
    | some x =>
      rw [hx] at he
      obtain ⟨e', b'⟩ := x
      cases he
      exact hl _ _ _ hx
  · intro g hlt
    obtain ⟨e, b, h1, h2, h3⟩ := hg g hlt
    exact ⟨e, by simp [renO, h1], h2, h3⟩
  · intro id hid
    simp only [renO]
    rw [List.getElem?_eq_none (by exact hid)]; rfl
theorem startO_fine (bs : List (RE × Option ABlk)) (gl : Nat) : Fine (startO bs gl) := fun id hid => by
  show lookH (heapO 0 bs) id = none
  rw [heapO_look, List.getElem?_eq_none (by simpa [startO] using hid)]
  rfl

end Go.Vf.S
end
section
/- A start that knows the library's own number, and blocks more. -/
namespace Go.Vf.S
open Go Go.Vf Go.Proofs Go.Proofs.YtgddphciejoljaaGreatDoor Go.RowKit Go.ChangeShapes
set_option linter.unusedVariables false
set_option linter.unusedSimpArgs false

abbrev gMax : Nat := 2
theorem max_good {W : World} (h : W.ShapedOpen pr) : ∃ m, GoodB pr W ⟨gMax, 0, 1, 1, false⟩ (.cells [.int .i64 m] 3 false true) := by
  have h0 : ((begin pr (fun _ _ => 0) default).world.heap[gMax]?).bind Obj.row? = some (#[.int .i64 0], 3) := by kernel_rfl
  have hg : gMax < pr.globals.size := by decide +kernel
  obtain ⟨m, hm⟩ := cell_of_shapedOpen_int h hg h0 rfl (by kernel_rfl) (by kernel_rfl) Tryz.underlying3
  obtain ⟨cs, hh, hs, _⟩ := h.1 gMax _ 3 hg h0
  have hcs : cs = #[.int .i64 m] := by
    have h1 : cs.size = 1 := hs
    have h2 : cs[0]? = some (.int .i64 m) := by simpa [World.cell?, hh] using hm
    apply Array.ext'
    have h3 : cs.toList.length = 1 := by simpa using h1
    match hl : cs.toList, h3 with
    | [v], _ =>
      have : cs.toList[0]? = some (.int .i64 m) := by simpa using h2
      rw [hl] at this
      simpa using this
  subst hcs
  refine ⟨m, fun ρ => ⟨rfl, [.int .i64 m], 0, 0, 3, hh, (fun z => by cases z), (fun i _ hh => by omega), Nat.le_refl _, Nat.le_refl _, (by kernel_rfl), fun i v hi => ⟨v, by simpa using hi, plain1_rel ?_⟩⟩, rfl, (Array.getElem?_eq_some_iff.1 hh).1⟩
  match i, hi with
  | 0, hi => cases hi; rfl
  | i + 1, hi => simp at hi


end Go.Vf.S
end
section
/- A start that knows the kinds' table, the library's tables of runes and its own number, and blocks more. -/
namespace Go.Vf.S
open Go Go.Vf Go.Proofs Go.Proofs.YtgddphciejoljaaGreatDoor Go.RowKit Go.ChangeShapes
set_option linter.unusedVariables false
set_option linter.unusedSimpArgs false
set_option maxRecDepth 10000

theorem tabs_laidC {W : World} (h : laidMetH pr laidC W) : Lib.Utf8Tabs gFi gAc W := by
  rw [MakeChecks.laidMetH_plain _ _ _ (by kernel_rfl)] at h
  have e1 : Rows.laid_unicode_utf8_first = Lib.firstData := by kernel_rfl
  have e2 : (Rows.laid_unicode_utf8_acceptRanges : DataW Unit) = Lib.acceptData := by kernel_rfl
  exact utf8Tabs_of_reads (ρ := Tryz.lays230_ren) { Tryz.lays230 with } ⟨by kernel_rfl, by kernel_rfl, by kernel_rfl, by kernel_rfl, by kernel_rfl, by kernel_rfl, by kernel_rfl⟩
    (e1 ▸ Lib.laidMet.reads h (by simp [laidC])) (e2 ▸ Lib.laidMet.reads h (by simp [laidC]))
theorem tab_good {W : World} (hsh : W.ShapedOpen pr) {g n : Nat} (hg : g < pr.globals.size) (h0 : (((begin pr (fun _ _ => 0) default).world.heap[g]?).bind Obj.row?).isSome = true) {vs : List Value} (hp : vs.all plain1 = true) (hn : vs.length = n) (hpos : 0 < n) (h : ∀ c v, vs[c]? = some v → W.cell? ⟨g, c, none⟩ = some v) : GoodB pr W ⟨g, 0, n, 1, false⟩ (.cells vs tU8 false true) := by
  obtain ⟨⟨zero, t⟩, hz⟩ := Option.isSome_iff_exists.1 h0
  obtain ⟨⟨rc⟩, hb, _, _⟩ := hsh.1 g zero t hg hz
  have cell : ∀ c v, vs[c]? = some v → rc[c]? = some v := fun c v hv => by
    have := h c v hv
    rw [cell_at hb] at this
    exact this
  have hroom : n ≤ rc.length := by
    have := cell (n - 1) _ (List.getElem?_eq_getElem (by omega))
    have := (List.getElem?_eq_some_iff.1 this).1
    omega
  exact ⟨fun ρ => ⟨rfl, rc, 0, 0, t, hb, (fun z => by cases z), (fun i hi' hc2 => by omega), by simpa using hroom, by show vs.length ≤ n; omega, (by kernel_rfl), fun i v hv => ⟨v, by simpa using cell i v hv, plain1_rel (List.all_eq_true.1 hp v (List.mem_of_getElem? hv))⟩⟩, rfl, (Array.getElem?_eq_some_iff.1 hb).1⟩

theorem fi_good {W : World} (hsh : W.ShapedOpen pr) (h : Lib.Utf8Tabs gFi gAc W) : GoodB pr W ⟨gFi, 0, 256, 1, false⟩ (.cells fiV tU8 false true) :=
  tab_good hsh (by decide +kernel) (by kernel_rfl) (by simp [fiV, plain1]) (by simp [fiV]) (by omega) fun c v hv => by
    have hc : c < 256 := by
      have := (List.getElem?_eq_some_iff.1 hv).1
      simpa [fiV] using this
    rw [fi_get hc] at hv
    cases hv
    exact h.1 c hc
theorem ac_good {W : World} (hsh : W.ShapedOpen pr) (h : Lib.Utf8Tabs gFi gAc W) : GoodB pr W ⟨gAc, 0, 32, 1, false⟩ (.cells acV tU8 false true) :=
  tab_good hsh (by decide +kernel) (by kernel_rfl) (by simp [acV, plain1]) (by simp [acV]) (by omega) fun c v hv => by
    have hc : c < 32 := by
      have := (List.getElem?_eq_some_iff.1 hv).1
      simpa [acV] using this
    rw [ac_get hc] at hv
    cases hv
    have := h.2 (c / 2) (by omega)
    by_cases q : c % 2 = 0
    · rw [if_pos q]
      have e : 2 * (c / 2) = c := by omega
      rw [e] at this
      exact this.1
    · rw [if_neg q]
      have e : 2 * (c / 2) + 1 = c := by omega
      rw [e] at this
      exact this.2


abbrev gTopR : Nat := max (max gK gMax) (max gFi gAc) + 1
abbrev mxE (m : Int) : ABlk := .cells [.int .i64 m] 3 false true
structure TabsR (W : World) (m : Int) : Prop where
  k : GoodB pr W kE kB
  f : GoodB pr W ⟨gFi, 0, 256, 1, false⟩ (.cells fiV tU8 false true)
  a : GoodB pr W ⟨gAc, 0, 32, 1, false⟩ (.cells acV tU8 false true)
  x : GoodB pr W ⟨gMax, 0, 1, 1, false⟩ (mxE m)
def rAt (m : Int) (i : Nat) : RE × Option ABlk := if i = gK then (kE, some kB) else if i = gFi then (⟨gFi, 0, 256, 1, false⟩, some (.cells fiV tU8 false true)) else if i = gAc then (⟨gAc, 0, 32, 1, false⟩, some (.cells acV tU8 false true)) else if i = gMax then (⟨gMax, 0, 1, 1, false⟩, some (mxE m)) else (⟨i, 0, 0, 1, false⟩, none)
def bsR (m : Int) : List (RE × Option ABlk) := (List.range gTopR).map (rAt m)
def startR (m : Int) : SS := startO (bsR m) gTopR
theorem bsR_len (m : Int) : (bsR m).length = gTopR := by simp [bsR]
theorem bsR_at {m : Int} {i : Nat} (h : i < gTopR) : (bsR m)[i]? = some (rAt m i) := by
  unfold bsR
  rw [List.getElem?_map, List.getElem?_range h]
  rfl
theorem rAt_is (m : Int) (i : Nat) : (rAt m i).1.blk = i ∧ (rAt m i).1.off = 0 ∧ (rAt m i = (kE, some kB) ∨ rAt m i = (⟨gFi, 0, 256, 1, false⟩, some (.cells fiV tU8 false true)) ∨ rAt m i = (⟨gAc, 0, 32, 1, false⟩, some (.cells acV tU8 false true)) ∨ rAt m i = (⟨gMax, 0, 1, 1, false⟩, some (mxE m)) ∨ rAt m i = (⟨i, 0, 0, 1, false⟩, none)) := by
  unfold rAt
  by_cases h1 : i = gK
  · rw [if_pos h1]; exact ⟨h1.symm, rfl, .inl rfl⟩
  · rw [if_neg h1]
    by_cases h2 : i = gFi
    · rw [if_pos h2]; exact ⟨h2.symm, rfl, .inr (.inl rfl)⟩
    · rw [if_neg h2]
      by_cases h3 : i = gAc
      · rw [if_pos h3]; exact ⟨h3.symm, rfl, .inr (.inr (.inl rfl))⟩
      · rw [if_neg h3]
        by_cases h4 : i = gMax
        · rw [if_pos h4]; exact ⟨h4.symm, rfl, .inr (.inr (.inr (.inl rfl)))⟩
        · rw [if_neg h4]; exact ⟨rfl, rfl, .inr (.inr (.inr (.inr rfl)))⟩
theorem startR_rel {W : World} {m : Int} (g : TabsR W m) : HRel pr W.heap.size W (renO (bsR m)) (startR m).st W ∧ FreeFrom (renO (bsR m)) (startR m).next := by
  have k0 : gK < W.heap.size := g.k.2.2
  have k1 : gFi < W.heap.size := g.f.2.2
  have k2 : gAc < W.heap.size := g.a.2.2
  have k3 : gMax < W.heap.size := g.x.2.2
  have all : ∀ i x, (bsR m)[i]? = some x → i < gTopR ∧ x = rAt m i := fun i x h => by
    have hi : i < gTopR := by rw [← bsR_len m]; exact (List.getElem?_eq_some_iff.1 h).1
    rw [bsR_at hi] at h
    exact ⟨hi, (Option.some.inj h).symm⟩
  refine startO_rel (fun i e b h => ?_) (fun i e b h => ?_) (fun g hg => ?_)
  · obtain ⟨_, q⟩ := all i _ h
    rcases (rAt_is m i).2.2 with z | z | z | z | z <;> rw [z] at q <;> cases q
    · exact ⟨g.k.1 _, g.k.2.1⟩
    · exact ⟨g.f.1 _, g.f.2.1⟩
    · exact ⟨g.a.1 _, g.a.2.1⟩
    · exact ⟨g.x.1 _, g.x.2.1⟩
  · obtain ⟨hi, q⟩ := all i _ h
    have hb := (rAt_is m i).1
    rw [← q] at hb
    have hb : e.blk = i := hb
    have ht : gTopR ≤ W.heap.size := by show max (max gK gMax) (max gFi gAc) + 1 ≤ _; omega
    omega
  · exact ⟨_, _, bsR_at hg, (rAt_is m g).1, (rAt_is m g).2.1⟩
theorem startR_look {m : Int} {i : Nat} (h : i < gTopR) : lookH (startR m).heap i = (rAt m i).2 := by
  show lookH (heapO 0 (bsR m)) i = _
  rw [heapO_look, if_pos (Nat.zero_le _), Nat.sub_zero, bsR_at h]
  rfl
theorem startR_next (m : Int) : (startR m).next = gTopR := bsR_len m
theorem startR_Gk (m : Int) : Gk (startR m) := ⟨(by show gK < gTopR; decide), (by rw [startR_next]; decide), (by rw [startR_look (by decide)]; rfl)⟩
theorem startR_Gv (m : Int) : Gv (startR m) := ⟨(by show gFi < gTopR; decide), (by show gAc < gTopR; decide), (by rw [startR_next]; decide), (by rw [startR_next]; decide), (by rw [startR_look (by decide)]; rfl), (by rw [startR_look (by decide)]; rfl)⟩
theorem startR_fine (m : Int) : Fine (startR m) := startO_fine _ _
theorem tabsRC {W : World} (h : laidMetH pr laidC W) (hsh : W.ShapedOpen pr) : ∃ m, TabsR W m := by
  obtain ⟨m, hm⟩ := max_good hsh
  exact ⟨m, tabsC h, fi_good hsh (tabs_laidC h), ac_good hsh (tabs_laidC h), hm⟩
end Go.Vf.S
end
section
/- Addresses that are handed in: a seat without the table of letters. -/
namespace Go.Vf.S
open Go Go.Vf Go.Proofs Go.Proofs.YtgddphciejoljaaGreatDoor Go.RowKit Go.ChangeShapes Go.WideShapes
set_option linter.unusedVariables false
set_option linter.unusedSimpArgs false
set_option maxRecDepth 100000

theorem lst2 {α : Type} : ∀ {l : List α}, l.length = 2 → ∃ a b, l = [a, b]
  | [a, b], _ => ⟨a, b, rfl⟩
theorem adV_rel {ρ : Ren} (a d : List UInt8) : VRel ρ (adV a d) (adV a d) := plain_rel (v := adV a d) rfl

section
variable {H : Type} {enc : TypeId × Value → H} {w : World} {base : Nat} {spare : Nat → Bool} {held : Bool} {b0 : Nat} {v : Value} {d : DataW H} {p : List MemPlace} {n : Nat}

theorem trod_Ad {cs : List Value} {x : DataW H × List MemPlace} (h : DataW.trod enc pr w base spare held n tAd cs = some x) : ∃ a e, cs = [str a, str e] ∧ x.2 = [] := by
  obtain ⟨y0, y1, m, rfl, hl, h0, h1⟩ := trod_struct2 Tryz.underlying23 h
  obtain ⟨⟨⟨a⟩⟩, e0, rfl, _⟩ := DataW.trod_string Tryz.underlying9 h0
  obtain ⟨⟨⟨e⟩⟩, e1, rfl, _⟩ := DataW.trod_string Tryz.underlying9 h1
  have c2 : pr.cellsOf tAd = 2 := by kernel_rfl
  have c1 : pr.cellsOf 9 = 1 := by kernel_rfl
  rw [c2] at hl
  rw [c1] at e0 e1
  obtain ⟨u, w, rfl⟩ := lst2 hl
  refine ⟨a, e, ?_, rfl⟩
  have q0 : u = str a := (List.cons.inj e0).1
  have q1 : w = str e := (List.cons.inj e1).1
  rw [q0, q1]

theorem open_Ad (hv : Value.okWide pr w .any b0 tAd v) (h : DataW.Trod enc pr w base spare held tAd v d p) : ∃ a e, v = adV a e ∧ p = [] := by
  obtain ⟨cs, rfl, hsz⟩ := okWide_struct Tryz.underlying23 hv
  obtain ⟨fuel, hf⟩ := h
  obtain ⟨a, e, h1, h2⟩ := trod_Ad hf
  refine ⟨a, e, ?_, h2⟩
  obtain ⟨cs⟩ := cs
  have h1 : cs = [str a, str e] := h1
  rw [h1]

end
end Go.Vf.S
end

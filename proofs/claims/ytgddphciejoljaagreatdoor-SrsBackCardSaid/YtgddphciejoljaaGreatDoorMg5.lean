import Derived.Test.YtgddphciejoljaaGreatDoorMg4
import Derived.Test.YtgddphciejoljaaGreatDoorAdS
import Derived.Test.YtgddphciejoljaaGreatDoorMg1
import Derived.Shelf.Vars
import Derived.Handed
import Derived.Lib.LaidU8
import Derived.Lib.SmallJoins
section
/- The law SrsBack, from any state in which the tables lie. -/
namespace Go.Vf.S
open Go Go.Vf Go.Proofs Go.RowKit
attribute [local irreducible] wSeq wRow wp wG hmac tellF pstF tagF agF mayF domF cmayF nsF oursF isF fwdF revF firstF
set_option linter.unusedVariables false
set_option linter.unusedSimpArgs false
set_option maxRecDepth 10000

def bEUU : List UInt8 := [66, 46, 69, 88, 65, 77, 80, 76, 69]
theorem bEUU_low : low bEUU = bEx := by decide
theorem bEUU_dom : domF bEUU = 0 := by decide +kernel
theorem lower_eq (l : List UInt8) : l.map Lib.lowerB = low l := by
  refine List.map_congr_left fun c _ => ?_
  have h : (List.range 256).all (fun n => Lib.lowerB (UInt8.ofNat n) == lowB (UInt8.ofNat n)) = true := by decide +kernel
  have := List.all_eq_true.1 h c.toNat (List.mem_range.2 c.toNat_lt)
  rw [show UInt8.ofNat c.toNat = c by simp] at this
  exact eq_of_beq this
theorem plain_asc {l : List UInt8} (h : l.all plainB = true) : asc l := by
  intro c hc
  have := List.all_eq_true.1 h c hc
  have : 32 ≤ c.toNat ∧ c.toNat ≤ 126 := by simpa [plainB] using this
  omega
/-- Another letter. -/
theorem letter_a {c : UInt8} (h : c ||| 32 = 97) : lowB 66 ≠ lowB c := by
  have key : (List.range 256).all (fun n => !(decide (UInt8.ofNat n ||| 32 = 97)) || decide (lowB 66 ≠ lowB (UInt8.ofNat n))) = true := by decide +kernel
  have := List.all_eq_true.1 key c.toNat (List.mem_range.2 c.toNat_lt)
  rw [show UInt8.ofNat c.toNat = c by simp] at this
  simpa [h] using this
theorem letter_b {c : UInt8} (h : c ||| 32 ≠ 97) : lowB 65 ≠ lowB c := by
  have key : (List.range 256).all (fun n => decide (UInt8.ofNat n ||| 32 = 97) || decide (lowB 65 ≠ lowB (UInt8.ofNat n))) = true := by decide +kernel
  have := List.all_eq_true.1 key c.toNat (List.mem_range.2 c.toNat_lt)
  rw [show UInt8.ofNat c.toNat = c by simp] at this
  simpa [h] using this
theorem orB32 (c : UInt8) : IntKind.wrap .u8 ((BitVec.ofInt IntKind.u8.bits (c.toNat : Int) ||| BitVec.ofInt IntKind.u8.bits 32).toNat : Int) = ((c ||| 32).toNat : Int) := by
  have key : (List.range 256).all (fun n => decide (IntKind.wrap .u8 ((BitVec.ofInt IntKind.u8.bits ((UInt8.ofNat n).toNat : Int) ||| BitVec.ofInt IntKind.u8.bits 32).toNat : Int) = ((UInt8.ofNat n ||| 32).toNat : Int))) = true := by decide +kernel
  have := List.all_eq_true.1 key c.toNat (List.mem_range.2 c.toNat_lt)
  rw [show UInt8.ofNat c.toNat = c by simp] at this
  exact of_decide_eq_true this
/-- What SrsBack asks of what was told, of all of its calls. -/
structure BackP (x A D F : List UInt8) (on : Nat) : Prop where
  len : 14 ≤ F.length ∧ F.length ≤ 64
  pl : F.all plainB = true
  fwd : fwdF (cdr x bEx) A D on = (F, bEx, 0)
  is : isF (cdr x bEx) F bEx = true
  ours : oursF (cdr x bEx) bEx = true
  may : mayF F bEx = true
  ok : ∀ n : Nat, n ≤ 21 → revF (cdr x bEx) F bEx ((on + n : Nat) : Int) = (A, low D, 0)
  old : ∀ n : Nat, 21 < n → n < 1023 → revF (cdr x bEx) F bEx ((on + n : Nat) : Int) = ([], [], 13)
  ahead : revF (cdr x bEx) F bEx ((on : Int) - 1) = (A, low D, 0)
  other : revF (cdr x cEx) F bEx on = ([], [], 6)
  lost : revF (cdr x bEx) (low F) bEUU on = (low A, low D, 0)
  wrong : ∀ c : UInt8, plainB c = true → lowB c ≠ lowB (F.getD 5 0) → revF (cdr x bEx) (F.take 5 ++ [c] ++ F.drop 6) bEx on = ([], [], 11)
  again : fwdF (cdr x bEx) F bEx on = (F, bEx, 0)
theorem back_p {x A D : List UInt8} {on : Nat} (h : Sn A D) (h1 : 1 ≤ on) : BackP x A D (firstF (cdr x bEx).sec (stT (sn on)) D A) on := by
  obtain ⟨p1, p2, p3⟩ := h.pl
  obtain ⟨q1, q2, q3, q4, q5, q6, q7, q8, q9⟩ := h.dm
  have hb : domF bEx = 0 := dom_facts.2.2.1
  have hc : domF cEx = 0 := dom_facts.2.2.2.1
  have hbl : low bEx = bEx := by decide
  have hcl : low cEx = cEx := by decide
  have hl := first_len (s := (cdr x bEx).sec) (st := stT (sn on)) (d := D) (a := A) (stT_len _)
  refine ⟨by omega, first_plain (st_plain (sn_lt on)) q6 p3, fwd_first h hbl hb q7, is_first hbl hbl, ?_, first_may h hb, fun n hn => ?_, fun n hn hn2 => ?_, ?_, other_first h hcl hc hb hbl (by decide) on, lost_first h hbl hb bEUU_low bEUU_dom (by omega), fun c hc' hne => wrong_first h hbl hb hc' hne on, again_first h hbl hb on⟩
  · rw [ours_cdr, hbl]; exact decide_eq_true rfl
  · refine back_ok h hbl hb ?_
    have := ag_fwd (on := (on : Int)) (n := n) (by omega) (by omega)
    rw [show ((on + n : Nat) : Int) = (on : Int) + n by omega, this]
    omega
  · refine back_old h hbl hb ?_
    have := ag_fwd (on := (on : Int)) (n := n) (by omega) (by omega)
    rw [show ((on + n : Nat) : Int) = (on : Int) + n by omega, this]
    omega
  · refine back_ok h hbl hb ?_
    rw [ag_bwd (by omega)]
    omega

set_option maxHeartbeats 8000000 in
theorem lsback_w {s : SS} {a d x : List UInt8} {dy lt : Nat} (hG : Gk s) (hV : Gv s) (hF : Fine s) (hd : dy < 65536) (hlt : lt < 65536) : CallW pr n_law12_SrsBack [adV a d, str x, .int .u16 dy, .int .u16 lt] s fun v s' => v = .bool true := by
  refine CallW.run good ok_law12_SrsBack (by simp) rfl ?_
  obtain ⟨h4, c0, f0⟩ := new1_at hF (.cells (adC2 a d) tAd false false)
  (try refine pSeq ?_); (repeat(first|refine sb ?_|refine kNo ?_|refine gOn rfl ?_|refine gOff rfl rfl ?_|refine gTup rfl ?_))
  refine ldN_is rfl h4 rfl ?_
  (repeat(first|refine sb ?_|refine kNo ?_|refine gOn rfl ?_|refine gOff rfl rfl ?_|refine gTup rfl ?_))
  refine (sender_w (hV.chg c0) f0).mono fun v s1 q => ?_
  obtain ⟨rfl, c1⟩ := q
  have hS := snd_Sn a d
  generalize sndA a = A at *
  generalize sndD d = D at *
  obtain ⟨p1, p2, p3⟩ := hS.pl
  obtain ⟨q1, q2, q3, q4, q5, q6, q7, q8, q9⟩ := hS.dm
  have hDl : D.length ≤ 10 := by rw [← low_len]; exact q4
  replace h4 := c1.blk _ _ (show s.next < s.next + 1 by omega) (by simp) h4
  have n1 := c1.next
  replace n1 : s.next + 1 ≤ s1.next := n1
  replace c1 := c0.nil c1
  clear c0 f0
  (repeat(first|refine sb ?_|refine kNo ?_|refine gOn rfl ?_|refine gOff rfl rfl ?_|refine gTup rfl ?_))
  refine st_abs (cs' := adC2 A D) rfl rfl h4 (show s.next < s1.next by omega) rfl rfl fun s2 e4 c2 n2 => ?_
  replace n2 : s2.next = s1.next := n2
  replace c2 : Chg s s2 [] := c1.fresh c2 (by simp)
  have f2 := c2.fine hF
  clear c1 h4
  (repeat(first|refine sb ?_|refine kNo ?_|refine gOn rfl ?_|refine gOff rfl rfl ?_|refine gTup rfl ?_))
  refine (coder_w f2 (x := x) (dm := bEx)).mono fun v s3 q => ?_
  obtain ⟨b, rfl, hr, hb, c3⟩ := q
  have f3 := c3.fine f2
  replace e4 := c3.blk _ _ (show s.next < s2.next by omega) (by simp) e4
  have n3 := c3.next
  replace c3 := c2.nil c3
  clear f2 c2
  obtain ⟨k0, k1, k2⟩ := new1_at f3 (.cells [str [], .slice none 0 0] tCo false false)
  (repeat(first|refine sb ?_|refine kNo ?_|refine gOn rfl ?_|refine gOff rfl rfl ?_|refine gTup rfl ?_))
  refine st_abs (cs' := coC x bEx b) rfl rfl k0 (Nat.lt_succ_self _) rfl rfl fun s4 e9 c4 n4 => ?_
  replace n4 : s4.next = s3.next + 1 := n4
  replace c4 : Chg s3 s4 [] := k1.fresh c4 (by simp)
  replace e4 := c4.blk _ _ (show s.next < s3.next by omega) (by simp) e4
  replace hr := hr.chg c4 (by simp)
  replace c4 := c3.nil c4
  have f4 := c4.fine hF
  clear k0 k1 k2 c3 f3
  (repeat(first|refine sb ?_|refine kNo ?_|refine gOn rfl ?_|refine gOff rfl rfl ?_|refine gTup rfl ?_))
  intro w hw
  rw [i64_id (by omega)] at hw
  subst hw
  (repeat(first|refine sb ?_|refine kNo ?_|refine gOn rfl ?_|refine gOff rfl rfl ?_|refine gTup rfl ?_))
  refine ⟨by decide, ?_⟩
  intro w hw
  rw [show (5000 : Int) = ((5000 : Nat) : Int) from rfl, tmod12] at hw
  subst hw
  (repeat(first|refine sb ?_|refine kNo ?_|refine gOn rfl ?_|refine gOff rfl rfl ?_|refine gTup rfl ?_))
  intro w hw
  rw [i64_id (by omega)] at hw
  obtain ⟨on, hon⟩ : ∃ on : Nat, on = 1 + dy % 5000 := ⟨_, rfl⟩
  obtain rfl : w = (on : Int) := by omega
  have hon1 : 1 ≤ on ∧ on ≤ 5000 := by omega
  have P := back_p (x := x) hS hon1.1
  generalize firstF (cdr x bEx).sec (stT (sn on)) D A = F at P
  have hFl := P.len
  clear hon hw
  (repeat(first|refine sb ?_|refine kNo ?_|refine gOn rfl ?_|refine gOff rfl rfl ?_|refine gTup rfl ?_))
  refine ldN_is rfl e9 rfl ?_
  (repeat(first|refine sb ?_|refine kNo ?_|refine gOn rfl ?_|refine gOff rfl rfl ?_|refine gTup rfl ?_))
  refine ldN_is rfl e4 rfl ?_
  (repeat(first|refine sb ?_|refine kNo ?_|refine gOn rfl ?_|refine gOff rfl rfl ?_|refine gTup rfl ?_))
  refine (fwd1_w (x := x) (dm := bEx) (hG.nil c4) f4 hr (by decide) (by omega) (by omega) (by omega)).mono fun v s5 q => ?_
  obtain ⟨rfl, c5⟩ := q
  rw [P.fwd]
  have f5 := c5.fine f4
  obtain ⟨k0, k1, k2⟩ := new1_at f5 (.cells (adC2 [] []) tAd false false)
  (repeat(first|refine sb ?_|refine kNo ?_|refine gOn rfl ?_|refine gOff rfl rfl ?_|refine gTup rfl ?_))
  refine st_abs (cs' := adC2 F bEx) rfl rfl k0 (Nat.lt_succ_self _) rfl rfl fun s6 e11 c6 n6 => ?_
  replace n6 : s6.next = s5.next + 1 := n6
  replace c6 : Chg s4 s6 [] := c5.nil (k1.fresh c6 (by simp))
  have n5 := c5.next
  replace e4 := c6.blk _ _ (show s.next < s4.next by omega) (by simp) e4
  replace e9 := c6.blk _ _ (show s3.next < s4.next by omega) (by simp) e9
  replace hr := hr.chg c6 (by simp)
  replace c6 := c4.nil c6
  have f6 := c6.fine hF
  clear k0 k1 k2 c4 f4 c5 f5
  (repeat(first|refine sb ?_|refine kNo ?_|refine gOn rfl ?_|refine gOff rfl rfl ?_|refine gTup rfl ?_))
  intro q hq
  obtain rfl : q = false := by rw [hq]; rfl
  (repeat(first|refine sb ?_|refine kNo ?_|refine gOn rfl ?_|refine gOff rfl rfl ?_|refine gTup rfl ?_))
  refine ldS_is rfl e11 rfl ?_
  (repeat(first|refine sb ?_|refine kNo ?_|refine gOn rfl ?_|refine gOff rfl rfl ?_|refine gTup rfl ?_))
  intro q hq
  obtain rfl : q = false := by rw [hq]; rfl
  (repeat(first|refine sb ?_|refine kNo ?_|refine gOn rfl ?_|refine gOff rfl rfl ?_|refine gTup rfl ?_))
  refine ldN_is rfl e9 rfl ?_
  (repeat(first|refine sb ?_|refine kNo ?_|refine gOn rfl ?_|refine gOff rfl rfl ?_|refine gTup rfl ?_))
  refine ldN_is rfl e11 rfl ?_
  (repeat(first|refine sb ?_|refine kNo ?_|refine gOn rfl ?_|refine gOff rfl rfl ?_|refine gTup rfl ?_))
  refine (is1_w (x := x) (dm := bEx) f6 hr (by omega) (by decide)).mono fun v s7 q => ?_
  obtain ⟨rfl, c7⟩ := q
  rw [P.is]
  have f7 := c7.fine f6
  have n7 := c7.next
  replace e4 := c7.blk _ _ (show s.next < s6.next by omega) (by simp) e4
  replace e9 := c7.blk _ _ (show s3.next < s6.next by omega) (by simp) e9
  replace e11 := c7.blk _ _ (show s5.next < s6.next by omega) (by simp) e11
  replace hr := hr.chg c7 (by simp)
  replace c7 := c6.nil c7
  clear c6 f6
  (repeat(first|refine sb ?_|refine kNo ?_|refine gOn rfl ?_|refine gOff rfl rfl ?_|refine gTup rfl ?_))
  intro q hq
  obtain rfl : q = false := by rw [hq]; rfl
  (repeat(first|refine sb ?_|refine kNo ?_|refine gOn rfl ?_|refine gOff rfl rfl ?_|refine gTup rfl ?_))
  refine ldN_is rfl e9 rfl ?_
  (repeat(first|refine sb ?_|refine kNo ?_|refine gOn rfl ?_|refine gOff rfl rfl ?_|refine gTup rfl ?_))
  refine ldN_is rfl e11 rfl ?_
  (repeat(first|refine sb ?_|refine kNo ?_|refine gOn rfl ?_|refine gOff rfl rfl ?_|refine gTup rfl ?_))
  refine (ours1_w (x := x) (dm := bEx) f7 hr (by decide)).mono fun v s8 q => ?_
  obtain ⟨rfl, c8⟩ := q
  rw [P.ours]
  have f8 := c8.fine f7
  have n8 := c8.next
  replace e4 := c8.blk _ _ (show s.next < s7.next by omega) (by simp) e4
  replace e9 := c8.blk _ _ (show s3.next < s7.next by omega) (by simp) e9
  replace e11 := c8.blk _ _ (show s5.next < s7.next by omega) (by simp) e11
  replace hr := hr.chg c8 (by simp)
  replace c8 := c7.nil c8
  clear c7 f7
  (repeat(first|refine sb ?_|refine kNo ?_|refine gOn rfl ?_|refine gOff rfl rfl ?_|refine gTup rfl ?_))
  intro q hq
  obtain rfl : q = false := by rw [hq]; rfl
  (repeat(first|refine sb ?_|refine kNo ?_|refine gOn rfl ?_|refine gOff rfl rfl ?_|refine gTup rfl ?_))
  refine ldN_is rfl e11 rfl ?_
  (repeat(first|refine sb ?_|refine kNo ?_|refine gOn rfl ?_|refine gOff rfl rfl ?_|refine gTup rfl ?_))
  refine (may_w (a := F) (d := bEx) (by omega) (by decide)).mono fun v s9 q => ?_
  obtain ⟨rfl, c9⟩ := q
  rw [P.may]
  have f9 := c9.fine f8
  have n9 := c9.next
  replace e4 := c9.blk _ _ (show s.next < s8.next by omega) (by simp) e4
  replace e9 := c9.blk _ _ (show s3.next < s8.next by omega) (by simp) e9
  replace e11 := c9.blk _ _ (show s5.next < s8.next by omega) (by simp) e11
  replace hr := hr.chg c9 (by simp)
  replace c9 := c8.nil c9
  clear c8 f8
  (repeat(first|refine sb ?_|refine kNo ?_|refine gOn rfl ?_|refine gOff rfl rfl ?_|refine gTup rfl ?_))
  intro q hq
  obtain rfl : q = false := by rw [hq]; rfl
  (repeat(first|refine sb ?_|refine kNo ?_|refine gOn rfl ?_|refine gOff rfl rfl ?_|refine gTup rfl ?_))
  intro w hw
  rw [i64_id (by omega)] at hw
  subst hw
  (repeat(first|refine sb ?_|refine kNo ?_|refine gOn rfl ?_|refine gOff rfl rfl ?_|refine gTup rfl ?_))
  refine ⟨by decide, ?_⟩
  intro w hw
  rw [show (1023 : Int) = ((1023 : Nat) : Int) from rfl, tmod12] at hw
  subst hw
  obtain ⟨n, hn⟩ : ∃ n : Nat, n = lt % 1023 := ⟨_, rfl⟩
  rw [← hn]
  have hn2 : n < 1023 := by omega
  clear hn
  (repeat(first|refine sb ?_|refine kNo ?_|refine gOn rfl ?_|refine gOff rfl rfl ?_|refine gTup rfl ?_))
  refine ldN_is rfl e9 rfl ?_
  (repeat(first|refine sb ?_|refine kNo ?_|refine gOn rfl ?_|refine gOff rfl rfl ?_|refine gTup rfl ?_))
  refine ldN_is rfl e11 rfl ?_
  (repeat(first|refine sb ?_|refine kNo ?_|refine gOn rfl ?_|refine gOff rfl rfl ?_|refine gTup rfl ?_))
  intro w hw
  rw [i64_id (by omega)] at hw
  obtain rfl : w = ((on + n : Nat) : Int) := by omega
  (repeat(first|refine sb ?_|refine kNo ?_|refine gOn rfl ?_|refine gOff rfl rfl ?_|refine gTup rfl ?_))
  refine (rev1_w (x := x) (dm := bEx) (hG.nil c9) f9 hr (by decide) (by omega) (by decide) (by omega)).mono fun v s10 q => ?_
  obtain ⟨rfl, c10⟩ := q
  obtain ⟨B1, B2, e, hR, hE⟩ : ∃ B1 B2 e, revF (cdr x bEx) F bEx ((on + n : Nat) : Int) = (B1, B2, e) ∧ ((n ≤ 21 ∧ B1 = A ∧ B2 = low D ∧ e = 0) ∨ (21 < n ∧ e = 13)) := by
    rcases Nat.lt_or_ge 21 n with h | h
    · exact ⟨_, _, _, P.old n h hn2, .inr ⟨h, rfl⟩⟩
    · exact ⟨_, _, _, P.ok n h, .inl ⟨h, rfl, rfl, rfl⟩⟩
  rw [hR]
  have f10 := c10.fine f9
  have n10 := c10.next
  obtain ⟨k0, k1, k2⟩ := new1_at f10 (.cells (adC2 [] []) tAd false false)
  (repeat(first|refine sb ?_|refine kNo ?_|refine gOn rfl ?_|refine gOff rfl rfl ?_|refine gTup rfl ?_))
  refine st_abs (cs' := adC2 B1 B2) rfl rfl k0 (Nat.lt_succ_self _) rfl rfl fun s11 e14 c11 n11 => ?_
  replace n11 : s11.next = s10.next + 1 := n11
  replace c11 : Chg s9 s11 [] := c10.nil (k1.fresh c11 (by simp))
  replace e4 := c11.blk _ _ (show s.next < s9.next by omega) (by simp) e4
  replace e9 := c11.blk _ _ (show s3.next < s9.next by omega) (by simp) e9
  replace e11 := c11.blk _ _ (show s5.next < s9.next by omega) (by simp) e11
  replace hr := hr.chg c11 (by simp)
  replace c11 := c9.nil c11
  have f11 := c11.fine hF
  clear k0 k1 k2 c9 f9 c10 f10 hR
  (repeat(first|refine sb ?_|refine kNo ?_|refine gOn rfl ?_|refine gOff rfl rfl ?_|refine gTup rfl ?_))
  refine ldN_is rfl e9 rfl ?_
  (repeat(first|refine sb ?_|refine kNo ?_|refine gOn rfl ?_|refine gOff rfl rfl ?_|refine gTup rfl ?_))
  refine ldN_is rfl e11 rfl ?_
  (repeat(first|refine sb ?_|refine kNo ?_|refine gOn rfl ?_|refine gOff rfl rfl ?_|refine gTup rfl ?_))
  intro w hw
  rw [i64_id (by omega)] at hw
  subst hw
  (repeat(first|refine sb ?_|refine kNo ?_|refine gOn rfl ?_|refine gOff rfl rfl ?_|refine gTup rfl ?_))
  refine (rev1_w (x := x) (dm := bEx) (hG.nil c11) f11 hr (by decide) (by omega) (by decide) (by omega)).mono fun v s12 q => ?_
  obtain ⟨rfl, c12⟩ := q
  rw [P.ahead]
  have f12 := c12.fine f11
  have n12 := c12.next
  obtain ⟨k0, k1, k2⟩ := new1_at f12 (.cells (adC2 [] []) tAd false false)
  (repeat(first|refine sb ?_|refine kNo ?_|refine gOn rfl ?_|refine gOff rfl rfl ?_|refine gTup rfl ?_))
  refine st_abs (cs' := adC2 A (low D)) rfl rfl k0 (Nat.lt_succ_self _) rfl rfl fun s13 e16 c13 n13 => ?_
  replace n13 : s13.next = s12.next + 1 := n13
  replace c13 : Chg s11 s13 [] := c12.nil (k1.fresh c13 (by simp))
  replace e4 := c13.blk _ _ (show s.next < s11.next by omega) (by simp) e4
  replace e9 := c13.blk _ _ (show s3.next < s11.next by omega) (by simp) e9
  replace e11 := c13.blk _ _ (show s5.next < s11.next by omega) (by simp) e11
  replace e14 := c13.blk _ _ (show s10.next < s11.next by omega) (by simp) e14
  replace hr := hr.chg c13 (by simp)
  replace c13 := c11.nil c13
  have f13 := c13.fine hF
  clear k0 k1 k2 c11 f11 c12 f12
  rcases hE with ⟨hn21, rfl, rfl, rfl⟩ | ⟨hn21, rfl⟩
  case' inl =>
    (repeat(first|refine sb ?_|refine kNo ?_|refine gOn rfl ?_|refine gOff rfl rfl ?_|refine gTup rfl ?_))
    intro q hq
    obtain rfl : q = false := by rw [hq]; rfl
    (repeat(first|refine sb ?_|refine kNo ?_|refine gOn rfl ?_|refine gOff rfl rfl ?_|refine gTup rfl ?_))
    refine ldN_is rfl e16 rfl ?_
    (repeat(first|refine sb ?_|refine kNo ?_|refine gOn rfl ?_|refine gOff rfl rfl ?_|refine gTup rfl ?_))
    refine ldN_is rfl e4 rfl ?_
    (repeat(first|refine sb ?_|refine kNo ?_|refine gOn rfl ?_|refine gOff rfl rfl ?_|refine gTup rfl ?_))
    refine (snormal_w f13 (a := B1) (d := D) (by omega)).mono fun v s14 q => ?_
    obtain ⟨rfl, c14⟩ := q
    have f14 := c14.fine f13
    have n14 := c14.next
    replace e4 := c14.blk _ _ (show s.next < s13.next by omega) (by simp) e4
    replace e9 := c14.blk _ _ (show s3.next < s13.next by omega) (by simp) e9
    replace e11 := c14.blk _ _ (show s5.next < s13.next by omega) (by simp) e11
    replace e14 := c14.blk _ _ (show s10.next < s13.next by omega) (by simp) e14
    replace hr := hr.chg c14 (by simp)
    refine kAll (c14.keep f13) ?_
    (repeat(first|refine sb ?_|refine kNo ?_|refine gOn rfl ?_|refine gOff rfl rfl ?_|refine gTup rfl ?_))
    intro q hq
    obtain rfl : q = false := by rw [hq]; simp
    (repeat(first|refine sb ?_|refine kNo ?_|refine gOn rfl ?_|refine gOff rfl rfl ?_|refine gTup rfl ?_))
    intro q hq
    obtain rfl : q = true := by rw [hq]; rfl
    (repeat(first|refine sb ?_|refine kNo ?_|refine gOn rfl ?_|refine gOff rfl rfl ?_|refine gTup rfl ?_))
    intro q hq
    obtain rfl : q = true := by rw [hq]; exact decide_eq_true (by omega)
    (repeat(first|refine sb ?_|refine kNo ?_|refine gOn rfl ?_|refine gOff rfl rfl ?_|refine gTup rfl ?_))
    intro q hq
    obtain rfl : q = false := by rw [hq]; rfl
    (repeat(first|refine sb ?_|refine kNo ?_|refine gOn rfl ?_|refine gOff rfl rfl ?_|refine gTup rfl ?_))
    intro q hq
    obtain rfl : q = true := by rw [hq]; rfl
    (repeat(first|refine sb ?_|refine kNo ?_|refine gOn rfl ?_|refine gOff rfl rfl ?_|refine gTup rfl ?_))
    refine ldN_is rfl e14 rfl ?_
    (repeat(first|refine sb ?_|refine kNo ?_|refine gOn rfl ?_|refine gOff rfl rfl ?_|refine gTup rfl ?_))
    refine ldN_is rfl e4 rfl ?_
    (repeat(first|refine sb ?_|refine kNo ?_|refine gOn rfl ?_|refine gOff rfl rfl ?_|refine gTup rfl ?_))
    refine (snormal_w f14 (a := B1) (d := D) (by omega)).mono fun v s15 q => ?_
    obtain ⟨rfl, c15⟩ := q
    replace e4 := c15.blk _ _ (show s.next < s14.next by omega) (by simp) e4
    replace e9 := c15.blk _ _ (show s3.next < s14.next by omega) (by simp) e9
    replace e11 := c15.blk _ _ (show s5.next < s14.next by omega) (by simp) e11
    replace hr := hr.chg c15 (by simp)
    have n15 := Nat.le_trans n14 c15.next
    refine kAll (c15.keep f14) ?_
    replace c15 := c13.nil (c14.nil c15)
    (repeat(first|refine sb ?_|refine kNo ?_|refine gOn rfl ?_|refine gOff rfl rfl ?_|refine gTup rfl ?_))
    intro q hq
    obtain rfl : q = false := by rw [hq]; simp
    (repeat(first|refine sb ?_|refine kNo ?_|refine gOn rfl ?_|refine gOff rfl rfl ?_|refine gTup rfl ?_))
    intro q hq
    obtain rfl : q = false := by rw [hq]; rfl
    (repeat(first|refine sb ?_|refine kNo ?_|refine gOn rfl ?_|refine gOff rfl rfl ?_|refine gTup rfl ?_))
    have f15 := c15.fine hF
    clear c13 f13 c14 f14 n14 e14 e16
  case' inr =>
    (repeat(first|refine sb ?_|refine kNo ?_|refine gOn rfl ?_|refine gOff rfl rfl ?_|refine gTup rfl ?_))
    intro q hq
    obtain rfl : q = false := by rw [hq]; rfl
    (repeat(first|refine sb ?_|refine kNo ?_|refine gOn rfl ?_|refine gOff rfl rfl ?_|refine gTup rfl ?_))
    refine ldN_is rfl e16 rfl ?_
    (repeat(first|refine sb ?_|refine kNo ?_|refine gOn rfl ?_|refine gOff rfl rfl ?_|refine gTup rfl ?_))
    refine ldN_is rfl e4 rfl ?_
    (repeat(first|refine sb ?_|refine kNo ?_|refine gOn rfl ?_|refine gOff rfl rfl ?_|refine gTup rfl ?_))
    refine (snormal_w f13 (a := A) (d := D) (by omega)).mono fun v s15 q => ?_
    obtain ⟨rfl, c15⟩ := q
    have n15 := c15.next
    replace e4 := c15.blk _ _ (show s.next < s13.next by omega) (by simp) e4
    replace e9 := c15.blk _ _ (show s3.next < s13.next by omega) (by simp) e9
    replace e11 := c15.blk _ _ (show s5.next < s13.next by omega) (by simp) e11
    replace hr := hr.chg c15 (by simp)
    refine kAll (c15.keep f13) ?_
    replace c15 := c13.nil c15
    (repeat(first|refine sb ?_|refine kNo ?_|refine gOn rfl ?_|refine gOff rfl rfl ?_|refine gTup rfl ?_))
    intro q hq
    obtain rfl : q = false := by rw [hq]; simp
    (repeat(first|refine sb ?_|refine kNo ?_|refine gOn rfl ?_|refine gOff rfl rfl ?_|refine gTup rfl ?_))
    intro q hq
    obtain rfl : q = false := by rw [hq]; rfl
    (repeat(first|refine sb ?_|refine kNo ?_|refine gOn rfl ?_|refine gOff rfl rfl ?_|refine gTup rfl ?_))
    intro q hq
    obtain rfl : q = false := by rw [hq]; exact decide_eq_false (by omega)
    (repeat(first|refine sb ?_|refine kNo ?_|refine gOn rfl ?_|refine gOff rfl rfl ?_|refine gTup rfl ?_))
    intro q hq
    obtain rfl : q = false := by rw [hq]; rfl
    (repeat(first|refine sb ?_|refine kNo ?_|refine gOn rfl ?_|refine gOff rfl rfl ?_|refine gTup rfl ?_))
    intro q hq
    obtain rfl : q = false := by rw [hq]; rfl
    (repeat(first|refine sb ?_|refine kNo ?_|refine gOn rfl ?_|refine gOff rfl rfl ?_|refine gTup rfl ?_))
    intro q hq
    obtain rfl : q = true := by rw [hq]; rfl
    (repeat(first|refine sb ?_|refine kNo ?_|refine gOn rfl ?_|refine gOff rfl rfl ?_|refine gTup rfl ?_))
    intro q hq
    obtain rfl : q = false := by rw [hq]; rfl
    (repeat(first|refine sb ?_|refine kNo ?_|refine gOn rfl ?_|refine gOff rfl rfl ?_|refine gTup rfl ?_))
    have f15 := c15.fine hF
    clear c13 f13 e14 e16
    obtain ⟨B1, hB⟩ : ∃ B1, B1 = A := ⟨_, rfl⟩
    subst hB
  all_goals (
    refine ldN_is rfl e11 rfl ?_
    (repeat(first|refine sb ?_|refine kNo ?_|refine gOn rfl ?_|refine gOff rfl rfl ?_|refine gTup rfl ?_))
    refine alloc_12 (rNew f15.at ?_)
    obtain ⟨m0, m1, m2⟩ := new1_at f15 (.cells (adC2 [] []) tAd false false)
    (repeat(first|refine sb ?_|refine kNo ?_|refine gOn rfl ?_|refine gOff rfl rfl ?_|refine gTup rfl ?_))
    refine (coder_w m2 (x := x) (dm := cEx)).mono fun v s16 q => ?_
    obtain ⟨b2, rfl, hr2, hb2, c16⟩ := q
    have f16 := c16.fine m2
    have n16 := c16.next
    replace n16 : s15.next + 1 ≤ s16.next := n16
    replace m0 := c16.blk _ _ (Nat.lt_succ_self _) (by simp) m0
    refine kAll (c16.keep m2) ?_
    (repeat(first|refine sb ?_|refine kNo ?_|refine gOn rfl ?_|refine gOff rfl rfl ?_|refine gTup rfl ?_))
    refine (rev1_w (x := x) (dm := cEx) (a := F) (d := bEx) (hG.nil ((c15.nil m1).nil c16)) f16 hr2 (by decide) (by omega) (by decide) (by omega)).mono fun v s17 q => ?_
    obtain ⟨rfl, c17⟩ := q
    rw [P.other]
    replace m0 := c17.blk _ _ (show s15.next < s16.next by omega) (by simp) m0
    have n17 := c17.next
    refine kAll (c17.keep f16) ?_
    (repeat(first|refine sb ?_|refine kNo ?_|refine gOn rfl ?_|refine gOff rfl rfl ?_|refine gTup rfl ?_))
    refine st_abs (cs' := adC2 [] []) rfl rfl m0 (show s15.next < s17.next by omega) rfl rfl fun s18 e18 c18 n18 => ?_
    replace n18 : s18.next = s17.next := n18
    replace c18 : Chg s15 s18 [] := (m1.nil (c16.nil c17)).fresh c18 (by simp)
    replace e4 := c18.blk _ _ (show s.next < s15.next by omega) (by simp) e4
    replace e9 := c18.blk _ _ (show s3.next < s15.next by omega) (by simp) e9
    replace e11 := c18.blk _ _ (show s5.next < s15.next by omega) (by simp) e11
    replace hr := hr.chg c18 (by simp)
    replace c18 := c15.nil c18
    have f18 := c18.fine hF
    clear m0 m1 m2 c16 f16 c17 c15 f15
    refine kNo ?_
    (repeat(first|refine sb ?_|refine kNo ?_|refine gOn rfl ?_|refine gOff rfl rfl ?_|refine gTup rfl ?_))
    intro q hq
    obtain rfl : q = false := by rw [hq]; rfl
    (repeat(first|refine sb ?_|refine kNo ?_|refine gOn rfl ?_|refine gOff rfl rfl ?_|refine gTup rfl ?_))
    refine ldS_is rfl e11 rfl ?_
    (repeat(first|refine sb ?_|refine kNo ?_|refine gOn rfl ?_|refine gOff rfl rfl ?_|refine gTup rfl ?_))
    refine (toLower_w (l := F) (by omega) (plain_asc P.pl)).mono fun v s18 q => ?_
    obtain ⟨rfl, rfl⟩ := q
    rw [lower_eq]
    have hlF : (low F).length ≤ 64 := by rw [low_len]; omega
    obtain ⟨k0, k1, k2⟩ := new1_at f18 (.cells (adC2 [] []) tAd false false)
    (repeat(first|refine sb ?_|refine kNo ?_|refine gOn rfl ?_|refine gOff rfl rfl ?_|refine gTup rfl ?_))
    refine st_abs (cs' := adC2 (low F) bEUU) rfl rfl k0 (Nat.lt_succ_self _) rfl rfl fun s19 e20 c19 n19 => ?_
    replace n19 : s19.next = s18.next + 1 := n19
    replace c19 : Chg s18 s19 [] := k1.fresh c19 (by simp)
    replace e4 := c19.blk _ _ (show s.next < s18.next by omega) (by simp) e4
    replace e9 := c19.blk _ _ (show s3.next < s18.next by omega) (by simp) e9
    replace e11 := c19.blk _ _ (show s5.next < s18.next by omega) (by simp) e11
    replace hr := hr.chg c19 (by simp)
    replace c19 := c18.nil c19
    have f19 := c19.fine hF
    clear k0 k1 k2 c18 f18
    (repeat(first|refine sb ?_|refine kNo ?_|refine gOn rfl ?_|refine gOff rfl rfl ?_|refine gTup rfl ?_))
    refine ldN_is rfl e9 rfl ?_
    (repeat(first|refine sb ?_|refine kNo ?_|refine gOn rfl ?_|refine gOff rfl rfl ?_|refine gTup rfl ?_))
    refine ldN_is rfl e20 rfl ?_
    (repeat(first|refine sb ?_|refine kNo ?_|refine gOn rfl ?_|refine gOff rfl rfl ?_|refine gTup rfl ?_))
    refine (rev1_w (x := x) (dm := bEx) (a := low F) (d := bEUU) (hG.nil c19) f19 hr (by decide) (by omega) (by decide) (by omega)).mono fun v s20 q => ?_
    obtain ⟨rfl, c20⟩ := q
    rw [P.lost]
    have f20 := c20.fine f19
    have n20 := c20.next
    obtain ⟨k0, k1, k2⟩ := new1_at f20 (.cells (adC2 [] []) tAd false false)
    (repeat(first|refine sb ?_|refine kNo ?_|refine gOn rfl ?_|refine gOff rfl rfl ?_|refine gTup rfl ?_))
    refine st_abs (cs' := adC2 (low _) (low D)) rfl rfl k0 (Nat.lt_succ_self _) rfl rfl fun s21 e21 c21 n21 => ?_
    replace n21 : s21.next = s20.next + 1 := n21
    replace c21 : Chg s19 s21 [] := c20.nil (k1.fresh c21 (by simp))
    replace e4 := c21.blk _ _ (show s.next < s19.next by omega) (by simp) e4
    replace e9 := c21.blk _ _ (show s3.next < s19.next by omega) (by simp) e9
    replace e11 := c21.blk _ _ (show s5.next < s19.next by omega) (by simp) e11
    replace hr := hr.chg c21 (by simp)
    replace c21 := c19.nil c21
    have f21 := c21.fine hF
    clear k0 k1 k2 c19 f19 c20 f20 e20
    (repeat(first|refine sb ?_|refine kNo ?_|refine gOn rfl ?_|refine gOff rfl rfl ?_|refine gTup rfl ?_))
    intro q hq
    obtain rfl : q = false := by rw [hq]; rfl
    (repeat(first|refine sb ?_|refine kNo ?_|refine gOn rfl ?_|refine gOff rfl rfl ?_|refine gTup rfl ?_))
    refine ldS_is rfl e21 rfl ?_
    (repeat(first|refine sb ?_|refine kNo ?_|refine gOn rfl ?_|refine gOff rfl rfl ?_|refine gTup rfl ?_))
    refine ldS_is rfl e4 rfl ?_
    (repeat(first|refine sb ?_|refine kNo ?_|refine gOn rfl ?_|refine gOff rfl rfl ?_|refine gTup rfl ?_))
    refine (same_w (by rw [low_len]; omega) (by omega)).mono fun v s22 q => ?_
    obtain ⟨rfl, c22⟩ := q
    have f22 := c22.fine f21
    have n22 := c22.next
    replace e4 := c22.blk _ _ (show s.next < s21.next by omega) (by simp) e4
    replace e9 := c22.blk _ _ (show s3.next < s21.next by omega) (by simp) e9
    replace e11 := c22.blk _ _ (show s5.next < s21.next by omega) (by simp) e11
    replace e21 := c22.blk _ _ (show s20.next < s21.next by omega) (by simp) e21
    replace hr := hr.chg c22 (by simp)
    (repeat(first|refine sb ?_|refine kNo ?_|refine gOn rfl ?_|refine gOff rfl rfl ?_|refine gTup rfl ?_))
    intro q hq
    obtain rfl : q = false := by rw [hq]; exact congrArg not (decide_eq_true (low_low _))
    (repeat(first|refine sb ?_|refine kNo ?_|refine gOn rfl ?_|refine gOff rfl rfl ?_|refine gTup rfl ?_))
    refine ldS_is rfl e21 rfl ?_
    (repeat(first|refine sb ?_|refine kNo ?_|refine gOn rfl ?_|refine gOff rfl rfl ?_|refine gTup rfl ?_))
    refine ldN_is rfl e4 rfl ?_
    (repeat(first|refine sb ?_|refine kNo ?_|refine gOn rfl ?_|refine gOff rfl rfl ?_|refine gTup rfl ?_))
    refine (snormal_w f22 (d := D) (by omega)).mono fun v s23 q => ?_
    obtain ⟨rfl, c23⟩ := q
    have n23 := c23.next
    replace e9 := c23.blk _ _ (show s3.next < s22.next by omega) (by simp) e9
    replace e11 := c23.blk _ _ (show s5.next < s22.next by omega) (by simp) e11
    replace hr := hr.chg c23 (by simp)
    refine kAll (c23.keep f22) ?_
    replace c23 := c21.nil (c22.nil c23)
    (repeat(first|refine sb ?_|refine kNo ?_|refine gOn rfl ?_|refine gOff rfl rfl ?_|refine gTup rfl ?_))
    intro q hq
    obtain rfl : q = false := by rw [hq]; simp
    (repeat(first|refine sb ?_|refine kNo ?_|refine gOn rfl ?_|refine gOff rfl rfl ?_|refine gTup rfl ?_))
    have f23 := c23.fine hF
    obtain ⟨s21, hs21⟩ : ∃ t, t = s23 := ⟨_, rfl⟩
    subst hs21
    replace e11 : lookH s21.heap s5.next = some (.cells (adC2 F bEx) tAd false false) := e11
    have c21 := c23
    have f21 := f23
    clear c23 f23 c22 f22 e21 e4
    refine ldS_is rfl e11 rfl ?_
    (repeat(first|refine sb ?_|refine kNo ?_|refine gOn rfl ?_|refine gOff rfl rfl ?_|refine gTup rfl ?_))
    obtain ⟨c, hc⟩ : ∃ c, F[5]? = some c := ⟨_, List.getElem?_eq_getElem (by omega)⟩
    have hg5 : F.getD 5 0 = c := by rw [List.getD_eq_getElem?_getD, hc]; rfl
    refine ⟨by omega, ?_⟩
    intro m hm
    obtain rfl : m = 5 := by omega
    refine ⟨c, hc, ?_⟩
    (repeat(first|refine sb ?_|refine kNo ?_|refine gOn rfl ?_|refine gOff rfl rfl ?_|refine gTup rfl ?_))
    intro w hw
    rw [orB32] at hw
    subst hw
    (repeat(first|refine sb ?_|refine kNo ?_|refine gOn rfl ?_|refine gOff rfl rfl ?_|refine gTup rfl ?_))
    intro q hq
    by_cases h97 : c ||| 32 = 97
    · obtain rfl : q = true := by rw [hq, h97]; rfl
      (repeat(first|refine sb ?_|refine kNo ?_|refine gOn rfl ?_|refine gOff rfl rfl ?_|refine gTup rfl ?_))

      refine ldS_is rfl e11 rfl ?_
      (repeat(first|refine sb ?_|refine kNo ?_|refine gOn rfl ?_|refine gOff rfl rfl ?_|refine gTup rfl ?_))
      refine slS_hi 5 rfl rfl rfl (by omega) ?_
      (repeat(first|refine sb ?_|refine kNo ?_|refine gOn rfl ?_|refine gOff rfl rfl ?_|refine gTup rfl ?_))
      refine mkS_is rfl rfl (rNew f21.at ?_)
      obtain ⟨m0, m1, m2⟩ := new1_at f21 (.cells (bytesV [66]) tB false false)
      (repeat(first|refine sb ?_|refine kNo ?_|refine gOn rfl ?_|refine gOff rfl rfl ?_|refine gTup rfl ?_))
      refine toStr_is10 (l := [66]) rfl m0 rfl ?_
      (repeat(first|refine sb ?_|refine kNo ?_|refine gOn rfl ?_|refine gOff rfl rfl ?_|refine gTup rfl ?_))
      refine ⟨by rw [List.length_take]; simp only [List.length_cons, List.length_nil]; omega, ?_⟩
      intro w hw
      subst hw
      have e11b := m1.blk _ _ (show s5.next < s21.next by omega) (by simp) e11
      (repeat(first|refine sb ?_|refine kNo ?_|refine gOn rfl ?_|refine gOff rfl rfl ?_|refine gTup rfl ?_))
      refine ldS_is rfl e11b rfl ?_
      (repeat(first|refine sb ?_|refine kNo ?_|refine gOn rfl ?_|refine gOff rfl rfl ?_|refine gTup rfl ?_))
      refine slS_lo 6 rfl rfl rfl (by omega) ?_
      (repeat(first|refine sb ?_|refine kNo ?_|refine gOn rfl ?_|refine gOff rfl rfl ?_|refine gTup rfl ?_))
      refine ⟨by rw [List.length_append, List.length_take, List.length_drop]; simp only [List.length_cons, List.length_nil]; omega, ?_⟩
      intro w hw
      obtain ⟨wr, hwr⟩ : ∃ wr, wr = F.take 5 ++ [66] ++ F.drop 6 := ⟨_, rfl⟩
      have hwl : wr.length ≤ 70 := by rw [hwr, List.length_append, List.length_append, List.length_take, List.length_drop]; simp only [List.length_cons, List.length_nil]; omega
      obtain rfl : w = wr := by rw [hw, hwr]
      clear hw
      (repeat(first|refine sb ?_|refine kNo ?_|refine gOn rfl ?_|refine gOff rfl rfl ?_|refine gTup rfl ?_))
      refine ldS_is rfl e11b rfl ?_
      (repeat(first|refine sb ?_|refine kNo ?_|refine gOn rfl ?_|refine gOff rfl rfl ?_|refine gTup rfl ?_))
      refine alloc_12 (rNew m2.at ?_)
      obtain ⟨m3, m4, m5⟩ := new1_at m2 (.cells (adC2 [] []) tAd false false)
      (repeat(first|refine sb ?_|refine kNo ?_|refine gOn rfl ?_|refine gOff rfl rfl ?_|refine gTup rfl ?_))
      refine st_abs (cs' := adC2 w bEx) rfl rfl m3 (Nat.lt_succ_self _) rfl rfl fun s22 e24 c22 n22 => ?_
      replace n22 : s22.next = s21.next + 1 + 1 := n22
      replace c22 : Chg s21 s22 [] := m1.nil (m4.fresh c22 (by simp))
      replace e9 := c22.blk _ _ (show s3.next < s21.next by omega) (by simp) e9
      replace e11 := c22.blk _ _ (show s5.next < s21.next by omega) (by simp) e11
      replace hr := hr.chg c22 (by simp)
      replace c22 := c21.nil c22
      have f22 := c22.fine hF
      refine kNo ?_
      (repeat(first|refine sb ?_|refine kNo ?_|refine gOn rfl ?_|refine gOff rfl rfl ?_|refine gTup rfl ?_))
      refine ldN_is rfl e9 rfl ?_
      (repeat(first|refine sb ?_|refine kNo ?_|refine gOn rfl ?_|refine gOff rfl rfl ?_|refine gTup rfl ?_))
      refine ldN_is rfl e24 rfl ?_
      (repeat(first|refine sb ?_|refine kNo ?_|refine gOn rfl ?_|refine gOff rfl rfl ?_|refine gTup rfl ?_))
      refine (rev1_w (x := x) (dm := bEx) (a := w) (d := bEx) (hG.nil c22) f22 hr (by decide) (by omega) (by decide) (by omega)).mono fun v s23 q => ?_
      obtain ⟨rfl, c23⟩ := q
      rw [hwr, P.wrong 66 (by decide) (by rw [hg5]; exact letter_a h97)]
      have f23 := c23.fine f22
      have n23 := c23.next
      obtain ⟨k0, k1, k2⟩ := new1_at f23 (.cells (adC2 [] []) tAd false false)
      (repeat(first|refine sb ?_|refine kNo ?_|refine gOn rfl ?_|refine gOff rfl rfl ?_|refine gTup rfl ?_))
      refine st_abs (cs' := adC2 [] []) rfl rfl k0 (Nat.lt_succ_self _) rfl rfl fun s24 e25 c24 n24 => ?_
      replace n24 : s24.next = s23.next + 1 := n24
      replace c24 : Chg s22 s24 [] := c23.nil (k1.fresh c24 (by simp))
      replace e9 := c24.blk _ _ (show s3.next < s22.next by omega) (by simp) e9
      replace e11 := c24.blk _ _ (show s5.next < s22.next by omega) (by simp) e11
      replace hr := hr.chg c24 (by simp)
      replace c24 := c22.nil c24
      have f24 := c24.fine hF
      clear k0 k1 k2
      (repeat(first|refine sb ?_|refine kNo ?_|refine gOn rfl ?_|refine gOff rfl rfl ?_|refine gTup rfl ?_))
      refine ldN_is rfl e9 rfl ?_
      (repeat(first|refine sb ?_|refine kNo ?_|refine gOn rfl ?_|refine gOff rfl rfl ?_|refine gTup rfl ?_))
      refine ldN_is rfl e11 rfl ?_
      (repeat(first|refine sb ?_|refine kNo ?_|refine gOn rfl ?_|refine gOff rfl rfl ?_|refine gTup rfl ?_))
      refine (fwd1_w (x := x) (dm := bEx) (a := F) (d := bEx) (hG.nil c24) f24 hr (by decide) (by omega) (by decide) (by omega)).mono fun v s25 q => ?_
      obtain ⟨rfl, c25⟩ := q
      rw [P.again]
      have f25 := c25.fine f24
      have n25 := c25.next
      obtain ⟨k0, k1, k2⟩ := new1_at f25 (.cells (adC2 [] []) tAd false false)
      (repeat(first|refine sb ?_|refine kNo ?_|refine gOn rfl ?_|refine gOff rfl rfl ?_|refine gTup rfl ?_))
      refine st_abs (cs' := adC2 F bEx) rfl rfl k0 (Nat.lt_succ_self _) rfl rfl fun s26 e27 c26 n26 => ?_
      replace c26 : Chg s24 s26 [] := c25.nil (k1.fresh c26 (by simp))
      replace e11 := c26.blk _ _ (show s5.next < s24.next by omega) (by simp) e11
      replace c26 := c24.nil c26
      have f26 := c26.fine hF
      (repeat(first|refine sb ?_|refine kNo ?_|refine gOn rfl ?_|refine gOff rfl rfl ?_|refine gTup rfl ?_))
      intro q hq
      obtain rfl : q = true := by rw [hq]; rfl
      (repeat(first|refine sb ?_|refine kNo ?_|refine gOn rfl ?_|refine gOff rfl rfl ?_|refine gTup rfl ?_))
      intro q hq
      obtain rfl : q = true := by rw [hq]; rfl
      (repeat(first|refine sb ?_|refine kNo ?_|refine gOn rfl ?_|refine gOff rfl rfl ?_|refine gTup rfl ?_))
      refine ldN_is rfl e27 rfl ?_
      (repeat(first|refine sb ?_|refine kNo ?_|refine gOn rfl ?_|refine gOff rfl rfl ?_|refine gTup rfl ?_))
      refine ldN_is rfl e11 rfl ?_
      (repeat(first|refine sb ?_|refine kNo ?_|refine gOn rfl ?_|refine gOff rfl rfl ?_|refine gTup rfl ?_))
      intro q hq
      obtain rfl : q = true := by rw [hq]; simp
      (repeat(first|refine sb ?_|refine kNo ?_|refine gOn rfl ?_|refine gOff rfl rfl ?_|refine gTup rfl ?_))
      refine (tells12_w (hG.nil c26) f26).mono fun v s27 q => ?_
      obtain ⟨rfl, _⟩ := q
      (repeat(first|refine sb ?_|refine kNo ?_|refine gOn rfl ?_|refine gOff rfl rfl ?_|refine gTup rfl ?_))
      rfl
    · obtain rfl : q = false := by
        rw [hq]
        refine decide_eq_false fun e => h97 (UInt8.toNat_inj.1 ?_)
        have : ((97 : UInt8).toNat : Int) = 97 := rfl
        omega
      (repeat(first|refine sb ?_|refine kNo ?_|refine gOn rfl ?_|refine gOff rfl rfl ?_|refine gTup rfl ?_))

      refine ldS_is rfl e11 rfl ?_
      (repeat(first|refine sb ?_|refine kNo ?_|refine gOn rfl ?_|refine gOff rfl rfl ?_|refine gTup rfl ?_))
      refine slS_hi 5 rfl rfl rfl (by omega) ?_
      (repeat(first|refine sb ?_|refine kNo ?_|refine gOn rfl ?_|refine gOff rfl rfl ?_|refine gTup rfl ?_))
      refine mkS_is rfl rfl (rNew f21.at ?_)
      obtain ⟨m0, m1, m2⟩ := new1_at f21 (.cells (bytesV [65]) tB false false)
      (repeat(first|refine sb ?_|refine kNo ?_|refine gOn rfl ?_|refine gOff rfl rfl ?_|refine gTup rfl ?_))
      refine toStr_is10 (l := [65]) rfl m0 rfl ?_
      (repeat(first|refine sb ?_|refine kNo ?_|refine gOn rfl ?_|refine gOff rfl rfl ?_|refine gTup rfl ?_))
      refine ⟨by rw [List.length_take]; simp only [List.length_cons, List.length_nil]; omega, ?_⟩
      intro w hw
      subst hw
      have e11b := m1.blk _ _ (show s5.next < s21.next by omega) (by simp) e11
      (repeat(first|refine sb ?_|refine kNo ?_|refine gOn rfl ?_|refine gOff rfl rfl ?_|refine gTup rfl ?_))
      refine ldS_is rfl e11b rfl ?_
      (repeat(first|refine sb ?_|refine kNo ?_|refine gOn rfl ?_|refine gOff rfl rfl ?_|refine gTup rfl ?_))
      refine slS_lo 6 rfl rfl rfl (by omega) ?_
      (repeat(first|refine sb ?_|refine kNo ?_|refine gOn rfl ?_|refine gOff rfl rfl ?_|refine gTup rfl ?_))
      refine ⟨by rw [List.length_append, List.length_take, List.length_drop]; simp only [List.length_cons, List.length_nil]; omega, ?_⟩
      intro w hw
      obtain ⟨wr, hwr⟩ : ∃ wr, wr = F.take 5 ++ [65] ++ F.drop 6 := ⟨_, rfl⟩
      have hwl : wr.length ≤ 70 := by rw [hwr, List.length_append, List.length_append, List.length_take, List.length_drop]; simp only [List.length_cons, List.length_nil]; omega
      obtain rfl : w = wr := by rw [hw, hwr]
      clear hw
      (repeat(first|refine sb ?_|refine kNo ?_|refine gOn rfl ?_|refine gOff rfl rfl ?_|refine gTup rfl ?_))
      refine ldS_is rfl e11b rfl ?_
      (repeat(first|refine sb ?_|refine kNo ?_|refine gOn rfl ?_|refine gOff rfl rfl ?_|refine gTup rfl ?_))
      refine alloc_12 (rNew m2.at ?_)
      obtain ⟨m3, m4, m5⟩ := new1_at m2 (.cells (adC2 [] []) tAd false false)
      (repeat(first|refine sb ?_|refine kNo ?_|refine gOn rfl ?_|refine gOff rfl rfl ?_|refine gTup rfl ?_))
      refine st_abs (cs' := adC2 w bEx) rfl rfl m3 (Nat.lt_succ_self _) rfl rfl fun s22 e24 c22 n22 => ?_
      replace n22 : s22.next = s21.next + 1 + 1 := n22
      replace c22 : Chg s21 s22 [] := m1.nil (m4.fresh c22 (by simp))
      replace e9 := c22.blk _ _ (show s3.next < s21.next by omega) (by simp) e9
      replace e11 := c22.blk _ _ (show s5.next < s21.next by omega) (by simp) e11
      replace hr := hr.chg c22 (by simp)
      replace c22 := c21.nil c22
      have f22 := c22.fine hF
      refine kNo ?_
      (repeat(first|refine sb ?_|refine kNo ?_|refine gOn rfl ?_|refine gOff rfl rfl ?_|refine gTup rfl ?_))
      refine ldN_is rfl e9 rfl ?_
      (repeat(first|refine sb ?_|refine kNo ?_|refine gOn rfl ?_|refine gOff rfl rfl ?_|refine gTup rfl ?_))
      refine ldN_is rfl e24 rfl ?_
      (repeat(first|refine sb ?_|refine kNo ?_|refine gOn rfl ?_|refine gOff rfl rfl ?_|refine gTup rfl ?_))
      refine (rev1_w (x := x) (dm := bEx) (a := w) (d := bEx) (hG.nil c22) f22 hr (by decide) (by omega) (by decide) (by omega)).mono fun v s23 q => ?_
      obtain ⟨rfl, c23⟩ := q
      rw [hwr, P.wrong 65 (by decide) (by rw [hg5]; exact letter_b h97)]
      have f23 := c23.fine f22
      have n23 := c23.next
      obtain ⟨k0, k1, k2⟩ := new1_at f23 (.cells (adC2 [] []) tAd false false)
      (repeat(first|refine sb ?_|refine kNo ?_|refine gOn rfl ?_|refine gOff rfl rfl ?_|refine gTup rfl ?_))
      refine st_abs (cs' := adC2 [] []) rfl rfl k0 (Nat.lt_succ_self _) rfl rfl fun s24 e25 c24 n24 => ?_
      replace n24 : s24.next = s23.next + 1 := n24
      replace c24 : Chg s22 s24 [] := c23.nil (k1.fresh c24 (by simp))
      replace e9 := c24.blk _ _ (show s3.next < s22.next by omega) (by simp) e9
      replace e11 := c24.blk _ _ (show s5.next < s22.next by omega) (by simp) e11
      replace hr := hr.chg c24 (by simp)
      replace c24 := c22.nil c24
      have f24 := c24.fine hF
      clear k0 k1 k2
      (repeat(first|refine sb ?_|refine kNo ?_|refine gOn rfl ?_|refine gOff rfl rfl ?_|refine gTup rfl ?_))
      refine ldN_is rfl e9 rfl ?_
      (repeat(first|refine sb ?_|refine kNo ?_|refine gOn rfl ?_|refine gOff rfl rfl ?_|refine gTup rfl ?_))
      refine ldN_is rfl e11 rfl ?_
      (repeat(first|refine sb ?_|refine kNo ?_|refine gOn rfl ?_|refine gOff rfl rfl ?_|refine gTup rfl ?_))
      refine (fwd1_w (x := x) (dm := bEx) (a := F) (d := bEx) (hG.nil c24) f24 hr (by decide) (by omega) (by decide) (by omega)).mono fun v s25 q => ?_
      obtain ⟨rfl, c25⟩ := q
      rw [P.again]
      have f25 := c25.fine f24
      have n25 := c25.next
      obtain ⟨k0, k1, k2⟩ := new1_at f25 (.cells (adC2 [] []) tAd false false)
      (repeat(first|refine sb ?_|refine kNo ?_|refine gOn rfl ?_|refine gOff rfl rfl ?_|refine gTup rfl ?_))
      refine st_abs (cs' := adC2 F bEx) rfl rfl k0 (Nat.lt_succ_self _) rfl rfl fun s26 e27 c26 n26 => ?_
      replace c26 : Chg s24 s26 [] := c25.nil (k1.fresh c26 (by simp))
      replace e11 := c26.blk _ _ (show s5.next < s24.next by omega) (by simp) e11
      replace c26 := c24.nil c26
      have f26 := c26.fine hF
      (repeat(first|refine sb ?_|refine kNo ?_|refine gOn rfl ?_|refine gOff rfl rfl ?_|refine gTup rfl ?_))
      intro q hq
      obtain rfl : q = true := by rw [hq]; rfl
      (repeat(first|refine sb ?_|refine kNo ?_|refine gOn rfl ?_|refine gOff rfl rfl ?_|refine gTup rfl ?_))
      intro q hq
      obtain rfl : q = true := by rw [hq]; rfl
      (repeat(first|refine sb ?_|refine kNo ?_|refine gOn rfl ?_|refine gOff rfl rfl ?_|refine gTup rfl ?_))
      refine ldN_is rfl e27 rfl ?_
      (repeat(first|refine sb ?_|refine kNo ?_|refine gOn rfl ?_|refine gOff rfl rfl ?_|refine gTup rfl ?_))
      refine ldN_is rfl e11 rfl ?_
      (repeat(first|refine sb ?_|refine kNo ?_|refine gOn rfl ?_|refine gOff rfl rfl ?_|refine gTup rfl ?_))
      intro q hq
      obtain rfl : q = true := by rw [hq]; simp
      (repeat(first|refine sb ?_|refine kNo ?_|refine gOn rfl ?_|refine gOff rfl rfl ?_|refine gTup rfl ?_))
      refine (tells12_w (hG.nil c26) f26).mono fun v s27 q => ?_
      obtain ⟨rfl, _⟩ := q
      (repeat(first|refine sb ?_|refine kNo ?_|refine gOn rfl ?_|refine gOff rfl rfl ?_|refine gTup rfl ?_))
      rfl)
end Go.Vf.S
end
section
/- Starts that know some of their blocks. -/
namespace Go.Vf.S
open Go Go.Vf Go.Proofs Go.Proofs.YtgddphciejoljaaGreatDoor Go.RowKit Go.ChangeShapes
set_option linter.unusedVariables false
set_option linter.unusedSimpArgs false

def renO (bs : List (RE × Option ABlk)) : Ren := fun id => bs[id]?.map Prod.fst
def heapO : Nat → List (RE × Option ABlk) → List (Nat × Option ABlk)
  | _, [] => []
  | n, (_, b) :: r => (n, b) :: heapO (n + 1) r
theorem heapO_look : ∀ (l : List (RE × Option ABlk)) (n id : Nat), lookH (heapO n l) id = if n ≤ id then (l[id - n]?.map Prod.snd).join else none
  | [], n, id => by simp [heapO, lookH]
  | (e, b) :: r, n, id => by
    simp only [heapO, lookH]
    rcases beq_cases n id with ⟨h, hb⟩ | ⟨h, hb⟩
    · subst h; simp
    · rw [hb, cond_false, heapO_look r (n + 1) id]
      by_cases h1 : n + 1 ≤ id
      · rw [if_pos h1, if_pos (by omega), show id - n = (id - (n + 1)) + 1 from by omega, List.getElem?_cons_succ]
      · rw [if_neg h1, if_neg (by omega)]
def startO (bs : List (RE × Option ABlk)) (gl : Nat) : SS := ⟨heapO 0 bs, bs.length, gl⟩
theorem startO_rel {P : Program} {W : World} {bs : List (RE × Option ABlk)} {gl : Nat} (h : ∀ (i : Nat) e b, bs[i]? = some (e, some b) → BRel P (renO bs) W e b ∧ b.ro = true) (hl : ∀ (i : Nat) e b, bs[i]? = some (e, b) → e.blk < W.heap.size)
    (hg : ∀ g, g < gl → ∃ e b, bs[g]? = some (e, b) ∧ e.blk = g ∧ e.off = 0) : HRel P W.heap.size W (renO bs) (startO bs gl).st W ∧ FreeFrom (renO bs) (startO bs gl).next := by
  have get : ∀ id b e, (startO bs gl).st.heap.get id = some b → renO bs id = some e → bs[id]? = some (e, some b) := by
    intro id b e hb he
    rw [SS.get] at hb
    simp only [startO, heapO_look, Nat.zero_le, if_true, Nat.sub_zero] at hb
    simp only [renO] at he
    cases hx : bs[id]? with
    | none => rw [hx] at hb; cases hb
    | some x =>
      rw [hx] at hb he
      obtain ⟨e', b'⟩ := x
      cases he
      simp only [Option.map_some, Option.join_some] at hb
      subst hb
      rfl
  refine ⟨⟨.refl _ _, Nat.le_refl _, .refl _, ?_, ?_, ?_, ?_, ?_⟩, ?_⟩
  · intro id b e hb he; exact (h _ _ _ (get _ _ _ hb he)).1
  · intro id b e hb he hr; rw [(h _ _ _ (get _ _ _ hb he)).2] at hr; cases hr
  · intro i j b b' e e' _ hb _ he hr; rw [(h _ _ _ (get _ _ _ hb he)).2] at hr; cases hr
  · intro id e he
    simp only [renO] at he
    cases hx : bs[id]? with
    | none => rw [hx] at he; cases he
    | some x =>
      rw [hx] at he
      obtain ⟨e', b'⟩ := x
      cases he
      exact hl _ _ _ hx
  · intro g hlt
    obtain ⟨e, b, h1, h2, h3⟩ := hg g hlt
    exact ⟨e, by simp [renO, h1], h2, h3⟩
  · intro id hid
    simp only [renO]
    rw [List.getElem?_eq_none (by exact hid)]; rfl
theorem startO_fine (bs : List (RE × Option ABlk)) (gl : Nat) : Fine (startO bs gl) := fun id hid => by
  show lookH (heapO 0 bs) id = none
  rw [heapO_look, List.getElem?_eq_none (by simpa [startO] using hid)]
  rfl

end Go.Vf.S
end
section
/- A start that knows the library's own number, and blocks more. -/
namespace Go.Vf.S
open Go Go.Vf Go.Proofs Go.Proofs.YtgddphciejoljaaGreatDoor Go.RowKit Go.ChangeShapes
set_option linter.unusedVariables false
set_option linter.unusedSimpArgs false

abbrev gMax : Nat := 2
theorem max_good {W : World} (h : W.ShapedOpen pr) : ∃ m, GoodB pr W ⟨gMax, 0, 1, 1, false⟩ (.cells [.int .i64 m] 3 false true) := by
  have h0 : ((begin pr (fun _ _ => 0) default).world.heap[gMax]?).bind Obj.row? = some (#[.int .i64 0], 3) := by kernel_rfl
  have hg : gMax < pr.globals.size := by decide +kernel
  obtain ⟨m, hm⟩ := cell_of_shapedOpen_int h hg h0 rfl (by kernel_rfl) (by kernel_rfl) Tryz.underlying3
  obtain ⟨cs, hh, hs, _⟩ := h.1 gMax _ 3 hg h0
  have hcs : cs = #[.int .i64 m] := by
    have h1 : cs.size = 1 := hs
    have h2 : cs[0]? = some (.int .i64 m) := by simpa [World.cell?, hh] using hm
    apply Array.ext'
    have h3 : cs.toList.length = 1 := by simpa using h1
    match hl : cs.toList, h3 with
    | [v], _ =>
      have : cs.toList[0]? = some (.int .i64 m) := by simpa using h2
      rw [hl] at this
      simpa using this
  subst hcs
  refine ⟨m, fun ρ => ⟨rfl, [.int .i64 m], 0, 0, 3, hh, (fun z => by cases z), (fun i _ hh => by omega), Nat.le_refl _, Nat.le_refl _, (by kernel_rfl), fun i v hi => ⟨v, by simpa using hi, plain1_rel ?_⟩⟩, rfl, (Array.getElem?_eq_some_iff.1 hh).1⟩
  match i, hi with
  | 0, hi => cases hi; rfl
  | i + 1, hi => simp at hi


end Go.Vf.S
end
section
/- A start that knows the kinds' table, the library's tables of runes and its own number, and blocks more. -/
namespace Go.Vf.S
open Go Go.Vf Go.Proofs Go.Proofs.YtgddphciejoljaaGreatDoor Go.RowKit Go.ChangeShapes
set_option linter.unusedVariables false
set_option linter.unusedSimpArgs false
set_option maxRecDepth 10000

theorem tabs_laidD {W : World} (h : laidMetH pr laidD W) : Lib.Utf8Tabs gFi gAc W := by
  rw [MakeChecks.laidMetH_plain _ _ _ (by kernel_rfl)] at h
  have e1 : Rows.laid_unicode_utf8_first = Lib.firstData := by kernel_rfl
  have e2 : (Rows.laid_unicode_utf8_acceptRanges : DataW Unit) = Lib.acceptData := by kernel_rfl
  exact utf8Tabs_of_reads (ρ := Tryz.lays230_ren) { Tryz.lays230 with } ⟨by kernel_rfl, by kernel_rfl, by kernel_rfl, by kernel_rfl, by kernel_rfl, by kernel_rfl, by kernel_rfl⟩
    (e1 ▸ Lib.laidMet.reads h (by simp [laidD])) (e2 ▸ Lib.laidMet.reads h (by simp [laidD]))

theorem tab_good {W : World} (hsh : W.ShapedOpen pr) {g n : Nat} (hg : g < pr.globals.size) (h0 : (((begin pr (fun _ _ => 0) default).world.heap[g]?).bind Obj.row?).isSome = true) {vs : List Value} (hp : vs.all plain1 = true) (hn : vs.length = n) (hpos : 0 < n) (h : ∀ c v, vs[c]? = some v → W.cell? ⟨g, c, none⟩ = some v) : GoodB pr W ⟨g, 0, n, 1, false⟩ (.cells vs tU8 false true) := by
  obtain ⟨⟨zero, t⟩, hz⟩ := Option.isSome_iff_exists.1 h0
  obtain ⟨⟨rc⟩, hb, _, _⟩ := hsh.1 g zero t hg hz
  have cell : ∀ c v, vs[c]? = some v → rc[c]? = some v := fun c v hv => by
    have := h c v hv
    rw [cell_at hb] at this
    exact this
  have hroom : n ≤ rc.length := by
    have := cell (n - 1) _ (List.getElem?_eq_getElem (by omega))
    have := (List.getElem?_eq_some_iff.1 this).1
    omega
  exact ⟨fun ρ => ⟨rfl, rc, 0, 0, t, hb, (fun z => by cases z), (fun i hi' hc2 => by omega), by simpa using hroom, by show vs.length ≤ n; omega, (by kernel_rfl), fun i v hv => ⟨v, by simpa using cell i v hv, plain1_rel (List.all_eq_true.1 hp v (List.mem_of_getElem? hv))⟩⟩, rfl, (Array.getElem?_eq_some_iff.1 hb).1⟩

theorem fi_good {W : World} (hsh : W.ShapedOpen pr) (h : Lib.Utf8Tabs gFi gAc W) : GoodB pr W ⟨gFi, 0, 256, 1, false⟩ (.cells fiV tU8 false true) :=
  tab_good hsh (by decide +kernel) (by kernel_rfl) (by simp [fiV, plain1]) (by simp [fiV]) (by omega) fun c v hv => by
    have hc : c < 256 := by
      have := (List.getElem?_eq_some_iff.1 hv).1
      simpa [fiV] using this
    rw [fi_get hc] at hv
    cases hv
    exact h.1 c hc
theorem ac_good {W : World} (hsh : W.ShapedOpen pr) (h : Lib.Utf8Tabs gFi gAc W) : GoodB pr W ⟨gAc, 0, 32, 1, false⟩ (.cells acV tU8 false true) :=
  tab_good hsh (by decide +kernel) (by kernel_rfl) (by simp [acV, plain1]) (by simp [acV]) (by omega) fun c v hv => by
    have hc : c < 32 := by
      have := (List.getElem?_eq_some_iff.1 hv).1
      simpa [acV] using this
    rw [ac_get hc] at hv
    cases hv
    have := h.2 (c / 2) (by omega)
    by_cases q : c % 2 = 0
    · rw [if_pos q]
      have e : 2 * (c / 2) = c := by omega
      rw [e] at this
      exact this.1
    · rw [if_neg q]
      have e : 2 * (c / 2) + 1 = c := by omega
      rw [e] at this
      exact this.2


abbrev gTopR : Nat := max (max gK gMax) (max gFi gAc) + 1
abbrev mxE (m : Int) : ABlk := .cells [.int .i64 m] 3 false true
structure TabsR (W : World) (m : Int) : Prop where
  k : GoodB pr W kE kB
  f : GoodB pr W ⟨gFi, 0, 256, 1, false⟩ (.cells fiV tU8 false true)
  a : GoodB pr W ⟨gAc, 0, 32, 1, false⟩ (.cells acV tU8 false true)
  x : GoodB pr W ⟨gMax, 0, 1, 1, false⟩ (mxE m)
def rAt (m : Int) (i : Nat) : RE × Option ABlk := if i = gK then (kE, some kB) else if i = gFi then (⟨gFi, 0, 256, 1, false⟩, some (.cells fiV tU8 false true)) else if i = gAc then (⟨gAc, 0, 32, 1, false⟩, some (.cells acV tU8 false true)) else if i = gMax then (⟨gMax, 0, 1, 1, false⟩, some (mxE m)) else (⟨i, 0, 0, 1, false⟩, none)
def bsR (m : Int) : List (RE × Option ABlk) := (List.range gTopR).map (rAt m)
def startR (m : Int) : SS := startO (bsR m) gTopR
theorem bsR_len (m : Int) : (bsR m).length = gTopR := by simp [bsR]
theorem bsR_at {m : Int} {i : Nat} (h : i < gTopR) : (bsR m)[i]? = some (rAt m i) := by
  unfold bsR
  rw [List.getElem?_map, List.getElem?_range h]
  rfl
theorem rAt_is (m : Int) (i : Nat) : (rAt m i).1.blk = i ∧ (rAt m i).1.off = 0 ∧ (rAt m i = (kE, some kB) ∨ rAt m i = (⟨gFi, 0, 256, 1, false⟩, some (.cells fiV tU8 false true)) ∨ rAt m i = (⟨gAc, 0, 32, 1, false⟩, some (.cells acV tU8 false true)) ∨ rAt m i = (⟨gMax, 0, 1, 1, false⟩, some (mxE m)) ∨ rAt m i = (⟨i, 0, 0, 1, false⟩, none)) := by
  unfold rAt
  by_cases h1 : i = gK
  · rw [if_pos h1]; exact ⟨h1.symm, rfl, .inl rfl⟩
  · rw [if_neg h1]
    by_cases h2 : i = gFi
    · rw [if_pos h2]; exact ⟨h2.symm, rfl, .inr (.inl rfl)⟩
    · rw [if_neg h2]
      by_cases h3 : i = gAc
      · rw [if_pos h3]; exact ⟨h3.symm, rfl, .inr (.inr (.inl rfl))⟩
      · rw [if_neg h3]
        by_cases h4 : i = gMax
        · rw [if_pos h4]; exact ⟨h4.symm, rfl, .inr (.inr (.inr (.inl rfl)))⟩
        · rw [if_neg h4]; exact ⟨rfl, rfl, .inr (.inr (.inr (.inr rfl)))⟩
theorem startR_rel {W : World} {m : Int} (g : TabsR W m) : HRel pr W.heap.size W (renO (bsR m)) (startR m).st W ∧ FreeFrom (renO (bsR m)) (startR m).next := by
  have k0 : gK < W.heap.size := g.k.2.2
  have k1 : gFi < W.heap.size := g.f.2.2
  have k2 : gAc < W.heap.size := g.a.2.2
  have k3 : gMax < W.heap.size := g.x.2.2
  have all : ∀ i x, (bsR m)[i]? = some x → i < gTopR ∧ x = rAt m i := fun i x h => by
    have hi : i < gTopR := by rw [← bsR_len m]; exact (List.getElem?_eq_some_iff.1 h).1
    rw [bsR_at hi] at h
    exact ⟨hi, (Option.some.inj h).symm⟩
  refine startO_rel (fun i e b h => ?_) (fun i e b h => ?_) (fun g hg => ?_)
  · obtain ⟨_, q⟩ := all i _ h
    rcases (rAt_is m i).2.2 with z | z | z | z | z <;> rw [z] at q <;> cases q
    · exact ⟨g.k.1 _, g.k.2.1⟩
    · exact ⟨g.f.1 _, g.f.2.1⟩
    · exact ⟨g.a.1 _, g.a.2.1⟩
    · exact ⟨g.x.1 _, g.x.2.1⟩
  · obtain ⟨hi, q⟩ := all i _ h
    have hb := (rAt_is m i).1
    rw [← q] at hb
    have hb : e.blk = i := hb
    have ht : gTopR ≤ W.heap.size := by show max (max gK gMax) (max gFi gAc) + 1 ≤ _; omega
    omega
  · exact ⟨_, _, bsR_at hg, (rAt_is m g).1, (rAt_is m g).2.1⟩
theorem startR_look {m : Int} {i : Nat} (h : i < gTopR) : lookH (startR m).heap i = (rAt m i).2 := by
  show lookH (heapO 0 (bsR m)) i = _
  rw [heapO_look, if_pos (Nat.zero_le _), Nat.sub_zero, bsR_at h]
  rfl
theorem startR_next (m : Int) : (startR m).next = gTopR := bsR_len m
theorem startR_Gk (m : Int) : Gk (startR m) := ⟨(by show gK < gTopR; decide), (by rw [startR_next]; decide), (by rw [startR_look (by decide)]; rfl)⟩
theorem startR_Gv (m : Int) : Gv (startR m) := ⟨(by show gFi < gTopR; decide), (by show gAc < gTopR; decide), (by rw [startR_next]; decide), (by rw [startR_next]; decide), (by rw [startR_look (by decide)]; rfl), (by rw [startR_look (by decide)]; rfl)⟩
theorem startR_fine (m : Int) : Fine (startR m) := startO_fine _ _
theorem tabsRD {W : World} (h : laidMetH pr laidD W) (hsh : W.ShapedOpen pr) : ∃ m, TabsR W m := by
  obtain ⟨m, hm⟩ := max_good hsh
  exact ⟨m, tabsD h, fi_good hsh (tabs_laidD h), ac_good hsh (tabs_laidD h), hm⟩
end Go.Vf.S
end
section
/- Addresses that are handed in: a seat without the table of letters. -/
namespace Go.Vf.S
open Go Go.Vf Go.Proofs Go.Proofs.YtgddphciejoljaaGreatDoor Go.RowKit Go.ChangeShapes Go.WideShapes
set_option linter.unusedVariables false
set_option linter.unusedSimpArgs false
set_option maxRecDepth 100000

theorem lst2 {α : Type} : ∀ {l : List α}, l.length = 2 → ∃ a b, l = [a, b]
  | [a, b], _ => ⟨a, b, rfl⟩
theorem adV_rel {ρ : Ren} (a d : List UInt8) : VRel ρ (adV a d) (adV a d) := plain_rel (v := adV a d) rfl

section
variable {H : Type} {enc : TypeId × Value → H} {w : World} {base : Nat} {spare : Nat → Bool} {held : Bool} {b0 : Nat} {v : Value} {d : DataW H} {p : List MemPlace} {n : Nat}

theorem trod_Ad {cs : List Value} {x : DataW H × List MemPlace} (h : DataW.trod enc pr w base spare held n tAd cs = some x) : ∃ a e, cs = [str a, str e] ∧ x.2 = [] := by
  obtain ⟨y0, y1, m, rfl, hl, h0, h1⟩ := trod_struct2 Tryz.underlying23 h
  obtain ⟨⟨⟨a⟩⟩, e0, rfl, _⟩ := DataW.trod_string Tryz.underlying9 h0
  obtain ⟨⟨⟨e⟩⟩, e1, rfl, _⟩ := DataW.trod_string Tryz.underlying9 h1
  have c2 : pr.cellsOf tAd = 2 := by kernel_rfl
  have c1 : pr.cellsOf 9 = 1 := by kernel_rfl
  rw [c2] at hl
  rw [c1] at e0 e1
  obtain ⟨u, w, rfl⟩ := lst2 hl
  refine ⟨a, e, ?_, rfl⟩
  have q0 : u = str a := (List.cons.inj e0).1
  have q1 : w = str e := (List.cons.inj e1).1
  rw [q0, q1]

theorem open_Ad (hv : Value.okWide pr w .any b0 tAd v) (h : DataW.Trod enc pr w base spare held tAd v d p) : ∃ a e, v = adV a e ∧ p = [] := by
  obtain ⟨cs, rfl, hsz⟩ := okWide_struct Tryz.underlying23 hv
  obtain ⟨fuel, hf⟩ := h
  obtain ⟨a, e, h1, h2⟩ := trod_Ad hf
  refine ⟨a, e, ?_, h2⟩
  obtain ⟨cs⟩ := cs
  have h1 : cs = [str a, str e] := h1
  rw [h1]

end
end Go.Vf.S
end

import Derived.Test.YtgddphciejoljaaGreatDoorMg4
import Derived.Test.YtgddphciejoljaaGreatDoorMg2
import Derived.Test.YtgddphciejoljaaGreatDoorAdS
import Derived.Test.YtgddphciejoljaaGreatDoorMg1
import Derived.Shelf.Vars
import Derived.Handed
import Derived.Lib.LaidU8
import Derived.Lib.SmallJoins
section
/- The law SrsTwo, from any state in which the tables lie. -/
namespace Go.Vf.S
open Go Go.Vf Go.Proofs Go.RowKit
attribute [local irreducible] wSeq wRow wp wG hmac tellF pstF tagF agF mayF domF cmayF nsF oursF isF fwdF revF firstF
set_option linter.unusedVariables false
set_option linter.unusedSimpArgs false
set_option maxRecDepth 10000

theorem sIndex12_w {s : SS} {l m : List UInt8} (hM : Gx s) (hl : l.length ≤ 1000000) : CallW pr 46 [str l, str m] s fun v s' => v = .int .i64 (Lib.index l m) ∧ s' = s := by
  refine CallW.kit rfl fun B w0 ρ args' w H hr => ?_
  obtain ⟨v1, v2, rfl, q1, q2⟩ := lrel_t hr
  obtain rfl := str_inv q1
  obtain rfl := str_inv q2
  obtain ⟨g1, g2, m1, g4⟩ := hM
  obtain ⟨e, he, hb, ho⟩ := H.glob gMx g1
  obtain ⟨v', p1, p2⟩ := H.cellAt g4 he (off := 0) rfl
  rw [hb, ho, int_inv p2] at p1
  exact (Any.strings_Index Tryz.lays143 ⟨⟨l⟩⟩ ⟨⟨m⟩⟩ m1 w (by show l.length < _; omega) p1).mono fun e w' ⟨q, r⟩ => ⟨q, by rw [r]; exact Below.refl _ _⟩
theorem contains12_w {s : SS} {l m : List UInt8} (hM : Gx s) (hl : l.length ≤ 1000000) : CallW pr n_strings_Contains [str l, str m] s fun v s' => v = .bool (decide (0 ≤ Lib.index l m)) ∧ s' = s := by
  refine CallW.run good ok_strings_Contains (by simp) rfl ?_
  (try refine pSeq ?_); (repeat refine sb ?_)
  refine (sIndex12_w hM hl).mono fun v s q => ?_
  obtain ⟨rfl, rfl⟩ := q
  (repeat refine sb ?_)
  intro q hq
  (repeat refine sb ?_)
  subst hq
  exact ⟨rfl, rfl⟩
theorem index_part {a b : List UInt8} : ∀ l : List UInt8, 0 ≤ Lib.index (l ++ a ++ b) a := by
  intro l
  induction l with
  | nil =>
    rw [List.nil_append]
    have hp : a.isPrefixOf (a ++ b) = true := by rw [List.isPrefixOf_iff_prefix]; exact List.prefix_append _ _
    cases hs : a ++ b with
    | nil =>
      have : a = [] := (List.append_eq_nil_iff.1 hs).1
      subst this
      simp [Lib.index]
    | cons x r =>
      rw [hs] at hp
      rw [Lib.index, if_pos hp]
      exact Int.le_refl _
  | cons x l ih =>
    rw [List.cons_append, List.cons_append, Lib.index]
    split
    · exact Int.le_refl _
    · split
      · rename_i h
        have : Lib.index (l ++ a ++ b) a = -1 := by simpa using h
        omega
      · omega
/-- What SrsTwo asks of what was told, of all of its calls. -/
structure TwoP (x y A D F G K : List UInt8) (on : Nat) : Prop where
  lenF : F.length ≤ 64
  lenG : G.length ≤ 64 ∧ 14 ≤ G.length
  lenK : K.length = G.length
  f : fwdF (cdr x bEx) A D on = (F, bEx, 0)
  g : fwdF (cdr y cEx) F bEx on = (G, cEx, 0)
  b : ∀ day : Int, revF (cdr y cEx) G cEx day = (F, bEx, 0)
  pre : G.take 5 = [83, 82, 83, 49, 61]
  has : 0 ≤ Lib.index G [61, 98, 46, 101, 120, 97, 109, 112, 108, 101, 61, 61]
  back : revF (cdr x bEx) F bEx on = (A, low D, 0)
  k : fwdF (cdr (x ++ y) dEx) G cEx on = (K, dEx, 0)
  k9 : K.drop 9 = G.drop 9
  m : ∀ day : Int, revF (cdr (x ++ y) dEx) K dEx day = (F, bEx, 0)
theorem two_p {x y A D : List UInt8} {on : Nat} (h : Sn A D) (h1 : 1 ≤ on) : ∃ F G K, TwoP x y A D F G K on := by
  obtain ⟨p1, p2, p3⟩ := h.pl
  obtain ⟨q1, q2, q3, q4, q5, q6, q7, q8, q9⟩ := h.dm
  have hb : domF bEx = 0 := dom_facts.2.2.1
  have hc : domF cEx = 0 := dom_facts.2.2.2.1
  have hd : domF dEx = 0 := dom_facts.2.2.2.2
  have hbl : low bEx = bEx := by decide
  have hcl : low cEx = cEx := by decide
  have hdl : low dEx = dEx := by decide
  have hC := h.ch (s := x) (on := (on : Int))
  have hbeg := (beg_first (cdr x bEx).sec (stT (sn on)) D A).1
  have h45 := (first_4 (cdr x bEx).sec (stT (sn on)) D A).2
  have e1 := fwd_first (s := x) (on := (on : Int)) h hbl hb q7
  have e2 : revF (cdr x bEx) (firstF (cdr x bEx).sec (stT (sn on)) D A) bEx on = (A, low D, 0) := by
    refine back_ok h hbl hb ?_
    have := ag_fwd (on := (on : Int)) (n := 0) (by omega) (by omega)
    rw [show (on : Int) + ((0 : Nat) : Int) = on by omega] at this
    rw [this]
    omega
  generalize firstF (cdr x bEx).sec (stT (sn on)) D A = F at *
  have hl := hC.l
  have hG := chain_len (cdr y cEx).sec bEx (F.drop 4)
  rw [hbl, List.length_drop] at hG
  have hb9 : bEx.length = 9 := rfl
  have hk := chain_9 (cdr (x ++ y) dEx).sec (cdr y cEx).sec bEx (F.drop 4)
  refine ⟨F, chainF (cdr y cEx).sec bEx (F.drop 4), chainF (cdr (x ++ y) dEx).sec bEx (F.drop 4), ⟨by omega, by omega, hk.2, e1, hC.fwd0 hbeg hcl hc (by decide) on, fun day => hC.back hcl hc day, ?_, ?_, e2, hC.fwd1 hcl hc hdl hd (by decide) (by decide) on, hk.1, fun day => hC.back hdl hd day⟩⟩
  · obtain ⟨t, ht⟩ := chain_pre (cdr y cEx).sec bEx (F.drop 4)
    rw [← ht]
    rfl
  · unfold chainF
    rw [hbl, h45]
    have := index_part (a := [61, 98, 46, 101, 120, 97, 109, 112, 108, 101, 61, 61]) (b := F.drop 5) ([83, 82, 83, 49, 61] ++ tagF (cdr y cEx).sec (bEx ++ 61 :: F.drop 5))
    have e : [83, 82, 83, 49, 61] ++ tagF (cdr y cEx).sec (bEx ++ 61 :: F.drop 5) ++ [61] ++ bEx ++ [61] ++ 61 :: F.drop 5 = [83, 82, 83, 49, 61] ++ tagF (cdr y cEx).sec (bEx ++ 61 :: F.drop 5) ++ [61, 98, 46, 101, 120, 97, 109, 112, 108, 101, 61, 61] ++ F.drop 5 := by
      simp [bEx, List.append_assoc]
    rw [e]
    exact this


set_option maxHeartbeats 8000000 in
theorem lstwo_w {s : SS} {a d x y : List UInt8} {dy : Nat} (hG : Gk s) (hV : Gv s) (hX : Gx s) (hF : Fine s) (hd : dy < 65536) (hxy : x.length + y.length ≤ 1152921504606846976) : CallW pr n_law12_SrsTwo [adV a d, str x, str y, .int .u16 dy] s fun v s' => v = .bool true := by
  refine CallW.run good ok_law12_SrsTwo (by simp) rfl ?_
  obtain ⟨e4, c0, f0⟩ := new1_at hF (.cells (adC2 a d) tAd false false)
  (try refine pSeq ?_); (repeat(first|refine sb ?_|refine kNo ?_|refine gOn rfl ?_|refine gOff rfl rfl ?_|refine gTup rfl ?_))
  refine ldN_is rfl e4 rfl ?_
  (repeat(first|refine sb ?_|refine kNo ?_|refine gOn rfl ?_|refine gOff rfl rfl ?_|refine gTup rfl ?_))
  refine (sender_w (hV.chg c0) f0).mono fun v s0 q => ?_
  obtain ⟨rfl, c1⟩ := q
  have hS := snd_Sn a d
  generalize sndA a = A at *
  generalize sndD d = D at *
  obtain ⟨p1, p2, p3⟩ := hS.pl
  obtain ⟨q1, q2, q3, q4, q5, q6, q7, q8, q9⟩ := hS.dm
  have hDl : D.length ≤ 10 := by rw [← low_len]; exact q4
  replace e4 := c1.blk _ _ (show s.next < s.next + 1 by omega) (by simp) e4
  have n1 := c1.next
  replace n1 : s.next + 1 ≤ s0.next := n1
  replace c1 := c0.nil c1
  clear c0 f0
  (repeat(first|refine sb ?_|refine kNo ?_|refine gOn rfl ?_|refine gOff rfl rfl ?_|refine gTup rfl ?_))
  refine st_abs (cs' := adC2 A D) rfl rfl e4 (show s.next < s0.next by omega) rfl rfl fun s1 e4 c2 n2 => ?_
  replace n2 : s1.next = s0.next := n2
  have cs1 : Chg s s1 [] := c1.fresh c2 (by simp)
  have fs1 := cs1.fine hF
  clear c1 c2
  (repeat(first|refine sb ?_|refine kNo ?_|refine gOn rfl ?_|refine gOff rfl rfl ?_|refine gTup rfl ?_))
  refine (coder_w fs1 (x := x) (dm := bEx)).mono fun v s2 q => ?_
  obtain ⟨b1, rfl, r1, hb1, cs2⟩ := q
  have ns2 := cs2.next
  replace e4 := cs2.blk _ _ (show s.next < s1.next by omega) (by simp) e4
  have fs2 := cs2.fine fs1
  replace cs2 := cs1.nil cs2
  (repeat(first|refine sb ?_|refine kNo ?_|refine gOn rfl ?_|refine gOff rfl rfl ?_|refine gTup rfl ?_))
  refine (coder_w fs2 (x := y) (dm := cEx)).mono fun v s3 q => ?_
  obtain ⟨b2, rfl, r2, hb2, cs3⟩ := q
  have ns3 := cs3.next
  replace e4 := cs3.blk _ _ (show s.next < s2.next by omega) (by simp) e4
  replace r1 := r1.chg cs3 (by simp)
  have fs3 := cs3.fine fs2
  replace cs3 := cs2.nil cs3
  (repeat(first|refine sb ?_|refine kNo ?_|refine gOn rfl ?_|refine gOff rfl rfl ?_|refine gTup rfl ?_))
  refine ⟨hxy, ?_⟩
  intro w hw
  subst hw
  (repeat(first|refine sb ?_|refine kNo ?_|refine gOn rfl ?_|refine gOff rfl rfl ?_|refine gTup rfl ?_))
  refine (coder_w fs3 (x := x ++ y) (dm := dEx)).mono fun v s4 q => ?_
  obtain ⟨b3, rfl, r3, hb3, cs4⟩ := q
  have ns4 := cs4.next
  replace e4 := cs4.blk _ _ (show s.next < s3.next by omega) (by simp) e4
  replace r1 := r1.chg cs4 (by simp)
  replace r2 := r2.chg cs4 (by simp)
  have fs4 := cs4.fine fs3
  replace cs4 := cs3.nil cs4
  (repeat(first|refine sb ?_|refine kNo ?_|refine gOn rfl ?_|refine gOff rfl rfl ?_|refine gTup rfl ?_))
  obtain ⟨k0, k1, k2, k3, k4⟩ := new3_at fs4 (.cells [str [], .slice none 0 0] tCo false false) (.cells [str [], .slice none 0 0] tCo false false) (.cells [str [], .slice none 0 0] tCo false false)
  refine st_abs (cs' := coC x bEx b1) rfl rfl k0 (show s4.next < s4.next + 1 + 1 + 1 by omega) rfl rfl fun s5 e9 j1 m1 => ?_
  replace k1 := j1.blk _ _ (show s4.next + 1 < s4.next + 1 + 1 + 1 by omega) (by simp) k1
  replace k2 := j1.blk _ _ (show s4.next + 1 + 1 < s4.next + 1 + 1 + 1 by omega) (by simp; omega) k2
  replace m1 : s5.next = s4.next + 1 + 1 + 1 := m1
  (repeat(first|refine sb ?_|refine kNo ?_|refine gOn rfl ?_|refine gOff rfl rfl ?_|refine gTup rfl ?_))
  refine st_abs (cs' := coC y cEx b2) rfl rfl k1 (show s4.next + 1 < s5.next by omega) rfl rfl fun s6 e10 j2 m2 => ?_
  replace k2 := j2.blk _ _ (show s4.next + 1 + 1 < s5.next by omega) (by simp) k2
  replace e9 := j2.blk _ _ (show s4.next < s5.next by omega) (by simp) e9
  replace m2 : s6.next = s5.next := m2
  (repeat(first|refine sb ?_|refine kNo ?_|refine gOn rfl ?_|refine gOff rfl rfl ?_|refine gTup rfl ?_))
  refine st_abs (cs' := coC (x ++ y) dEx b3) rfl rfl k2 (show s4.next + 1 + 1 < s6.next by omega) rfl rfl fun s7 e11 j3 m3 => ?_
  replace e9 := j3.blk _ _ (show s4.next < s6.next by omega) (by simp; omega) e9
  replace e10 := j3.blk _ _ (show s4.next + 1 < s6.next by omega) (by simp) e10
  replace m3 : s7.next = s6.next := m3
  have cs7 : Chg s4 s7 [] := ((k3.fresh j1 (by simp)).fresh j2 (by simp)).fresh j3 (by simp; omega)
  have fs7 := cs7.fine fs4
  replace e4 := cs7.blk _ _ (show s.next < s4.next by omega) (by simp) e4
  replace r1 := r1.chg cs7 (by simp)
  replace r2 := r2.chg cs7 (by simp)
  replace r3 := r3.chg cs7 (by simp)
  replace cs7 := cs4.nil cs7
  clear k0 k1 k2 k3 k4 j1 j2 j3
  (repeat(first|refine sb ?_|refine kNo ?_|refine gOn rfl ?_|refine gOff rfl rfl ?_|refine gTup rfl ?_))
  intro w hw
  rw [i64_id (by omega)] at hw
  subst hw
  (repeat(first|refine sb ?_|refine kNo ?_|refine gOn rfl ?_|refine gOff rfl rfl ?_|refine gTup rfl ?_))
  refine ⟨by decide, ?_⟩
  intro w hw
  rw [show (5000 : Int) = ((5000 : Nat) : Int) from rfl, tmod12] at hw
  subst hw
  (repeat(first|refine sb ?_|refine kNo ?_|refine gOn rfl ?_|refine gOff rfl rfl ?_|refine gTup rfl ?_))
  intro w hw
  rw [i64_id (by omega)] at hw
  obtain ⟨on, hon⟩ : ∃ on : Nat, on = 1 + dy % 5000 := ⟨_, rfl⟩
  obtain rfl : w = (on : Int) := by omega
  have hon1 : 1 ≤ on ∧ on ≤ 5000 := by omega
  obtain ⟨F, G, K, P⟩ := two_p (x := x) (y := y) hS hon1.1
  have hFl := P.lenF
  have hGl := P.lenG
  have hKl := P.lenK
  clear hon hw
  (repeat(first|refine sb ?_|refine kNo ?_|refine gOn rfl ?_|refine gOff rfl rfl ?_|refine gTup rfl ?_))
  refine ldN_is rfl e9 rfl ?_
  (repeat(first|refine sb ?_|refine kNo ?_|refine gOn rfl ?_|refine gOff rfl rfl ?_|refine gTup rfl ?_))
  refine ldN_is rfl e4 rfl ?_
  (repeat(first|refine sb ?_|refine kNo ?_|refine gOn rfl ?_|refine gOff rfl rfl ?_|refine gTup rfl ?_))
  refine (fwd1_w (x := x) (dm := bEx) (a := A) (d := D) (hG.nil cs7) fs7 r1 (by decide) (by omega) (by omega) (by omega)).mono fun v s8 q => ?_
  obtain ⟨rfl, cs8⟩ := q
  rw [P.f]
  have ns8 := cs8.next
  replace e4 := cs8.blk _ _ (show s.next < s7.next by omega) (by simp) e4
  replace e9 := cs8.blk _ _ (show s4.next < s7.next by omega) (by simp) e9
  replace e10 := cs8.blk _ _ (show s4.next + 1 < s7.next by omega) (by simp) e10
  replace e11 := cs8.blk _ _ (show s4.next + 1 + 1 < s7.next by omega) (by simp) e11
  replace r1 := r1.chg cs8 (by simp)
  replace r2 := r2.chg cs8 (by simp)
  replace r3 := r3.chg cs8 (by simp)
  have fs8 := cs8.fine fs7
  replace cs8 := cs7.nil cs8
  obtain ⟨k0, k1, k2⟩ := new1_at fs8 (.cells (adC2 [] []) tAd false false)
  (repeat(first|refine sb ?_|refine kNo ?_|refine gOn rfl ?_|refine gOff rfl rfl ?_|refine gTup rfl ?_))
  refine st_abs (cs' := adC2 F bEx) rfl rfl k0 (Nat.lt_succ_self _) rfl rfl fun s9 e13 cs9 ns9 => ?_
  replace ns9 : s9.next = s8.next + 1 := ns9
  replace cs9 : Chg s8 s9 [] := k1.fresh cs9 (by simp)
  have fs9 := cs9.fine fs8
  replace e4 := cs9.blk _ _ (show s.next < s8.next by omega) (by simp) e4
  replace e9 := cs9.blk _ _ (show s4.next < s8.next by omega) (by simp) e9
  replace e10 := cs9.blk _ _ (show s4.next + 1 < s8.next by omega) (by simp) e10
  replace e11 := cs9.blk _ _ (show s4.next + 1 + 1 < s8.next by omega) (by simp) e11
  replace r1 := r1.chg cs9 (by simp)
  replace r2 := r2.chg cs9 (by simp)
  replace r3 := r3.chg cs9 (by simp)
  replace cs9 := cs8.nil cs9
  clear k0 k1 k2
  (repeat(first|refine sb ?_|refine kNo ?_|refine gOn rfl ?_|refine gOff rfl rfl ?_|refine gTup rfl ?_))
  intro q hq
  obtain rfl : q = false := by rw [hq]; rfl
  (repeat(first|refine sb ?_|refine kNo ?_|refine gOn rfl ?_|refine gOff rfl rfl ?_|refine gTup rfl ?_))
  refine ldN_is rfl e10 rfl ?_
  (repeat(first|refine sb ?_|refine kNo ?_|refine gOn rfl ?_|refine gOff rfl rfl ?_|refine gTup rfl ?_))
  refine ldN_is rfl e13 rfl ?_
  (repeat(first|refine sb ?_|refine kNo ?_|refine gOn rfl ?_|refine gOff rfl rfl ?_|refine gTup rfl ?_))
  refine (fwd1_w (x := y) (dm := cEx) (a := F) (d := bEx) (hG.nil cs9) fs9 r2 (by decide) (by omega) (by decide) (by omega)).mono fun v s10 q => ?_
  obtain ⟨rfl, cs10⟩ := q
  rw [P.g]
  have ns10 := cs10.next
  replace e4 := cs10.blk _ _ (show s.next < s9.next by omega) (by simp) e4
  replace e9 := cs10.blk _ _ (show s4.next < s9.next by omega) (by simp) e9
  replace e10 := cs10.blk _ _ (show s4.next + 1 < s9.next by omega) (by simp) e10
  replace e11 := cs10.blk _ _ (show s4.next + 1 + 1 < s9.next by omega) (by simp) e11
  replace e13 := cs10.blk _ _ (show s8.next < s9.next by omega) (by simp) e13
  replace r1 := r1.chg cs10 (by simp)
  replace r2 := r2.chg cs10 (by simp)
  replace r3 := r3.chg cs10 (by simp)
  have fs10 := cs10.fine fs9
  replace cs10 := cs9.nil cs10
  obtain ⟨k0, k1, k2⟩ := new1_at fs10 (.cells (adC2 [] []) tAd false false)
  (repeat(first|refine sb ?_|refine kNo ?_|refine gOn rfl ?_|refine gOff rfl rfl ?_|refine gTup rfl ?_))
  refine st_abs (cs' := adC2 G cEx) rfl rfl k0 (Nat.lt_succ_self _) rfl rfl fun s11 e15 cs11 ns11 => ?_
  replace ns11 : s11.next = s10.next + 1 := ns11
  replace cs11 : Chg s10 s11 [] := k1.fresh cs11 (by simp)
  have fs11 := cs11.fine fs10
  replace e4 := cs11.blk _ _ (show s.next < s10.next by omega) (by simp) e4
  replace e9 := cs11.blk _ _ (show s4.next < s10.next by omega) (by simp) e9
  replace e10 := cs11.blk _ _ (show s4.next + 1 < s10.next by omega) (by simp) e10
  replace e11 := cs11.blk _ _ (show s4.next + 1 + 1 < s10.next by omega) (by simp) e11
  replace e13 := cs11.blk _ _ (show s8.next < s10.next by omega) (by simp) e13
  replace r1 := r1.chg cs11 (by simp)
  replace r2 := r2.chg cs11 (by simp)
  replace r3 := r3.chg cs11 (by simp)
  replace cs11 := cs10.nil cs11
  clear k0 k1 k2
  (repeat(first|refine sb ?_|refine kNo ?_|refine gOn rfl ?_|refine gOff rfl rfl ?_|refine gTup rfl ?_))
  intro q hq
  obtain rfl : q = false := by rw [hq]; rfl
  (repeat(first|refine sb ?_|refine kNo ?_|refine gOn rfl ?_|refine gOff rfl rfl ?_|refine gTup rfl ?_))
  refine ldN_is rfl e10 rfl ?_
  (repeat(first|refine sb ?_|refine kNo ?_|refine gOn rfl ?_|refine gOff rfl rfl ?_|refine gTup rfl ?_))
  refine ldN_is rfl e15 rfl ?_
  (repeat(first|refine sb ?_|refine kNo ?_|refine gOn rfl ?_|refine gOff rfl rfl ?_|refine gTup rfl ?_))
  intro w hw
  rw [i64_id (by omega)] at hw
  subst hw
  (repeat(first|refine sb ?_|refine kNo ?_|refine gOn rfl ?_|refine gOff rfl rfl ?_|refine gTup rfl ?_))
  refine (rev1_w (x := y) (dm := cEx) (a := G) (d := cEx) (hG.nil cs11) fs11 r2 (by decide) (by omega) (by decide) (by omega)).mono fun v s12 q => ?_
  obtain ⟨rfl, cs12⟩ := q
  rw [P.b]
  have ns12 := cs12.next
  replace e4 := cs12.blk _ _ (show s.next < s11.next by omega) (by simp) e4
  replace e9 := cs12.blk _ _ (show s4.next < s11.next by omega) (by simp) e9
  replace e10 := cs12.blk _ _ (show s4.next + 1 < s11.next by omega) (by simp) e10
  replace e11 := cs12.blk _ _ (show s4.next + 1 + 1 < s11.next by omega) (by simp) e11
  replace e13 := cs12.blk _ _ (show s8.next < s11.next by omega) (by simp) e13
  replace e15 := cs12.blk _ _ (show s10.next < s11.next by omega) (by simp) e15
  replace r1 := r1.chg cs12 (by simp)
  replace r2 := r2.chg cs12 (by simp)
  replace r3 := r3.chg cs12 (by simp)
  have fs12 := cs12.fine fs11
  replace cs12 := cs11.nil cs12
  obtain ⟨k0, k1, k2⟩ := new1_at fs12 (.cells (adC2 [] []) tAd false false)
  (repeat(first|refine sb ?_|refine kNo ?_|refine gOn rfl ?_|refine gOff rfl rfl ?_|refine gTup rfl ?_))
  refine st_abs (cs' := adC2 F bEx) rfl rfl k0 (Nat.lt_succ_self _) rfl rfl fun s13 e17 cs13 ns13 => ?_
  replace ns13 : s13.next = s12.next + 1 := ns13
  replace cs13 : Chg s12 s13 [] := k1.fresh cs13 (by simp)
  have fs13 := cs13.fine fs12
  replace e4 := cs13.blk _ _ (show s.next < s12.next by omega) (by simp) e4
  replace e9 := cs13.blk _ _ (show s4.next < s12.next by omega) (by simp) e9
  replace e10 := cs13.blk _ _ (show s4.next + 1 < s12.next by omega) (by simp) e10
  replace e11 := cs13.blk _ _ (show s4.next + 1 + 1 < s12.next by omega) (by simp) e11
  replace e13 := cs13.blk _ _ (show s8.next < s12.next by omega) (by simp) e13
  replace e15 := cs13.blk _ _ (show s10.next < s12.next by omega) (by simp) e15
  replace r1 := r1.chg cs13 (by simp)
  replace r2 := r2.chg cs13 (by simp)
  replace r3 := r3.chg cs13 (by simp)
  replace cs13 := cs12.nil cs13
  clear k0 k1 k2
  (repeat(first|refine sb ?_|refine kNo ?_|refine gOn rfl ?_|refine gOff rfl rfl ?_|refine gTup rfl ?_))
  intro q hq
  obtain rfl : q = false := by rw [hq]; rfl
  (repeat(first|refine sb ?_|refine kNo ?_|refine gOn rfl ?_|refine gOff rfl rfl ?_|refine gTup rfl ?_))
  refine ldN_is rfl e17 rfl ?_
  (repeat(first|refine sb ?_|refine kNo ?_|refine gOn rfl ?_|refine gOff rfl rfl ?_|refine gTup rfl ?_))
  refine ldN_is rfl e13 rfl ?_
  (repeat(first|refine sb ?_|refine kNo ?_|refine gOn rfl ?_|refine gOff rfl rfl ?_|refine gTup rfl ?_))
  intro q hq
  obtain rfl : q = false := by rw [hq]; simp
  (repeat(first|refine sb ?_|refine kNo ?_|refine gOn rfl ?_|refine gOff rfl rfl ?_|refine gTup rfl ?_))
  refine ldS_is rfl e15 rfl ?_
  (repeat(first|refine sb ?_|refine kNo ?_|refine gOn rfl ?_|refine gOff rfl rfl ?_|refine gTup rfl ?_))
  intro q hq
  obtain rfl : q = false := by rw [hq]; rfl
  (repeat(first|refine sb ?_|refine kNo ?_|refine gOn rfl ?_|refine gOff rfl rfl ?_|refine gTup rfl ?_))
  refine ldS_is rfl e15 rfl ?_
  (repeat(first|refine sb ?_|refine kNo ?_|refine gOn rfl ?_|refine gOff rfl rfl ?_|refine gTup rfl ?_))
  refine (prefix_w (a := G) (b := [83, 82, 83, 49, 61])).mono fun v s13 q => ?_
  obtain ⟨rfl, rfl⟩ := q
  rw [show G.take ([83, 82, 83, 49, 61] : List UInt8).length = [83, 82, 83, 49, 61] from P.pre]
  (repeat(first|refine sb ?_|refine kNo ?_|refine gOn rfl ?_|refine gOff rfl rfl ?_|refine gTup rfl ?_))
  intro q hq
  obtain rfl : q = false := by rw [hq]; exact congrArg not (decide_eq_true rfl)
  (repeat(first|refine sb ?_|refine kNo ?_|refine gOn rfl ?_|refine gOff rfl rfl ?_|refine gTup rfl ?_))
  refine ldS_is rfl e15 rfl ?_
  (repeat(first|refine sb ?_|refine kNo ?_|refine gOn rfl ?_|refine gOff rfl rfl ?_|refine gTup rfl ?_))
  refine (contains12_w (hX.chg cs13) (l := G) (by omega)).mono fun v s13 q => ?_
  obtain ⟨rfl, rfl⟩ := q
  (repeat(first|refine sb ?_|refine kNo ?_|refine gOn rfl ?_|refine gOff rfl rfl ?_|refine gTup rfl ?_))
  intro q hq
  obtain rfl : q = false := by rw [hq]; exact congrArg not (decide_eq_true P.has)
  (repeat(first|refine sb ?_|refine kNo ?_|refine gOn rfl ?_|refine gOff rfl rfl ?_|refine gTup rfl ?_))
  refine ldN_is rfl e9 rfl ?_
  (repeat(first|refine sb ?_|refine kNo ?_|refine gOn rfl ?_|refine gOff rfl rfl ?_|refine gTup rfl ?_))
  refine ldN_is rfl e17 rfl ?_
  (repeat(first|refine sb ?_|refine kNo ?_|refine gOn rfl ?_|refine gOff rfl rfl ?_|refine gTup rfl ?_))
  refine (rev1_w (x := x) (dm := bEx) (a := F) (d := bEx) (hG.nil cs13) fs13 r1 (by decide) (by omega) (by decide) (by omega)).mono fun v s14 q => ?_
  obtain ⟨rfl, cs14⟩ := q
  rw [P.back]
  have ns14 := cs14.next
  replace e4 := cs14.blk _ _ (show s.next < s13.next by omega) (by simp) e4
  replace e9 := cs14.blk _ _ (show s4.next < s13.next by omega) (by simp) e9
  replace e10 := cs14.blk _ _ (show s4.next + 1 < s13.next by omega) (by simp) e10
  replace e11 := cs14.blk _ _ (show s4.next + 1 + 1 < s13.next by omega) (by simp) e11
  replace e13 := cs14.blk _ _ (show s8.next < s13.next by omega) (by simp) e13
  replace e15 := cs14.blk _ _ (show s10.next < s13.next by omega) (by simp) e15
  replace e17 := cs14.blk _ _ (show s12.next < s13.next by omega) (by simp) e17
  replace r1 := r1.chg cs14 (by simp)
  replace r2 := r2.chg cs14 (by simp)
  replace r3 := r3.chg cs14 (by simp)
  have fs14 := cs14.fine fs13
  replace cs14 := cs13.nil cs14
  obtain ⟨k0, k1, k2⟩ := new1_at fs14 (.cells (adC2 [] []) tAd false false)
  (repeat(first|refine sb ?_|refine kNo ?_|refine gOn rfl ?_|refine gOff rfl rfl ?_|refine gTup rfl ?_))
  refine st_abs (cs' := adC2 A (low D)) rfl rfl k0 (Nat.lt_succ_self _) rfl rfl fun s15 e19 cs15 ns15 => ?_
  replace ns15 : s15.next = s14.next + 1 := ns15
  replace cs15 : Chg s14 s15 [] := k1.fresh cs15 (by simp)
  have fs15 := cs15.fine fs14
  replace e4 := cs15.blk _ _ (show s.next < s14.next by omega) (by simp) e4
  replace e9 := cs15.blk _ _ (show s4.next < s14.next by omega) (by simp) e9
  replace e10 := cs15.blk _ _ (show s4.next + 1 < s14.next by omega) (by simp) e10
  replace e11 := cs15.blk _ _ (show s4.next + 1 + 1 < s14.next by omega) (by simp) e11
  replace e13 := cs15.blk _ _ (show s8.next < s14.next by omega) (by simp) e13
  replace e15 := cs15.blk _ _ (show s10.next < s14.next by omega) (by simp) e15
  replace e17 := cs15.blk _ _ (show s12.next < s14.next by omega) (by simp) e17
  replace r1 := r1.chg cs15 (by simp)
  replace r2 := r2.chg cs15 (by simp)
  replace r3 := r3.chg cs15 (by simp)
  replace cs15 := cs14.nil cs15
  clear k0 k1 k2
  (repeat(first|refine sb ?_|refine kNo ?_|refine gOn rfl ?_|refine gOff rfl rfl ?_|refine gTup rfl ?_))
  intro q hq
  obtain rfl : q = false := by rw [hq]; rfl
  (repeat(first|refine sb ?_|refine kNo ?_|refine gOn rfl ?_|refine gOff rfl rfl ?_|refine gTup rfl ?_))
  refine ldN_is rfl e19 rfl ?_
  (repeat(first|refine sb ?_|refine kNo ?_|refine gOn rfl ?_|refine gOff rfl rfl ?_|refine gTup rfl ?_))
  refine ldN_is rfl e4 rfl ?_
  (repeat(first|refine sb ?_|refine kNo ?_|refine gOn rfl ?_|refine gOff rfl rfl ?_|refine gTup rfl ?_))
  refine (snormal_w fs15 (a := A) (d := D) (by omega)).mono fun v s16 q => ?_
  obtain ⟨rfl, cs16⟩ := q
  have ns16 := cs16.next
  refine kAll (cs16.keep fs15) ?_
  replace e4 := cs16.blk _ _ (show s.next < s15.next by omega) (by simp) e4
  replace e9 := cs16.blk _ _ (show s4.next < s15.next by omega) (by simp) e9
  replace e10 := cs16.blk _ _ (show s4.next + 1 < s15.next by omega) (by simp) e10
  replace e11 := cs16.blk _ _ (show s4.next + 1 + 1 < s15.next by omega) (by simp) e11
  replace e13 := cs16.blk _ _ (show s8.next < s15.next by omega) (by simp) e13
  replace e15 := cs16.blk _ _ (show s10.next < s15.next by omega) (by simp) e15
  replace e17 := cs16.blk _ _ (show s12.next < s15.next by omega) (by simp) e17
  replace e19 := cs16.blk _ _ (show s14.next < s15.next by omega) (by simp) e19
  replace r1 := r1.chg cs16 (by simp)
  replace r2 := r2.chg cs16 (by simp)
  replace r3 := r3.chg cs16 (by simp)
  have fs16 := cs16.fine fs15
  replace cs16 := cs15.nil cs16
  (repeat(first|refine sb ?_|refine kNo ?_|refine gOn rfl ?_|refine gOff rfl rfl ?_|refine gTup rfl ?_))
  intro q hq
  obtain rfl : q = false := by rw [hq]; simp
  (repeat(first|refine sb ?_|refine kNo ?_|refine gOn rfl ?_|refine gOff rfl rfl ?_|refine gTup rfl ?_))
  refine ldN_is rfl e11 rfl ?_
  (repeat(first|refine sb ?_|refine kNo ?_|refine gOn rfl ?_|refine gOff rfl rfl ?_|refine gTup rfl ?_))
  refine ldN_is rfl e15 rfl ?_
  (repeat(first|refine sb ?_|refine kNo ?_|refine gOn rfl ?_|refine gOff rfl rfl ?_|refine gTup rfl ?_))
  refine (fwd1_w (x := x ++ y) (dm := dEx) (a := G) (d := cEx) (hG.nil cs16) fs16 r3 (by decide) (by omega) (by decide) (by omega)).mono fun v s17 q => ?_
  obtain ⟨rfl, cs17⟩ := q
  rw [P.k]
  have ns17 := cs17.next
  replace e4 := cs17.blk _ _ (show s.next < s16.next by omega) (by simp) e4
  replace e9 := cs17.blk _ _ (show s4.next < s16.next by omega) (by simp) e9
  replace e10 := cs17.blk _ _ (show s4.next + 1 < s16.next by omega) (by simp) e10
  replace e11 := cs17.blk _ _ (show s4.next + 1 + 1 < s16.next by omega) (by simp) e11
  replace e13 := cs17.blk _ _ (show s8.next < s16.next by omega) (by simp) e13
  replace e15 := cs17.blk _ _ (show s10.next < s16.next by omega) (by simp) e15
  replace e17 := cs17.blk _ _ (show s12.next < s16.next by omega) (by simp) e17
  replace e19 := cs17.blk _ _ (show s14.next < s16.next by omega) (by simp) e19
  replace r1 := r1.chg cs17 (by simp)
  replace r2 := r2.chg cs17 (by simp)
  replace r3 := r3.chg cs17 (by simp)
  have fs17 := cs17.fine fs16
  replace cs17 := cs16.nil cs17
  obtain ⟨k0, k1, k2⟩ := new1_at fs17 (.cells (adC2 [] []) tAd false false)
  (repeat(first|refine sb ?_|refine kNo ?_|refine gOn rfl ?_|refine gOff rfl rfl ?_|refine gTup rfl ?_))
  refine st_abs (cs' := adC2 K dEx) rfl rfl k0 (Nat.lt_succ_self _) rfl rfl fun s18 e21 cs18 ns18 => ?_
  replace ns18 : s18.next = s17.next + 1 := ns18
  replace cs18 : Chg s17 s18 [] := k1.fresh cs18 (by simp)
  have fs18 := cs18.fine fs17
  replace e4 := cs18.blk _ _ (show s.next < s17.next by omega) (by simp) e4
  replace e9 := cs18.blk _ _ (show s4.next < s17.next by omega) (by simp) e9
  replace e10 := cs18.blk _ _ (show s4.next + 1 < s17.next by omega) (by simp) e10
  replace e11 := cs18.blk _ _ (show s4.next + 1 + 1 < s17.next by omega) (by simp) e11
  replace e13 := cs18.blk _ _ (show s8.next < s17.next by omega) (by simp) e13
  replace e15 := cs18.blk _ _ (show s10.next < s17.next by omega) (by simp) e15
  replace e17 := cs18.blk _ _ (show s12.next < s17.next by omega) (by simp) e17
  replace e19 := cs18.blk _ _ (show s14.next < s17.next by omega) (by simp) e19
  replace r1 := r1.chg cs18 (by simp)
  replace r2 := r2.chg cs18 (by simp)
  replace r3 := r3.chg cs18 (by simp)
  replace cs18 := cs17.nil cs18
  clear k0 k1 k2
  (repeat(first|refine sb ?_|refine kNo ?_|refine gOn rfl ?_|refine gOff rfl rfl ?_|refine gTup rfl ?_))
  intro q hq
  obtain rfl : q = false := by rw [hq]; rfl
  (repeat(first|refine sb ?_|refine kNo ?_|refine gOn rfl ?_|refine gOff rfl rfl ?_|refine gTup rfl ?_))
  refine ldS_is rfl e21 rfl ?_
  (repeat(first|refine sb ?_|refine kNo ?_|refine gOn rfl ?_|refine gOff rfl rfl ?_|refine gTup rfl ?_))
  intro q hq
  obtain rfl : q = false := by rw [hq]; rfl
  (repeat(first|refine sb ?_|refine kNo ?_|refine gOn rfl ?_|refine gOff rfl rfl ?_|refine gTup rfl ?_))
  refine ldS_is rfl e21 rfl ?_
  (repeat(first|refine sb ?_|refine kNo ?_|refine gOn rfl ?_|refine gOff rfl rfl ?_|refine gTup rfl ?_))
  intro n1 hn1
  (repeat(first|refine sb ?_|refine kNo ?_|refine gOn rfl ?_|refine gOff rfl rfl ?_|refine gTup rfl ?_))
  refine ldS_is rfl e15 rfl ?_
  (repeat(first|refine sb ?_|refine kNo ?_|refine gOn rfl ?_|refine gOff rfl rfl ?_|refine gTup rfl ?_))
  intro n2 hn2
  (repeat(first|refine sb ?_|refine kNo ?_|refine gOn rfl ?_|refine gOff rfl rfl ?_|refine gTup rfl ?_))
  intro q hq
  obtain rfl : q = false := by rw [hq, hn1, hn2, P.lenK]; simp
  (repeat(first|refine sb ?_|refine kNo ?_|refine gOn rfl ?_|refine gOff rfl rfl ?_|refine gTup rfl ?_))
  refine ldS_is rfl e21 rfl ?_
  (repeat(first|refine sb ?_|refine kNo ?_|refine gOn rfl ?_|refine gOff rfl rfl ?_|refine gTup rfl ?_))
  refine slS_lo 9 rfl rfl rfl (by omega) ?_
  (repeat(first|refine sb ?_|refine kNo ?_|refine gOn rfl ?_|refine gOff rfl rfl ?_|refine gTup rfl ?_))
  refine ldS_is rfl e15 rfl ?_
  (repeat(first|refine sb ?_|refine kNo ?_|refine gOn rfl ?_|refine gOff rfl rfl ?_|refine gTup rfl ?_))
  refine slS_lo 9 rfl rfl rfl (by omega) ?_
  (repeat(first|refine sb ?_|refine kNo ?_|refine gOn rfl ?_|refine gOff rfl rfl ?_|refine gTup rfl ?_))
  intro q hq
  obtain rfl : q = false := by rw [hq, P.k9]; simp
  (repeat(first|refine sb ?_|refine kNo ?_|refine gOn rfl ?_|refine gOff rfl rfl ?_|refine gTup rfl ?_))
  refine ldN_is rfl e11 rfl ?_
  (repeat(first|refine sb ?_|refine kNo ?_|refine gOn rfl ?_|refine gOff rfl rfl ?_|refine gTup rfl ?_))
  refine ldN_is rfl e21 rfl ?_
  (repeat(first|refine sb ?_|refine kNo ?_|refine gOn rfl ?_|refine gOff rfl rfl ?_|refine gTup rfl ?_))
  refine (rev1_w (x := x ++ y) (dm := dEx) (a := K) (d := dEx) (hG.nil cs18) fs18 r3 (by decide) (by omega) (by decide) (by omega)).mono fun v s19 q => ?_
  obtain ⟨rfl, cs19⟩ := q
  rw [P.m]
  have ns19 := cs19.next
  replace e4 := cs19.blk _ _ (show s.next < s18.next by omega) (by simp) e4
  replace e9 := cs19.blk _ _ (show s4.next < s18.next by omega) (by simp) e9
  replace e10 := cs19.blk _ _ (show s4.next + 1 < s18.next by omega) (by simp) e10
  replace e11 := cs19.blk _ _ (show s4.next + 1 + 1 < s18.next by omega) (by simp) e11
  replace e13 := cs19.blk _ _ (show s8.next < s18.next by omega) (by simp) e13
  replace e15 := cs19.blk _ _ (show s10.next < s18.next by omega) (by simp) e15
  replace e17 := cs19.blk _ _ (show s12.next < s18.next by omega) (by simp) e17
  replace e19 := cs19.blk _ _ (show s14.next < s18.next by omega) (by simp) e19
  replace e21 := cs19.blk _ _ (show s17.next < s18.next by omega) (by simp) e21
  replace r1 := r1.chg cs19 (by simp)
  replace r2 := r2.chg cs19 (by simp)
  replace r3 := r3.chg cs19 (by simp)
  have fs19 := cs19.fine fs18
  replace cs19 := cs18.nil cs19
  obtain ⟨k0, k1, k2⟩ := new1_at fs19 (.cells (adC2 [] []) tAd false false)
  (repeat(first|refine sb ?_|refine kNo ?_|refine gOn rfl ?_|refine gOff rfl rfl ?_|refine gTup rfl ?_))
  refine st_abs (cs' := adC2 F bEx) rfl rfl k0 (Nat.lt_succ_self _) rfl rfl fun s20 e23 cs20 ns20 => ?_
  replace ns20 : s20.next = s19.next + 1 := ns20
  replace cs20 : Chg s19 s20 [] := k1.fresh cs20 (by simp)
  have fs20 := cs20.fine fs19
  replace e4 := cs20.blk _ _ (show s.next < s19.next by omega) (by simp) e4
  replace e9 := cs20.blk _ _ (show s4.next < s19.next by omega) (by simp) e9
  replace e10 := cs20.blk _ _ (show s4.next + 1 < s19.next by omega) (by simp) e10
  replace e11 := cs20.blk _ _ (show s4.next + 1 + 1 < s19.next by omega) (by simp) e11
  replace e13 := cs20.blk _ _ (show s8.next < s19.next by omega) (by simp) e13
  replace e15 := cs20.blk _ _ (show s10.next < s19.next by omega) (by simp) e15
  replace e17 := cs20.blk _ _ (show s12.next < s19.next by omega) (by simp) e17
  replace e19 := cs20.blk _ _ (show s14.next < s19.next by omega) (by simp) e19
  replace e21 := cs20.blk _ _ (show s17.next < s19.next by omega) (by simp) e21
  replace r1 := r1.chg cs20 (by simp)
  replace r2 := r2.chg cs20 (by simp)
  replace r3 := r3.chg cs20 (by simp)
  replace cs20 := cs19.nil cs20
  clear k0 k1 k2
  (repeat(first|refine sb ?_|refine kNo ?_|refine gOn rfl ?_|refine gOff rfl rfl ?_|refine gTup rfl ?_))
  intro q hq
  obtain rfl : q = true := by rw [hq]; rfl
  (repeat(first|refine sb ?_|refine kNo ?_|refine gOn rfl ?_|refine gOff rfl rfl ?_|refine gTup rfl ?_))
  refine ldN_is rfl e23 rfl ?_
  (repeat(first|refine sb ?_|refine kNo ?_|refine gOn rfl ?_|refine gOff rfl rfl ?_|refine gTup rfl ?_))
  refine ldN_is rfl e13 rfl ?_
  (repeat(first|refine sb ?_|refine kNo ?_|refine gOn rfl ?_|refine gOff rfl rfl ?_|refine gTup rfl ?_))
  intro q hq
  obtain rfl : q = true := by rw [hq]; simp
  (repeat(first|refine sb ?_|refine kNo ?_|refine gOn rfl ?_|refine gOff rfl rfl ?_|refine gTup rfl ?_))
  refine (tells12_w (hG.nil cs20) fs20).mono fun v s99 q => ?_
  obtain ⟨rfl, _⟩ := q
  (repeat(first|refine sb ?_|refine kNo ?_|refine gOn rfl ?_|refine gOff rfl rfl ?_|refine gTup rfl ?_))
  rfl
end Go.Vf.S
end
section
/- Starts that know some of their blocks. -/
namespace Go.Vf.S
open Go Go.Vf Go.Proofs Go.Proofs.YtgddphciejoljaaGreatDoor Go.RowKit Go.ChangeShapes
set_option linter.unusedVariables false
set_option linter.unusedSimpArgs false

def renO (bs : List (RE × Option ABlk)) : Ren := fun id => bs[id]?.map Prod.fst
def heapO : Nat → List (RE × Option ABlk) → List (Nat × Option ABlk)
  | _, [] => []
  | n, (_, b) :: r => (n, b) :: heapO (n + 1) r
theorem heapO_look : ∀ (l : List (RE × Option ABlk)) (n id : Nat), lookH (heapO n l) id = if n ≤ id then (l[id - n]?.map Prod.snd).join else none
  | [], n, id => by simp [heapO, lookH]
  | (e, b) :: r, n, id => by
    simp only [heapO, lookH]
    rcases beq_cases n id with ⟨h, hb⟩ | ⟨h, hb⟩
    · subst h; simp
    · rw [hb, cond_false, heapO_look r (n + 1) id]
      by_cases h1 : n + 1 ≤ id
      · rw [if_pos h1, if_pos (by omega), show id - n = (id - (n + 1)) + 1 from by omega, List.getElem?_cons_succ]
      · rw [if_neg h1, if_neg (by omega)]
def startO (bs : List (RE × Option ABlk)) (gl : Nat) : SS := ⟨heapO 0 bs, bs.length, gl⟩
theorem startO_rel {P : Program} {W : World} {bs : List (RE × Option ABlk)} {gl : Nat} (h : ∀ (i : Nat) e b, bs[i]? = some (e, some b) → BRel P (renO bs) W e b ∧ b.ro = true) (hl : ∀ (i : Nat) e b, bs[i]? = some (e, b) → e.blk < W.heap.size)
    (hg : ∀ g, g < gl → ∃ e b, bs[g]? = some (e, b) ∧ e.blk = g ∧ e.off = 0) : HRel P W.heap.size W (renO bs) (startO bs gl).st W ∧ FreeFrom (renO bs) (startO bs gl).next := by
  have get : ∀ id b e, (startO bs gl).st.heap.get id = some b → renO bs id = some e → bs[id]? = some (e, some b) := by
    intro id b e hb he
    rw [SS.get] at hb
    simp only [startO, heapO_look, Nat.zero_le, if_true, Nat.sub_zero] at hb
    simp only [renO] at he
    cases hx : bs[id]? with
    | none => rw [hx] at hb; cases hb
    | some x =>
      rw [hx] at hb he
      obtain ⟨e', b'⟩ := x
      cases he
      simp only [Option.map_some, Option.join_some] at hb
      subst hb
      rfl
  refine ⟨⟨.refl _ _, Nat.le_refl _, .refl _, ?_, ?_, ?_, ?_, ?_⟩, ?_⟩
  · intro id b e hb he; exact (h _ _ _ (get _ _ _ hb he)).1
  · intro id b e hb he hr; rw [(h _ _ _ (get _ _ _ hb he)).2] at hr; cases hr
  · intro i j b b' e e' _ hb _ he hr; rw [(h _ _ _ (get _ _ _ hb he)).2] at hr; cases hr
  · intro id e he
    simp only [renO] at he
    cases hx : bs[id]? with
    | none => rw [hx] at he; cases he
    | some x =>
      rw [hx] at he
      obtain ⟨e', b'⟩ := x
      cases he
      exact hl _ _ _ hx
  · intro g hlt
    obtain ⟨e, b, h1, h2, h3⟩ := hg g hlt
    exact ⟨e, by simp [renO, h1], h2, h3⟩
  · intro id hid
    simp only [renO]
    rw [List.getElem?_eq_none (by exact hid)]; rfl
theorem startO_fine (bs : List (RE × Option ABlk)) (gl : Nat) : Fine (startO bs gl) := fun id hid => by
  show lookH (heapO 0 bs) id = none
  rw [heapO_look, List.getElem?_eq_none (by simpa [startO] using hid)]
  rfl

end Go.Vf.S
end
section
/- A start that knows the library's own number, and blocks more. -/
namespace Go.Vf.S
open Go Go.Vf Go.Proofs Go.Proofs.YtgddphciejoljaaGreatDoor Go.RowKit Go.ChangeShapes
set_option linter.unusedVariables false
set_option linter.unusedSimpArgs false

abbrev gMax : Nat := 2
theorem max_good {W : World} (h : W.ShapedOpen pr) : ∃ m, GoodB pr W ⟨gMax, 0, 1, 1, false⟩ (.cells [.int .i64 m] 3 false true) := by
  have h0 : ((begin pr (fun _ _ => 0) default).world.heap[gMax]?).bind Obj.row? = some (#[.int .i64 0], 3) := by kernel_rfl
  have hg : gMax < pr.globals.size := by decide +kernel
  obtain ⟨m, hm⟩ := cell_of_shapedOpen_int h hg h0 rfl (by kernel_rfl) (by kernel_rfl) Tryz.underlying3
  obtain ⟨cs, hh, hs, _⟩ := h.1 gMax _ 3 hg h0
  have hcs : cs = #[.int .i64 m] := by
    have h1 : cs.size = 1 := hs
    have h2 : cs[0]? = some (.int .i64 m) := by simpa [World.cell?, hh] using hm
    apply Array.ext'
    have h3 : cs.toList.length = 1 := by simpa using h1
    match hl : cs.toList, h3 with
    | [v], _ =>
      have : cs.toList[0]? = some (.int .i64 m) := by simpa using h2
      rw [hl] at this
      simpa using this
  subst hcs
  refine ⟨m, fun ρ => ⟨rfl, [.int .i64 m], 0, 0, 3, hh, (fun z => by cases z), (fun i _ hh => by omega), Nat.le_refl _, Nat.le_refl _, (by kernel_rfl), fun i v hi => ⟨v, by simpa using hi, plain1_rel ?_⟩⟩, rfl, (Array.getElem?_eq_some_iff.1 hh).1⟩
  match i, hi with
  | 0, hi => cases hi; rfl
  | i + 1, hi => simp at hi


end Go.Vf.S
end
section
/- A start that knows the kinds' table, the library's tables of runes and its own number, and blocks more. -/
namespace Go.Vf.S
open Go Go.Vf Go.Proofs Go.Proofs.YtgddphciejoljaaGreatDoor Go.RowKit Go.ChangeShapes
set_option linter.unusedVariables false
set_option linter.unusedSimpArgs false
set_option maxRecDepth 10000

theorem tabs_laidC {W : World} (h : laidMetH pr laidC W) : Lib.Utf8Tabs gFi gAc W := by
  rw [MakeChecks.laidMetH_plain _ _ _ (by kernel_rfl)] at h
  have e1 : Rows.laid_unicode_utf8_first = Lib.firstData := by kernel_rfl
  have e2 : (Rows.laid_unicode_utf8_acceptRanges : DataW Unit) = Lib.acceptData := by kernel_rfl
  exact utf8Tabs_of_reads (ρ := Tryz.lays230_ren) { Tryz.lays230 with } ⟨by kernel_rfl, by kernel_rfl, by kernel_rfl, by kernel_rfl, by kernel_rfl, by kernel_rfl, by kernel_rfl⟩
    (e1 ▸ Lib.laidMet.reads h (by simp [laidC])) (e2 ▸ Lib.laidMet.reads h (by simp [laidC]))
theorem tab_good {W : World} (hsh : W.ShapedOpen pr) {g n : Nat} (hg : g < pr.globals.size) (h0 : (((begin pr (fun _ _ => 0) default).world.heap[g]?).bind Obj.row?).isSome = true) {vs : List Value} (hp : vs.all plain1 = true) (hn : vs.length = n) (hpos : 0 < n) (h : ∀ c v, vs[c]? = some v → W.cell? ⟨g, c, none⟩ = some v) : GoodB pr W ⟨g, 0, n, 1, false⟩ (.cells vs tU8 false true) := by
  obtain ⟨⟨zero, t⟩, hz⟩ := Option.isSome_iff_exists.1 h0
  obtain ⟨⟨rc⟩, hb, _, _⟩ := hsh.1 g zero t hg hz
  have cell : ∀ c v, vs[c]? = some v → rc[c]? = some v := fun c v hv => by
    have := h c v hv
    rw [cell_at hb] at this
    exact this
  have hroom : n ≤ rc.length := by
    have := cell (n - 1) _ (List.getElem?_eq_getElem (by omega))
    have := (List.getElem?_eq_some_iff.1 this).1
    omega
  exact ⟨fun ρ => ⟨rfl, rc, 0, 0, t, hb, (fun z => by cases z), (fun i hi' hc2 => by omega), by simpa using hroom, by show vs.length ≤ n; omega, (by kernel_rfl), fun i v hv => ⟨v, by simpa using cell i v hv, plain1_rel (List.all_eq_true.1 hp v (List.mem_of_getElem? hv))⟩⟩, rfl, (Array.getElem?_eq_some_iff.1 hb).1⟩

theorem fi_good {W : World} (hsh : W.ShapedOpen pr) (h : Lib.Utf8Tabs gFi gAc W) : GoodB pr W ⟨gFi, 0, 256, 1, false⟩ (.cells fiV tU8 false true) :=
  tab_good hsh (by decide +kernel) (by kernel_rfl) (by simp [fiV, plain1]) (by simp [fiV]) (by omega) fun c v hv => by
    have hc : c < 256 := by
      have := (List.getElem?_eq_some_iff.1 hv).1
      simpa [fiV] using this
    rw [fi_get hc] at hv
    cases hv
    exact h.1 c hc
theorem ac_good {W : World} (hsh : W.ShapedOpen pr) (h : Lib.Utf8Tabs gFi gAc W) : GoodB pr W ⟨gAc, 0, 32, 1, false⟩ (.cells acV tU8 false true) :=
  tab_good hsh (by decide +kernel) (by kernel_rfl) (by simp [acV, plain1]) (by simp [acV]) (by omega) fun c v hv => by
    have hc : c < 32 := by
      have := (List.getElem?_eq_some_iff.1 hv).1
      simpa [acV] using this
    rw [ac_get hc] at hv
    cases hv
    have := h.2 (c / 2) (by omega)
    by_cases q : c % 2 = 0
    · rw [if_pos q]
      have e : 2 * (c / 2) = c := by omega
      rw [e] at this
      exact this.1
    · rw [if_neg q]
      have e : 2 * (c / 2) + 1 = c := by omega
      rw [e] at this
      exact this.2


abbrev gTopR : Nat := max (max gK gMax) (max gFi gAc) + 1
abbrev mxE (m : Int) : ABlk := .cells [.int .i64 m] 3 false true
structure TabsR (W : World) (m : Int) : Prop where
  k : GoodB pr W kE kB
  f : GoodB pr W ⟨gFi, 0, 256, 1, false⟩ (.cells fiV tU8 false true)
  a : GoodB pr W ⟨gAc, 0, 32, 1, false⟩ (.cells acV tU8 false true)
  x : GoodB pr W ⟨gMax, 0, 1, 1, false⟩ (mxE m)
def rAt (m : Int) (i : Nat) : RE × Option ABlk := if i = gK then (kE, some kB) else if i = gFi then (⟨gFi, 0, 256, 1, false⟩, some (.cells fiV tU8 false true)) else if i = gAc then (⟨gAc, 0, 32, 1, false⟩, some (.cells acV tU8 false true)) else if i = gMax then (⟨gMax, 0, 1, 1, false⟩, some (mxE m)) else (⟨i, 0, 0, 1, false⟩, none)
def bsR (m : Int) : List (RE × Option ABlk) := (List.range gTopR).map (rAt m)
def startR (m : Int) : SS := startO (bsR m) gTopR
theorem bsR_len (m : Int) : (bsR m).length = gTopR := by simp [bsR]
theorem bsR_at {m : Int} {i : Nat} (h : i < gTopR) : (bsR m)[i]? = some (rAt m i) := by
  unfold bsR
  rw [List.getElem?_map, List.getElem?_range h]
  rfl
theorem rAt_is (m : Int) (i : Nat) : (rAt m i).1.blk = i ∧ (rAt m i).1.off = 0 ∧ (rAt m i = (kE, some kB) ∨ rAt m i = (⟨gFi, 0, 256, 1, false⟩, some (.cells fiV tU8 false true)) ∨ rAt m i = (⟨gAc, 0, 32, 1, false⟩, some (.cells acV tU8 false true)) ∨ rAt m i = (⟨gMax, 0, 1, 1, false⟩, some (mxE m)) ∨ rAt m i = (⟨i, 0, 0, 1, false⟩, none)) := by
  unfold rAt
  by_cases h1 : i = gK
  · rw [if_pos h1]; exact ⟨h1.symm, rfl, .inl rfl⟩
  · rw [if_neg h1]
    by_cases h2 : i = gFi
    · rw [if_pos h2]; exact ⟨h2.symm, rfl, .inr (.inl rfl)⟩
    · rw [if_neg h2]
      by_cases h3 : i = gAc
      · rw [if_pos h3]; exact ⟨h3.symm, rfl, .inr (.inr (.inl rfl))⟩
      · rw [if_neg h3]
        by_cases h4 : i = gMax
        · rw [if_pos h4]; exact ⟨h4.symm, rfl, .inr (.inr (.inr (.inl rfl)))⟩
        · rw [if_neg h4]; exact ⟨rfl, rfl, .inr (.inr (.inr (.inr rfl)))⟩
theorem startR_rel {W : World} {m : Int} (g : TabsR W m) : HRel pr W.heap.size W (renO (bsR m)) (startR m).st W ∧ FreeFrom (renO (bsR m)) (startR m).next := by
  have k0 : gK < W.heap.size := g.k.2.2
  have k1 : gFi < W.heap.size := g.f.2.2
  have k2 : gAc < W.heap.size := g.a.2.2
  have k3 : gMax < W.heap.size := g.x.2.2
  have all : ∀ i x, (bsR m)[i]? = some x → i < gTopR ∧ x = rAt m i := fun i x h => by
    have hi : i < gTopR := by rw [← bsR_len m]; exact (List.getElem?_eq_some_iff.1 h).1
    rw [bsR_at hi] at h
    exact ⟨hi, (Option.some.inj h).symm⟩
  refine startO_rel (fun i e b h => ?_) (fun i e b h => ?_) (fun g hg => ?_)
  · obtain ⟨_, q⟩ := all i _ h
    rcases (rAt_is m i).2.2 with z | z | z | z | z <;> rw [z] at q <;> cases q
    · exact ⟨g.k.1 _, g.k.2.1⟩
    · exact ⟨g.f.1 _, g.f.2.1⟩
    · exact ⟨g.a.1 _, g.a.2.1⟩
    · exact ⟨g.x.1 _, g.x.2.1⟩
  · obtain ⟨hi, q⟩ := all i _ h
    have hb := (rAt_is m i).1
    rw [← q] at hb
    have hb : e.blk = i := hb
    have ht : gTopR ≤ W.heap.size := by show max (max gK gMax) (max gFi gAc) + 1 ≤ _; omega
    omega
  · exact ⟨_, _, bsR_at hg, (rAt_is m g).1, (rAt_is m g).2.1⟩
theorem startR_look {m : Int} {i : Nat} (h : i < gTopR) : lookH (startR m).heap i = (rAt m i).2 := by
  show lookH (heapO 0 (bsR m)) i = _
  rw [heapO_look, if_pos (Nat.zero_le _), Nat.sub_zero, bsR_at h]
  rfl
theorem startR_next (m : Int) : (startR m).next = gTopR := bsR_len m
theorem startR_Gk (m : Int) : Gk (startR m) := ⟨(by show gK < gTopR; decide), (by rw [startR_next]; decide), (by rw [startR_look (by decide)]; rfl)⟩
theorem startR_Gv (m : Int) : Gv (startR m) := ⟨(by show gFi < gTopR; decide), (by show gAc < gTopR; decide), (by rw [startR_next]; decide), (by rw [startR_next]; decide), (by rw [startR_look (by decide)]; rfl), (by rw [startR_look (by decide)]; rfl)⟩
theorem startR_Gx (m : Int) : Gx (startR m) := ⟨(by show gMx < gTopR; decide), (by rw [startR_next]; decide), m, (by rw [startR_look (by decide)]; rfl)⟩
theorem startR_fine (m : Int) : Fine (startR m) := startO_fine _ _
theorem tabsRC {W : World} (h : laidMetH pr laidC W) (hsh : W.ShapedOpen pr) : ∃ m, TabsR W m := by
  obtain ⟨m, hm⟩ := max_good hsh
  exact ⟨m, tabsC h, fi_good hsh (tabs_laidC h), ac_good hsh (tabs_laidC h), hm⟩
end Go.Vf.S
end
section
/- Addresses that are handed in: a seat without the table of letters. -/
namespace Go.Vf.S
open Go Go.Vf Go.Proofs Go.Proofs.YtgddphciejoljaaGreatDoor Go.RowKit Go.ChangeShapes Go.WideShapes
set_option linter.unusedVariables false
set_option linter.unusedSimpArgs false
set_option maxRecDepth 100000

theorem lst2 {α : Type} : ∀ {l : List α}, l.length = 2 → ∃ a b, l = [a, b]
  | [a, b], _ => ⟨a, b, rfl⟩
theorem adV_rel {ρ : Ren} (a d : List UInt8) : VRel ρ (adV a d) (adV a d) := plain_rel (v := adV a d) rfl

section
variable {H : Type} {enc : TypeId × Value → H} {w : World} {base : Nat} {spare : Nat → Bool} {held : Bool} {b0 : Nat} {v : Value} {d : DataW H} {p : List MemPlace} {n : Nat}

theorem trod_Ad {cs : List Value} {x : DataW H × List MemPlace} (h : DataW.trod enc pr w base spare held n tAd cs = some x) : ∃ a e, cs = [str a, str e] ∧ x.2 = [] := by
  obtain ⟨y0, y1, m, rfl, hl, h0, h1⟩ := trod_struct2 Tryz.underlying23 h
  obtain ⟨⟨⟨a⟩⟩, e0, rfl, _⟩ := DataW.trod_string Tryz.underlying9 h0
  obtain ⟨⟨⟨e⟩⟩, e1, rfl, _⟩ := DataW.trod_string Tryz.underlying9 h1
  have c2 : pr.cellsOf tAd = 2 := by kernel_rfl
  have c1 : pr.cellsOf 9 = 1 := by kernel_rfl
  rw [c2] at hl
  rw [c1] at e0 e1
  obtain ⟨u, w, rfl⟩ := lst2 hl
  refine ⟨a, e, ?_, rfl⟩
  have q0 : u = str a := (List.cons.inj e0).1
  have q1 : w = str e := (List.cons.inj e1).1
  rw [q0, q1]

theorem open_Ad (hv : Value.okWide pr w .any b0 tAd v) (h : DataW.Trod enc pr w base spare held tAd v d p) : ∃ a e, v = adV a e ∧ p = [] := by
  obtain ⟨cs, rfl, hsz⟩ := okWide_struct Tryz.underlying23 hv
  obtain ⟨fuel, hf⟩ := h
  obtain ⟨a, e, h1, h2⟩ := trod_Ad hf
  refine ⟨a, e, ?_, h2⟩
  obtain ⟨cs⟩ := cs
  have h1 : cs = [str a, str e] := h1
  rw [h1]

end
end Go.Vf.S
end
section
/- A wrap that keeps the world's shape and the bound of what is handed in, beside what is laid. -/
namespace Go.Vf.S
open Go Go.Vf Go.Proofs Go.Proofs.YtgddphciejoljaaGreatDoor Go.RowKit Go.ChangeShapes
set_option linter.unusedVariables false
set_option linter.unusedSimpArgs false

theorem hand_sized {H : Type} {enc : TypeId × Value → H} {a : Assume} {C : Checked} {os : Os} {f : FuncId} {fn : Func} {s : ChangeSpec} {conds : List PathCond} {apart fresh handsOn again : Bool} {X : World → Array Value → Prop}
    (hX : ∀ (w w' : World) (args : Array Value), w.heap = w'.heap → X w args → X w' args) (own : ownKnob C.prog.godebug = none) (started : os.Started) (noInit : C.prog.inits.idxOf? f = none) (hfn : C.prog.funcs[f]? = some fn)
    (witness : ∃ (w : World) (tape : Tape) (i : Input), w.os = os ∧ (w.forCall tape i).Shaped C.prog ∧ i.vars = [] ∧ Input.okWide C.prog (w.forCall tape i) .any w.heap.size f i ∧
      ((s.pre enc C.prog fn conds apart (w.forCall tape i).memory i.args ∧ X (w.forCall tape i).memory i.args) ∧ sizedMet enc C.prog fn (OpenSpec.ofChange s) apart (w.forCall tape i).memory i.args) ∧ a.holds C.prog (lone (Frame.enter C.prog f i.args .normal) [] (w.forCall tape i)))
    (contract : ∀ (W : World) (base : Nat) (args : Array Value) (ds gs : List (DataW H)) (before : List MemPlace), (∀ (j : Nat) t v, fn.params[j]? = some t → args[j]? = some v → Value.okWide C.prog W .any base t v) →
      DataW.Whole enc C.prog fn.params.toList s.vars apart W args.toList ds gs before → X W args → W.ShapedOpen C.prog → sizedMet enc C.prog fn (OpenSpec.ofChange s) apart W args → Calls C.prog f args W fun e W' => ∃ v, e = .returned v ∧ s.post enc C.prog fn apart fresh handsOn again W args v W') :
    ReturnsInHanded a C os f .any (fun w args => (s.pre enc C.prog fn conds apart w args ∧ X w args) ∧ sizedMet enc C.prog fn (OpenSpec.ofChange s) apart w args) (s.post enc C.prog fn apart fresh handsOn again) := by
  refine returnsInHanded_of_calls own started noInit witness ?_
  intro w tape i _ hsh _ hok hpre _
  obtain ⟨_, _, _, fn', hfn', _, _, _, _, hval⟩ := hok
  obtain rfl : fn' = fn := Option.some.inj (hfn'.symm.trans hfn)
  obtain ⟨⟨⟨ds, gs, before, hw, _⟩, hx⟩, hsz⟩ := hpre
  have hsz' : sizedMet enc C.prog fn' (OpenSpec.ofChange s) apart (w.forCall tape i) i.args := by
    obtain ⟨hp, ds', gs', b', hw', hall⟩ := hsz
    exact ⟨hp, ds', gs', b', DataW.Whole.of_heap (w' := w.forCall tape i) (by rfl) hw', hall⟩
  refine (contract (w.forCall tape i) w.heap.size i.args ds gs before hval (DataW.Whole.of_heap (w' := w.forCall tape i) (by rfl) hw) (hX _ _ _ (by rfl) hx) hsh hsz').mono fun e W' ⟨v, he, hp⟩ => ?_
  subst he
  exact ChangeSpec.post_blind hp
theorem weight_1 {H : Type} {P : Program} {t : TypeId} {ts : List TypeId} {d : DataW H} {r : List (DataW H)} {N : Nat} (h : (DataW.weightsEach P (t :: ts) (d :: r)).all (· ≤ N) = true) : (d.weights P t).all (· ≤ N) = true ∧ (DataW.weightsEach P ts r).all (· ≤ N) = true := by
  rw [DataW.weightsEach, List.all_append, Bool.and_eq_true] at h
  exact h
theorem weight_s {H : Type} {P : Program} {t : TypeId} {l : List UInt8} {N : Nat} (h : ((DataW.lit (.string l) : DataW H).weights P t).all (· ≤ N) = true) : l.length ≤ N := by
  simpa [DataW.weights] using h
end Go.Vf.S
end

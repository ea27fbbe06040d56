import Derived.Test.YtgnhkclddahdnaaGreatDoorAdJ
import Derived.Test.YtgnhkclddahdnaaGreatDoorBnE
namespace Go.Vf.S
open Go Go.Vf
attribute [local irreducible] wSeq wRow wp wG
set_option linter.unusedVariables false
set_option linter.unusedSimpArgs false
set_option maxRecDepth 10000

theorem rmay_w {s : SS} {a d : List UInt8} (ha : a.length ≤ 1000000) (hd : d.length ≤ 1000000) : CallW pr n_ref05_May [adV a d] s fun v s' => v = .bool (mayF a d) ∧ Chg s s' [] := by
 refine CallW.run good ok_ref05_May (by simp) rfl ?_
 (try refine pSeq ?_); (repeat(first|refine sb ?_|refine gOn rfl ?_|refine gOff rfl rfl ?_|refine gTup rfl ?_))
 refine ldS_is rfl lkH rfl ?_
 (repeat(first|refine sb ?_|refine gOn rfl ?_|refine gOff rfl rfl ?_|refine gTup rfl ?_))
 intro n hn
 (repeat(first|refine sb ?_|refine gOn rfl ?_|refine gOff rfl rfl ?_|refine gTup rfl ?_))
 intro q hq
 by_cases h1 : a = []
 ·obtain rfl : q = false := by rw [hq, hn]; simp [h1]
  (repeat(first|refine sb ?_|refine gOn rfl ?_|refine gOff rfl rfl ?_|refine gTup rfl ?_))
  exact ⟨bool_eq (may_no fun h => h.1 h1).symm, .new _⟩
 ·have h0 := List.length_pos_iff.2 h1
  obtain rfl : q = true := by rw [hq, hn]; simp; omega
  (repeat(first|refine sb ?_|refine gOn rfl ?_|refine gOff rfl rfl ?_|refine gTup rfl ?_))
  refine ldS_is rfl lkH rfl ?_
  (repeat(first|refine sb ?_|refine gOn rfl ?_|refine gOff rfl rfl ?_|refine gTup rfl ?_))
  intro n hn
  (repeat(first|refine sb ?_|refine gOn rfl ?_|refine gOff rfl rfl ?_|refine gTup rfl ?_))
  intro q hq
  by_cases h2 : a.length ≤ 64
  ·obtain rfl : q = true := by rw [hq]; simp <;> omega
   (repeat(first|refine sb ?_|refine gOn rfl ?_|refine gOff rfl rfl ?_|refine gTup rfl ?_))
   refine ldS_is rfl lkH rfl ?_
   (repeat(first|refine sb ?_|refine gOn rfl ?_|refine gOff rfl rfl ?_|refine gTup rfl ?_))
   refine (rPlain_w ha).mono fun v s1 q => ?_
   obtain ⟨rfl, rfl⟩ := q
   cases hp : a.all plainB with
   | false =>
    (repeat(first|refine sb ?_|refine gOn rfl ?_|refine gOff rfl rfl ?_|refine gTup rfl ?_))
    exact ⟨bool_eq (may_no fun h => by rw [h.2.2.1] at hp; cases hp).symm, .new _⟩
   | true =>
    (repeat(first|refine sb ?_|refine gOn rfl ?_|refine gOff rfl rfl ?_|refine gTup rfl ?_))
    refine ldS_is rfl lkH rfl ?_
    (repeat(first|refine sb ?_|refine gOn rfl ?_|refine gOff rfl rfl ?_|refine gTup rfl ?_))
    refine (rdomain_w hd).mono fun v s2 q => ?_
    obtain ⟨rfl, c2⟩ := q
    (repeat(first|refine sb ?_|refine gOn rfl ?_|refine gOff rfl rfl ?_|refine gTup rfl ?_))
    intro q hq
    (repeat(first|refine sb ?_|refine gOn rfl ?_|refine gOff rfl rfl ?_|refine gTup rfl ?_))
    refine ⟨bool_eq ?_, (Chg.new []).nil c2⟩
    rw [hq]
    unfold mayF
    rw [decide_eq_decide]
    exact ⟨fun h => ⟨h1, h2, hp, by omega⟩, fun h => by have := h.2.2.2; omega⟩
  ·obtain rfl : q = false := by rw [hq]; simp <;> omega
   (repeat(first|refine sb ?_|refine gOn rfl ?_|refine gOff rfl rfl ?_|refine gTup rfl ?_))
   exact ⟨bool_eq (may_no fun h => h2 h.2.1).symm, .new _⟩

theorem rtext_w {s : SS} {a d : List UInt8} (ha : a.length ≤ 1000000) (hd : d.length ≤ 1000000) : CallW pr n_ref05_Text [adV a d] s fun v s' => v = str (textF a d) ∧ Chg s s' [] := by
 refine CallW.run good ok_ref05_Text (by simp) rfl ?_
 (try refine pSeq ?_); (repeat refine sb ?_)
 refine ldN_is rfl lkH agg2 ?_
 (repeat refine sb ?_)
 refine (rmay_w ha hd).mono fun v s1 q => ?_
 obtain ⟨rfl, c1⟩ := q
 have c0 : Chg s s1 [] := (Chg.new []).nil c1
 have hk : lookH s1.heap s.next = some (.cells [str a, str d] tRf false false) := c1.blk _ _ (Nat.lt_succ_self _) (by simp) lkH
 cases hm : mayF a d with
 | false =>
  (repeat refine sb ?_)
  intro q hq; obtain rfl : q = true := (by rw [hq]; simp <;> omega); (repeat refine sb ?_)
  exact ⟨by unfold textF; rw [hm]; rfl, c0⟩
 | true =>
  have eT : textF a d = wordF a ++ 64 :: d := by unfold textF; rw [if_pos hm]
  rw [eT]
  (repeat refine sb ?_)
  intro q hq; obtain rfl : q = false := (by rw [hq]; simp <;> omega); (repeat refine sb ?_)
  refine ldS_is rfl hk rfl ?_
  (repeat refine sb ?_)
  refine (rdotatom_w ha).mono fun v s2 q => ?_
  obtain ⟨rfl, rfl⟩ := q
  cases hdo : dotF a with
  | true =>
   have eW : wordF a = a := by unfold wordF; rw [if_pos hdo]
   rw [eW]
   (repeat refine sb ?_)
   intro q hq; obtain rfl : q = false := (by rw [hq]; simp <;> omega); (repeat refine sb ?_)
   refine ⟨by simp <;> omega, ?_⟩
   intro x hx
   (repeat refine sb ?_)
   refine ldS_is rfl hk rfl ?_
   (repeat refine sb ?_)
   refine ⟨by rw [hx]; simp <;> omega, ?_⟩
   intro y hy
   (repeat refine sb ?_)
   subst hx hy
   exact ⟨by rw [List.append_assoc]; rfl, c0⟩
  | false =>
   have eW : wordF a = (quoteF a).1 := by unfold wordF; rw [hdo]; rfl
   rw [eW]
   have hql := quote_len a
   (repeat refine sb ?_)
   intro q hq; obtain rfl : q = true := (by rw [hq]; simp <;> omega); (repeat refine sb ?_)
   refine (rquote_w ha).mono fun v s3 q => ?_
   obtain ⟨rfl, rfl⟩ := q
   generalize (quoteF a).1 = qa at *
   (repeat refine sb ?_)
   refine ⟨by simp <;> omega, ?_⟩
   intro x hx
   (repeat refine sb ?_)
   refine ldS_is rfl hk rfl ?_
   (repeat refine sb ?_)
   refine ⟨by rw [hx]; simp <;> omega, ?_⟩
   intro y hy
   (repeat refine sb ?_)
   subst hx hy
   exact ⟨by rw [List.append_assoc]; rfl, c0⟩

theorem rnormal_w {s : SS} {a d : List UInt8} (ha : a.length ≤ 1000000) (hd : d.length ≤ 1000000) : CallW pr n_ref05_Normal [adV a d] s fun v s' => v = adV (nrmL a) (d.map lowB) ∧ Chg s s' [] := by
 refine CallW.run good ok_ref05_Normal (by simp) rfl ?_
 (try refine pSeq ?_); (repeat refine sb ?_)
 refine ldS_is rfl (lkT (show s.next + 1 ≠ s.next by omega) lkH) rfl ?_
 (repeat refine sb ?_)
 refine (rlower_w ha).mono fun v s1 q => ?_
 obtain ⟨rfl, c1⟩ := q
 have c0 : Chg s s1 [] := ((Chg.new []).nil (.new _)).nil c1
 have hk : lookH s1.heap s.next = some (.cells [str a, str d] tRf false false) := c1.blk _ _ (show s.next < s.next + 1 + 1 by omega) (by simp) (lkT (show s.next + 1 ≠ s.next by omega) lkH)
 have hr : lookH s1.heap (s.next + 1) = some (.cells [str [], str []] tRf false false) := c1.blk _ _ (show s.next + 1 < s.next + 1 + 1 by omega) (by simp) lkH
 have hlt : s.next + 1 < s1.next := Nat.lt_of_lt_of_le (show s.next + 1 < s.next + 1 + 1 by omega) c1.next
 (repeat refine sb ?_)
 intro q hq
 replace hq : q = isPost a := by rw [hq]; unfold isPost postL; simp
 cases hi : isPost a with
 | true =>
  obtain rfl : q = true := by rw [hq, hi]
  have en : nrmL a = postL := by unfold nrmL; rw [if_pos hi]
  rw [en]
  (repeat refine sb ?_)
  refine st_abs (cs' := [str postL, str d]) rfl rfl hk (by omega) rfl rfl fun s2 e2 c2 n2 => ?_
  (repeat refine sb ?_)
  refine ldS_is rfl e2 rfl ?_
  (repeat refine sb ?_)
  refine (rlower_w hd).mono fun v s3 q => ?_
  obtain ⟨rfl, c3⟩ := q
  have n3 := c3.next
  have e3 := c3.blk _ _ (by omega) (by simp) e2
  have hr3 := c3.blk _ _ (by omega) (by simp) (c2.blk _ _ hlt (by simp) hr)
  (repeat refine sb ?_)
  refine st_abs (cs' := [str postL, str (d.map lowB)]) rfl rfl e3 (by omega) rfl rfl fun s4 e4 c4 n4 => ?_
  (repeat refine sb ?_)
  refine ldN_is rfl e4 agg2 ?_
  (repeat refine sb ?_)
  have hlt4 : s.next + 1 < s4.next := by omega
  refine st_abs (cs' := [str postL, str (d.map lowB)]) rfl rfl (c4.blk (s.next + 1) _ (show s.next + 1 < s3.next by omega) (by simp) hr3) hlt4 rfl rfl fun s5 e5 c5 n5 => ?_
  (repeat refine sb ?_)
  (repeat (first | with_reducible refine sqRet ?_ | with_reducible refine bkRet ?_ | with_reducible refine hdRet ?_))
  exact ret_cell1 agg_Rf sz_Rf rfl e5 agg2 ⟨rfl, (((c0.fresh c2 (by simp)).nil c3).fresh c4 (by simp)).fresh c5 (by simp)⟩
 | false =>
  obtain rfl : q = false := by rw [hq, hi]
  have en : nrmL a = a := by unfold nrmL; rw [hi]; rfl
  rw [en]
  (repeat refine sb ?_)
  refine ldS_is rfl hk rfl ?_
  (repeat refine sb ?_)
  refine (rlower_w hd).mono fun v s3 q => ?_
  obtain ⟨rfl, c3⟩ := q
  have n3 := c3.next
  have e3 := c3.blk _ _ (by omega) (by simp) hk
  have hr3 := c3.blk _ _ (by omega) (by simp) hr
  (repeat refine sb ?_)
  refine st_abs (cs' := [str a, str (d.map lowB)]) rfl rfl e3 (by omega) rfl rfl fun s4 e4 c4 n4 => ?_
  (repeat refine sb ?_)
  refine ldN_is rfl e4 agg2 ?_
  (repeat refine sb ?_)
  have hlt4 : s.next + 1 < s4.next := by omega
  refine st_abs (cs' := [str a, str (d.map lowB)]) rfl rfl (c4.blk (s.next + 1) _ (show s.next + 1 < s3.next by omega) (by simp) hr3) hlt4 rfl rfl fun s5 e5 c5 n5 => ?_
  (repeat refine sb ?_)
  (repeat (first | with_reducible refine sqRet ?_ | with_reducible refine bkRet ?_ | with_reducible refine hdRet ?_))
  exact ret_cell1 agg_Rf sz_Rf rfl e5 agg2 ⟨rfl, ((c0.nil c3).fresh c4 (by simp)).fresh c5 (by simp)⟩

theorem cmp_step {a b : List UInt8} {i : Nat} {x y : UInt8} (ha : a[i]? = some x) (hb : b[i]? = some y) (h : cmpB a b = cmpB (a.drop i) (b.drop i)) : cmpB a b = if x < y then -1 else if y < x then 1 else cmpB (a.drop (i + 1)) (b.drop (i + 1)) := by
 rw [h, drop_next ha, drop_next hb]
 rfl
theorem cmp_left {a b : List UInt8} {i : Nat} (hi : a.length ≤ i) (h : cmpB a b = cmpB (a.drop i) (b.drop i)) : cmpB a b = if i < b.length then -1 else 0 := by
 rw [h, List.drop_of_length_le hi]
 split
 ·rename_i h
  obtain ⟨y, hy⟩ : ∃ y, b[i]? = some y := ⟨_, List.getElem?_eq_getElem h⟩
  rw [drop_next hy]
  rfl
 ·rw [List.drop_of_length_le (by omega)]
  rfl
theorem cmp_right {a b : List UInt8} {i : Nat} (ha : i < a.length) (hi : b.length ≤ i) (h : cmpB a b = cmpB (a.drop i) (b.drop i)) : cmpB a b = 1 := by
 obtain ⟨y, hy⟩ : ∃ y, a[i]? = some y := ⟨_, List.getElem?_eq_getElem ha⟩
 rw [h, List.drop_of_length_le hi, drop_next hy]
 rfl

theorem rorder_w {s : SS} {a b : List UInt8} (ha : a.length ≤ 1000000) (hb : b.length ≤ 1000000) : CallW pr n_ref05_order [str a, str b] s fun v s' => v = .int .i64 (cmpB a b) ∧ s' = s := by
 refine CallW.run good ok_ref05_order (by simp) rfl ?_
 (try refine pSeq ?_); (repeat(first|refine sb ?_|refine kNo ?_|refine gOn rfl ?_|refine gOff rfl rfl ?_|refine gTup rfl ?_))
 refine pLoop (MW.head good (fun i : Nat => a.length - i) (fun i => i ≤ a.length ∧ i ≤ b.length ∧ cmpB a b = cmpB (a.drop i) (b.drop i)) (fun i => [(0, str a), (1, str b), (5, .int .i64 i)]) (fun i => s) 0 ⟨Nat.zero_le _, Nat.zero_le _, rfl⟩ (Wk.same ⟨rfl, rfl, rfl, trivial⟩) ?_)
 intro i ⟨hia, hib, hc⟩
 (repeat(first|refine sb ?_|refine kNo ?_|refine gOn rfl ?_|refine gOff rfl rfl ?_|refine gTup rfl ?_))
 intro n hn
 (repeat(first|refine sb ?_|refine kNo ?_|refine gOn rfl ?_|refine gOff rfl rfl ?_|refine gTup rfl ?_))
 intro q hq
 have fin : ∀ (P : Prop), (i = a.length ∨ i = b.length) → P → P := fun _ _ p => p
 by_cases h1 : i < a.length
 ·obtain rfl : q = true := by rw [hq]; simp <;> omega
  (repeat(first|refine sb ?_|refine kNo ?_|refine gOn rfl ?_|refine gOff rfl rfl ?_|refine gTup rfl ?_))
  intro n hn
  (repeat(first|refine sb ?_|refine kNo ?_|refine gOn rfl ?_|refine gOff rfl rfl ?_|refine gTup rfl ?_))
  intro q hq
  by_cases h2 : i < b.length
  ·obtain rfl : q = true := by rw [hq]; simp <;> omega
   obtain ⟨x, hx⟩ : ∃ x, a[i]? = some x := ⟨_, List.getElem?_eq_getElem h1⟩
   obtain ⟨y, hy⟩ : ∃ y, b[i]? = some y := ⟨_, List.getElem?_eq_getElem h2⟩
   have hs := cmp_step hx hy hc
   (repeat(first|refine sb ?_|refine kNo ?_|refine gOn rfl ?_|refine gOff rfl rfl ?_|refine gTup rfl ?_))
   refine ⟨by omega, ?_⟩
   intro m hm
   obtain rfl : m = i := by omega
   refine ⟨x, hx, ?_⟩
   (repeat(first|refine sb ?_|refine kNo ?_|refine gOn rfl ?_|refine gOff rfl rfl ?_|refine gTup rfl ?_))
   refine ⟨by omega, ?_⟩
   intro m2 hm2
   obtain rfl : m2 = m := by omega
   refine ⟨y, hy, ?_⟩
   (repeat(first|refine sb ?_|refine kNo ?_|refine gOn rfl ?_|refine gOff rfl rfl ?_|refine gTup rfl ?_))
   intro q hq
   by_cases hxy : x = y
   ·subst hxy
    obtain rfl : q = false := by rw [hq]; simp
    (repeat(first|refine sb ?_|refine kNo ?_|refine gOn rfl ?_|refine gOff rfl rfl ?_|refine gTup rfl ?_))
    intro z hz
    rw [i64_id (by omega)] at hz
    obtain rfl : z = ((m2 + 1 : Nat) : Int) := by omega
    (repeat(first|refine sb ?_|refine kNo ?_|refine gOn rfl ?_|refine gOff rfl rfl ?_|refine gTup rfl ?_))
    refine ⟨m2 + 1, ⟨h1, h2, ?_⟩, by show a.length - (m2 + 1) < a.length - m2; omega, Wk.same ⟨rfl, rfl, rfl, trivial⟩⟩
    rw [hs, if_neg (UInt8.lt_irrefl x), if_neg (UInt8.lt_irrefl x)]
   ·have hne : x.toNat ≠ y.toNat := fun h => hxy (UInt8.toNat_inj.1 h)
    obtain rfl : q = true := by rw [hq]; simp; omega
    (repeat(first|refine sb ?_|refine kNo ?_|refine gOn rfl ?_|refine gOff rfl rfl ?_|refine gTup rfl ?_))
    refine ⟨by omega, ?_⟩
    intro m hm
    obtain rfl : m = m2 := by omega
    refine ⟨x, hx, ?_⟩
    (repeat(first|refine sb ?_|refine kNo ?_|refine gOn rfl ?_|refine gOff rfl rfl ?_|refine gTup rfl ?_))
    refine ⟨by omega, ?_⟩
    intro m2 hm2
    obtain rfl : m2 = m := by omega
    refine ⟨y, hy, ?_⟩
    (repeat(first|refine sb ?_|refine kNo ?_|refine gOn rfl ?_|refine gOff rfl rfl ?_|refine gTup rfl ?_))
    intro q hq
    by_cases hlt : x < y
    ·obtain rfl : q = true := by rw [hq]; have : x.toNat < y.toNat := UInt8.lt_iff_toNat_lt.1 hlt; simp; omega
     (repeat(first|refine sb ?_|refine kNo ?_|refine gOn rfl ?_|refine gOff rfl rfl ?_|refine gTup rfl ?_))
     exact ⟨by rw [hs, if_pos hlt]; rfl, rfl⟩
    ·have hlt2 : ¬x.toNat < y.toNat := fun h => hlt (UInt8.lt_iff_toNat_lt.2 h)
     obtain rfl : q = false := by rw [hq]; simp; omega
     (repeat(first|refine sb ?_|refine kNo ?_|refine gOn rfl ?_|refine gOff rfl rfl ?_|refine gTup rfl ?_))
     exact ⟨by rw [hs, if_neg hlt, if_pos (UInt8.lt_iff_toNat_lt.2 (by omega))]; rfl, rfl⟩
  ·obtain rfl : q = false := by rw [hq]; simp <;> omega
   (repeat(first|refine sb ?_|refine kNo ?_|refine gOn rfl ?_|refine gOff rfl rfl ?_|refine gTup rfl ?_))
   intro n hn
   (repeat(first|refine sb ?_|refine kNo ?_|refine gOn rfl ?_|refine gOff rfl rfl ?_|refine gTup rfl ?_))
   intro n2 hn2
   (repeat(first|refine sb ?_|refine kNo ?_|refine gOn rfl ?_|refine gOff rfl rfl ?_|refine gTup rfl ?_))
   intro q hq
   obtain rfl : q = false := by rw [hq, hn, hn2]; simp; omega
   (repeat(first|refine sb ?_|refine kNo ?_|refine gOn rfl ?_|refine gOff rfl rfl ?_|refine gTup rfl ?_))
   intro n hn
   (repeat(first|refine sb ?_|refine kNo ?_|refine gOn rfl ?_|refine gOff rfl rfl ?_|refine gTup rfl ?_))
   intro n2 hn2
   (repeat(first|refine sb ?_|refine kNo ?_|refine gOn rfl ?_|refine gOff rfl rfl ?_|refine gTup rfl ?_))
   intro q hq
   obtain rfl : q = true := by rw [hq, hn, hn2]; simp; omega
   (repeat(first|refine sb ?_|refine kNo ?_|refine gOn rfl ?_|refine gOff rfl rfl ?_|refine gTup rfl ?_))
   exact ⟨by rw [cmp_right h1 (by omega) hc]; rfl, rfl⟩
 ·obtain rfl : q = false := by rw [hq]; simp <;> omega
  have hl := cmp_left (by omega) hc
  (repeat(first|refine sb ?_|refine kNo ?_|refine gOn rfl ?_|refine gOff rfl rfl ?_|refine gTup rfl ?_))
  intro n hn
  (repeat(first|refine sb ?_|refine kNo ?_|refine gOn rfl ?_|refine gOff rfl rfl ?_|refine gTup rfl ?_))
  intro n2 hn2
  (repeat(first|refine sb ?_|refine kNo ?_|refine gOn rfl ?_|refine gOff rfl rfl ?_|refine gTup rfl ?_))
  intro q hq
  by_cases h2 : i < b.length
  ·obtain rfl : q = true := by rw [hq, hn, hn2]; simp; omega
   (repeat(first|refine sb ?_|refine kNo ?_|refine gOn rfl ?_|refine gOff rfl rfl ?_|refine gTup rfl ?_))
   exact ⟨by rw [hl, if_pos h2]; rfl, rfl⟩
  ·obtain rfl : q = false := by rw [hq, hn, hn2]; simp; omega
   (repeat(first|refine sb ?_|refine kNo ?_|refine gOn rfl ?_|refine gOff rfl rfl ?_|refine gTup rfl ?_))
   intro n hn
   (repeat(first|refine sb ?_|refine kNo ?_|refine gOn rfl ?_|refine gOff rfl rfl ?_|refine gTup rfl ?_))
   intro n2 hn2
   (repeat(first|refine sb ?_|refine kNo ?_|refine gOn rfl ?_|refine gOff rfl rfl ?_|refine gTup rfl ?_))
   intro q hq
   obtain rfl : q = false := by rw [hq, hn, hn2]; simp; omega
   (repeat(first|refine sb ?_|refine kNo ?_|refine gOn rfl ?_|refine gOff rfl rfl ?_|refine gTup rfl ?_))
   exact ⟨by rw [hl, if_neg h2]; rfl, rfl⟩

theorem nrm_len {l : List UInt8} (h : l.length ≤ 1000000) : (nrmL l).length ≤ 1000000 := by
 unfold nrmL
 split
 ·decide
 ·exact h
theorem rcompare_w {s : SS} {a d b e : List UInt8} (ha : a.length ≤ 1000000) (hd : d.length ≤ 1000000) (hb : b.length ≤ 1000000) (he : e.length ≤ 1000000) : CallW pr n_ref05_Compare [adV a d, adV b e] s fun v s' => v = .int .i64 (compF2 (nF a d) (nF b e)) ∧ Chg s s' [] := by
 refine CallW.run good ok_ref05_Compare (by simp) rfl ?_
 (try refine pSeq ?_); (repeat refine sb ?_)
 have hnl : ∀ l : List UInt8, l.length ≤ 1000000 → (nrmL l).length ≤ 1000000 := fun l h => nrm_len h
 have hml : ∀ l : List UInt8, l.length ≤ 1000000 → (l.map lowB).length ≤ 1000000 := fun l h => by rw [List.length_map]; exact h
 refine ldN_is rfl (lkT (show s.next + 1 ≠ s.next by omega) lkH) agg2 ?_
 (repeat refine sb ?_)
 refine (rnormal_w ha hd).mono fun v s1 q => ?_
 obtain ⟨rfl, c1⟩ := q
 have hk : lookH s1.heap (s.next + 1) = some (.cells [str b, str e] tRf false false) := c1.blk _ _ (show s.next + 1 < s.next + 1 + 1 by omega) (by simp) lkH
 have hj : lookH s1.heap s.next = some (.cells [str a, str d] tRf false false) := c1.blk _ _ (show s.next < s.next + 1 + 1 by omega) (by simp) (lkT (show s.next + 1 ≠ s.next by omega) lkH)
 have n1 : s.next + 1 + 1 ≤ s1.next := c1.next
 have d1 : Chg s s1 [] := ((Chg.new []).nil (.new _)).nil c1
 (repeat refine sb ?_)
 refine st_abs (cs' := [str (nrmL a), str (d.map lowB)]) rfl rfl hj (by omega) rfl rfl fun s2 e2 c2 n2 => ?_
 have hk2 := c2.blk (s.next + 1) _ (show s.next + 1 < s1.next by omega) (by simp) hk
 have n2 : s2.next = s1.next := n2
 have d2 : Chg s s2 [] := d1.fresh c2 (by simp)
 (repeat refine sb ?_)
 refine ldN_is rfl hk2 agg2 ?_
 (repeat refine sb ?_)
 refine (rnormal_w hb he).mono fun v s3 q => ?_
 obtain ⟨rfl, c3⟩ := q
 have n3 := c3.next
 have hk3 := c3.blk _ _ (show s.next + 1 < s2.next by omega) (by simp) hk2
 have e3 := c3.blk s.next _ (show s.next < s2.next by omega) (by simp) e2
 (repeat refine sb ?_)
 refine st_abs (cs' := [str (nrmL b), str (e.map lowB)]) rfl rfl hk3 (show s.next + 1 < s3.next by omega) rfl rfl fun s4 e4 c4 n4 => ?_
 have e4 : lookH s4.heap (s.next + 1) = some (.cells [str (nrmL b), str (e.map lowB)] tRf false false) := e4
 have e5 := c4.blk s.next _ (show s.next < s3.next by omega) (by simp) e3
 have d4 : Chg s s4 [] := (d2.nil c3).fresh c4 (by simp)
 (repeat refine sb ?_)
 refine ldS_is rfl e5 rfl ?_
 (repeat refine sb ?_)
 refine ldS_is rfl e4 rfl ?_
 (repeat refine sb ?_)
 refine (rorder_w (hml _ hd) (hml _ he)).mono fun v s5 q => ?_
 obtain ⟨rfl, rfl⟩ := q
 have ec : compF2 (nF a d) (nF b e) = if cmpB (d.map lowB) (e.map lowB) ≠ 0 then cmpB (d.map lowB) (e.map lowB) else cmpB (nrmL a) (nrmL b) := rfl
 (repeat refine sb ?_)
 intro q hq
 by_cases h0 : cmpB (d.map lowB) (e.map lowB) = 0
 ·obtain rfl : q = false := by rw [hq, h0]; rfl
  (repeat refine sb ?_)
  refine ldS_is rfl e5 rfl ?_
  (repeat refine sb ?_)
  refine ldS_is rfl e4 rfl ?_
  (repeat refine sb ?_)
  refine (rorder_w (hnl _ ha) (hnl _ hb)).mono fun v s6 q => ?_
  obtain ⟨rfl, rfl⟩ := q
  (repeat refine sb ?_)
  exact ⟨by rw [ec, if_neg (by simpa using h0)]; rfl, d4⟩
 ·obtain rfl : q = true := by rw [hq]; simpa using h0
  (repeat refine sb ?_)
  exact ⟨by rw [ec, if_pos h0]; rfl, d4⟩
end Go.Vf.S

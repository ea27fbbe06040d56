import Derived.Test.YtgnhkclddahdnaaGreatDoorLjD
import Derived.Test.YtgnhkclddahdnaaGreatDoorBnM
namespace Go.Vf.S
open Go Go.Vf Go.Proofs Go.RowKit
attribute [local irreducible] wSeq wRow wp wG
attribute [local irreducible] parseF domF sameF textF mayF
set_option linter.unusedVariables false
set_option linter.unusedSimpArgs false
set_option maxRecDepth 10000

theorem any_may {ys : List AA} : (ys.any fun x => !mayA x) = !ys.all mayA := by
 induction ys with
 | nil => rfl
 | cons y ys ih => rw [List.any_cons, List.all_cons, ih, Bool.not_and]
theorem find_cap (l : List UInt8) : (findF l).1.length ≤ 64 := by
 unfold findF
 split
 ·simp
 ·split
  ·simp
  ·split
   ·simp
   ·rename_i h
    exact Nat.not_lt.1 h

set_option maxHeartbeats 2000000 in
theorem put_w {s : SS} {A : Option Addr} {ca : Nat} {l : List UInt8} {ys : List AA} (hG : Gb s) (hF : Fine s) (hl : l.length ≤ 900000) (hR : AdRd s A ys) (hy : ys.length ≤ 1000) (hb : ∀ a ∈ ys, a.1.length ≤ 1000 ∧ a.2.length ≤ 1000) :
  CallW pr n_list_Put [str l, .slice A ys.length ca] s fun v s' => v = .tuple ⟨[str (putF l ys).1, .int .i64 (putF l ys).2]⟩ ∧ Chg s s' [] := by
 refine CallW.run good ok_list_Put (by simp) rfl ?_
 have hO := find_ord l
 have h64 := find_cap l
 have eP : putF l ys = if (findF l).2 = 5 then ([], 5) else if ys.all mayA = false then ([], 1) else if (findF l).2 ≠ 0 then ([], (findF l).2) else if ys.length ≠ (findF l).1.length then ([], 1) else (outF l 0 (findF l).1 ys, 0) := rfl
 (try refine pSeq ?_); (repeat refine sb ?_)
 refine (find_w hF hG hl).mono fun v s1 q => ?_
 obtain ⟨W1, cw1, rfl, o1, c1, -⟩ := q
 generalize findF l = Q at *
 obtain ⟨xs, e⟩ := Q
 dsimp only at o1 eP hO h64 ⊢
 (repeat refine sb ?_)
 intro q hq
 by_cases h5 : e = 5
 ·obtain rfl : q = true := by rw [hq, h5]; rfl
  rw [if_pos h5] at eP
  (repeat refine sb ?_)
  exact ⟨by rw [eP, h5]; rfl, c1⟩
 ·obtain rfl : q = false := by rw [hq]; simp; omega
  rw [if_neg h5] at eP
  (repeat refine sb ?_)
  refine (contA_w (g := fun x => !mayA x) (hR.chg c1) (by omega) (fun x => by kernel_rfl) (fun x hx s1 => put1_w (by have := hb x hx; omega) (by have := hb x hx; omega))).mono fun v s2 q => ?_
  obtain ⟨rfl, c2⟩ := q
  rw [any_may]
  have c02 := c1.nil c2
  cases hm : ys.all mayA with
  | false =>
   rw [hm, if_pos rfl] at eP
   (repeat refine sb ?_)
   exact ⟨by rw [eP]; rfl, c02⟩
  | true =>
   rw [hm, if_neg (by simp)] at eP
   (repeat refine sb ?_)
   intro q hq
   by_cases h0 : e = 0
   ·obtain rfl : q = false := by rw [hq, h0]; rfl
    rw [if_neg (by simpa using h0)] at eP
    (repeat refine sb ?_)
    intro q hq
    by_cases hn : ys.length = xs.length
    ·obtain rfl : q = false := by rw [hq, hn]; simp
     rw [if_neg (by simpa using hn)] at eP
     (repeat refine sb ?_)
     refine (lput_w (hG.chg c02 (by simp)) (c02.fine hF) hl (o1.chg c2 (by simp)) (hR.chg c02) hO hn hy hb).mono fun v s3 q => ?_
     obtain ⟨rfl, c3⟩ := q
     (repeat refine sb ?_)
     exact ⟨by rw [eP]; rfl, c02.nil c3⟩
    ·obtain rfl : q = true := by rw [hq]; simp; omega
     rw [if_pos hn] at eP
     (repeat refine sb ?_)
     exact ⟨by rw [eP]; rfl, c02⟩
   ·obtain rfl : q = true := by rw [hq]; simp; omega
    rw [if_pos h0] at eP
    (repeat refine sb ?_)
    exact ⟨by rw [eP]; rfl, c02⟩

theorem cmp_same {x : Spt} {a : AA} : decide (compF2 (nF x.a x.d) (nF a.1 a.2) = 0) = sameF x.a x.d a.1 a.2 := by
 rw [same_nF, decide_eq_decide]
 exact comp_zero

structure RPutI where
 i : Nat
 p : Nat
 w : List UInt8
 s : SS

set_option maxHeartbeats 4000000 in
theorem rput_w {s : SS} {A : Option Addr} {ca : Nat} {l : List UInt8} {ys : List AA} (hF : Fine s) (hl : l.length ≤ 900000) (hR : AdRd s A ys) (hy : ys.length ≤ 1000) (hb : ∀ a ∈ ys, a.1.length ≤ 1000 ∧ a.2.length ≤ 1000) :
  CallW pr n_ref08_Put [str l, .slice A ys.length ca] s fun v s' => v = .tuple ⟨[str (putF l ys).1, .int .i64 (putF l ys).2]⟩ ∧ Chg s s' [] := by
 refine CallW.run good ok_ref08_Put (by simp) rfl ?_
 have hO := find_ord l
 have h64 := find_cap l
 have eP : putF l ys = if (findF l).2 = 5 then ([], 5) else if ys.all mayA = false then ([], 1) else if (findF l).2 ≠ 0 then ([], (findF l).2) else if ys.length ≠ (findF l).1.length then ([], 1) else (outF l 0 (findF l).1 ys, 0) := rfl
 (try refine pSeq ?_); (repeat(first|refine sb ?_|refine kNo ?_))
 refine (r8find_w hF hl).mono fun v s1 q => ?_
 obtain ⟨W1, cw1, rfl, o1, c1, -⟩ := q
 generalize findF l = Q at *
 obtain ⟨xs, e⟩ := Q
 dsimp only at o1 eP hO h64 ⊢
 replace hR := hR.chg c1
 have hT : ys.length = xs.length → (outF l 0 xs ys).length ≤ 10000000 := fun hn => by
  have := out_len (B := 3003) hO (ys := ys) fun a h => by have := pt_len (a := a.1) (d := a.2); have := hb a h; show (textF a.1 a.2).length ≤ 3003; omega
  have := Nat.mul_le_mul_right 3003 hy
  omega
 (repeat(first|refine sb ?_|refine kNo ?_))
 intro q hq
 by_cases h5 : e = 5
 ·obtain rfl : q = true := by rw [hq, h5]; rfl
  rw [if_pos h5] at eP
  (repeat(first|refine sb ?_|refine kNo ?_))
  exact ⟨by rw [eP, h5]; rfl, c1⟩
 ·obtain rfl : q = false := by rw [hq]; simp; omega
  rw [if_neg h5] at eP
  (repeat(first|refine sb ?_|refine kNo ?_))
  refine pLoop (MW.head good (fun x : Nat × SS => ys.length - x.1) (fun x => x.1 ≤ ys.length ∧ (ys.take x.1).all mayA = true ∧ Chg s1 x.2 []) (fun x => [(0, str l), (1, .slice A ys.length ca), (6, .slice W1 xs.length cw1), (7, .int .i64 e), (8, .int .i64 x.1)]) (fun x => x.2) (0, s1) ⟨Nat.zero_le _, rfl, .refl _ _⟩ (Wk.same ⟨rfl, rfl, rfl, rfl, rfl, trivial⟩) ?_)
  intro ⟨i, s2⟩ ⟨hi, ha, c2⟩
  dsimp only at hi ha c2 ⊢
  have hR2 := hR.chg c2
  have c02 := c1.nil c2
  (repeat(first|refine sb ?_|refine kNo ?_))
  intro q hq
  by_cases hlt : i < ys.length
  ·obtain rfl : q = true := by rw [hq]; simp <;> omega
   obtain ⟨a, hay⟩ : ∃ a, ys[i]? = some a := ⟨_, List.getElem?_eq_getElem hlt⟩
   have hab := hb a (List.mem_of_getElem? hay)
   obtain ⟨b2, t2, g2, r2, rfl, hb2, k2⟩ := hR2.at (fun e => by rw [e] at hay; simp at hay)
   (repeat(first|refine sb ?_|refine kNo ?_))
   refine ⟨by omega, ?_⟩
   intro m hm o ho
   obtain rfl : m = i := by omega
   rw [Nat.zero_add] at ho
   subst ho
   (repeat(first|refine sb ?_|refine kNo ?_))
   refine ldN_is rfl k2 (ads_take hay) ?_
   (repeat(first|refine sb ?_|refine kNo ?_))
   refine (rmay_w (a := a.1) (d := a.2) (by omega) (by omega)).mono fun v s3 q => ?_
   obtain ⟨rfl, c3⟩ := q
   cases hm : mayF a.1 a.2 with
   | false =>
    have : ys.all mayA = false := by
     rw [List.all_eq_false]
     exact ⟨a, List.mem_of_getElem? hay, by show ¬mayF a.1 a.2 = true; rw [hm]; simp⟩
    rw [this, if_pos rfl] at eP
    (repeat(first|refine sb ?_|refine kNo ?_))
    intro q hq; obtain rfl : q = true := (by rw [hq]; simp <;> omega); (repeat(first|refine sb ?_|refine kNo ?_))
    exact ⟨by rw [eP]; rfl, c02.nil c3⟩
   | true =>
    (repeat(first|refine sb ?_|refine kNo ?_))
    intro q hq; obtain rfl : q = false := (by rw [hq]; simp <;> omega); (repeat(first|refine sb ?_|refine kNo ?_))
    intro z hz
    rw [i64_id (by omega)] at hz
    obtain rfl : z = ((m + 1 : Nat) : Int) := by omega
    (repeat(first|refine sb ?_|refine kNo ?_))
    refine ⟨(m + 1, s3), ⟨hlt, ?_, c2.nil c3⟩, by show ys.length - (m + 1) < ys.length - m; omega, Wk.same ⟨rfl, rfl, rfl, rfl, rfl, trivial⟩⟩
    dsimp only
    rw [take_next hay, List.all_append, ha]
    simp [mayA, hm]
  ·obtain rfl : q = false := by rw [hq]; simp <;> omega
   rw [List.take_of_length_le (by omega)] at ha
   rw [ha, if_neg (by simp)] at eP
   clear hi hq hlt
   (repeat(first|refine sb ?_|refine kNo ?_))
   intro q hq
   by_cases h0 : e = 0
   ·obtain rfl : q = false := by rw [hq, h0]; rfl
    rw [if_neg (by simpa using h0)] at eP
    (repeat(first|refine sb ?_|refine kNo ?_))
    intro q hq
    by_cases hn : ys.length = xs.length
    ·obtain rfl : q = false := by rw [hq, hn]; simp
     rw [if_neg (by simpa using hn)] at eP
     replace hT := hT hn
     rw [eP]
     have o2 := o1.chg c2 (by simp)
     clear ha eP
     (repeat(first|refine sb ?_|refine kNo ?_))
     refine pLoop (MW.head good (fun x : RPutI => xs.length - x.i) (fun x => x.i ≤ xs.length ∧ Chg s2 x.s [] ∧ OrdS l.length x.p (xs.drop x.i) ∧ x.w ++ outF l x.p (xs.drop x.i) (ys.drop x.i) = outF l 0 xs ys)
      (fun x => [(0, str l), (1, .slice A ys.length ca), (6, .slice W1 xs.length cw1), (9, str x.w), (10, .int .i64 x.p), (11, .int .i64 x.i)]) (fun x => x.s) ⟨0, 0, [], s2⟩ ⟨Nat.zero_le _, .refl _ _, hO, rfl⟩ (Wk.same ⟨rfl, rfl, rfl, rfl, rfl, rfl, trivial⟩) ?_)
     rintro ⟨i, p, w, s3⟩ ⟨hi, c3, hP, hW⟩
     dsimp only at hi c3 hP hW ⊢
     have o3 := o2.chg c3 (by simp)
     have hR3 := hR2.chg c3
     have hpl := ord_le hP
     have c03 := c02.nil c3
     have hwl : w.length ≤ 10000000 := by have := congrArg List.length hW; rw [List.length_append] at this; omega
     (repeat(first|refine sb ?_|refine kNo ?_))
     intro q hq
     by_cases hlt : i < xs.length
     ·obtain rfl : q = true := by rw [hq]; simp <;> omega
      obtain ⟨x, hx⟩ : ∃ x, xs[i]? = some x := ⟨_, List.getElem?_eq_getElem hlt⟩
      obtain ⟨a, hay⟩ : ∃ a, ys[i]? = some a := ⟨_, List.getElem?_eq_getElem (by omega)⟩
      have hab := hb a (List.mem_of_getElem? hay)
      rw [drop_next hx] at hP hW
      rw [drop_next hay] at hW
      obtain ⟨hf1, hf2, hxa, hxd, hP1⟩ := hP
      have hxt := ord_le hP1
      obtain ⟨b1, g1, rfl, k1⟩ := o3.pos (by omega)
      obtain ⟨b2, t2, g2, r2, rfl, hb2, k2⟩ := hR3.at (fun e => by rw [e] at hay; simp at hay)
      have eO : outF l p (x :: xs.drop (i + 1)) (a :: ys.drop (i + 1)) = (l.drop p).take (x.f - p) ++ (if sameF x.a x.d a.1 a.2 = true then (l.drop x.f).take (x.t - x.f) else txA a) ++ outF l x.t (xs.drop (i + 1)) (ys.drop (i + 1)) := rfl
      rw [eO] at hW
      have htx : (txA a).length ≤ 3003 := by have := pt_len (a := a.1) (d := a.2); show (textF a.1 a.2).length ≤ 3003; omega
      (repeat(first|refine sb ?_|refine kNo ?_))
      refine ⟨by omega, ?_⟩
      intro m hm o ho
      obtain rfl : m = i := by omega
      rw [Nat.zero_add] at ho
      subst ho
      (repeat(first|refine sb ?_|refine kNo ?_))
      refine ldI_is rfl k1 (sps_at hx 0 (by decide)) ?_
      (repeat(first|refine sb ?_|refine kNo ?_))
      refine ⟨by omega, ?_⟩
      intro m3 hm3
      refine ⟨by omega, ?_⟩
      intro m4 hm4 t ht
      have em3 : m3 = x.f := by omega
      have em4 : m4 = p := by omega
      rw [em3, em4] at ht
      clear hm3 hm4 em3 em4
      have htl : t.length ≤ 900000 := by rw [ht, List.length_take, List.length_drop]; omega
      (repeat(first|refine sb ?_|refine kNo ?_))
      refine ⟨by simp only [List.length_append] at *; omega, ?_⟩
      intro w1 hw1
      obtain rfl : w1 = w ++ t := hw1
      have hw4 : (w ++ t).length ≤ 10000000 := by have := congrArg List.length hW; rw [← ht, ← List.append_assoc, ← List.append_assoc, List.length_append, List.length_append] at this; omega
      (repeat(first|refine sb ?_|refine kNo ?_))
      refine ⟨by omega, ?_⟩
      intro m5 hm5 o ho
      obtain rfl : m5 = m := by omega
      rw [Nat.zero_add] at ho
      subst ho
      (repeat(first|refine sb ?_|refine kNo ?_))
      refine ldN_is rfl k1 (sps_two hx) ?_
      (repeat(first|refine sb ?_|refine kNo ?_))
      refine ⟨by omega, ?_⟩
      intro m6 hm6 o ho
      obtain rfl : m6 = m5 := by omega
      rw [Nat.zero_add] at ho
      subst ho
      (repeat(first|refine sb ?_|refine kNo ?_))
      refine ldN_is rfl k2 (ads_take hay) ?_
      (repeat(first|refine sb ?_|refine kNo ?_))
      refine (rcompare_w (a := x.a) (d := x.d) (b := a.1) (e := a.2) (by omega) (by omega) (by omega) (by omega)).mono fun v s4 q => ?_
      obtain ⟨rfl, c4⟩ := q
      have c34 := c3.nil c4
      have k1' := c4.blk _ _ (o3.lt _ (by simp [blkOf])) (by simp) k1
      have k2' := c4.blk _ _ hb2 (by simp) k2
      (repeat(first|refine sb ?_|refine kNo ?_))
      intro q hq
      have hq : q = sameF x.a x.d a.1 a.2 := by rw [hq]; exact cmp_same
      cases hs : sameF x.a x.d a.1 a.2 with
      | true =>
       obtain rfl : q = true := by rw [hq, hs]
       rw [hs, if_pos rfl] at hW
       (repeat(first|refine sb ?_|refine kNo ?_))
       refine ⟨by omega, ?_⟩
       intro m7 hm7 o ho
       obtain rfl : m7 = m6 := by omega
       rw [Nat.zero_add] at ho
       subst ho
       (repeat(first|refine sb ?_|refine kNo ?_))
       refine ldI_is rfl k1' (sps_at hx 0 (by decide)) ?_
       (repeat(first|refine sb ?_|refine kNo ?_))
       refine ⟨by omega, ?_⟩
       intro m8 hm8 o ho
       obtain rfl : m8 = m7 := by omega
       rw [Nat.zero_add] at ho
       subst ho
       (repeat(first|refine sb ?_|refine kNo ?_))
       refine ldI_is rfl k1' (sps_at hx 1 (by decide)) ?_
       (repeat(first|refine sb ?_|refine kNo ?_))
       refine ⟨by omega, ?_⟩
       intro m9 hm9
       refine ⟨by omega, ?_⟩
       intro m10 hm10 t2 ht2
       have em3 : m9 = x.t := by omega
       have em4 : m10 = x.f := by omega
       rw [em3, em4] at ht2
       clear hm9 hm10 em3 em4
       have htl2 : t2.length ≤ 900000 := by rw [ht2, List.length_take, List.length_drop]; omega
       (repeat(first|refine sb ?_|refine kNo ?_))
       refine ⟨by simp only [List.length_append] at *; omega, ?_⟩
       intro w2 hw2
       obtain rfl : w2 = w ++ t ++ t2 := hw2
       (repeat(first|refine sb ?_|refine kNo ?_))
       refine ⟨by omega, ?_⟩
       intro m9 hm9 o ho
       obtain rfl : m9 = m8 := by omega
       rw [Nat.zero_add] at ho
       subst ho
       (repeat(first|refine sb ?_|refine kNo ?_))
       refine ldI_is rfl k1' (sps_at hx 1 (by decide)) ?_
       (repeat(first|refine sb ?_|refine kNo ?_))
       intro z hz
       rw [i64_id (by omega)] at hz
       obtain rfl : z = ((m9 + 1 : Nat) : Int) := by omega
       (repeat(first|refine sb ?_|refine kNo ?_))
       refine ⟨⟨m9 + 1, x.t, w ++ t ++ t2, s4⟩, ⟨hlt, c34, hP1, ?_⟩, by show xs.length - (m9 + 1) < xs.length - m9; omega, Wk.same ⟨rfl, rfl, rfl, rfl, rfl, rfl, trivial⟩⟩
       dsimp only
       rw [← hW, ht, ht2]
       simp only [List.append_assoc]
      | false =>
       obtain rfl : q = false := by rw [hq, hs]
       rw [hs, if_neg (by simp)] at hW
       (repeat(first|refine sb ?_|refine kNo ?_))
       refine ⟨by omega, ?_⟩
       intro m7 hm7 o ho
       obtain rfl : m7 = m6 := by omega
       rw [Nat.zero_add] at ho
       subst ho
       (repeat(first|refine sb ?_|refine kNo ?_))
       refine ldN_is rfl k2' (ads_take hay) ?_
       (repeat(first|refine sb ?_|refine kNo ?_))
       refine (rtext_w (a := a.1) (d := a.2) (by omega) (by omega)).mono fun v s5 q => ?_
       obtain ⟨rfl, c5⟩ := q
       have c35 := c34.nil c5
       have k1'' := c5.blk _ _ (Nat.lt_of_lt_of_le (o3.lt _ (by simp [blkOf])) c4.next) (by simp) k1'
       (repeat(first|refine sb ?_|refine kNo ?_))
       refine ⟨by show (w ++ t).length + (txA a).length ≤ _; omega, ?_⟩
       intro w2 hw2
       obtain rfl : w2 = w ++ t ++ txA a := hw2
       (repeat(first|refine sb ?_|refine kNo ?_))
       refine ⟨by omega, ?_⟩
       intro m9 hm9 o ho
       obtain rfl : m9 = m7 := by omega
       rw [Nat.zero_add] at ho
       subst ho
       (repeat(first|refine sb ?_|refine kNo ?_))
       refine ldI_is rfl k1'' (sps_at hx 1 (by decide)) ?_
       (repeat(first|refine sb ?_|refine kNo ?_))
       intro z hz
       rw [i64_id (by omega)] at hz
       obtain rfl : z = ((m9 + 1 : Nat) : Int) := by omega
       (repeat(first|refine sb ?_|refine kNo ?_))
       refine ⟨⟨m9 + 1, x.t, w ++ t ++ txA a, s5⟩, ⟨hlt, c35, hP1, ?_⟩, by show xs.length - (m9 + 1) < xs.length - m9; omega, Wk.same ⟨rfl, rfl, rfl, rfl, rfl, rfl, trivial⟩⟩
       dsimp only
       rw [← hW, ht]
       simp only [List.append_assoc]
     ·obtain rfl : q = false := by rw [hq]; simp <;> omega
      have hO' : outF l p (xs.drop i) (ys.drop i) = l.drop p := by
       rw [List.drop_of_length_le (by omega)]
       rfl
      rw [hO'] at hW
      (repeat(first|refine sb ?_|refine kNo ?_))
      refine ⟨by omega, ?_⟩
      intro m3 hm3 t ht
      obtain rfl : m3 = p := by omega
      have et : t = l.drop m3 := by
       rw [ht, List.take_of_length_le (by rw [List.length_drop]; omega)]
      clear ht
      subst et
      (repeat(first|refine sb ?_|refine kNo ?_))
      refine ⟨by rw [List.length_drop]; omega, ?_⟩
      intro w2 hw2
      obtain rfl : w2 = w ++ l.drop m3 := hw2
      rw [hW]
      (repeat(first|refine sb ?_|refine kNo ?_))
      exact ⟨rfl, c03⟩
    ·obtain rfl : q = true := by rw [hq]; simp; omega
     rw [if_pos hn] at eP
     (repeat(first|refine sb ?_|refine kNo ?_))
     exact ⟨by rw [eP]; rfl, c02⟩
   ·obtain rfl : q = true := by rw [hq]; simp; omega
    rw [if_pos h0] at eP
    (repeat(first|refine sb ?_|refine kNo ?_))
    exact ⟨by rw [eP]; rfl, c02⟩
end Go.Vf.S

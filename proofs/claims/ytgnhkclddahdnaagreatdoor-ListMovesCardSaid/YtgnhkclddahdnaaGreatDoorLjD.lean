import Derived.Test.YtgnhkclddahdnaaGreatDoorLjC
import Derived.Test.YtgnhkclddahdnaaGreatDoorLiN
import Derived.Test.YtgnhkclddahdnaaGreatDoorHdC
/- Lists of addresses: what is put in the addresses' places: the program. -/
namespace Go.Vf.S
open Go Go.Vf Go.Proofs Go.RowKit
attribute [local irreducible] wSeq wRow wp wG
attribute [local irreducible] parseF domF sameF textF
set_option linter.unusedVariables false
set_option linter.unusedSimpArgs false
set_option maxRecDepth 10000

theorem put1_w {s : SS} {x : AA} (ha : x.1.length ≤ 1000000) (hd : x.2.length ≤ 1000000) : CallW pr n_list_Put_1 [adV x.1 x.2] s fun v s' => v = .bool (!mayA x) ∧ Chg s s' [] := by
  refine CallW.run good ok_list_Put_1 (by simp) rfl ?_
  (try refine pSeq ?_); (repeat refine sb ?_)
  refine ldN_is rfl lkH agg2 ?_
  (repeat refine sb ?_)
  refine (may_w ha hd).mono fun v s1 q => ?_
  obtain ⟨rfl, c1⟩ := q
  (repeat refine sb ?_)
  intro q hq
  subst hq
  (repeat refine sb ?_)
  exact ⟨rfl, (Chg.new []).nil c1⟩
theorem own_lt {s : SS} {W : Option Addr} {l : List UInt8} (h : Own tB s W l) : ∀ id ∈ blkOf W, id < s.next := by
  cases W with
  | none => simp [blkOf]
  | some a =>
    obtain ⟨g, off, sp⟩ := a
    obtain ⟨-, -, hg, -⟩ := h
    intro id hid
    simp only [blkOf, List.mem_singleton] at hid
    omega

theorem idxA_w {s : SS} {A : Option Addr} {ca : Nat} {xs : List AA} {f : FuncId} {g : AA → Bool} (hR : AdRd s A xs) (hx : xs.length ≤ 1000000) (hf : ∀ x, callV pr (.func (.func f) ⟨[]⟩ ⟨[]⟩) [x] = some (.enter f [x]))
    (hc : ∀ x ∈ xs, ∀ s1, CallW pr f [adV x.1 x.2] s1 fun v s2 => v = .bool (g x) ∧ Chg s1 s2 []) :
    CallW pr n_slices_IndexFunc_api_Addr_api_Addr [.slice A xs.length ca, .func (.func f) ⟨[]⟩ ⟨[]⟩] s fun v s' => ∃ z : Int, v = .int .i64 z ∧ decide (0 ≤ z) = xs.any g ∧ Chg s s' [] := by
  refine CallW.run good ok_slices_IndexFunc_api_Addr_api_Addr (by simp) rfl ?_
  (try refine pSeq ?_); (repeat refine sb ?_)
  refine pLoop (MW.head good (fun x : Nat × SS => xs.length - x.1) (fun x => x.1 ≤ xs.length ∧ (xs.take x.1).any g = false ∧ Chg s x.2 []) (fun x => [(0, .slice A xs.length ca), (1, .func (.func f) ⟨[]⟩ ⟨[]⟩), (7, .int .i64 (xs.length : Nat)), (8, .int .i64 x.1)]) (fun x => x.2) (0, s) ⟨Nat.zero_le _, rfl, .refl _ _⟩ (Wk.same ⟨rfl, rfl, rfl, rfl, trivial⟩) ?_)
  intro ⟨i, s1⟩ ⟨hi, h2, c1⟩
  dsimp only at hi h2 c1 ⊢
  replace hR := hR.chg c1
  (repeat refine sb ?_)
  intro q hq
  by_cases hlt : i < xs.length
  · obtain rfl : q = true := by rw [hq]; simp <;> omega
    obtain ⟨x, hxx⟩ : ∃ x, xs[i]? = some x := ⟨_, List.getElem?_eq_getElem hlt⟩
    obtain ⟨b, t, g0, r, rfl, hb, k1⟩ := hR.at (fun e => by rw [e] at hlt; simp at hlt)
    (repeat refine sb ?_)
    refine ⟨by omega, ?_⟩
    intro m hm o ho
    obtain rfl : m = i := by omega
    rw [Nat.zero_add] at ho
    subst ho
    (repeat refine sb ?_)
    refine ldN_is rfl k1 (ads_take hxx) ?_
    (repeat refine sb ?_)
    refine ⟨.call f [adV x.1 x.2], hf _, ?_⟩
    refine (hc x (List.mem_of_getElem? hxx) _).mono fun v s2 q => ?_
    obtain ⟨rfl, c2⟩ := q
    cases hg : g x with
    | true =>
      (repeat refine sb ?_)
      refine ⟨_, rfl, ?_, c1.nil c2⟩
      rw [List.any_eq_true.2 ⟨x, List.mem_of_getElem? hxx, hg⟩]
      simp
    | false =>
      (repeat refine sb ?_)
      intro z hz
      rw [i64_id (by omega)] at hz
      obtain rfl : z = ((m + 1 : Nat) : Int) := by omega
      (repeat refine sb ?_)
      refine ⟨(m + 1, s2), ⟨hlt, ?_, c1.nil c2⟩, by show xs.length - (m + 1) < xs.length - m; omega, Wk.same ⟨rfl, rfl, rfl, rfl, trivial⟩⟩
      dsimp only
      rw [take_next hxx, List.any_append, h2]
      simp [hg]
  · obtain rfl : q = false := by rw [hq]; simp <;> omega
    (repeat refine sb ?_)
    refine ⟨_, rfl, ?_, c1⟩
    rw [List.take_of_length_le (by omega)] at h2
    rw [h2]
    rfl

theorem contA_w {s : SS} {A : Option Addr} {ca : Nat} {xs : List AA} {f : FuncId} {g : AA → Bool} (hR : AdRd s A xs) (hx : xs.length ≤ 1000000) (hf : ∀ x, callV pr (.func (.func f) ⟨[]⟩ ⟨[]⟩) [x] = some (.enter f [x]))
    (hc : ∀ x ∈ xs, ∀ s1, CallW pr f [adV x.1 x.2] s1 fun v s2 => v = .bool (g x) ∧ Chg s1 s2 []) :
    CallW pr n_slices_ContainsFunc_api_Addr_api_Addr [.slice A xs.length ca, .func (.func f) ⟨[]⟩ ⟨[]⟩] s fun v s' => v = .bool (xs.any g) ∧ Chg s s' [] := by
  refine CallW.run good ok_slices_ContainsFunc_api_Addr_api_Addr (by simp) rfl ?_
  (try refine pSeq ?_); (repeat refine sb ?_)
  refine (idxA_w hR hx hf hc).mono fun v s1 q => ?_
  obtain ⟨z, rfl, hz, c1⟩ := q
  (repeat refine sb ?_)
  intro q hq
  (repeat refine sb ?_)
  exact ⟨by rw [hq, ← hz]; rfl, c1⟩

structure PutI where
  i : Nat
  p : Nat
  W : Option Addr
  w : List UInt8
  s : SS

set_option maxHeartbeats 2000000 in
theorem lput_w {s : SS} {W1 A : Option Addr} {cw1 ca : Nat} {l : List UInt8} {xs : List Spt} {ys : List AA} (hG : Gb s) (hF : Fine s) (hl : l.length ≤ 900000) (o1 : SpO s W1 cw1 xs) (hR : AdRd s A ys) (hO : OrdS l.length 0 xs) (hn : ys.length = xs.length) (hy : ys.length ≤ 1000) (hb : ∀ a ∈ ys, a.1.length ≤ 1000 ∧ a.2.length ≤ 1000) :
    CallW pr n_list_put [str l, .slice W1 xs.length cw1, .slice A ys.length ca] s fun v s' => v = str (outF l 0 xs ys) ∧ Chg s s' [] := by
  have hT : (outF l 0 xs ys).length ≤ 10000000 := by
    have := out_len (B := 3003) hO (ys := ys) fun a h => by have := pt_len (a := a.1) (d := a.2); have := hb a h; show (textF a.1 a.2).length ≤ 3003; omega
    have := Nat.mul_le_mul_right 3003 hy
    omega
  refine CallW.run good ok_list_put (by simp) rfl ?_
  (try refine pSeq ?_); (repeat(first|refine sb ?_|refine kNo ?_))
  refine pLoop (MW.head good (fun x : PutI => xs.length - x.i) (fun x => x.i ≤ xs.length ∧ Chg s x.s [] ∧ OrdS l.length x.p (xs.drop x.i) ∧ Bld x.s s.next x.W x.w ∧ x.w ++ outF l x.p (xs.drop x.i) (ys.drop x.i) = outF l 0 xs ys ∧ ∀ id ∈ blkOf x.W, s.next ≤ id)
    (fun x => [(0, str l), (2, .slice A ys.length ca), (7, .pointer (some ⟨s.next, 0, none⟩)), (8, .int .i64 x.p), (11, .slice W1 xs.length cw1), (12, .int .i64 (xs.length : Nat)), (13, .int .i64 x.i)]) (fun x => x.s) ⟨0, 0, none, [], _⟩ ⟨Nat.zero_le _, .new _, hO, Bld.new s, rfl, by simp [blkOf]⟩ (Wk.same ⟨rfl, rfl, rfl, rfl, rfl, rfl, rfl, trivial⟩) ?_)
  rintro ⟨i, p, W, w, s1⟩ ⟨hi, c1, hP, hB, hW, hN⟩
  dsimp only at hi c1 hP hB hW hN ⊢
  replace o1 := o1.chg c1 (by simp)
  have hR1 := hR.chg c1
  have hpl := ord_le hP
  have hwl : w.length ≤ 10000000 := by have := congrArg List.length hW; rw [List.length_append] at this; omega
  (repeat(first|refine sb ?_|refine kNo ?_))
  intro q hq
  by_cases hlt : i < xs.length
  · obtain rfl : q = true := by rw [hq]; simp <;> omega
    obtain ⟨x, hx⟩ : ∃ x, xs[i]? = some x := ⟨_, List.getElem?_eq_getElem hlt⟩
    obtain ⟨a, hay⟩ : ∃ a, ys[i]? = some a := ⟨_, List.getElem?_eq_getElem (by omega)⟩
    have hab := hb a (List.mem_of_getElem? hay)
    rw [drop_next hx] at hP hW
    rw [drop_next hay] at hW
    have hP0 := hP
    obtain ⟨hf1, hf2, hxa, hxd, hP1⟩ := hP
    have hxt := ord_le hP1
    obtain ⟨b1, g1, rfl, k1⟩ := o1.pos (by omega)
    obtain ⟨b2, t2, g2, r2, rfl, hb2, k2⟩ := hR1.at (fun e => by rw [e] at hay; simp at hay)
    (repeat(first|refine sb ?_|refine kNo ?_))
    refine ⟨by omega, ?_⟩
    intro m hm o ho
    obtain rfl : m = i := by omega
    rw [Nat.zero_add] at ho
    subst ho
    (repeat(first|refine sb ?_|refine kNo ?_))
    refine ldN_is rfl k1 (sps_take hx) ?_
    (repeat(first|refine sb ?_|refine kNo ?_))
    refine st_abs (cs' := spC x) rfl rfl lkH (Nat.lt_succ_self _) rfl rfl fun s2 e2 c2 n2 => ?_
    have c12 : Chg s1 s2 [] := (Chg.new []).fresh c2 (by simp)
    have e2 : lookH s2.heap s1.next = some (.cells (spC x) tSp false false) := e2
    have n2 : s2.next = s1.next + 1 := n2
    have c02 := c1.nil c12
    have hA0 : b2 < s.next := hR.2.2.1
    have hA2 : ¬b2 = s.next := by omega
    have hA3 : b2 ∉ blkOf W := fun h => by have := hN _ h; omega
    replace k2 := c12.blk _ _ hb2 (by simp) k2
    have hB2 := hB.chg c12 (by simp) (by simp)
    (repeat(first|refine sb ?_|refine kNo ?_))
    refine ldN_is rfl e2 (show takeN 2 ((spC x).drop 2) = some [str x.a, str x.d] from rfl) ?_
    (repeat(first|refine sb ?_|refine kNo ?_))
    refine ⟨by omega, ?_⟩
    intro m2 hm2 o ho
    obtain rfl : m2 = m := by omega
    rw [Nat.zero_add] at ho
    subst ho
    (repeat(first|refine sb ?_|refine kNo ?_))
    refine ldN_is rfl k2 (ads_take hay) ?_
    (repeat(first|refine sb ?_|refine kNo ?_))
    refine (asame_w (a := x.a) (d := x.d) (b := a.1) (e := a.2) (by omega) (by omega) (by omega) (by omega)).mono fun v s3 q => ?_
    obtain ⟨rfl, c3⟩ := q
    have c03 := c02.nil c3
    have e3 := c3.blk _ _ (by omega) (by simp) e2
    have hB3 := hB2.chg c3 (by simp) (by simp)
    have n3 := c3.next
    cases hs : sameF x.a x.d a.1 a.2 with
    | true =>
      (repeat(first|refine sb ?_|refine kNo ?_))
      intro z hz
      rw [i64_id (by omega)] at hz
      obtain rfl : z = ((m2 + 1 : Nat) : Int) := by omega
      (repeat(first|refine sb ?_|refine kNo ?_))
      refine ⟨⟨m2 + 1, p, W, w, s3⟩, ⟨hlt, c03, ord_down (p := p) (q := x.t) (by omega) hP1, hB3, ?_, hN⟩, by show xs.length - (m2 + 1) < xs.length - m2; omega, Wk.same ⟨rfl, rfl, rfl, rfl, rfl, rfl, rfl, trivial⟩⟩
      dsimp only
      rw [← hW, out_same hP0 hs]
    | false =>
      have eO : outF l p (x :: xs.drop (m2 + 1)) (a :: ys.drop (m2 + 1)) = (l.drop p).take (x.f - p) ++ txA a ++ outF l x.t (xs.drop (m2 + 1)) (ys.drop (m2 + 1)) := by
        show (l.drop p).take (x.f - p) ++ (if sameF x.a x.d a.1 a.2 = true then (l.drop x.f).take (x.t - x.f) else txA a) ++ _ = _
        rw [hs]
        rfl
      rw [eO] at hW
      have htx : (txA a).length ≤ 3003 := by have := pt_len (a := a.1) (d := a.2); show (textF a.1 a.2).length ≤ 3003; omega
      (repeat(first|refine sb ?_|refine kNo ?_))
      refine ldI_is rfl e3 rfl ?_
      (repeat(first|refine sb ?_|refine kNo ?_))
      refine ⟨by omega, ?_⟩
      intro m3 hm3
      refine ⟨by omega, ?_⟩
      intro m4 hm4 t ht
      have em3 : m3 = x.f := by omega
      have em4 : m4 = p := by omega
      rw [em3, em4] at ht
      clear hm3 hm4 em3 em4
      have htl : t.length ≤ 900000 := by rw [ht, List.length_take, List.length_drop]; omega
      (repeat(first|refine sb ?_|refine kNo ?_))
      refine (bWrite_w (m := t) hB3 (by omega)).mono fun v s4 q => ?_
      obtain ⟨W4, rfl, hB4, c4, hN4⟩ := q
      have c04 : Chg s s4 [] := c03.fresh c4 (by
        intro id hid
        rcases List.mem_cons.1 hid with rfl | hid
        · exact Nat.le_refl _
        · exact hN id hid)
      have lt1 := hB.lt
      have e4 := c4.blk s1.next _ (by omega) (by
        intro hid
        rcases List.mem_cons.1 hid with hid | hid
        · omega
        · have := own_lt hB.own _ hid; omega) e3
      have n4 := c4.next
      have k4 := c4.blk b2 _ (by omega) (by
        intro hid
        rcases List.mem_cons.1 hid with hid | hid
        · exact hA2 hid
        · exact hA3 hid) (c3.blk _ _ (by omega) (by simp) k2)
      have hw4 : (w ++ t).length ≤ 10000000 := by have := congrArg List.length hW; rw [← ht, ← List.append_assoc, ← List.append_assoc, List.length_append, List.length_append] at this; omega
      have hw5 : (w ++ t ++ txA a).length ≤ 10000000 := by have := congrArg List.length hW; rw [← ht, ← List.append_assoc, ← List.append_assoc, List.length_append] at this; omega
      (repeat(first|refine sb ?_|refine kNo ?_))
      refine ⟨by omega, ?_⟩
      intro m5 hm5 o ho
      obtain rfl : m5 = m2 := by omega
      rw [Nat.zero_add] at ho
      subst ho
      (repeat(first|refine sb ?_|refine kNo ?_))
      refine ldN_is rfl k4 (ads_take hay) ?_
      (repeat(first|refine sb ?_|refine kNo ?_))
      refine (text_w (a := a.1) (d := a.2) (hG.chg c04 (by simp)) (by omega) (by omega)).mono fun v s5 q => ?_
      obtain ⟨rfl, c5⟩ := q
      have c05 := c04.nil c5
      have e5 := c5.blk _ _ (by omega) (by simp) e4
      have hB5 := hB4.chg c5 (by simp) (by simp)
      have n5 := c5.next
      (repeat(first|refine sb ?_|refine kNo ?_))
      refine (bWrite_w (m := txA a) hB5 (by omega)).mono fun v s6 q => ?_
      obtain ⟨W6, rfl, hB6, c6, hN6⟩ := q
      have hN4' : ∀ id ∈ blkOf W4, s.next ≤ id ∧ id ≠ s1.next := fun id hid => by
        rcases hN4 id hid with h | h
        · exact ⟨hN id h, by have := own_lt hB.own _ h; omega⟩
        · exact ⟨by omega, by omega⟩
      have c06 : Chg s s6 [] := c05.fresh c6 (by
        intro id hid
        rcases List.mem_cons.1 hid with rfl | hid
        · exact Nat.le_refl _
        · exact (hN4' id hid).1)
      have e6 := c6.blk s1.next _ (by omega) (by
        intro hid
        rcases List.mem_cons.1 hid with hid | hid
        · omega
        · exact (hN4' _ hid).2 rfl) e5
      (repeat(first|refine sb ?_|refine kNo ?_))
      refine ldI_is rfl e6 rfl ?_
      (repeat(first|refine sb ?_|refine kNo ?_))
      intro z hz
      rw [i64_id (by omega)] at hz
      obtain rfl : z = ((m5 + 1 : Nat) : Int) := by omega
      (repeat(first|refine sb ?_|refine kNo ?_))
      refine ⟨⟨m5 + 1, x.t, W6, w ++ t ++ txA a, s6⟩, ⟨hlt, c06, hP1, hB6, ?_, fun id hid => ?_⟩, by show xs.length - (m5 + 1) < xs.length - m5; omega, Wk.same ⟨rfl, rfl, rfl, rfl, rfl, rfl, rfl, trivial⟩⟩
      · dsimp only
        rw [← hW, ht]
        simp only [List.append_assoc]
      · rcases hN6 id hid with h | h
        · exact (hN4' id h).1
        · omega
  · obtain rfl : q = false := by rw [hq]; simp <;> omega
    have hO' : outF l p (xs.drop i) (ys.drop i) = l.drop p := by
      rw [List.drop_of_length_le (by omega)]
      rfl
    rw [hO'] at hW
    (repeat(first|refine sb ?_|refine kNo ?_))
    refine ⟨by omega, ?_⟩
    intro m3 hm3 t ht
    obtain rfl : m3 = p := by omega
    have et : t = l.drop m3 := by
      rw [ht, List.take_of_length_le (by rw [List.length_drop]; omega)]
    clear ht
    subst et
    (repeat(first|refine sb ?_|refine kNo ?_))
    refine (bWrite_w (m := l.drop m3) hB (by rw [List.length_drop]; omega)).mono fun v s4 q => ?_
    obtain ⟨W4, rfl, hB4, c4, hN4⟩ := q
    (repeat(first|refine sb ?_|refine kNo ?_))
    refine (bString_w hB4 (by rw [hW]; omega)).mono fun v s5 q => ?_
    obtain ⟨rfl, c5, n5⟩ := q
    rw [hW]
    (repeat(first|refine sb ?_|refine kNo ?_))
    have c04 : Chg s s4 [] := c1.fresh c4 (by
      intro id hid
      rcases List.mem_cons.1 hid with rfl | hid
      · exact Nat.le_refl _
      · exact hN id hid)
    refine ⟨rfl, c04.fresh c5 fun id hid => ?_⟩
    rcases hN4 id hid with h | h
    · exact hN id h
    · have := c1.next; omega
end Go.Vf.S

import Derived.Test.YtgnhkclddahdnaaGreatDoorLiS
namespace Go.Vf.S
open Go Go.Vf Go.Proofs Go.RowKit
attribute [local irreducible] wSeq wRow wp wG
set_option linter.unusedVariables false
set_option linter.unusedSimpArgs false
set_option maxRecDepth 10000

def sh1 (x : AA) : AA := (x.1.take 80, x.2.take 80)
def shortF (xs : List AA) (n : Nat) : List AA := (xs.take n).map sh1
theorem short_in {xs : List AA} {n : Nat} : ∀ a ∈ shortF xs n, a.1.length ≤ 80 ∧ a.2.length ≤ 80 := fun a h => by
 obtain ⟨x, -, rfl⟩ := List.mem_map.1 h
 unfold sh1
 simp only [List.length_take]
 omega
theorem short_len (xs : List AA) (n : Nat) : (shortF xs n).length ≤ n := by unfold shortF; rw [List.length_map, List.length_take]; omega
theorem ads_at {xs : List AA} {i : Nat} {x : AA} (h : xs[i]? = some x) (r : Nat) (hr : r < 2) : (adsC xs)[i * 2 + r]? = (adC x)[r]? := by
 have e := ads_drop xs i
 rw [drop_next h] at e
 have e2 : (adsC xs)[i * 2 + r]? = ((adsC xs).drop (i * 2))[r]? := by rw [List.getElem?_drop]
 rw [e2, e]
 show (adC x ++ adsC _)[r]? = _
 rw [List.getElem?_append_left (by show r < 2; exact hr)]
theorem few80 {a l : List UInt8} {m : Nat} (hl : l = (a.drop 0).take (m - 0)) (hm : (m : Int) = min (a.length : Int) 80) : l = a.take 80 := by
 rw [hl, List.drop_zero, Nat.sub_zero]
 rcases Nat.lt_or_ge a.length 80 with q | q
 ·rw [List.take_of_length_le (by omega), List.take_of_length_le (by omega)]
 ·rw [show m = 80 by omega]

set_option maxHeartbeats 2000000 in
theorem short_w {s : SS} {A : Option Addr} {ca : Nat} {xs : List AA} (hF : Fine s) (hR : AdRd s A xs) (hx : xs.length ≤ 9223372036854775807) : CallW pr n_law08_Short [.slice A xs.length ca] s fun v s' => ∃ W cw, v = .slice W (shortF xs 70).length cw ∧ AdO s' W cw (shortF xs 70) ∧ Chg s s' [] ∧ ∀ id ∈ blkOf W, s.next ≤ id := by
 refine CallW.run good ok_law08_Short (by simp) rfl ?_
 (try refine pSeq ?_); (repeat(first|refine sb ?_|refine kNo ?_|refine gOn rfl ?_|refine gOff rfl rfl ?_|refine gTup rfl ?_))
 refine pLoop (MW.head good (fun x : AdI => xs.length - x.i) (fun x => x.i ≤ xs.length ∧ x.i ≤ 70 ∧ Chg s x.s [] ∧ AdO x.s x.W x.cw (shortF xs x.i) ∧ ∀ id ∈ blkOf x.W, s.next ≤ id)
  (fun x => [(0, .slice A xs.length ca), (3, .slice x.W (shortF xs x.i).length x.cw), (4, .int .i64 x.i)]) (fun x => x.s) ⟨0, none, 0, s⟩ ⟨Nat.zero_le _, Nat.zero_le _, .refl _ _, ⟨rfl, rfl, rfl⟩, by simp [blkOf]⟩ (Wk.same ⟨rfl, rfl, rfl, trivial⟩) ?_)
 rintro ⟨i, W, cw, s1⟩ ⟨hi, hin, c1, o1, w1⟩
 dsimp only at hi hin c1 o1 w1 ⊢
 replace hR := hR.chg c1
 have hml : (shortF xs i).length = i := by unfold shortF; rw [List.length_map, List.length_take]; omega
 (repeat(first|refine sb ?_|refine kNo ?_|refine gOn rfl ?_|refine gOff rfl rfl ?_|refine gTup rfl ?_))
 intro q hq
 have fin : ∀ h : ¬(i < xs.length ∧ i < 70), shortF xs i = shortF xs 70 := fun h => by
  unfold shortF
  rcases Nat.lt_or_ge i xs.length with q | q
  ·rw [show i = 70 by omega]
  ·rw [List.take_of_length_le (by omega), List.take_of_length_le (by omega)]
 by_cases hlt : i < xs.length
 ·obtain rfl : q = true := by rw [hq]; simp <;> omega
  (repeat(first|refine sb ?_|refine kNo ?_|refine gOn rfl ?_|refine gOff rfl rfl ?_|refine gTup rfl ?_))
  intro q hq
  by_cases h70 : i < 70
  ·obtain rfl : q = true := by rw [hq]; simp <;> omega
   obtain ⟨x, hxx⟩ : ∃ x, xs[i]? = some x := ⟨_, List.getElem?_eq_getElem hlt⟩
   obtain ⟨b, t, g, r, rfl, hb, k1⟩ := hR.at (fun e => by rw [e] at hlt; simp at hlt)
   (repeat(first|refine sb ?_|refine kNo ?_|refine gOn rfl ?_|refine gOff rfl rfl ?_|refine gTup rfl ?_))
   refine ⟨by omega, ?_⟩
   intro m hm o ho
   obtain rfl : m = i := by omega
   rw [Nat.zero_add] at ho
   subst ho
   (repeat(first|refine sb ?_|refine kNo ?_|refine gOn rfl ?_|refine gOff rfl rfl ?_|refine gTup rfl ?_))
   refine ldS_is rfl k1 (ads_at hxx 0 (by decide)) ?_
   (repeat(first|refine sb ?_|refine kNo ?_|refine gOn rfl ?_|refine gOff rfl rfl ?_|refine gTup rfl ?_))
   refine ⟨by omega, ?_⟩
   intro m2 hm2 o ho
   obtain rfl : m2 = m := by omega
   rw [Nat.zero_add] at ho
   subst ho
   (repeat(first|refine sb ?_|refine kNo ?_|refine gOn rfl ?_|refine gOff rfl rfl ?_|refine gTup rfl ?_))
   refine ldS_is rfl k1 (ads_at hxx 0 (by decide)) ?_
   (repeat(first|refine sb ?_|refine kNo ?_|refine gOn rfl ?_|refine gOff rfl rfl ?_|refine gTup rfl ?_))
   intro n1 hn1
   (repeat(first|refine sb ?_|refine kNo ?_|refine gOn rfl ?_|refine gOff rfl rfl ?_|refine gTup rfl ?_))
   intro z hz
   (repeat(first|refine sb ?_|refine kNo ?_|refine gOn rfl ?_|refine gOff rfl rfl ?_|refine gTup rfl ?_))
   refine ⟨by omega, ?_⟩
   intro m3 hm3 l hl
   have el : l = x.1.take 80 := few80 hl (by omega)
   clear hl
   subst el
   (repeat(first|refine sb ?_|refine kNo ?_|refine gOn rfl ?_|refine gOff rfl rfl ?_|refine gTup rfl ?_))
   refine ⟨by omega, ?_⟩
   intro m4 hm4 o ho
   obtain rfl : m4 = m2 := by omega
   rw [Nat.zero_add] at ho
   subst ho
   (repeat(first|refine sb ?_|refine kNo ?_|refine gOn rfl ?_|refine gOff rfl rfl ?_|refine gTup rfl ?_))
   refine ldS_is rfl k1 (ads_at hxx 1 (by decide)) ?_
   (repeat(first|refine sb ?_|refine kNo ?_|refine gOn rfl ?_|refine gOff rfl rfl ?_|refine gTup rfl ?_))
   refine ⟨by omega, ?_⟩
   intro m5 hm5 o ho
   obtain rfl : m5 = m4 := by omega
   rw [Nat.zero_add] at ho
   subst ho
   (repeat(first|refine sb ?_|refine kNo ?_|refine gOn rfl ?_|refine gOff rfl rfl ?_|refine gTup rfl ?_))
   refine ldS_is rfl k1 (ads_at hxx 1 (by decide)) ?_
   (repeat(first|refine sb ?_|refine kNo ?_|refine gOn rfl ?_|refine gOff rfl rfl ?_|refine gTup rfl ?_))
   intro n2 hn2
   (repeat(first|refine sb ?_|refine kNo ?_|refine gOn rfl ?_|refine gOff rfl rfl ?_|refine gTup rfl ?_))
   intro z2 hz2
   (repeat(first|refine sb ?_|refine kNo ?_|refine gOn rfl ?_|refine gOff rfl rfl ?_|refine gTup rfl ?_))
   refine ⟨by omega, ?_⟩
   intro m6 hm6 l hl
   have el : l = x.2.take 80 := few80 hl (by omega)
   clear hl
   subst el
   (repeat(first|refine sb ?_|refine kNo ?_|refine gOn rfl ?_|refine gOff rfl rfl ?_|refine gTup rfl ?_))
   refine mkS_is rfl rfl (rNew (c1.fine hF).at ?_)
   (repeat(first|refine sb ?_|refine kNo ?_|refine gOn rfl ?_|refine gOff rfl rfl ?_|refine gTup rfl ?_))
   refine appR (new := adC (sh1 x)) (OwnR.chg o1 (Chg.new []) (by simp)) (adsC_len _) ⟨by rw [hml]; omega, by rw [hml]; omega⟩ rfl rfl lkH rfl rfl fun s3 r3 c3 n3 => ?_
   have c13 : Chg s s3 [] := c1.fresh ((Chg.new []).nil c3) w1
   have n3 : s3.next = s1.next + 2 := n3
   have hN := c1.next
   have em : shortF xs (m5 + 1) = shortF xs m5 ++ [sh1 x] := by
    unfold shortF
    rw [take_next hxx, List.map_append]
    rfl
   have hml2 : (shortF xs (m5 + 1)).length = (shortF xs m5).length + 1 := by rw [em, List.length_append]; rfl
   (repeat(first|refine sb ?_|refine kNo ?_|refine gOn rfl ?_|refine gOff rfl rfl ?_|refine gTup rfl ?_))
   intro z hz
   rw [i64_id (by omega)] at hz
   obtain rfl : z = ((m5 + 1 : Nat) : Int) := by omega
   (repeat(first|refine sb ?_|refine kNo ?_|refine gOn rfl ?_|refine gOff rfl rfl ?_|refine gTup rfl ?_))
   refine ⟨⟨m5 + 1, some ⟨s1.next + 1, 0, none⟩, 0, s3⟩, ⟨hlt, by dsimp only; omega, c13, ?_, fun id hid => by
    have : id = s1.next + 1 := List.mem_singleton.1 hid
    omega⟩, by show xs.length - (m5 + 1) < xs.length - m5; omega, Wk.same ⟨rfl, by rw [hml2]; rfl, rfl, trivial⟩⟩
   show OwnR tAd s3 _ 0 (shortF xs (m5 + 1)).length (adsC (shortF xs (m5 + 1)))
   rw [hml2, em, adsC_app]
   exact r3
  ·obtain rfl : q = false := by rw [hq]; simp <;> omega
   have e := fin (by omega)
   (repeat(first|refine sb ?_|refine kNo ?_|refine gOn rfl ?_|refine gOff rfl rfl ?_|refine gTup rfl ?_))
   exact ⟨W, cw, by rw [e]; rfl, by rw [← e]; exact o1, c1, w1⟩
 ·obtain rfl : q = false := by rw [hq]; simp <;> omega
  have e := fin (by omega)
  (repeat(first|refine sb ?_|refine kNo ?_|refine gOn rfl ?_|refine gOff rfl rfl ?_|refine gTup rfl ?_))
  exact ⟨W, cw, by rw [e]; rfl, by rw [← e]; exact o1, c1, w1⟩
end Go.Vf.S

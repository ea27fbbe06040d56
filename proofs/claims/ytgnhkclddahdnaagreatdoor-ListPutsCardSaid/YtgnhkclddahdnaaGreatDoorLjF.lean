import Derived.Test.YtgnhkclddahdnaaGreatDoorLjE
namespace Go.Vf.S
open Go Go.Vf Go.Proofs Go.RowKit
attribute [local irreducible] wSeq wRow wp wG
attribute [local irreducible] parseF domF sameF textF mayF putF
set_option linter.unusedVariables false
set_option linter.unusedSimpArgs false
set_option maxRecDepth 10000

theorem rd_ownR {t : TypeId} {s : SS} {W : Option Addr} {cw n : Nat} {xs : List AA} (h : OwnR t s W cw n (adsC xs)) : AdRd s W xs := by
 cases W with
 | none =>
  obtain ⟨h1, h2, h3⟩ := h
  exact ads_nil h1
 | some a =>
  obtain ⟨b, off, sp⟩ := a
  obtain ⟨rfl, rfl, h3, g, h4, h5⟩ := h
  exact ⟨rfl, rfl, h3, _, _, _, h4⟩

set_option maxHeartbeats 2000000 in
theorem lputs_w {s : SS} {l0 : List UInt8} {A : Option Addr} {ca : Nat} {ls : List AA} (hG : Gb s) (hF : Fine s) (hR : AdRd s A ls) (hx : ls.length ≤ 9223372036854775807) : CallW pr n_law08_ListPuts [str l0, .slice A ls.length ca] s fun v s' => v = .bool true := by
 refine CallW.run good ok_law08_ListPuts (by simp) rfl ?_
 (try refine pSeq ?_); (repeat(first|refine sb ?_|refine kNo ?_|refine gOn rfl ?_|refine gOff rfl rfl ?_|refine gTup rfl ?_))
 intro n hn
 (repeat(first|refine sb ?_|refine kNo ?_|refine gOn rfl ?_|refine gOff rfl rfl ?_|refine gTup rfl ?_))
 intro z hz
 (repeat(first|refine sb ?_|refine kNo ?_|refine gOn rfl ?_|refine gOff rfl rfl ?_|refine gTup rfl ?_))
 refine ⟨by omega, ?_⟩
 intro m hm l hl
 have hll : l.length ≤ 800 := few_str hl (by omega)
 clear hl hm hz hn
 (repeat(first|refine sb ?_|refine kNo ?_|refine gOn rfl ?_|refine gOff rfl rfl ?_|refine gTup rfl ?_))
 refine (short_w hF hR hx).mono fun v s1 q => ?_
 obtain ⟨W, cw, rfl, o1, c1, w1⟩ := q
 refine kAll (c1.keep hF) ?_
 have hsl := short_len ls 70
 have hsi : ∀ a ∈ shortF ls 70, a.1.length ≤ 1000 ∧ a.2.length ≤ 1000 := fun a h => by have := short_in a h; omega
 have hR1 := rd_own o1
 generalize shortF ls 70 = xs at *
 (repeat(first|refine sb ?_|refine kNo ?_|refine gOn rfl ?_|refine gOff rfl rfl ?_|refine gTup rfl ?_))
 refine pLoop (MW.head good (fun x : AdI => xs.length - x.i) (fun x => x.i ≤ xs.length ∧ Chg s1 x.s [] ∧ OwnR tRf x.s x.W x.cw x.i (adsC (xs.take x.i)) ∧ ∀ id ∈ blkOf x.W, s1.next ≤ id)
  (fun x => [(0, str l), (1, .slice W xs.length cw), (5, .slice x.W x.i x.cw), (6, .int .i64 x.i)]) (fun x => x.s) ⟨0, none, 0, s1⟩ ⟨Nat.zero_le _, .refl _ _, ⟨rfl, rfl, rfl⟩, by simp [blkOf]⟩ (Wk.same ⟨rfl, rfl, rfl, rfl, trivial⟩) ?_)
 rintro ⟨i, V, cv, s2⟩ ⟨hi, c2, o2, w2⟩
 dsimp only at hi c2 o2 w2 ⊢
 have hR2 := hR1.chg c2
 have c02 := c1.nil c2
 have htl : (xs.take i).length = i := by rw [List.length_take]; omega
 (repeat(first|refine sb ?_|refine kNo ?_|refine gOn rfl ?_|refine gOff rfl rfl ?_|refine gTup rfl ?_))
 intro q hq
 by_cases hlt : i < xs.length
 ·obtain rfl : q = true := by rw [hq]; simp <;> omega
  obtain ⟨x, hxx⟩ : ∃ x, xs[i]? = some x := ⟨_, List.getElem?_eq_getElem hlt⟩
  obtain ⟨b, t, g, r, rfl, hb, k1⟩ := hR2.at (fun e => by rw [e] at hlt; simp at hlt)
  (repeat(first|refine sb ?_|refine kNo ?_|refine gOn rfl ?_|refine gOff rfl rfl ?_|refine gTup rfl ?_))
  refine ⟨by omega, ?_⟩
  intro m hm o ho
  obtain rfl : m = i := by omega
  rw [Nat.zero_add] at ho
  subst ho
  (repeat(first|refine sb ?_|refine kNo ?_|refine gOn rfl ?_|refine gOff rfl rfl ?_|refine gTup rfl ?_))
  refine ldN_is rfl k1 (ads_take hxx) ?_
  (repeat(first|refine sb ?_|refine kNo ?_|refine gOn rfl ?_|refine gOff rfl rfl ?_|refine gTup rfl ?_))
  refine appR (new := adC x) (OwnR.chg o2 (Chg.new []) (by simp)) (by rw [adsC_len, htl]) ⟨by omega, by omega⟩ rfl rfl lkH rfl rfl fun s3 r3 c3 n3 => ?_
  have c13 : Chg s1 s3 [] := c2.fresh ((Chg.new []).nil c3) w2
  have n3 : s3.next = s2.next + 2 := n3
  have hN := c2.next
  (repeat(first|refine sb ?_|refine kNo ?_|refine gOn rfl ?_|refine gOff rfl rfl ?_|refine gTup rfl ?_))
  intro z hz
  rw [i64_id (by omega)] at hz
  obtain rfl : z = ((m + 1 : Nat) : Int) := by omega
  (repeat(first|refine sb ?_|refine kNo ?_|refine gOn rfl ?_|refine gOff rfl rfl ?_|refine gTup rfl ?_))
  refine ⟨⟨m + 1, some ⟨s2.next + 1, 0, none⟩, 0, s3⟩, ⟨hlt, c13, ?_, fun id hid => by
   have : id = s2.next + 1 := List.mem_singleton.1 hid
   omega⟩, by show xs.length - (m + 1) < xs.length - m; omega, Wk.same ⟨rfl, rfl, rfl, rfl, trivial⟩⟩
  show OwnR tRf s3 _ 0 (m + 1) (adsC (xs.take (m + 1)))
  rw [take_next hxx, adsC_app]
  exact r3
 ·obtain rfl : q = false := by rw [hq]; simp <;> omega
  obtain rfl : i = xs.length := by omega
  rw [List.take_of_length_le (Nat.le_refl _)] at o2
  have hR3 := rd_ownR o2
  (repeat(first|refine sb ?_|refine kNo ?_|refine gOn rfl ?_|refine gOff rfl rfl ?_|refine gTup rfl ?_))
  refine (put_w (hG.chg c02 (by simp)) (c02.fine hF) (by omega) hR2 (by omega) hsi).mono fun v s3 q => ?_
  obtain ⟨rfl, c3⟩ := q
  have c03 := c02.nil c3
  (repeat(first|refine sb ?_|refine kNo ?_|refine gOn rfl ?_|refine gOff rfl rfl ?_|refine gTup rfl ?_))
  refine (rput_w (c03.fine hF) (by omega) (hR3.chg c3) (by omega) hsi).mono fun v s4 q => ?_
  obtain ⟨rfl, c4⟩ := q
  have c04 := c03.nil c4
  (repeat(first|refine sb ?_|refine kNo ?_|refine gOn rfl ?_|refine gOff rfl rfl ?_|refine gTup rfl ?_))
  intro q hq; obtain rfl : q = true := (by rw [hq]; simp <;> omega); (repeat(first|refine sb ?_|refine kNo ?_|refine gOn rfl ?_|refine gOff rfl rfl ?_|refine gTup rfl ?_))
  intro q hq; obtain rfl : q = true := (by rw [hq]; simp <;> omega); (repeat(first|refine sb ?_|refine kNo ?_|refine gOn rfl ?_|refine gOff rfl rfl ?_|refine gTup rfl ?_))
  refine (ltells_w (hG.chg c04 (by simp)) (c04.fine hF)).mono fun v s5 q => ?_
  obtain ⟨rfl, c5⟩ := q
  (repeat(first|refine sb ?_|refine kNo ?_|refine gOn rfl ?_|refine gOff rfl rfl ?_|refine gTup rfl ?_))
  rfl
end Go.Vf.S

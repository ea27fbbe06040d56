import Derived.Test.YtgddphciejoljaaGreatDoorMg3
import Derived.Test.YtgddphciejoljaaGreatDoorMg1
import Derived.Test.YtgddphciejoljaaGreatDoorMg2
import Derived.Test.YtgddphciejoljaaGreatDoorChecked
import Derived.WalkKit
import Derived.Test.YtgddphciejoljaaGreatDoorFn
import Derived.Test.YtgddphciejoljaaGreatDoorEngBd
import Derived.LaidMore
import Derived.Lay
import Derived.OpenShut
import Derived.Handed
import Derived.Lib.LaidTab
import Derived.Test.YtgddphciejoljaaGreatDoorEngBe
import Derived.Test.YtgddphciejoljaaGreatDoorEngMl
section
/- Senders written anew: what a coder may be; what is ours. -/
namespace Go.Vf.S
open Go Go.Vf Go.Proofs Go.RowKit
attribute [local irreducible] wSeq wRow wp wG hmac tellF pstF tagF agF mayF domF
set_option linter.unusedVariables false
set_option linter.unusedSimpArgs false
set_option maxRecDepth 10000

/-- Our domains: a row that is full, or none. -/
def DomAt (s : SS) (W : Option Addr) (cw : Nat) (ds : List (List UInt8)) : Prop := (W = none ∧ cw = 0 ∧ ds = []) ∨ ∃ b, W = some ⟨b, 0, none⟩ ∧ cw = ds.length ∧ RowC s b ds
theorem DomAt.chg {s s' : SS} {W : Option Addr} {cw : Nat} {ds : List (List UInt8)} {A : List Nat} (h : DomAt s W cw ds) (c : Chg s s' A) (hA : ∀ id ∈ blkOf W, id ∉ A) : DomAt s' W cw ds := by
  rcases h with h | ⟨b, rfl, h1, h2⟩
  · exact .inl h
  · exact .inr ⟨b, rfl, h1, h2.chg c (hA b (by simp [blkOf]))⟩
theorem DomAt.pos {s : SS} {W : Option Addr} {cw : Nat} {ds : List (List UInt8)} (h : DomAt s W cw ds) (h0 : 0 < ds.length) : ∃ b, W = some ⟨b, 0, none⟩ ∧ cw = ds.length ∧ RowC s b ds := by
  rcases h with ⟨_, _, h⟩ | h
  · rw [h] at h0; exact absurd h0 (Nat.lt_irrefl _)
  · exact h
abbrev cdV (sec : List UInt8) (W : Option Addr) (n cw : Nat) : Value := .agg ⟨[str sec, .slice W n cw]⟩
def SmallD (ds : List (List UInt8)) : Prop := ds.length ≤ 1000 ∧ ∀ d ∈ ds, d.length ≤ 10000

set_option maxHeartbeats 1000000 in
theorem cmay_w {s : SS} {sec : List UInt8} {W : Option Addr} {cw : Nat} {ds : List (List UInt8)} (hF : Fine s) (hd : DomAt s W cw ds) (hs : sec.length ≤ 1000) (hsm : SmallD ds) :
    CallW pr n_srs_Coder_May [cdV sec W ds.length cw] s fun v s' => v = .bool (cmayF ⟨sec, ds⟩) ∧ Chg s s' [] := by
  refine CallW.run good ok_srs_Coder_May (by simp) rfl ?_
  obtain ⟨h0, c0, f0⟩ := new1_at hF (.cells [str sec, .slice W ds.length cw] tCo false false)
  have eF : cmayF ⟨sec, ds⟩ = decide ((∀ d ∈ ds, low d = d ∧ mayF [120] d = true) ∧ 1 ≤ sec.length ∧ sec.length ≤ 64 ∧ 1 ≤ ds.length ∧ ds.length ≤ 8) := rfl
  (try refine pSeq ?_); (repeat(first|refine sb ?_|refine gOn rfl ?_|refine gOff rfl rfl ?_|refine gTup rfl ?_))
  refine ldS_is rfl h0 rfl ?_
  (repeat(first|refine sb ?_|refine gOn rfl ?_|refine gOff rfl rfl ?_|refine gTup rfl ?_))
  intro n hn
  subst hn
  (repeat(first|refine sb ?_|refine gOn rfl ?_|refine gOff rfl rfl ?_|refine gTup rfl ?_))
  refine swithin_w.mono fun v s q => ?_
  obtain ⟨rfl, rfl⟩ := q
  (repeat(first|refine sb ?_|refine gOn rfl ?_|refine gOff rfl rfl ?_|refine gTup rfl ?_))
  intro q hq
  by_cases h1 : 1 ≤ sec.length ∧ sec.length ≤ 64
  case neg =>
    obtain rfl : q = true := by rw [hq, decide_eq_false (by omega)]; rfl
    have eN : cmayF ⟨sec, ds⟩ = false := by rw [eF]; exact decide_eq_false (fun h => h1 ⟨h.2.1, h.2.2.1⟩)
    rw [eN]
    (repeat(first|refine sb ?_|refine gOn rfl ?_|refine gOff rfl rfl ?_|refine gTup rfl ?_))
    exact ⟨rfl, c0⟩
  obtain rfl : q = false := by rw [hq, decide_eq_true (by omega)]; rfl
  (repeat(first|refine sb ?_|refine gOn rfl ?_|refine gOff rfl rfl ?_|refine gTup rfl ?_))
  refine ld1_is rfl h0 rfl ?_
  (repeat(first|refine sb ?_|refine gOn rfl ?_|refine gOff rfl rfl ?_|refine gTup rfl ?_))
  refine swithin_w.mono fun v s q => ?_
  obtain ⟨rfl, rfl⟩ := q
  (repeat(first|refine sb ?_|refine gOn rfl ?_|refine gOff rfl rfl ?_|refine gTup rfl ?_))
  intro q hq
  by_cases h2 : 1 ≤ ds.length ∧ ds.length ≤ 8
  case neg =>
    obtain rfl : q = true := by rw [hq, decide_eq_false (by omega)]; rfl
    have eN : cmayF ⟨sec, ds⟩ = false := by rw [eF]; exact decide_eq_false (fun h => h2 h.2.2.2)
    rw [eN]
    (repeat(first|refine sb ?_|refine gOn rfl ?_|refine gOff rfl rfl ?_|refine gTup rfl ?_))
    exact ⟨rfl, c0⟩
  obtain rfl : q = false := by rw [hq, decide_eq_true (by omega)]; rfl
  (repeat(first|refine sb ?_|refine gOn rfl ?_|refine gOff rfl rfl ?_|refine gTup rfl ?_))
  refine ld1_is rfl h0 rfl ?_
  (repeat(first|refine sb ?_|refine gOn rfl ?_|refine gOff rfl rfl ?_|refine gTup rfl ?_))
  have hd0 := hd.chg c0 (by simp)
  refine pLoop (MW.head good (fun x : Nat × SS => ds.length - x.1) (fun x => x.1 ≤ ds.length ∧ (∀ j d, j < x.1 → ds[j]? = some d → low d = d ∧ mayF [120] d = true) ∧ Chg s x.2 [] ∧ DomAt x.2 W cw ds)
    (fun x => [(18, .slice W ds.length cw), (19, .int .i64 (ds.length : Nat)), (20, .int .i64 x.1)]) (fun x => x.2) (0, _) ⟨Nat.zero_le _, fun j d hj => absurd hj (Nat.not_lt_zero _), c0, hd0⟩ (Wk.same ⟨rfl, rfl, rfl, trivial⟩) ?_)
  intro ⟨i, s1⟩ ⟨hi, hj, c1, hd1⟩
  dsimp only at hi hj c1 hd1 ⊢
  (repeat(first|refine sb ?_|refine gOn rfl ?_|refine gOff rfl rfl ?_|refine gTup rfl ?_))
  intro q hq
  by_cases hlt : i < ds.length
  case neg =>
    obtain rfl : q = false := by rw [hq]; simp; omega
    (repeat(first|refine sb ?_|refine gOn rfl ?_|refine gOff rfl rfl ?_|refine gTup rfl ?_))
    refine ⟨?_, c1⟩
    rw [eF, decide_eq_true]
    · rfl
    · refine ⟨fun d hd => ?_, h1.1, h1.2, h2.1, h2.2⟩
      obtain ⟨j, hj1, hj2⟩ := List.mem_iff_getElem.1 hd
      exact hj j d (by omega) (by rw [List.getElem?_eq_getElem hj1, hj2])
  obtain rfl : q = true := by rw [hq]; simp; omega
  obtain ⟨d, hdd⟩ : ∃ d, ds[i]? = some d := ⟨_, List.getElem?_eq_getElem hlt⟩
  have hmem := List.mem_of_getElem? hdd
  have hdl := hsm.2 d hmem
  obtain ⟨b, rfl, hcw, hr1⟩ := hd1.pos (by omega)
  (repeat(first|refine sb ?_|refine gOn rfl ?_|refine gOff rfl rfl ?_|refine gTup rfl ?_))
  refine ⟨by omega, ?_⟩
  intro m hm o ho
  obtain rfl : m = i := by omega
  (repeat(first|refine sb ?_|refine gOn rfl ?_|refine gOff rfl rfl ?_|refine gTup rfl ?_))
  refine ldS_is rfl hr1.2 (by rw [ho, Nat.zero_add, Nat.mul_one]; exact strV_get hdd) ?_
  (repeat(first|refine sb ?_|refine gOn rfl ?_|refine gOff rfl rfl ?_|refine gTup rfl ?_))
  refine (lower_w (l := d) (by omega)).mono fun v s2 q => ?_
  obtain ⟨rfl, c2⟩ := q
  have c12 := c1.nil c2
  replace hd1 := hd1.chg c2 (by simp)
  (repeat(first|refine sb ?_|refine gOn rfl ?_|refine gOff rfl rfl ?_|refine gTup rfl ?_))
  intro q hq
  by_cases h3 : low d = d
  case neg =>
    obtain rfl : q = true := by rw [hq]; exact decide_eq_true (fun e => h3 e.symm)
    (repeat(first|refine sb ?_|refine gOn rfl ?_|refine gOff rfl rfl ?_|refine gTup rfl ?_))
    refine ⟨?_, c12⟩
    rw [eF, decide_eq_false (fun h => h3 (h.1 d hmem).1)]
    rfl
  obtain rfl : q = false := by rw [hq]; exact decide_eq_false (fun e => e h3.symm)
  (repeat(first|refine sb ?_|refine gOn rfl ?_|refine gOff rfl rfl ?_|refine gTup rfl ?_))
  refine (may_w (a := [120]) (d := d) (by simp) (by omega)).mono fun v s3 q => ?_
  obtain ⟨rfl, c3⟩ := q
  have c13 := c12.nil c3
  replace hd1 := hd1.chg c3 (by simp)
  (repeat(first|refine sb ?_|refine gOn rfl ?_|refine gOff rfl rfl ?_|refine gTup rfl ?_))
  intro q hq
  cases hmf : mayF [120] d with
  | false =>
    obtain rfl : q = true := by rw [hq, hmf]; rfl
    (repeat(first|refine sb ?_|refine gOn rfl ?_|refine gOff rfl rfl ?_|refine gTup rfl ?_))
    refine ⟨?_, c13⟩
    rw [eF, decide_eq_false (fun h => by have := (h.1 d hmem).2; rw [hmf] at this; cases this)]
    rfl
  | true =>
    obtain rfl : q = false := by rw [hq, hmf]; rfl
    (repeat(first|refine sb ?_|refine gOn rfl ?_|refine gOff rfl rfl ?_|refine gTup rfl ?_))
    intro z hz
    rw [i64_id (by omega)] at hz
    obtain rfl : z = ((m + 1 : Nat) : Int) := by omega
    (repeat(first|refine sb ?_|refine gOn rfl ?_|refine gOff rfl rfl ?_|refine gTup rfl ?_))
    refine ⟨(m + 1, s3), ⟨by show m + 1 ≤ _; omega, fun j x hj' hx => ?_, c13, hd1⟩, by show ds.length - (m + 1) < ds.length - m; omega, Wk.same ⟨rfl, rfl, rfl, trivial⟩⟩
    rcases Nat.lt_or_ge j m with q | q
    · exact hj j x q hx
    · obtain rfl : j = m := by dsimp only at hj'; omega
      rw [hdd] at hx
      obtain rfl := Option.some.inj hx
      exact ⟨h3, hmf⟩
/-! ### Ours -/
theorem sindex_w12 {s : SS} {W : Option Addr} {cw : Nat} {ds : List (List UInt8)} {v : List UInt8} (hd : DomAt s W cw ds) (hn : ds.length ≤ 1000) : CallW pr n_slices_Index_string_string [.slice W ds.length cw, str v] s fun u s' => (∃ z : Int, u = .int .i64 z ∧ (0 ≤ z ↔ v ∈ ds)) ∧ s' = s := by
  refine CallW.run good ok_slices_Index_string_string (by simp) rfl ?_
  (try refine pSeq ?_); (repeat refine sb ?_)
  refine pLoop (MW.head good (fun x : Nat × SS => ds.length - x.1) (fun x => x.1 ≤ ds.length ∧ (∀ j, j < x.1 → ds[j]? ≠ some v) ∧ x.2 = s)
    (fun x => [(0, .slice W ds.length cw), (1, str v), (7, .int .i64 (ds.length : Nat)), (8, .int .i64 x.1)]) (fun x => x.2) (0, _) ⟨Nat.zero_le _, fun j hj => absurd hj (Nat.not_lt_zero _), rfl⟩ (Wk.same ⟨rfl, rfl, rfl, rfl, trivial⟩) ?_)
  rintro ⟨i, s1⟩ ⟨hi, hj, rfl⟩
  dsimp only at hi hj hd ⊢
  (repeat refine sb ?_)
  intro q hq
  by_cases hlt : i < ds.length
  case neg =>
    obtain rfl : q = false := by rw [hq]; simp; omega
    (repeat refine sb ?_)
    refine ⟨⟨-1, rfl, ⟨fun h => absurd h (by decide), fun hv => ?_⟩⟩, rfl⟩
    obtain ⟨j, hj1, hj2⟩ := List.mem_iff_getElem.1 hv
    exact absurd (by rw [List.getElem?_eq_getElem hj1, hj2]) (hj j (by omega))
  obtain rfl : q = true := by rw [hq]; simp; omega
  obtain ⟨d, hdd⟩ : ∃ d, ds[i]? = some d := ⟨_, List.getElem?_eq_getElem hlt⟩
  obtain ⟨b, rfl, hcw, hr1⟩ := hd.pos (by omega)
  (repeat refine sb ?_)
  refine ⟨by omega, ?_⟩
  intro m hm o ho
  obtain rfl : m = i := by omega
  (repeat refine sb ?_)
  refine ldS_is rfl hr1.2 (by rw [ho, Nat.zero_add, Nat.mul_one]; exact strV_get hdd) ?_
  (repeat refine sb ?_)
  intro q hq
  by_cases hv : v = d
  · obtain rfl : q = true := by rw [hq]; exact decide_eq_true hv
    (repeat refine sb ?_)
    exact ⟨⟨_, rfl, ⟨fun _ => hv ▸ List.mem_of_getElem? hdd, fun _ => by omega⟩⟩, rfl⟩
  · obtain rfl : q = false := by rw [hq]; exact decide_eq_false hv
    (repeat refine sb ?_)
    intro z hz
    rw [i64_id (by omega)] at hz
    obtain rfl : z = ((m + 1 : Nat) : Int) := by omega
    (repeat refine sb ?_)
    refine ⟨(m + 1, s1), ⟨by show m + 1 ≤ _; omega, fun j hj' => ?_, rfl⟩, by show ds.length - (m + 1) < ds.length - m; omega, Wk.same ⟨rfl, rfl, rfl, rfl, trivial⟩⟩
    rcases Nat.lt_or_ge j m with q | q
    · exact hj j q
    · obtain rfl : j = m := by dsimp only at hj'; omega
      rw [hdd]
      intro e
      exact hv (Option.some.inj e).symm
theorem scontains_w12 {s : SS} {W : Option Addr} {cw : Nat} {ds : List (List UInt8)} {v : List UInt8} (hd : DomAt s W cw ds) (hn : ds.length ≤ 1000) : CallW pr n_slices_Contains_string_string [.slice W ds.length cw, str v] s fun u s' => u = .bool (decide (v ∈ ds)) ∧ s' = s := by
  refine CallW.run good ok_slices_Contains_string_string (by simp) rfl ?_
  (try refine pSeq ?_); (repeat refine sb ?_)
  refine (sindex_w12 hd hn).mono fun u s q => ?_
  obtain ⟨⟨z, rfl, hz⟩, rfl⟩ := q
  (repeat refine sb ?_)
  intro q hq
  (repeat refine sb ?_)
  refine ⟨?_, rfl⟩
  rw [hq]
  show Value.bool (decide _) = _
  rw [decide_eq_decide.2 hz]
theorem ours_w {s : SS} {sec a d : List UInt8} {W : Option Addr} {cw : Nat} {ds : List (List UInt8)} (hF : Fine s) (hd : DomAt s W cw ds) (hn : ds.length ≤ 1000) (hdl : d.length ≤ 1000000) :
    CallW pr n_srs_Coder_Ours [cdV sec W ds.length cw, adV a d] s fun v s' => v = .bool (oursF ⟨sec, ds⟩ d) ∧ Chg s s' [] := by
  refine CallW.run good ok_srs_Coder_Ours (by simp) rfl ?_
  obtain ⟨h0, h1, c0, f0⟩ := new2_at hF (.cells [str sec, .slice W ds.length cw] tCo false false) (.cells [str a, str d] tAd false false)
  (try refine pSeq ?_); (repeat(first|refine sb ?_|refine kNo ?_))
  refine ld1_is rfl h0 rfl ?_
  (repeat(first|refine sb ?_|refine kNo ?_))
  refine ldS_is rfl h1 rfl ?_
  (repeat(first|refine sb ?_|refine kNo ?_))
  refine (lower_w (l := d) hdl).mono fun v s1 q => ?_
  obtain ⟨rfl, c1⟩ := q
  refine kAll (c1.keep f0) ?_
  (repeat(first|refine sb ?_|refine kNo ?_))
  refine (scontains_w12 ((hd.chg c0 (by simp)).chg c1 (by simp)) hn).mono fun v s q => ?_
  obtain ⟨rfl, rfl⟩ := q
  refine kNo ?_
  (repeat(first|refine sb ?_|refine kNo ?_))
  exact ⟨rfl, c0.nil c1⟩
theorem is_w {s : SS} {sec a d : List UInt8} {W : Option Addr} {cw : Nat} {ds : List (List UInt8)} (hF : Fine s) (hd : DomAt s W cw ds) (hn : ds.length ≤ 1000) (hal : a.length ≤ 1000000) (hdl : d.length ≤ 1000000) :
    CallW pr n_srs_Coder_Is [cdV sec W ds.length cw, adV a d] s fun v s' => v = .bool (isF ⟨sec, ds⟩ a d) ∧ Chg s s' [] := by
  refine CallW.run good ok_srs_Coder_Is (by simp) rfl ?_
  obtain ⟨h0, h1, c0, f0⟩ := new2_at hF (.cells [str sec, .slice W ds.length cw] tCo false false) (.cells [str a, str d] tAd false false)
  (try refine pSeq ?_); (repeat(first|refine sb ?_|refine gOn rfl ?_|refine gOff rfl rfl ?_|refine gTup rfl ?_))
  refine ldN_is rfl h0 rfl ?_
  (repeat(first|refine sb ?_|refine gOn rfl ?_|refine gOff rfl rfl ?_|refine gTup rfl ?_))
  refine ldN_is rfl h1 rfl ?_
  (repeat(first|refine sb ?_|refine gOn rfl ?_|refine gOff rfl rfl ?_|refine gTup rfl ?_))
  refine (ours_w f0 (hd.chg c0 (by simp)) hn hdl).mono fun v s1 q => ?_
  obtain ⟨rfl, c1⟩ := q
  have k1 := c1.blk _ _ (show s.next + 1 < s.next + 1 + 1 by omega) (by simp) h1
  have f1 := c1.fine f0
  unfold isF
  cases ho : oursF ⟨sec, ds⟩ d with
  | false =>
    (repeat(first|refine sb ?_|refine gOn rfl ?_|refine gOff rfl rfl ?_|refine gTup rfl ?_))
    exact ⟨rfl, c0.nil c1⟩
  | true =>
    (repeat(first|refine sb ?_|refine gOn rfl ?_|refine gOff rfl rfl ?_|refine gTup rfl ?_))
    refine ldS_is rfl k1 rfl ?_
    (repeat(first|refine sb ?_|refine gOn rfl ?_|refine gOff rfl rfl ?_|refine gTup rfl ?_))
    refine (begins_w (k := 0) (by omega) hal).mono fun v s2 q => ?_
    obtain ⟨rfl, c2⟩ := q
    have k2 := c2.blk _ _ (show s.next + 1 < s1.next by have := c1.next; have : s.next + 1 + 1 ≤ s1.next := this; omega) (by simp) k1
    cases hb : begF 0 a with
    | true =>
      (repeat(first|refine sb ?_|refine gOn rfl ?_|refine gOff rfl rfl ?_|refine gTup rfl ?_))
      exact ⟨rfl, (c0.nil c1).nil c2⟩
    | false =>
      (repeat(first|refine sb ?_|refine gOn rfl ?_|refine gOff rfl rfl ?_|refine gTup rfl ?_))
      refine ldS_is rfl k2 rfl ?_
      (repeat(first|refine sb ?_|refine gOn rfl ?_|refine gOff rfl rfl ?_|refine gTup rfl ?_))
      refine (begins_w (k := 1) (by omega) hal).mono fun v s3 q => ?_
      obtain ⟨rfl, c3⟩ := q
      (repeat(first|refine sb ?_|refine gOn rfl ?_|refine gOff rfl rfl ?_|refine gTup rfl ?_))
      exact ⟨rfl, ((c0.nil c1).nil c2).nil c3⟩
end Go.Vf.S
end
section
/- Senders written anew: where a local part leads; whether it is old; what is written. -/
namespace Go.Vf.S
open Go Go.Vf Go.Proofs Go.RowKit
attribute [local irreducible] wSeq wRow wp wG hmac tellF pstF tagF agF mayF domF
set_option linter.unusedVariables false
set_option linter.unusedSimpArgs false
set_option maxRecDepth 10000

def bkF (kd rs : List UInt8) : List UInt8 := if kd = srsU 1 then srsU 0 ++ rs else rs
theorem sback_w {s : SS} {kd tg st dm rs : List UInt8} (hF : Fine s) (hl : rs.length ≤ 1000000) : CallW pr n_srs_written_back [.agg ⟨strV [kd, tg, st, dm, rs]⟩] s fun v s' => v = adV (bkF kd rs) dm ∧ Chg s s' [] := by
  refine CallW.run good ok_srs_written_back (by simp) rfl ?_
  obtain ⟨h0, h1, c0, f0⟩ := new2_at hF (.cells (strV [kd, tg, st, dm, rs]) tWr false false) (.cells [str [], str []] tAd false false)
  unfold bkF
  (try refine pSeq ?_); (repeat refine sb ?_)
  refine ldS_is rfl h0 rfl ?_
  (repeat refine sb ?_)
  refine ldS_is rfl h0 rfl ?_
  (repeat refine sb ?_)
  intro q hq
  by_cases h : kd = srsU 1
  · obtain rfl : q = true := by rw [hq]; exact decide_eq_true h
    rw [if_pos h]
    (repeat refine sb ?_)
    refine ⟨by simp only [List.length_cons, List.length_nil]; omega, ?_⟩
    intro w hw
    subst hw
    (repeat refine sb ?_)
    refine ldS_is rfl h0 rfl ?_
    (repeat refine sb ?_)
    refine st_abs (cs' := [str (srsU 0 ++ rs), str dm]) rfl rfl h1 (Nat.lt_succ_self _) rfl rfl fun s1 e1 c1 n1 => ?_
    (repeat refine sb ?_)
    (repeat (first | with_reducible refine sqRet ?_ | with_reducible refine bkRet ?_ | with_reducible refine hdRet ?_))
    exact ret_cell1 agg_Ad sz_Ad rfl e1 rfl ⟨rfl, c0.fresh c1 (by simp)⟩
  · obtain rfl : q = false := by rw [hq]; exact decide_eq_false h
    rw [if_neg h]
    (repeat refine sb ?_)
    refine ldS_is rfl h0 rfl ?_
    (repeat refine sb ?_)
    refine st_abs (cs' := [str rs, str dm]) rfl rfl h1 (Nat.lt_succ_self _) rfl rfl fun s1 e1 c1 n1 => ?_
    (repeat refine sb ?_)
    (repeat (first | with_reducible refine sqRet ?_ | with_reducible refine bkRet ?_ | with_reducible refine hdRet ?_))
    exact ret_cell1 agg_Ad sz_Ad rfl e1 rfl ⟨rfl, c0.fresh c1 (by simp)⟩
theorem ag_lt (k d : Int) : agF k d < 1024 := by unfold agF; exact Nat.mod_lt _ (by omega)
def oldF (kd st : List UInt8) (day : Int) : Bool := decide (kd = srsU 0 ∧ 21 < agF (pstF st).1 day ∧ agF (pstF st).1 day < 1023)
theorem sold_w {s : SS} {kd tg st dm rs : List UInt8} {day : Int} (hF : Fine s) (hl : st.length ≤ 1000000) (hd : day ≤ 9223372036854775807) : CallW pr n_srs_written_old [.agg ⟨strV [kd, tg, st, dm, rs]⟩, .int .i64 day] s fun v s' => v = .bool (oldF kd st day) ∧ Chg s s' [] := by
  refine CallW.run good ok_srs_written_old (by simp) rfl ?_
  obtain ⟨h0, c0, f0⟩ := new1_at hF (.cells (strV [kd, tg, st, dm, rs]) tWr false false)
  unfold oldF
  have hp := pst_lt st
  have ha := ag_lt (pstF st).1 day
  (try refine pSeq ?_); (repeat(first|refine sb ?_|refine gOn rfl ?_|refine gOff rfl rfl ?_|refine gTup rfl ?_))
  refine ldS_is rfl h0 rfl ?_
  (repeat(first|refine sb ?_|refine gOn rfl ?_|refine gOff rfl rfl ?_|refine gTup rfl ?_))
  intro q hq
  by_cases h : kd = srsU 0
  case neg =>
    obtain rfl : q = true := by rw [hq]; exact decide_eq_true h
    have e : decide (kd = srsU 0 ∧ 21 < agF (pstF st).1 day ∧ agF (pstF st).1 day < 1023) = false := decide_eq_false (fun q => h q.1)
    rw [e]
    (repeat(first|refine sb ?_|refine gOn rfl ?_|refine gOff rfl rfl ?_|refine gTup rfl ?_))
    exact ⟨rfl, c0⟩
  obtain rfl : q = false := by rw [hq]; exact decide_eq_false (fun q => q h)
  (repeat(first|refine sb ?_|refine gOn rfl ?_|refine gOff rfl rfl ?_|refine gTup rfl ?_))
  refine ldS_is rfl h0 rfl ?_
  (repeat(first|refine sb ?_|refine gOn rfl ?_|refine gOff rfl rfl ?_|refine gTup rfl ?_))
  refine (pst_w f0 hl).mono fun v s q => ?_
  obtain ⟨rfl, rfl⟩ := q
  generalize pstF st = P at *
  obtain ⟨k, e⟩ := P
  dsimp only at *
  (repeat(first|refine sb ?_|refine gOn rfl ?_|refine gOff rfl rfl ?_|refine gTup rfl ?_))
  refine (age_w (k := (k : Int)) (by omega) hd).mono fun v s q => ?_
  obtain ⟨rfl, rfl⟩ := q
  generalize agF (k : Int) day = A at *
  (repeat(first|refine sb ?_|refine gOn rfl ?_|refine gOff rfl rfl ?_|refine gTup rfl ?_))
  intro q hq
  by_cases h1 : 21 < A
  · obtain rfl : q = true := by rw [hq]; simp; omega
    (repeat(first|refine sb ?_|refine gOn rfl ?_|refine gOff rfl rfl ?_|refine gTup rfl ?_))
    intro q hq
    (repeat(first|refine sb ?_|refine gOn rfl ?_|refine gOff rfl rfl ?_|refine gTup rfl ?_))
    refine ⟨?_, c0⟩
    rw [hq]
    show Value.bool _ = Value.bool _
    congr 1
    rw [Bool.eq_iff_iff]
    simp only [decide_eq_true_eq]
    exact ⟨fun q => ⟨h, by omega, by omega⟩, fun q => by have := q.2.2; omega⟩
  · obtain rfl : q = false := by rw [hq]; simp; omega
    (repeat(first|refine sb ?_|refine gOn rfl ?_|refine gOff rfl rfl ?_|refine gTup rfl ?_))
    refine ⟨?_, c0⟩
    show Value.bool false = Value.bool _
    rw [decide_eq_false (fun q => h1 q.2.1)]

/-! ### What is written -/
theorem srsU_ne : srsU 1 ≠ srsU 0 ∧ srsU 0 ≠ srsU 1 := by decide
set_option maxHeartbeats 1000000 in
theorem anew_w {s : SS} {sec a d : List UInt8} {dv : Value} {day : Int} (hG : Gk s) (hF : Fine s) (hs : sec.length ≤ 1000) (hal : a.length ≤ 1000) (hdl : d.length ≤ 1000) (hd : day ≤ 9223372036854775807) :
    CallW pr n_srs_Coder_anew [.agg ⟨[str sec, dv]⟩, adV a d, .int .i64 day] s fun v s' => v = str (nsF sec a d day) ∧ Chg s s' [] := by
  refine CallW.run good ok_srs_Coder_anew (by simp) rfl ?_
  obtain ⟨h0, h1, c0, f0⟩ := new2_at hF (.cells [str sec, dv] tCo false false) (.cells [str a, str d] tAd false false)
  (try refine pSeq ?_); (repeat(first|refine sb ?_|refine kNo ?_))
  refine ldS_is rfl h1 rfl ?_
  (repeat(first|refine sb ?_|refine kNo ?_))
  refine (lower_w (l := d) (by omega)).mono fun v s1 q => ?_
  obtain ⟨rfl, c1⟩ := q
  have f1 := c1.fine f0
  replace h0 := c1.blk _ _ (show s.next < s.next + 1 + 1 by omega) (by simp) h0
  replace h1 := c1.blk _ _ (show s.next + 1 < s.next + 1 + 1 by omega) (by simp) h1
  have n1 := c1.next
  replace n1 : s.next + 1 + 1 ≤ s1.next := n1
  replace c1 := c0.nil c1
  clear c0 f0
  (repeat(first|refine sb ?_|refine kNo ?_))
  refine ldS_is rfl h1 rfl ?_
  (repeat(first|refine sb ?_|refine kNo ?_))
  refine (begins_w (k := 0) (by omega) (by omega)).mono fun v s2 q => ?_
  obtain ⟨rfl, c2⟩ := q
  have f2 := c2.fine f1
  replace h0 := c2.blk _ _ (show s.next < s1.next by omega) (by simp) h0
  replace h1 := c2.blk _ _ (show s.next + 1 < s1.next by omega) (by simp) h1
  have n2 := c2.next
  replace c2 := c1.nil c2
  clear f1 c1
  cases hb : begF 0 a with
  | true =>
    have h5 := beg_len hb
    have eN : nsF sec a d day = chainF sec d (a.drop 4) := by unfold nsF; rw [if_pos hb]
    rw [eN]
    (repeat(first|refine sb ?_|refine kNo ?_))
    refine ldN_is rfl h0 rfl ?_
    (repeat(first|refine sb ?_|refine kNo ?_))
    refine ldS_is rfl h1 rfl ?_
    (repeat(first|refine sb ?_|refine kNo ?_))
    refine slS_lo 4 rfl rfl rfl (by omega) ?_
    (repeat(first|refine sb ?_|refine kNo ?_))
    refine mkS_is rfl rfl (rNew f2.at ?_)
    obtain ⟨m0, m1, m2⟩ := new1_at f2 (.cells (strV [low d, a.drop 4]) tS false false)
    (repeat(first|refine sb ?_|refine kNo ?_))
    refine (write_w (kd := srsU 1) (ls := [low d, a.drop 4]) (hG.nil (c2.nil m1)) m2 ⟨Nat.lt_succ_self s2.next, m0⟩ hs (by decide) (by simp) (by simp) (by simp only [List.flatten_cons, List.flatten_nil, List.length_append, List.length_nil, low_len, List.length_drop]; omega)).mono fun v s3 q => ?_
    obtain ⟨rfl, c3⟩ := q
    rw [wr_chain]
    refine kNo ?_
    (repeat(first|refine sb ?_|refine kNo ?_))
    exact ⟨rfl, (c2.nil m1).nil c3⟩
  | false =>
    (repeat(first|refine sb ?_|refine kNo ?_))
    refine ldS_is rfl h1 rfl ?_
    (repeat(first|refine sb ?_|refine kNo ?_))
    refine (sread_w f2 (l := a) (by omega)).mono fun v s3 q => ?_
    obtain ⟨rfl, c3⟩ := q
    have f3 := c3.fine f2
    replace h0 := c3.blk _ _ (show s.next < s2.next by omega) (by simp) h0
    replace h1 := c3.blk _ _ (show s.next + 1 < s2.next by omega) (by simp) h1
    have n3 := c3.next
    replace c3 := c2.nil c3
    clear f2 c2
    have eW : readW a = (readS 1 a).map (Prod.mk 1) := by
      cases hb1 : begF 1 a with
      | true => exact readW_1 hb1
      | false => rw [readW_no hb hb1, readS_no hb1]; rfl
    rw [eW]
    obtain ⟨k0, k1, k2⟩ := new1_at f3 (.cells (strV [[], [], [], [], []]) tWr false false)
    (repeat(first|refine sb ?_|refine kNo ?_))
    refine st_abs (cs' := strV (wrL ((readS 1 a).map (Prod.mk 1)))) rfl rfl k0 (Nat.lt_succ_self _) (by cases readS 1 a <;> rfl) (by cases readS 1 a <;> rfl) fun s4 e4 c4 n4 => ?_
    replace h0 := c4.blk _ _ (show s.next < s3.next + 1 by omega) (by simp; omega) (k1.blk _ _ (show s.next < s3.next by omega) (by simp) h0)
    replace h1 := c4.blk _ _ (show s.next + 1 < s3.next + 1 by omega) (by simp; omega) (k1.blk _ _ (show s.next + 1 < s3.next by omega) (by simp) h1)
    replace n4 : s4.next = s3.next + 1 := n4
    replace c4 : Chg s s4 [] := c3.nil (k1.fresh c4 (by simp))
    have f4 := c4.fine hF
    clear f3 c3 k0 k1 k2
    cases hr : readS 1 a with
    | some x =>
      obtain ⟨x1, x2, x3, x4⟩ := readS_len hr
      have eN : nsF sec a d day = chainF sec x.dom x.rest := by unfold nsF; rw [hb, if_neg (by decide), hr]
      rw [eN]
      rw [hr] at e4
      (repeat(first|refine sb ?_|refine kNo ?_))
      refine ldN_is rfl h0 rfl ?_
      (repeat(first|refine sb ?_|refine kNo ?_))
      refine ldS_is rfl e4 rfl ?_
      (repeat(first|refine sb ?_|refine kNo ?_))
      refine ldS_is rfl e4 rfl ?_
      (repeat(first|refine sb ?_|refine kNo ?_))
      refine (lower_w (l := x.dom) (by omega)).mono fun v s5 q => ?_
      obtain ⟨rfl, c5⟩ := q
      have f5 := c5.fine f4
      refine kAll (c5.keep f4) ?_
      (repeat(first|refine sb ?_|refine kNo ?_))
      refine mkS_is rfl rfl (rNew f5.at ?_)
      obtain ⟨m0, m1, m2⟩ := new1_at f5 (.cells (strV [low x.dom, x.rest]) tS false false)
      have c45 := c4.nil c5
      (repeat(first|refine sb ?_|refine kNo ?_))
      refine (write_w (kd := srsU 1) (ls := [low x.dom, x.rest]) (hG.nil (c45.nil m1)) m2 ⟨Nat.lt_succ_self s5.next, m0⟩ hs (by decide) (by simp) (by simp) (by simp only [List.flatten_cons, List.flatten_nil, List.length_append, List.length_nil, low_len]; omega)).mono fun v s6 q => ?_
      obtain ⟨rfl, c6⟩ := q
      rw [wr_chain]
      refine kNo ?_
      (repeat(first|refine sb ?_|refine kNo ?_))
      exact ⟨rfl, (c45.nil m1).nil c6⟩
    | none =>
      have eN : nsF sec a d day = firstF sec (stT (sn day)) d a := by unfold nsF; rw [hb, if_neg (by decide), hr]
      rw [eN]
      (repeat(first|refine sb ?_|refine kNo ?_))
      refine ldN_is rfl h0 rfl ?_
      (repeat(first|refine sb ?_|refine kNo ?_))
      refine ldS_is rfl h1 rfl ?_
      (repeat(first|refine sb ?_|refine kNo ?_))
      refine (stext_w f4 hd).mono fun v s5 q => ?_
      obtain ⟨rfl, c5⟩ := q
      have f5 := c5.fine f4
      refine kAll (c5.keep f4) ?_
      (repeat(first|refine sb ?_|refine kNo ?_))
      refine mkS_is rfl rfl (rNew f5.at ?_)
      obtain ⟨m0, m1, m2⟩ := new1_at f5 (.cells (strV [stT (sn day), low d, a]) tS false false)
      have c45 := c4.nil c5
      (repeat(first|refine sb ?_|refine kNo ?_))
      refine (write_w (kd := srsU 0) (ls := [stT (sn day), low d, a]) (hG.nil (c45.nil m1)) m2 ⟨Nat.lt_succ_self s5.next, m0⟩ hs (by decide) (by simp) (by simp) (by simp only [List.flatten_cons, List.flatten_nil, List.length_append, List.length_nil, low_len, stT_len]; omega)).mono fun v s6 q => ?_
      obtain ⟨rfl, c6⟩ := q
      rw [wr_first]
      refine kNo ?_
      (repeat(first|refine sb ?_|refine kNo ?_))
      exact ⟨rfl, (c45.nil m1).nil c6⟩
end Go.Vf.S
end
section
/- Senders written anew: forward. -/
namespace Go.Vf.S
open Go Go.Vf Go.Proofs Go.RowKit
attribute [local irreducible] wSeq wRow wp wG hmac tellF pstF tagF agF mayF domF cmayF nsF oursF
set_option linter.unusedVariables false
set_option linter.unusedSimpArgs false
set_option maxRecDepth 10000

abbrev rvV (r : List UInt8 × List UInt8 × Nat) : Value := .tuple ⟨[adV r.1 r.2.1, .int .i64 r.2.2]⟩
theorem fwd_arg {c : Cdr} {a d : List UInt8} {day : Int} (h : cmayF c = false ∨ (mayF a d = false ∧ ¬(a = [] ∧ d = []))) : fwdF c a d day = ([], [], 1) := by unfold fwdF; rw [if_pos h]
theorem fwd_same {c : Cdr} {a d : List UInt8} {day : Int} (h : ¬(cmayF c = false ∨ (mayF a d = false ∧ ¬(a = [] ∧ d = [])))) (h2 : (a = [] ∧ d = []) ∨ oursF c d = true) : fwdF c a d day = (a, d, 0) := by unfold fwdF; rw [if_neg h, if_pos h2]
theorem fwd_long {c : Cdr} {a d : List UInt8} {day : Int} (h : ¬(cmayF c = false ∨ (mayF a d = false ∧ ¬(a = [] ∧ d = [])))) (h2 : ¬((a = [] ∧ d = []) ∨ oursF c d = true)) (h3 : 64 < (nsF c.sec a d day).length) : fwdF c a d day = (a, d, 3) := by unfold fwdF; rw [if_neg h, if_neg h2, if_pos h3]
theorem fwd_new {c : Cdr} {a d : List UInt8} {day : Int} (h : ¬(cmayF c = false ∨ (mayF a d = false ∧ ¬(a = [] ∧ d = [])))) (h2 : ¬((a = [] ∧ d = []) ∨ oursF c d = true)) (h3 : ¬64 < (nsF c.sec a d day).length) : fwdF c a d day = (nsF c.sec a d day, c.doms.headD [], 0) := by unfold fwdF; rw [if_neg h, if_neg h2, if_neg h3]
theorem cmay_doms {c : Cdr} (h : cmayF c = true) : 1 ≤ c.doms.length ∧ c.sec.length ≤ 64 := by
  unfold cmayF at h
  have := of_decide_eq_true h
  exact ⟨this.2.2.2.1, this.2.2.1⟩

set_option maxHeartbeats 2000000 in
theorem forward_w {s : SS} {sec a d : List UInt8} {W : Option Addr} {cw : Nat} {ds : List (List UInt8)} {day : Int} (hG : Gk s) (hF : Fine s) (hdm : DomAt s W cw ds) (hs : sec.length ≤ 1000) (hsm : SmallD ds) (hal : a.length ≤ 1000) (hdl : d.length ≤ 1000) (hd : day ≤ 9223372036854775807) :
    CallW pr n_srs_Coder_Forward [cdV sec W ds.length cw, adV a d, .int .i64 day] s fun v s' => v = rvV (fwdF ⟨sec, ds⟩ a d day) ∧ Chg s s' [] := by
  refine CallW.run good ok_srs_Coder_Forward (by simp) rfl ?_
  obtain ⟨h0, h1, h2, c0, f0⟩ := new3_at hF (.cells [str sec, .slice W ds.length cw] tCo false false) (.cells [str a, str d] tAd false false) (.cells [str [], str []] tAd false false)
  (try refine pSeq ?_); (repeat(first|refine sb ?_|refine gOn rfl ?_|refine gOff rfl rfl ?_|refine gTup rfl ?_))
  refine ldN_is rfl h1 rfl ?_
  (repeat(first|refine sb ?_|refine gOn rfl ?_|refine gOff rfl rfl ?_|refine gTup rfl ?_))
  intro q hq
  obtain ⟨nul, hnul⟩ : ∃ nul : Bool, nul = decide (a = [] ∧ d = []) := ⟨_, rfl⟩
  obtain rfl : nul = q := by
    rw [hq, hnul, Bool.eq_iff_iff]
    simp
  (repeat(first|refine sb ?_|refine gOn rfl ?_|refine gOff rfl rfl ?_|refine gTup rfl ?_))
  refine ldN_is rfl h0 rfl ?_
  (repeat(first|refine sb ?_|refine gOn rfl ?_|refine gOff rfl rfl ?_|refine gTup rfl ?_))
  refine (cmay_w f0 (hdm.chg c0 (by simp)) hs hsm).mono fun v s1 q => ?_
  obtain ⟨rfl, c1⟩ := q
  have f1 := c1.fine f0
  replace h0 := c1.blk _ _ (show s.next < s.next + 1 + 1 + 1 by omega) (by simp) h0
  replace h1 := c1.blk _ _ (show s.next + 1 < s.next + 1 + 1 + 1 by omega) (by simp) h1
  replace h2 := c1.blk _ _ (show s.next + 1 + 1 < s.next + 1 + 1 + 1 by omega) (by simp) h2
  have n1 := c1.next
  replace n1 : s.next + 1 + 1 + 1 ≤ s1.next := n1
  replace c1 := c0.nil c1
  clear c0 f0 hq
  (repeat(first|refine sb ?_|refine gOn rfl ?_|refine gOff rfl rfl ?_|refine gTup rfl ?_))
  intro q hq
  cases hcm : cmayF ⟨sec, ds⟩ with
  | false =>
    obtain rfl : q = true := by rw [hq, hcm]; rfl
    rw [fwd_arg (.inl hcm)]
    (repeat(first|refine sb ?_|refine gOn rfl ?_|refine gOff rfl rfl ?_|refine gTup rfl ?_))
    refine st_abs (cs' := [str [], str []]) rfl rfl h2 (show s.next + 1 + 1 < s1.next by omega) rfl rfl fun s2 e2 c2 n2 => ?_
    (repeat(first|refine sb ?_|refine gOn rfl ?_|refine gOff rfl rfl ?_|refine gTup rfl ?_))
    (repeat (first | with_reducible refine sqRet ?_ | with_reducible refine bkRet ?_ | with_reducible refine hdRet ?_))
    exact ret_cell agg_Ad sz_Ad rfl e2 rfl rfl ⟨rfl, c1.fresh c2 (by simp; omega)⟩
  | true =>
    obtain rfl : q = false := by rw [hq, hcm]; rfl
    obtain ⟨m1, m2⟩ := cmay_doms hcm
    (repeat(first|refine sb ?_|refine gOn rfl ?_|refine gOff rfl rfl ?_|refine gTup rfl ?_))
    intro q hq
    cases nul with
    | true =>
      obtain rfl : q = false := by rw [hq]; rfl
      have hn := of_decide_eq_true hnul.symm
      rw [fwd_same (by rw [hcm]; simp [hn]) (.inl hn)]
      (repeat(first|refine sb ?_|refine gOn rfl ?_|refine gOff rfl rfl ?_|refine gTup rfl ?_))
      refine ldN_is rfl h1 rfl ?_
      (repeat(first|refine sb ?_|refine gOn rfl ?_|refine gOff rfl rfl ?_|refine gTup rfl ?_))
      refine st_abs (cs' := [str a, str d]) rfl rfl h2 (show s.next + 1 + 1 < s1.next by omega) rfl rfl fun s2 e2 c2 n2 => ?_
      (repeat(first|refine sb ?_|refine gOn rfl ?_|refine gOff rfl rfl ?_|refine gTup rfl ?_))
      (repeat (first | with_reducible refine sqRet ?_ | with_reducible refine bkRet ?_ | with_reducible refine hdRet ?_))
      exact ret_cell agg_Ad sz_Ad rfl e2 rfl rfl ⟨rfl, c1.fresh c2 (by simp; omega)⟩
    | false =>
      obtain rfl : q = true := by rw [hq]; rfl
      have hn := of_decide_eq_false hnul.symm
      (repeat(first|refine sb ?_|refine gOn rfl ?_|refine gOff rfl rfl ?_|refine gTup rfl ?_))
      refine ldN_is rfl h1 rfl ?_
      (repeat(first|refine sb ?_|refine gOn rfl ?_|refine gOff rfl rfl ?_|refine gTup rfl ?_))
      refine (may_w (a := a) (d := d) (by omega) (by omega)).mono fun v s2 q => ?_
      obtain ⟨rfl, c2⟩ := q
      have f2 := c2.fine f1
      replace h0 := c2.blk _ _ (show s.next < s1.next by omega) (by simp) h0
      replace h1 := c2.blk _ _ (show s.next + 1 < s1.next by omega) (by simp) h1
      replace h2 := c2.blk _ _ (show s.next + 1 + 1 < s1.next by omega) (by simp) h2
      have n2 := c2.next
      replace c2 := c1.nil c2
      clear c1 f1
      (repeat(first|refine sb ?_|refine gOn rfl ?_|refine gOff rfl rfl ?_|refine gTup rfl ?_))
      intro q hq
      cases hm : mayF a d with
      | false =>
        obtain rfl : q = true := by rw [hq, hm]; rfl
        rw [fwd_arg (.inr ⟨hm, hn⟩)]
        (repeat(first|refine sb ?_|refine gOn rfl ?_|refine gOff rfl rfl ?_|refine gTup rfl ?_))
        refine st_abs (cs' := [str [], str []]) rfl rfl h2 (show s.next + 1 + 1 < s2.next by omega) rfl rfl fun s3 e3 c3 n3 => ?_
        (repeat(first|refine sb ?_|refine gOn rfl ?_|refine gOff rfl rfl ?_|refine gTup rfl ?_))
        (repeat (first | with_reducible refine sqRet ?_ | with_reducible refine bkRet ?_ | with_reducible refine hdRet ?_))
        exact ret_cell agg_Ad sz_Ad rfl e3 rfl rfl ⟨rfl, c2.fresh c3 (by simp; omega)⟩
      | true =>
        obtain rfl : q = false := by rw [hq, hm]; rfl
        have hok : ¬(cmayF ⟨sec, ds⟩ = false ∨ (mayF a d = false ∧ ¬(a = [] ∧ d = []))) := by rw [hcm, hm]; simp
        (repeat(first|refine sb ?_|refine gOn rfl ?_|refine gOff rfl rfl ?_|refine gTup rfl ?_))
        refine ldN_is rfl h0 rfl ?_
        (repeat(first|refine sb ?_|refine gOn rfl ?_|refine gOff rfl rfl ?_|refine gTup rfl ?_))
        refine ldN_is rfl h1 rfl ?_
        (repeat(first|refine sb ?_|refine gOn rfl ?_|refine gOff rfl rfl ?_|refine gTup rfl ?_))
        refine (ours_w f2 (hdm.chg c2 (by simp)) hsm.1 (by omega)).mono fun v s3 q => ?_
        obtain ⟨rfl, c3⟩ := q
        have f3 := c3.fine f2
        replace h0 := c3.blk _ _ (show s.next < s2.next by omega) (by simp) h0
        replace h1 := c3.blk _ _ (show s.next + 1 < s2.next by omega) (by simp) h1
        replace h2 := c3.blk _ _ (show s.next + 1 + 1 < s2.next by omega) (by simp) h2
        have n3 := c3.next
        replace c3 := c2.nil c3
        clear c2 f2
        cases ho : oursF ⟨sec, ds⟩ d with
        | true =>
          rw [fwd_same hok (.inr ho)]
          (repeat(first|refine sb ?_|refine gOn rfl ?_|refine gOff rfl rfl ?_|refine gTup rfl ?_))
          refine ldN_is rfl h1 rfl ?_
          (repeat(first|refine sb ?_|refine gOn rfl ?_|refine gOff rfl rfl ?_|refine gTup rfl ?_))
          refine st_abs (cs' := [str a, str d]) rfl rfl h2 (show s.next + 1 + 1 < s3.next by omega) rfl rfl fun s4 e4 c4 n4 => ?_
          (repeat(first|refine sb ?_|refine gOn rfl ?_|refine gOff rfl rfl ?_|refine gTup rfl ?_))
          (repeat (first | with_reducible refine sqRet ?_ | with_reducible refine bkRet ?_ | with_reducible refine hdRet ?_))
          exact ret_cell agg_Ad sz_Ad rfl e4 rfl rfl ⟨rfl, c3.fresh c4 (by simp; omega)⟩
        | false =>
          have hnew : ¬((a = [] ∧ d = []) ∨ oursF ⟨sec, ds⟩ d = true) := by rw [ho]; simpa using hn
          (repeat(first|refine sb ?_|refine gOn rfl ?_|refine gOff rfl rfl ?_|refine gTup rfl ?_))
          refine ldN_is rfl h0 rfl ?_
          (repeat(first|refine sb ?_|refine gOn rfl ?_|refine gOff rfl rfl ?_|refine gTup rfl ?_))
          refine ldN_is rfl h1 rfl ?_
          (repeat(first|refine sb ?_|refine gOn rfl ?_|refine gOff rfl rfl ?_|refine gTup rfl ?_))
          refine (anew_w (hG.nil c3) f3 hs hal hdl hd).mono fun v s4 q => ?_
          obtain ⟨rfl, c4⟩ := q
          replace h0 := c4.blk _ _ (show s.next < s3.next by omega) (by simp) h0
          replace h1 := c4.blk _ _ (show s.next + 1 < s3.next by omega) (by simp) h1
          replace h2 := c4.blk _ _ (show s.next + 1 + 1 < s3.next by omega) (by simp) h2
          have n4 := c4.next
          replace c4 := c3.nil c4
          clear c3 f3
          (repeat(first|refine sb ?_|refine gOn rfl ?_|refine gOff rfl rfl ?_|refine gTup rfl ?_))
          intro n hn'
          subst hn'
          (repeat(first|refine sb ?_|refine gOn rfl ?_|refine gOff rfl rfl ?_|refine gTup rfl ?_))
          intro q hq
          by_cases hl : 64 < (nsF sec a d day).length
          · obtain rfl : q = true := by rw [hq]; simp; omega
            rw [fwd_long hok hnew hl]
            (repeat(first|refine sb ?_|refine gOn rfl ?_|refine gOff rfl rfl ?_|refine gTup rfl ?_))
            refine ldN_is rfl h1 rfl ?_
            (repeat(first|refine sb ?_|refine gOn rfl ?_|refine gOff rfl rfl ?_|refine gTup rfl ?_))
            refine st_abs (cs' := [str a, str d]) rfl rfl h2 (show s.next + 1 + 1 < s4.next by omega) rfl rfl fun s5 e5 c5 n5 => ?_
            (repeat(first|refine sb ?_|refine gOn rfl ?_|refine gOff rfl rfl ?_|refine gTup rfl ?_))
            (repeat (first | with_reducible refine sqRet ?_ | with_reducible refine bkRet ?_ | with_reducible refine hdRet ?_))
            exact ret_cell agg_Ad sz_Ad rfl e5 rfl rfl ⟨rfl, c4.fresh c5 (by simp; omega)⟩
          · obtain rfl : q = false := by rw [hq]; simp; omega
            rw [fwd_new hok hnew hl]
            obtain ⟨b, rfl, hcw, hr⟩ := (hdm.chg c4 (by simp)).pos (show 0 < ds.length from m1)
            obtain ⟨x, xs, rfl⟩ : ∃ x xs, ds = x :: xs := by
              cases ds with
              | nil => simp at m1
              | cons x xs => exact ⟨x, xs, rfl⟩
            (repeat(first|refine sb ?_|refine gOn rfl ?_|refine gOff rfl rfl ?_|refine gTup rfl ?_))
            refine ld1_is rfl h0 rfl ?_
            (repeat(first|refine sb ?_|refine gOn rfl ?_|refine gOff rfl rfl ?_|refine gTup rfl ?_))
            refine ⟨by simp, ?_⟩
            intro m hm' o ho'
            obtain rfl : m = 0 := by omega
            (repeat(first|refine sb ?_|refine gOn rfl ?_|refine gOff rfl rfl ?_|refine gTup rfl ?_))
            refine ldS_is (l := x) rfl hr.2 (by rw [ho']; rfl) ?_
            (repeat(first|refine sb ?_|refine gOn rfl ?_|refine gOff rfl rfl ?_|refine gTup rfl ?_))
            refine st_abs (cs' := [str (nsF sec a d day), str x]) rfl rfl h2 (show s.next + 1 + 1 < s4.next by omega) rfl rfl fun s5 e5 c5 n5 => ?_
            (repeat(first|refine sb ?_|refine gOn rfl ?_|refine gOff rfl rfl ?_|refine gTup rfl ?_))
            (repeat (first | with_reducible refine sqRet ?_ | with_reducible refine bkRet ?_ | with_reducible refine hdRet ?_))
            exact ret_cell agg_Ad sz_Ad rfl e5 rfl rfl ⟨rfl, c4.fresh c5 (by simp; omega)⟩
end Go.Vf.S
end
section
/- Senders as the law makes them: what a letter is turned into: the closure. -/
namespace Go.Vf.S
open Go Go.Vf Go.Proofs Go.RowKit
set_option linter.unusedVariables false
set_option linter.unusedSimpArgs false
end Go.Vf.S

/- Senders as the law makes them. -/
namespace Go.Vf.S
open Go Go.Vf Go.Proofs Go.RowKit
attribute [local irreducible] wSeq wRow wp wG
set_option linter.unusedVariables false
set_option linter.unusedSimpArgs false
set_option maxRecDepth 10000

attribute [local irreducible] hmac tellF pstF tagF agF mayF domF cmayF nsF oursF
theorem min_take {l : List UInt8} {m : Nat} : l.take (min l.length m) = l.take m := by
  rcases Nat.lt_or_ge l.length m with h | h
  · rw [Nat.min_eq_left (by omega), List.take_of_length_le (Nat.le_refl _), List.take_of_length_le (by omega)]
  · rw [Nat.min_eq_right h]
end Go.Vf.S
end
section
/- Senders written anew: reverse. -/
namespace Go.Vf.S
open Go Go.Vf Go.Proofs Go.RowKit
attribute [local irreducible] wSeq wRow wp wG hmac tellF pstF tagF agF mayF domF cmayF nsF oursF isF
set_option linter.unusedVariables false
set_option linter.unusedSimpArgs false
set_option maxRecDepth 10000

abbrev rwV (r : List UInt8 × List UInt8 × Nat) : Value := .tuple ⟨[adV r.1 r.2.1, .int .i64 r.2.2]⟩
theorem rev_arg {c : Cdr} {a d : List UInt8} {day : Int} (h : cmayF c = false ∨ mayF a d = false) : revF c a d day = ([], [], 1) := by unfold revF; rw [if_pos h]
theorem rev_none {c : Cdr} {a d : List UInt8} {day : Int} (h : cmayF c = true) (h1 : mayF a d = true) (h2 : isF c a d = false) : revF c a d day = ([], [], 6) := by unfold revF; rw [if_neg (by rw [h, h1]; simp), if_pos h2]
theorem rev_go {c : Cdr} {a d : List UInt8} {day : Int} (h : cmayF c = true) (h1 : mayF a d = true) (h2 : isF c a d = true) : revF c a d day = revK c (if begF 1 a = true then 1 else 0) a day := by unfold revF; rw [if_neg (by rw [h, h1]; simp), if_neg (by rw [h2]; simp)]
/-- What leads back, told of what was read. -/
theorem rev_read {c : Cdr} {a d : List UInt8} {day : Int} (hi : isF c a d = true) : (readW a = none ∧ revK c (if begF 1 a = true then 1 else 0) a day = ([], [], 5)) ∨
    ∃ k x, k < 2 ∧ readW a = some (k, x) ∧ readS k a = some x ∧ revK c (if begF 1 a = true then 1 else 0) a day = revK c k a day := by
  have hb : begF 0 a = true ∨ begF 1 a = true := by
    unfold isF at hi
    rw [Bool.and_eq_true, Bool.or_eq_true] at hi
    exact hi.2
  rcases hb with hb | hb
  · rw [beg_one hb, if_neg (by decide), readW_0 hb]
    cases h : readS 0 a with
    | none => exact .inl ⟨rfl, revK_no h⟩
    | some x => exact .inr ⟨0, x, by decide, rfl, h, rfl⟩
  · rw [if_pos hb, readW_1 hb]
    cases h : readS 1 a with
    | none => exact .inl ⟨rfl, revK_no h⟩
    | some x => exact .inr ⟨1, x, by decide, rfl, h, rfl⟩
theorem bk_to {k : Nat} (x : Sd) (hk : k < 2) : bkF (srsU k) x.rest = toF k x := by
  unfold bkF
  rcases (show k = 0 ∨ k = 1 by omega) with rfl | rfl
  · rw [if_neg srsU_ne.2, toF_0]
  · rw [if_pos rfl, toF_1]; rfl
theorem revK_form {c : Cdr} {k : Nat} {a : List UInt8} {day : Int} {x : Sd} (h : readS k a = some x) (hm : mayF (toF k x) x.dom = false) : revK c k a day = ([], [], 5) := by rw [revK_at h, hm, if_pos rfl]
theorem kd_0 {k : Nat} (hk : k < 2) : srsU k = srsU 0 ↔ k = 0 := by
  rcases (show k = 0 ∨ k = 1 by omega) with rfl | rfl
  · simp
  · simp [srsU_ne.1]

set_option maxHeartbeats 4000000 in
theorem reverse_w {s : SS} {sec a d : List UInt8} {W : Option Addr} {cw : Nat} {ds : List (List UInt8)} {day : Int} (hG : Gk s) (hF : Fine s) (hdm : DomAt s W cw ds) (hs : sec.length ≤ 1000) (hsm : SmallD ds) (hal : a.length ≤ 1000) (hdl : d.length ≤ 1000) (hd : day ≤ 9223372036854775807) :
    CallW pr n_srs_Coder_Reverse [cdV sec W ds.length cw, adV a d, .int .i64 day] s fun v s' => v = rwV (revF ⟨sec, ds⟩ a d day) ∧ Chg s s' [] := by
  refine CallW.run good ok_srs_Coder_Reverse (by simp) rfl ?_
  obtain ⟨h0, h1, h2, c0, f0⟩ := new3_at hF (.cells [str sec, .slice W ds.length cw] tCo false false) (.cells [str a, str d] tAd false false) (.cells [str [], str []] tAd false false)
  (try refine pSeq ?_); (repeat(first|refine sb ?_|refine kNo ?_|refine gOn rfl ?_|refine gOff rfl rfl ?_|refine gTup rfl ?_))
  refine ldN_is rfl h0 rfl ?_
  (repeat(first|refine sb ?_|refine kNo ?_|refine gOn rfl ?_|refine gOff rfl rfl ?_|refine gTup rfl ?_))
  refine (cmay_w f0 (hdm.chg c0 (by simp)) hs hsm).mono fun v s1 q => ?_
  obtain ⟨rfl, c1⟩ := q
  have f1 := c1.fine f0
  replace h0 := c1.blk _ _ (show s.next < s.next + 1 + 1 + 1 by omega) (by simp) h0
  replace h1 := c1.blk _ _ (show s.next + 1 < s.next + 1 + 1 + 1 by omega) (by simp) h1
  replace h2 := c1.blk _ _ (show s.next + 1 + 1 < s.next + 1 + 1 + 1 by omega) (by simp) h2
  have n1 := c1.next
  replace n1 : s.next + 1 + 1 + 1 ≤ s1.next := n1
  replace c1 := c0.nil c1
  clear c0 f0
  (repeat(first|refine sb ?_|refine kNo ?_|refine gOn rfl ?_|refine gOff rfl rfl ?_|refine gTup rfl ?_))
  intro q hq
  cases hcm : cmayF ⟨sec, ds⟩ with
  | false =>
    obtain rfl : q = true := by rw [hq, hcm]; rfl
    rw [rev_arg (.inl hcm)]
    (repeat(first|refine sb ?_|refine kNo ?_|refine gOn rfl ?_|refine gOff rfl rfl ?_|refine gTup rfl ?_))
    refine st_abs (cs' := [str [], str []]) rfl rfl h2 (show s.next + 1 + 1 < s1.next by omega) rfl rfl fun s2 e2 c2 n2 => ?_
    (repeat(first|refine sb ?_|refine kNo ?_|refine gOn rfl ?_|refine gOff rfl rfl ?_|refine gTup rfl ?_))
    (repeat (first | with_reducible refine sqRet ?_ | with_reducible refine bkRet ?_ | with_reducible refine hdRet ?_))
    exact ret_cell agg_Ad sz_Ad rfl e2 rfl rfl ⟨rfl, c1.fresh c2 (by simp; omega)⟩
  | true =>
    obtain rfl : q = false := by rw [hq, hcm]; rfl
    (repeat(first|refine sb ?_|refine kNo ?_|refine gOn rfl ?_|refine gOff rfl rfl ?_|refine gTup rfl ?_))
    refine ldN_is rfl h1 rfl ?_
    (repeat(first|refine sb ?_|refine kNo ?_|refine gOn rfl ?_|refine gOff rfl rfl ?_|refine gTup rfl ?_))
    refine (may_w (a := a) (d := d) (by omega) (by omega)).mono fun v s2 q => ?_
    obtain ⟨rfl, c2⟩ := q
    have f2 := c2.fine f1
    replace h0 := c2.blk _ _ (show s.next < s1.next by omega) (by simp) h0
    replace h1 := c2.blk _ _ (show s.next + 1 < s1.next by omega) (by simp) h1
    replace h2 := c2.blk _ _ (show s.next + 1 + 1 < s1.next by omega) (by simp) h2
    have n2 := c2.next
    replace c2 := c1.nil c2
    clear c1 f1
    (repeat(first|refine sb ?_|refine kNo ?_|refine gOn rfl ?_|refine gOff rfl rfl ?_|refine gTup rfl ?_))
    intro q hq
    cases hm : mayF a d with
    | false =>
      obtain rfl : q = true := by rw [hq, hm]; rfl
      rw [rev_arg (.inr hm)]
      (repeat(first|refine sb ?_|refine kNo ?_|refine gOn rfl ?_|refine gOff rfl rfl ?_|refine gTup rfl ?_))
      refine st_abs (cs' := [str [], str []]) rfl rfl h2 (show s.next + 1 + 1 < s2.next by omega) rfl rfl fun s3 e3 c3 n3 => ?_
      (repeat(first|refine sb ?_|refine kNo ?_|refine gOn rfl ?_|refine gOff rfl rfl ?_|refine gTup rfl ?_))
      (repeat (first | with_reducible refine sqRet ?_ | with_reducible refine bkRet ?_ | with_reducible refine hdRet ?_))
      exact ret_cell agg_Ad sz_Ad rfl e3 rfl rfl ⟨rfl, c2.fresh c3 (by simp; omega)⟩
    | true =>
      obtain rfl : q = false := by rw [hq, hm]; rfl
      (repeat(first|refine sb ?_|refine kNo ?_|refine gOn rfl ?_|refine gOff rfl rfl ?_|refine gTup rfl ?_))
      refine ldN_is rfl h0 rfl ?_
      (repeat(first|refine sb ?_|refine kNo ?_|refine gOn rfl ?_|refine gOff rfl rfl ?_|refine gTup rfl ?_))
      refine ldN_is rfl h1 rfl ?_
      (repeat(first|refine sb ?_|refine kNo ?_|refine gOn rfl ?_|refine gOff rfl rfl ?_|refine gTup rfl ?_))
      refine (is_w f2 (hdm.chg c2 (by simp)) hsm.1 (by omega) (by omega)).mono fun v s3 q => ?_
      obtain ⟨rfl, c3⟩ := q
      have f3 := c3.fine f2
      replace h0 := c3.blk _ _ (show s.next < s2.next by omega) (by simp) h0
      replace h1 := c3.blk _ _ (show s.next + 1 < s2.next by omega) (by simp) h1
      replace h2 := c3.blk _ _ (show s.next + 1 + 1 < s2.next by omega) (by simp) h2
      have n3 := c3.next
      replace c3 := c2.nil c3
      clear c2 f2
      (repeat(first|refine sb ?_|refine kNo ?_|refine gOn rfl ?_|refine gOff rfl rfl ?_|refine gTup rfl ?_))
      intro q hq
      cases hi : isF ⟨sec, ds⟩ a d with
      | false =>
        obtain rfl : q = true := by rw [hq, hi]; rfl
        rw [rev_none hcm hm hi]
        (repeat(first|refine sb ?_|refine kNo ?_|refine gOn rfl ?_|refine gOff rfl rfl ?_|refine gTup rfl ?_))
        refine st_abs (cs' := [str [], str []]) rfl rfl h2 (show s.next + 1 + 1 < s3.next by omega) rfl rfl fun s4 e4 c4 n4 => ?_
        (repeat(first|refine sb ?_|refine kNo ?_|refine gOn rfl ?_|refine gOff rfl rfl ?_|refine gTup rfl ?_))
        (repeat (first | with_reducible refine sqRet ?_ | with_reducible refine bkRet ?_ | with_reducible refine hdRet ?_))
        exact ret_cell agg_Ad sz_Ad rfl e4 rfl rfl ⟨rfl, c3.fresh c4 (by simp; omega)⟩
      | true =>
        obtain rfl : q = false := by rw [hq, hi]; rfl
        rw [rev_go hcm hm hi]
        (repeat(first|refine sb ?_|refine kNo ?_|refine gOn rfl ?_|refine gOff rfl rfl ?_|refine gTup rfl ?_))
        refine ldS_is rfl h1 rfl ?_
        (repeat(first|refine sb ?_|refine kNo ?_|refine gOn rfl ?_|refine gOff rfl rfl ?_|refine gTup rfl ?_))
        refine (sread_w f3 (l := a) (by omega)).mono fun v s4 q => ?_
        obtain ⟨rfl, c4⟩ := q
        have f4 := c4.fine f3
        replace h0 := c4.blk _ _ (show s.next < s3.next by omega) (by simp) h0
        replace h2 := c4.blk _ _ (show s.next + 1 + 1 < s3.next by omega) (by simp) h2
        have n4 := c4.next
        replace c4 := c3.nil c4
        clear c3 f3 h1
        rcases rev_read (c := ⟨sec, ds⟩) (day := day) hi with ⟨hW, hK⟩ | ⟨k, x, hk, hW, hS, hK⟩
        · rw [hW, hK]
          obtain ⟨k0, k1, k2⟩ := new1_at f4 (.cells (strV [[], [], [], [], []]) tWr false false)
          (repeat(first|refine sb ?_|refine kNo ?_|refine gOn rfl ?_|refine gOff rfl rfl ?_|refine gTup rfl ?_))
          refine st_abs (cs' := strV [[], [], [], [], []]) rfl rfl k0 (Nat.lt_succ_self _) rfl rfl fun s5 e5 c5 n5 => ?_
          replace h2 := c5.blk _ _ (show s.next + 1 + 1 < s4.next + 1 by omega) (by simp; omega) (k1.blk _ _ (show s.next + 1 + 1 < s4.next by omega) (by simp) h2)
          replace n5 : s5.next = s4.next + 1 := n5
          replace c5 : Chg s s5 [] := c4.nil (k1.fresh c5 (by simp))
          have f5 := c5.fine hF
          (repeat(first|refine sb ?_|refine kNo ?_|refine gOn rfl ?_|refine gOff rfl rfl ?_|refine gTup rfl ?_))
          refine ldN_is rfl e5 rfl ?_
          (repeat(first|refine sb ?_|refine kNo ?_|refine gOn rfl ?_|refine gOff rfl rfl ?_|refine gTup rfl ?_))
          refine (sback_w f5 (by simp)).mono fun v s6 q => ?_
          obtain ⟨rfl, c6⟩ := q
          have f6 := c6.fine f5
          replace h2 := c6.blk _ _ (show s.next + 1 + 1 < s5.next by omega) (by simp) h2
          have n6 := c6.next
          obtain ⟨k0, k1, k2⟩ := new1_at f6 (.cells [str [], str []] tAd false false)
          (repeat(first|refine sb ?_|refine kNo ?_|refine gOn rfl ?_|refine gOff rfl rfl ?_|refine gTup rfl ?_))
          refine st_abs (cs' := [str (bkF [] []), str []]) rfl rfl k0 (Nat.lt_succ_self _) rfl rfl fun s7 e7 c7 n7 => ?_
          replace h2 := c7.blk _ _ (show s.next + 1 + 1 < s6.next + 1 by omega) (by simp; omega) (k1.blk _ _ (show s.next + 1 + 1 < s6.next by omega) (by simp) h2)
          replace n7 : s7.next = s6.next + 1 := n7
          replace c7 : Chg s s7 [] := (c5.nil c6).nil (k1.fresh c7 (by simp))
          (repeat(first|refine sb ?_|refine kNo ?_|refine gOn rfl ?_|refine gOff rfl rfl ?_|refine gTup rfl ?_))
          intro q hq
          obtain rfl : q = true := by rw [hq]; rfl
          (repeat(first|refine sb ?_|refine kNo ?_|refine gOn rfl ?_|refine gOff rfl rfl ?_|refine gTup rfl ?_))
          refine st_abs (cs' := [str [], str []]) rfl rfl h2 (show s.next + 1 + 1 < s7.next by omega) rfl rfl fun s8 e8 c8 n8 => ?_
          (repeat(first|refine sb ?_|refine kNo ?_|refine gOn rfl ?_|refine gOff rfl rfl ?_|refine gTup rfl ?_))
          (repeat (first | with_reducible refine sqRet ?_ | with_reducible refine bkRet ?_ | with_reducible refine hdRet ?_))
          exact ret_cell agg_Ad sz_Ad rfl e8 rfl rfl ⟨rfl, c7.fresh c8 (by simp; omega)⟩
        · rw [hW, hK]
          obtain ⟨x1, x2, x3, x4⟩ := readS_len hS
          obtain ⟨k0, k1, k2⟩ := new1_at f4 (.cells (strV [[], [], [], [], []]) tWr false false)
          (repeat(first|refine sb ?_|refine kNo ?_|refine gOn rfl ?_|refine gOff rfl rfl ?_|refine gTup rfl ?_))
          refine st_abs (cs' := strV [srsU k, x.tag, x.st, x.dom, x.rest]) rfl rfl k0 (Nat.lt_succ_self _) rfl rfl fun s5 e5 c5 n5 => ?_
          replace h0 := c5.blk _ _ (show s.next < s4.next + 1 by omega) (by simp; omega) (k1.blk _ _ (show s.next < s4.next by omega) (by simp) h0)
          replace h2 := c5.blk _ _ (show s.next + 1 + 1 < s4.next + 1 by omega) (by simp; omega) (k1.blk _ _ (show s.next + 1 + 1 < s4.next by omega) (by simp) h2)
          replace n5 : s5.next = s4.next + 1 := n5
          replace c5 : Chg s s5 [] := c4.nil (k1.fresh c5 (by simp))
          have f5 := c5.fine hF
          clear c4 f4 k0 k1 k2
          (repeat(first|refine sb ?_|refine kNo ?_|refine gOn rfl ?_|refine gOff rfl rfl ?_|refine gTup rfl ?_))
          refine ldN_is rfl e5 (show _ = some (strV [srsU k, x.tag, x.st, x.dom, x.rest]) from rfl) ?_
          (repeat(first|refine sb ?_|refine kNo ?_|refine gOn rfl ?_|refine gOff rfl rfl ?_|refine gTup rfl ?_))
          refine (sback_w f5 (by omega)).mono fun v s6 q => ?_
          obtain ⟨rfl, c6⟩ := q
          rw [bk_to x hk]
          have htl : (toF k x).length ≤ 4 + a.length := by
            rw [← bk_to x hk]
            unfold bkF
            split
            · rw [List.length_append]; have : (srsU 0).length = 4 := rfl; omega
            · omega
          have f6 := c6.fine f5
          replace h0 := c6.blk _ _ (show s.next < s5.next by omega) (by simp) h0
          replace h2 := c6.blk _ _ (show s.next + 1 + 1 < s5.next by omega) (by simp) h2
          replace e5 := c6.blk _ _ (show s4.next < s5.next by omega) (by simp) e5
          have n6 := c6.next
          obtain ⟨k0, k1, k2⟩ := new1_at f6 (.cells [str [], str []] tAd false false)
          (repeat(first|refine sb ?_|refine kNo ?_|refine gOn rfl ?_|refine gOff rfl rfl ?_|refine gTup rfl ?_))
          refine st_abs (cs' := [str (toF k x), str x.dom]) rfl rfl k0 (Nat.lt_succ_self _) rfl rfl fun s7 e7 c7 n7 => ?_
          replace h0 := c7.blk _ _ (show s.next < s6.next + 1 by omega) (by simp; omega) (k1.blk _ _ (show s.next < s6.next by omega) (by simp) h0)
          replace h2 := c7.blk _ _ (show s.next + 1 + 1 < s6.next + 1 by omega) (by simp; omega) (k1.blk _ _ (show s.next + 1 + 1 < s6.next by omega) (by simp) h2)
          replace e5 := c7.blk _ _ (show s4.next < s6.next + 1 by omega) (by simp; omega) (k1.blk _ _ (show s4.next < s6.next by omega) (by simp) e5)
          replace n7 : s7.next = s6.next + 1 := n7
          replace c7 : Chg s s7 [] := (c5.nil c6).nil (k1.fresh c7 (by simp))
          have f7 := c7.fine hF
          clear c5 f5 c6 f6 k0 k1 k2
          (repeat(first|refine sb ?_|refine kNo ?_|refine gOn rfl ?_|refine gOff rfl rfl ?_|refine gTup rfl ?_))
          intro q hq
          obtain rfl : q = false := by rw [hq]; rfl
          (repeat(first|refine sb ?_|refine kNo ?_|refine gOn rfl ?_|refine gOff rfl rfl ?_|refine gTup rfl ?_))
          refine ldN_is rfl e7 rfl ?_
          (repeat(first|refine sb ?_|refine kNo ?_|refine gOn rfl ?_|refine gOff rfl rfl ?_|refine gTup rfl ?_))
          refine (may_w (a := toF k x) (d := x.dom) (by omega) (by omega)).mono fun v s8 q => ?_
          obtain ⟨rfl, c8⟩ := q
          have f8 := c8.fine f7
          replace h0 := c8.blk _ _ (show s.next < s7.next by omega) (by simp) h0
          replace h2 := c8.blk _ _ (show s.next + 1 + 1 < s7.next by omega) (by simp) h2
          replace e5 := c8.blk _ _ (show s4.next < s7.next by omega) (by simp) e5
          replace e7 := c8.blk _ _ (show s6.next < s7.next by omega) (by simp) e7
          have n8 := c8.next
          replace c8 := c7.nil c8
          clear c7 f7
          (repeat(first|refine sb ?_|refine kNo ?_|refine gOn rfl ?_|refine gOff rfl rfl ?_|refine gTup rfl ?_))
          intro q hq
          cases hm2 : mayF (toF k x) x.dom with
          | false =>
            obtain rfl : q = true := by rw [hq, hm2]; rfl
            rw [revK_form hS hm2]
            (repeat(first|refine sb ?_|refine kNo ?_|refine gOn rfl ?_|refine gOff rfl rfl ?_|refine gTup rfl ?_))
            refine st_abs (cs' := [str [], str []]) rfl rfl h2 (show s.next + 1 + 1 < s8.next by omega) rfl rfl fun s9 e9 c9 n9 => ?_
            (repeat(first|refine sb ?_|refine kNo ?_|refine gOn rfl ?_|refine gOff rfl rfl ?_|refine gTup rfl ?_))
            (repeat (first | with_reducible refine sqRet ?_ | with_reducible refine bkRet ?_ | with_reducible refine hdRet ?_))
            exact ret_cell agg_Ad sz_Ad rfl e9 rfl rfl ⟨rfl, c8.fresh c9 (by simp; omega)⟩
          | true =>
            obtain rfl : q = false := by rw [hq, hm2]; rfl
            (repeat(first|refine sb ?_|refine kNo ?_|refine gOn rfl ?_|refine gOff rfl rfl ?_|refine gTup rfl ?_))
            refine ldS_is rfl e5 rfl ?_
            (repeat(first|refine sb ?_|refine kNo ?_|refine gOn rfl ?_|refine gOff rfl rfl ?_|refine gTup rfl ?_))
            refine ldN_is rfl h0 rfl ?_
            (repeat(first|refine sb ?_|refine kNo ?_|refine gOn rfl ?_|refine gOff rfl rfl ?_|refine gTup rfl ?_))
            refine ldS_is rfl e5 rfl ?_
            (repeat(first|refine sb ?_|refine kNo ?_|refine gOn rfl ?_|refine gOff rfl rfl ?_|refine gTup rfl ?_))
            refine ldS_is rfl e5 rfl ?_
            (repeat(first|refine sb ?_|refine kNo ?_|refine gOn rfl ?_|refine gOff rfl rfl ?_|refine gTup rfl ?_))
            refine ldS_is rfl e5 rfl ?_
            (repeat(first|refine sb ?_|refine kNo ?_|refine gOn rfl ?_|refine gOff rfl rfl ?_|refine gTup rfl ?_))
            refine mkS_is rfl rfl (rNew f8.at ?_)
            obtain ⟨m0, m1, m2⟩ := new1_at f8 (.cells (strV [x.st, x.dom, x.rest]) tS false false)
            have efl : [x.st, x.dom, x.rest].flatten = x.st ++ x.dom ++ x.rest := by simp
            (repeat(first|refine sb ?_|refine kNo ?_|refine gOn rfl ?_|refine gOff rfl rfl ?_|refine gTup rfl ?_))
            refine (tag_w (sec := sec) (ls := [x.st, x.dom, x.rest]) (hG.nil (c8.nil m1)) m2 ⟨Nat.lt_succ_self s8.next, m0⟩ hs (by simp) (by simp) (by rw [efl]; simp only [List.length_append]; omega)).mono fun v s9 q => ?_
            obtain ⟨rfl, c9⟩ := q
            rw [efl]
            have h4 := tag_4 sec (x.st ++ x.dom ++ x.rest)
            have f9 := c9.fine m2
            have c89 := m1.nil c9
            replace h0 := c89.blk _ _ (show s.next < s8.next by omega) (by simp) h0
            replace h2 := c89.blk _ _ (show s.next + 1 + 1 < s8.next by omega) (by simp) h2
            replace e5 := c89.blk _ _ (show s4.next < s8.next by omega) (by simp) e5
            replace e7 := c89.blk _ _ (show s6.next < s8.next by omega) (by simp) e7
            have n9 := c89.next
            replace c89 := c8.nil c89
            refine kAll (c9.keep m2) ?_
            (repeat(first|refine sb ?_|refine kNo ?_|refine gOn rfl ?_|refine gOff rfl rfl ?_|refine gTup rfl ?_))
            refine (same_w (l := x.tag) (t := tagF sec (x.st ++ x.dom ++ x.rest)) (by omega) (by omega)).mono fun v s10 q => ?_
            obtain ⟨rfl, c10⟩ := q
            have f10 := c10.fine f9
            replace h0 := c10.blk _ _ (show s.next < s9.next by omega) (by simp) h0
            replace h2 := c10.blk _ _ (show s.next + 1 + 1 < s9.next by omega) (by simp) h2
            replace e5 := c10.blk _ _ (show s4.next < s9.next by omega) (by simp) e5
            replace e7 := c10.blk _ _ (show s6.next < s9.next by omega) (by simp) e7
            have n10 := c10.next
            replace c10 := c89.nil c10
            clear c89 c8 f8 f9 m0 m1 m2 c9
            refine kNo ?_
            (repeat(first|refine sb ?_|refine kNo ?_|refine gOn rfl ?_|refine gOff rfl rfl ?_|refine gTup rfl ?_))
            intro q hq
            by_cases ht : low x.tag = low (tagF sec (x.st ++ x.dom ++ x.rest))
            case neg =>
              obtain rfl : q = true := by rw [hq]; exact (congrArg not (decide_eq_false ht))
              rw [revK_check hS hm2 ht]
              (repeat(first|refine sb ?_|refine kNo ?_|refine gOn rfl ?_|refine gOff rfl rfl ?_|refine gTup rfl ?_))
              refine st_abs (cs' := [str [], str []]) rfl rfl h2 (show s.next + 1 + 1 < s10.next by omega) rfl rfl fun s11 e11 c11 n11 => ?_
              (repeat(first|refine sb ?_|refine kNo ?_|refine gOn rfl ?_|refine gOff rfl rfl ?_|refine gTup rfl ?_))
              (repeat (first | with_reducible refine sqRet ?_ | with_reducible refine bkRet ?_ | with_reducible refine hdRet ?_))
              exact ret_cell agg_Ad sz_Ad rfl e11 rfl rfl ⟨rfl, c10.fresh c11 (by simp; omega)⟩
            obtain rfl : q = false := by rw [hq]; exact (congrArg not (decide_eq_true ht))
            (repeat(first|refine sb ?_|refine kNo ?_|refine gOn rfl ?_|refine gOff rfl rfl ?_|refine gTup rfl ?_))
            refine ldN_is rfl e5 (show _ = some (strV [srsU k, x.tag, x.st, x.dom, x.rest]) from rfl) ?_
            (repeat(first|refine sb ?_|refine kNo ?_|refine gOn rfl ?_|refine gOff rfl rfl ?_|refine gTup rfl ?_))
            refine (sold_w f10 (by omega) hd).mono fun v s11 q => ?_
            obtain ⟨rfl, c11⟩ := q
            replace h2 := c11.blk _ _ (show s.next + 1 + 1 < s10.next by omega) (by simp) h2
            replace e7 := c11.blk _ _ (show s6.next < s10.next by omega) (by simp) e7
            have n11 := c11.next
            replace c11 := c10.nil c11
            cases ho : oldF (srsU k) x.st day with
            | true =>
              unfold oldF at ho
              obtain ⟨o1, o2⟩ := of_decide_eq_true ho
              obtain rfl := (kd_0 hk).1 o1
              rw [revK_old hS hm2 ht rfl o2]
              (repeat(first|refine sb ?_|refine kNo ?_|refine gOn rfl ?_|refine gOff rfl rfl ?_|refine gTup rfl ?_))
              refine st_abs (cs' := [str [], str []]) rfl rfl h2 (show s.next + 1 + 1 < s11.next by omega) rfl rfl fun s12 e12 c12 n12 => ?_
              (repeat(first|refine sb ?_|refine kNo ?_|refine gOn rfl ?_|refine gOff rfl rfl ?_|refine gTup rfl ?_))
              (repeat (first | with_reducible refine sqRet ?_ | with_reducible refine bkRet ?_ | with_reducible refine hdRet ?_))
              exact ret_cell agg_Ad sz_Ad rfl e12 rfl rfl ⟨rfl, c11.fresh c12 (by simp; omega)⟩
            | false =>
              unfold oldF at ho
              have o1 := of_decide_eq_false ho
              rw [revK_ok hS hm2 ht rfl (fun q => o1 ⟨(kd_0 hk).2 q.1, q.2⟩)]
              (repeat(first|refine sb ?_|refine kNo ?_|refine gOn rfl ?_|refine gOff rfl rfl ?_|refine gTup rfl ?_))
              refine ldN_is rfl e7 rfl ?_
              (repeat(first|refine sb ?_|refine kNo ?_|refine gOn rfl ?_|refine gOff rfl rfl ?_|refine gTup rfl ?_))
              refine st_abs (cs' := [str (toF k x), str x.dom]) rfl rfl h2 (show s.next + 1 + 1 < s11.next by omega) rfl rfl fun s12 e12 c12 n12 => ?_
              (repeat(first|refine sb ?_|refine kNo ?_|refine gOn rfl ?_|refine gOff rfl rfl ?_|refine gTup rfl ?_))
              (repeat (first | with_reducible refine sqRet ?_ | with_reducible refine bkRet ?_ | with_reducible refine hdRet ?_))
              exact ret_cell agg_Ad sz_Ad rfl e12 rfl rfl ⟨rfl, c11.fresh c12 (by simp; omega)⟩
end Go.Vf.S
end
section
/- What the rows of the seat have in common: no law of them reads a listed variable here. -/
namespace Go.Vf.S
open Go Go.Vf Go.Proofs Go.Proofs.YtgddphciejoljaaGreatDoor Go.RowKit Go.ChangeShapes
theorem own : ownKnob pr.godebug = none := by kernel_rfl
end Go.Vf.S
end
section
/- A wrap that keeps the world's shape beside what is laid. -/
namespace Go.Vf.S
open Go Go.Vf Go.Proofs Go.Proofs.YtgddphciejoljaaGreatDoor Go.RowKit Go.ChangeShapes
set_option linter.unusedVariables false
set_option linter.unusedSimpArgs false

theorem hand_shaped {H : Type} {enc : TypeId × Value → H} {a : Assume} {C : Checked} {os : Os} {f : FuncId} {fn : Func} {s : ChangeSpec} {conds : List PathCond} {apart fresh handsOn again : Bool} {X : World → Array Value → Prop}
    (hX : ∀ (w w' : World) (args : Array Value), w.heap = w'.heap → X w args → X w' args) (own : ownKnob C.prog.godebug = none) (started : os.Started) (noInit : C.prog.inits.idxOf? f = none) (hfn : C.prog.funcs[f]? = some fn)
    (witness : ∃ (w : World) (tape : Tape) (i : Input), w.os = os ∧ (w.forCall tape i).Shaped C.prog ∧ i.vars = [] ∧ Input.okWide C.prog (w.forCall tape i) .any w.heap.size f i ∧
      ((s.pre enc C.prog fn conds apart (w.forCall tape i).memory i.args ∧ X (w.forCall tape i).memory i.args) ∧ sizedMet enc C.prog fn (OpenSpec.ofChange s) apart (w.forCall tape i).memory i.args) ∧ a.holds C.prog (lone (Frame.enter C.prog f i.args .normal) [] (w.forCall tape i)))
    (contract : ∀ (W : World) (base : Nat) (args : Array Value) (ds gs : List (DataW H)) (before : List MemPlace), (∀ (j : Nat) t v, fn.params[j]? = some t → args[j]? = some v → Value.okWide C.prog W .any base t v) →
      DataW.Whole enc C.prog fn.params.toList s.vars apart W args.toList ds gs before → X W args → W.ShapedOpen C.prog → Calls C.prog f args W fun e W' => ∃ v, e = .returned v ∧ s.post enc C.prog fn apart fresh handsOn again W args v W') :
    ReturnsInHanded a C os f .any (fun w args => (s.pre enc C.prog fn conds apart w args ∧ X w args) ∧ sizedMet enc C.prog fn (OpenSpec.ofChange s) apart w args) (s.post enc C.prog fn apart fresh handsOn again) := by
  refine returnsInHanded_of_calls own started noInit witness ?_
  intro w tape i _ hsh _ hok hpre _
  obtain ⟨_, _, _, fn', hfn', _, _, _, _, hval⟩ := hok
  obtain rfl : fn' = fn := Option.some.inj (hfn'.symm.trans hfn)
  obtain ⟨⟨⟨ds, gs, before, hw, _⟩, hx⟩, _⟩ := hpre
  refine (contract (w.forCall tape i) w.heap.size i.args ds gs before hval (DataW.Whole.of_heap (w' := w.forCall tape i) (by rfl) hw) (hX _ _ _ (by rfl) hx) hsh).mono fun e W' ⟨v, he, hp⟩ => ?_
  subst he
  exact ChangeSpec.post_blind hp
end Go.Vf.S
end
section
/- The kinds' table, as the rows lay it; a start that knows it, and what is handed in. -/
namespace Go.Vf.S
open Go Go.Vf Go.Proofs Go.Proofs.YtgddphciejoljaaGreatDoor Go.RowKit Go.ChangeShapes
set_option linter.unusedVariables false
set_option linter.unusedSimpArgs false
set_option maxRecDepth 10000

theorem tab_core11 {W : World} {name : String} {g es : Nat} {t : TypeId} {cs : Array Value} {V : List Value} (hg : pr.globalNamed name = some g) (hv : W.var? pr name = some cs) (hcs : cs.toList = V) (hz : ∃ c t0, W.heap[g]? = some (.cells c t0 (0, 0))) (he : (pr.info? t).map (·.size) = some es) (hp : V.all plain1 = true) :
    GoodB pr W ⟨g, 0, V.length, es, false⟩ (.cells V t false true) := by
  obtain ⟨c, t0, hblk⟩ := hz
  have hc : c = ⟨V⟩ := by
    unfold World.var? at hv
    rw [hg] at hv
    simp only [Option.bind_some, hblk, Option.some.injEq] at hv
    rw [hv]
    exact Array.toList_inj.1 hcs
  subst hc
  refine ⟨fun ρ => ⟨rfl, V, 0, 0, t0, hblk, (fun z => by cases z), (fun i _ hh => by omega), by show 0 + V.length ≤ V.length; omega, Nat.le_refl _, he, fun i v hi => ⟨v, by simpa using hi, plain1_rel ?_⟩⟩, rfl, ?_⟩
  · exact List.all_eq_true.1 hp v (List.mem_of_getElem? hi)
  · exact (Array.getElem?_eq_some_iff.1 hblk).1
def kOf (r : Nat) : Nat := if r = 0 then 5 else if r = 1 then 6 else 4
abbrev tK3 : TypeId := 78
theorem kinds_get {r j : Nat} (hr : r < 3) (hj : j < 4) : kindsV[r * 4 + j]? = (kV (kOf r))[j]? := by
  rcases (show r = 0 ∨ r = 1 ∨ r = 2 by omega) with rfl | rfl | rfl <;> rcases (show j = 0 ∨ j = 1 ∨ j = 2 ∨ j = 3 by omega) with rfl | rfl | rfl | rfl <;> rfl
theorem kd_core {W : World} {g : Nat} {t : TypeId} {cs : Array Value} {fuel : Nat} {p : List MemPlace} (hg : pr.globalNamed "postrider/coding.kinds" = some g) (ht : (pr.globals[g]?).map (·.type) = some t)
    (hd : DataW.trod (fun _ => ()) pr W 0 (fun _ => true) false fuel t cs.toList = some (Rows.laid_postrider_coding_kinds, p)) : g = gK ∧ cs.toList = kindsV := by
  obtain rfl := Option.some.inj ((show pr.globalNamed "postrider/coding.kinds" = some gK by kernel_rfl).symm.trans hg)
  obtain rfl := Option.some.inj ((show (pr.globals[gK]?).map (·.type) = some tK3 by kernel_rfl).symm.trans ht)
  refine ⟨rfl, ?_⟩
  obtain ⟨xs, m, _, ex, hlen, hl, hel⟩ := DataW.trod_array Tryz.underlying78 hd
  have c4 : pr.cellsOf tKd = 4 := by kernel_rfl
  have c59 : pr.cellsOf tK3 = 12 := by kernel_rfl
  have cS : pr.cellsOf 9 = 1 := by kernel_rfl
  have cU : pr.cellsOf 75 = 1 := by kernel_rfl
  have cI : pr.cellsOf 3 = 1 := by kernel_rfl
  have cB : pr.cellsOf 4 = 1 := by kernel_rfl
  have e3 : (xs.map (·.1)) = ((List.range 3).map fun i => (.agg [.lit (.string (lets (kOf i))), .lit (.int .u64 (kOf i : Nat)), .lit (.int .i64 (rowN (kOf i) : Nat)), .lit (.bool (decide (kOf i ≠ 6)))] : DataW Unit)) := (DataW.agg.inj (Prod.mk.inj ex).1).symm.trans (by kernel_rfl)
  have key : ∀ r, r < 3 → ∀ j, j < 4 → cs.toList[r * 4 + j]? = (kV (kOf r))[j]? := fun r hr j hj => by
    have hE := hel r hr
    rw [c4, List.getElem?_eq_getElem (by omega)] at hE
    obtain ⟨ys, n, _, ey, _, hyl, hf⟩ := DataW.trod_struct Tryz.underlying77 hE
    have hyl2 : ys.length = 4 := hyl
    have e4 : (xs.map (·.1))[r]? = ((List.range 3).map fun i => (.agg [.lit (.string (lets (kOf i))), .lit (.int .u64 (kOf i : Nat)), .lit (.int .i64 (rowN (kOf i) : Nat)), .lit (.bool (decide (kOf i ≠ 6)))] : DataW Unit))[r]? := by rw [e3]
    rw [List.getElem?_map, List.getElem?_map, List.getElem?_eq_getElem (by omega : r < xs.length), List.getElem?_range hr, ey] at e4
    simp only [Option.map_some, Option.some.injEq, DataW.agg.injEq] at e4
    match ys, hyl2 with
    | [y0, y1, y2, y3], _ =>
      have f0 := hf 0 _ rfl
      have f1 := hf 1 _ rfl
      have f2 := hf 2 _ rfl
      have f3 := hf 3 _ rfl
      simp only [List.map_cons, List.map_nil, List.cons.injEq, and_true] at e4
      obtain ⟨z0, a1, a2, _⟩ := DataW.trod_string Tryz.underlying9 f0
      obtain ⟨z1, b1, b2, _⟩ := DataW.trod_int Tryz.underlying75 f1
      obtain ⟨z2, d1, d2, _⟩ := DataW.trod_int Tryz.underlying3 f2
      obtain ⟨z3, g1, g2⟩ := DataW.trod_bool Tryz.underlying4 f3
      rw [a2, b2, d2, g2] at e4
      simp only [DataW.lit.injEq, Lit.string.injEq, Lit.int.injEq, Lit.bool.injEq, true_and] at e4
      have a3 : (((cs.toList.drop (r * 4)).take 4).drop 0).take (pr.cellsOf 9) = [.string z0] := a1
      have b3 : (((cs.toList.drop (r * 4)).take 4).drop 1).take (pr.cellsOf 75) = [.int .u64 z1] := b1
      have d3 : (((cs.toList.drop (r * 4)).take 4).drop 2).take (pr.cellsOf 3) = [.int .i64 z2] := d1
      have g3 : (((cs.toList.drop (r * 4)).take 4).drop 3).take (pr.cellsOf 4) = [.bool z3] := g1
      rw [cS] at a3
      rw [cU] at b3
      rw [cI] at d3
      rw [cB] at g3
      have a4 : ((((cs.toList.drop (r * 4)).take 4).drop 0).take 1)[0]? = some (.string z0) := by rw [a3]; rfl
      have b4 : ((((cs.toList.drop (r * 4)).take 4).drop 1).take 1)[0]? = some (.int .u64 z1) := by rw [b3]; rfl
      have d4 : ((((cs.toList.drop (r * 4)).take 4).drop 2).take 1)[0]? = some (.int .i64 z2) := by rw [d3]; rfl
      have g4 : ((((cs.toList.drop (r * 4)).take 4).drop 3).take 1)[0]? = some (.bool z3) := by rw [g3]; rfl
      simp only [List.getElem?_take, List.getElem?_drop, Nat.zero_lt_one, if_true, Nat.add_zero, Nat.zero_add, show (0 : Nat) < 4 from by decide, show (1 : Nat) < 4 from by decide, show (2 : Nat) < 4 from by decide, show (3 : Nat) < 4 from by decide] at a4 b4 d4 g4
      obtain ⟨q0, q1, q2, q3⟩ := e4
      rcases (show j = 0 ∨ j = 1 ∨ j = 2 ∨ j = 3 by omega) with rfl | rfl | rfl | rfl
      · rw [kv0, Nat.add_zero, a4, ← q0]
      · rw [kv1, b4, q1]
      · rw [kv2, d4, q2]
      · rw [kv3, g4, q3]
  have alen : kindsV.length = 12 := rfl
  refine List.ext_getElem? fun r => ?_
  rcases Nat.lt_or_ge r 12 with hr | hr
  · have h1 := key (r / 4) (by omega) (r % 4) (by omega)
    have h2 := kinds_get (r := r / 4) (j := r % 4) (by omega) (by omega)
    rw [show r / 4 * 4 + r % 4 = r by omega] at h1 h2
    rw [h1, h2]
  · rw [List.getElem?_eq_none (by rw [hlen, c59]; exact hr), List.getElem?_eq_none (by rw [alen]; exact hr)]
theorem row_in11 {ps : List MemPlace} {g n : Nat} {p q : List MemPlace} (h : ∀ x, x ∈ MemPlace.row ⟨g, 0, none⟩ n ++ p ++ q → x ∈ ps) (hi : 0 < n) : MemPlace.cell g 0 ∈ ps := by
  refine h _ ?_
  simp only [List.mem_append]
  left; left
  exact List.mem_map.2 ⟨0, List.mem_range.2 hi, by simp⟩
theorem size_of11 {cs : Array Value} {V : List Value} (h : cs.toList = V) (hV : 0 < V.length) : 0 < cs.size := by
  have := congrArg List.length h
  rw [Array.length_toList] at this
  omega
abbrev kE : RE := ⟨gK, 0, 12, 4, false⟩
abbrev kB : ABlk := .cells kindsV tKd false true
def laidC : List (String × DataW Unit) := [("unicode/utf8.acceptRanges", Rows.laid_unicode_utf8_acceptRanges), ("postrider/coding.kinds", Rows.laid_postrider_coding_kinds), ("unicode/utf8.first", Rows.laid_unicode_utf8_first)]
theorem kinds_good {W : World} {r : List (String × DataW Unit)} (h : laidMet pr (("unicode/utf8.acceptRanges", Rows.laid_unicode_utf8_acceptRanges) :: ("postrider/coding.kinds", Rows.laid_postrider_coding_kinds) :: r) W) : GoodB pr W kE kB := by
  obtain ⟨ps0, hL, _, hz⟩ := h
  obtain ⟨g0, t0, cs0, fuel0, p0, q0, _, _, _, _, hL1, hps0⟩ := hL
  obtain ⟨g1, t1, cs1, fuel1, p1, q1, hg1, ht1, hv1, hd1, hL2, hps1⟩ := hL1
  obtain ⟨rfl, e1⟩ := kd_core hg1 ht1 hd1
  have app := @List.mem_append_right MemPlace
  exact tab_core11 hg1 hv1 e1 (hz _ 0 (row_in11 (fun x hx => by rw [hps0, hps1]; exact app _ hx) (size_of11 e1 (by decide)))).1 (by kernel_rfl) (by kernel_rfl)
theorem tabsC {W : World} (h : laidMetH pr laidC W) : GoodB pr W kE kB := by
  rw [MakeChecks.laidMetH_plain _ _ _ (by kernel_rfl)] at h
  exact kinds_good h
/-! ### A start -/
abbrev bsC (xs : List (RE × ABlk)) : List (RE × ABlk) := (kE, kB) :: xs
theorem startC_rel {W : World} {xs : List (RE × ABlk)} (g : GoodB pr W kE kB) (h : GoodL pr W xs 1) : HRel pr W.heap.size W (renOf (bsC xs)) (startS (bsC xs) 1).st W ∧ FreeFrom (renOf (bsC xs)) (startS (bsC xs) 1).next ∧ Laid xs 1 (renOf (bsC xs)) ∧ LaidS xs 1 (startS (bsC xs) 1) ∧ Gk (startS (bsC xs) 1) ∧ Fine (startS (bsC xs) 1) := by
  have hl : Laid xs 1 (renOf (bsC xs)) := fun i x hi => by simp [renOf, Nat.add_comm 1 i, hi]
  obtain ⟨h1, h2⟩ := startS_rel (P := pr) (W := W) (bs := bsC xs) (gl := 1) (fun i e b hi => by
    cases i with
    | zero =>
      rw [List.getElem?_cons_zero] at hi
      cases hi
      exact ⟨g.1 _, g.2.1, g.2.2⟩
    | succ i =>
      rw [List.getElem?_cons_succ] at hi
      exact h _ hl i (e, b) hi) (fun k hk => by
    obtain rfl : k = 0 := by omega
    exact ⟨kE, kB, rfl, rfl, rfl⟩)
  refine ⟨h1, h2, hl, ⟨fun i x hi => ?_, Nat.le_of_eq (by show 1 + xs.length = (bsC xs).length; rw [List.length_cons, Nat.add_comm])⟩, ⟨by show gK < 1; decide, by show gK < (bsC xs).length; rw [List.length_cons]; exact Nat.zero_lt_succ _, rfl⟩, fun id hid => ?_⟩
  · simp [startS, heapOf_look, Nat.add_comm 1 i, hi]
  · have hid' : (bsC xs).length ≤ id := hid
    rw [List.length_cons] at hid'
    simp [startS, heapOf_look]
    omega
end Go.Vf.S
end
section
/- The coders that the laws make; the chapter's row. -/
namespace Go.Vf.S
open Go Go.Vf Go.Proofs Go.RowKit
attribute [local irreducible] wSeq wRow wp wG hmac tellF pstF tagF agF mayF domF cmayF nsF oursF isF fwdF revF
set_option linter.unusedVariables false
set_option linter.unusedSimpArgs false
set_option maxRecDepth 10000

theorem small_1 {d : List UInt8} (h : d.length ≤ 100) : SmallD [d] := ⟨by simp, fun x hx => by rw [List.mem_singleton.1 hx]; omega⟩
theorem sec_61 (x dm : List UInt8) : (cdr x dm).sec.length ≤ 1000 := by
  show (107 :: x.take 60).length ≤ _
  rw [List.length_cons, List.length_take]; omega
theorem dom_1 {s : SS} {b : Nat} {d : List UInt8} (h : RowC s b [d]) : DomAt s (some ⟨b, 0, none⟩) 1 [d] := .inr ⟨b, rfl, rfl, h⟩
abbrev cdU (x dm : List UInt8) (b : Nat) : Value := cdV (cdr x dm).sec (some ⟨b, 0, none⟩) 1 1
section
variable {s : SS} {x dm a d : List UInt8} {b : Nat} {day : Int}
theorem fwd1_w (hG : Gk s) (hF : Fine s) (hr : RowC s b [dm]) (hm : dm.length ≤ 100) (hal : a.length ≤ 1000) (hdl : d.length ≤ 1000) (hd : day ≤ 9223372036854775807) :
    CallW pr n_srs_Coder_Forward [cdU x dm b, adV a d, .int .i64 day] s fun v s' => v = rvV (fwdF (cdr x dm) a d day) ∧ Chg s s' [] :=
  forward_w (ds := [dm]) hG hF (dom_1 hr) (sec_61 x dm) (small_1 hm) hal hdl hd
end
abbrev coC (x dm : List UInt8) (b : Nat) : List Value := [str (cdr x dm).sec, .slice (some ⟨b, 0, none⟩) 1 1]
abbrev adC2 (a d : List UInt8) : List Value := [str a, str d]

/-! ### The chapter's row -/
def tlF : List UInt8 := firstF [107, 101, 121] (stT (sn 0)) aEx [97, 110, 110]
theorem tl_fwd : fwdF (cdr [101, 121] bEx) [97, 110, 110] aEx 0 = (tlF, bEx, 0) := by
  have h0 : domF aEx = 0 := dom_facts.1.1
  have hm : mayF [97, 110, 110] aEx = true := may_of (by decide) (by decide) (by decide) h0
  have hn : nsF (cdr [101, 121] bEx).sec [97, 110, 110] aEx 0 = tlF := by
    unfold nsF
    have e0 : begF 0 [97, 110, 110] = false := by decide
    have e1 : begF 1 [97, 110, 110] = false := by decide
    rw [e0, if_neg (by decide), readS_no e1]
    rfl
  have hl : (low aEx).length = 9 := by decide
  have hlen : tlF.length = 26 := by unfold tlF; rw [first_len (stT_len _), hl]; rfl
  have ho : oursF (cdr [101, 121] bEx) aEx = false := by rw [ours_cdr]; decide
  unfold fwdF
  rw [cdr_may (by decide) dom_facts.2.2.1, hm, if_neg (by simp), ho, if_neg (by simp), hn, if_neg (by rw [hlen]; decide)]
  rfl
theorem tl_is : tlF.length = 26 ∧ tlF.take 5 = [83, 82, 83, 48, 61] ∧ tlF.drop 9 = [61, 65, 65, 61, 97, 46, 101, 120, 97, 109, 112, 108, 101, 61, 97, 110, 110] := by
  unfold tlF
  rw [tells_first (t := [])]
  obtain ⟨t0, t1, t2, t3, h⟩ := len4 (tag_4 [107, 101, 121] (stT (sn 0) ++ low aEx ++ [97, 110, 110]))
  rw [h]
  exact ⟨rfl, rfl, rfl⟩
set_option maxHeartbeats 1000000 in
theorem tells12_w {s : SS} (hG : Gk s) (hF : Fine s) : CallW pr n_law12_tells [] s fun v s' => v = .bool true ∧ Chg s s' [] := by
  refine CallW.run good ok_law12_tells (by simp) rfl ?_
  obtain ⟨h0, h1, c0, f0⟩ := new2_at hF (.cells (strV [bEx]) tS false false) (.cells [str [], .slice none 0 0] tCo false false)
  (try refine pSeq ?_); (repeat(first|refine sb ?_|refine gOn rfl ?_|refine gOff rfl rfl ?_|refine gTup rfl ?_))
  refine st_abs (cs' := coC [101, 121] bEx s.next) rfl rfl h1 (show s.next + 1 < s.next + 1 + 1 by omega) rfl rfl fun s1 e1 c1 n1 => ?_
  replace h0 := c1.blk _ _ (show s.next < s.next + 1 + 1 by omega) (by simp) h0
  replace n1 : s1.next = s.next + 1 + 1 := n1
  replace c1 : Chg s s1 [] := c0.fresh c1 (by simp)
  have f1 := c1.fine hF
  (repeat(first|refine sb ?_|refine gOn rfl ?_|refine gOff rfl rfl ?_|refine gTup rfl ?_))
  refine ldN_is rfl e1 rfl ?_
  (repeat(first|refine sb ?_|refine gOn rfl ?_|refine gOff rfl rfl ?_|refine gTup rfl ?_))
  refine (fwd1_w (x := [101, 121]) (dm := bEx) (hG.nil c1) f1 ⟨by omega, h0⟩ (by decide) (a := [97, 110, 110]) (d := aEx) (by decide) (by decide) (day := 0) (by decide)).mono fun v s2 q => ?_
  obtain ⟨rfl, c2⟩ := q
  rw [tl_fwd]
  obtain ⟨t1, t2, t3⟩ := tl_is
  generalize tlF = T at *
  have f2 := c2.fine f1
  replace c2 := c1.nil c2
  obtain ⟨k0, k1, k2⟩ := new1_at f2 (.cells (adC2 [] []) tAd false false)
  (repeat(first|refine sb ?_|refine gOn rfl ?_|refine gOff rfl rfl ?_|refine gTup rfl ?_))
  refine st_abs (cs' := adC2 T bEx) rfl rfl k0 (Nat.lt_succ_self _) rfl rfl fun s3 e3 c3 n3 => ?_
  replace c3 : Chg s s3 [] := c2.nil (k1.fresh c3 (by simp))
  (repeat(first|refine sb ?_|refine gOn rfl ?_|refine gOff rfl rfl ?_|refine gTup rfl ?_))
  intro q hq
  obtain rfl : q = true := by rw [hq]; rfl
  (repeat(first|refine sb ?_|refine gOn rfl ?_|refine gOff rfl rfl ?_|refine gTup rfl ?_))
  refine ldS_is rfl e3 rfl ?_
  (repeat(first|refine sb ?_|refine gOn rfl ?_|refine gOff rfl rfl ?_|refine gTup rfl ?_))
  intro q hq
  obtain rfl : q = true := by rw [hq]; exact decide_eq_true rfl
  (repeat(first|refine sb ?_|refine gOn rfl ?_|refine gOff rfl rfl ?_|refine gTup rfl ?_))
  refine ldS_is rfl e3 rfl ?_
  (repeat(first|refine sb ?_|refine gOn rfl ?_|refine gOff rfl rfl ?_|refine gTup rfl ?_))
  intro n hn
  (repeat(first|refine sb ?_|refine gOn rfl ?_|refine gOff rfl rfl ?_|refine gTup rfl ?_))
  intro q hq
  obtain rfl : q = true := by rw [hq, hn, t1]; rfl
  (repeat(first|refine sb ?_|refine gOn rfl ?_|refine gOff rfl rfl ?_|refine gTup rfl ?_))
  refine ldS_is rfl e3 rfl ?_
  (repeat(first|refine sb ?_|refine gOn rfl ?_|refine gOff rfl rfl ?_|refine gTup rfl ?_))
  refine slS_hi 5 rfl rfl rfl (by omega) ?_
  rw [t2]
  (repeat(first|refine sb ?_|refine gOn rfl ?_|refine gOff rfl rfl ?_|refine gTup rfl ?_))
  intro q hq
  obtain rfl : q = true := by rw [hq]; exact decide_eq_true rfl
  (repeat(first|refine sb ?_|refine gOn rfl ?_|refine gOff rfl rfl ?_|refine gTup rfl ?_))
  refine ldS_is rfl e3 rfl ?_
  (repeat(first|refine sb ?_|refine gOn rfl ?_|refine gOff rfl rfl ?_|refine gTup rfl ?_))
  refine slS_lo 9 rfl rfl rfl (by omega) ?_
  rw [t3]
  (repeat(first|refine sb ?_|refine gOn rfl ?_|refine gOff rfl rfl ?_|refine gTup rfl ?_))
  intro q hq
  obtain rfl : q = true := by rw [hq]; exact decide_eq_true rfl
  (repeat(first|refine sb ?_|refine gOn rfl ?_|refine gOff rfl rfl ?_|refine gTup rfl ?_))
  exact ⟨rfl, c3⟩
end Go.Vf.S
end
section
/- The closures of the law SrsKnown. -/
namespace Go.Vf.S
open Go Go.Vf Go.Proofs Go.RowKit
attribute [local irreducible] wSeq wRow wp wG hmac tellF pstF tagF agF mayF domF cmayF nsF oursF isF fwdF revF firstF
set_option linter.unusedVariables false
set_option linter.unusedSimpArgs false
set_option maxRecDepth 10000

abbrev keyK : List UInt8 := [107, 101, 121]
def tgK (l : List UInt8) : List UInt8 := (tellF 6 (hmac keyK l)).take 4
theorem tagc_w {s : SS} {l : List UInt8} (hG : Gk s) (hF : Fine s) (hl : l.length ≤ 10000) : CallW pr n_law12_SrsKnown_1 [str l] s fun v s' => v = str (tgK l) ∧ Chg s s' [] := by
  refine CallW.run good ok_law12_SrsKnown_1 (by simp) rfl ?_
  obtain ⟨h0, c0, f0⟩ := new1_at hF (.cells (bytesV keyK) tB false false)
  (try refine pSeq ?_); (repeat refine sb ?_)
  refine mark_is10 rfl h0 ?_
  (repeat refine sb ?_)
  refine ⟨by omega, ?_⟩
  obtain ⟨k0, k1, c1, f1⟩ := new2_at hF (.cells (bytesV keyK) tB false false) (.cells (bytesV l) tB true false)
  (repeat refine sb ?_)
  refine (hmac_w f1 (cell_slc k0 (show s.next < s.next + 1 + 1 by omega) (show keyK.length = 3 from rfl)) (tb_slc l (Nat.lt_succ_self (s.next + 1)) k1) (by omega) (by omega)).mono fun v s1 q => ?_
  obtain ⟨rfl, c2⟩ := q
  have f2 := c2.fine f1
  replace c2 := c1.nil c2
  obtain ⟨m0, m1, m2⟩ := new1_at f2 (.cells (bytesV zs20) tA20 false false)
  (repeat refine sb ?_)
  refine st_abs (cs' := bytesV (hmac keyK l)) rfl rfl m0 (Nat.lt_succ_self _) (agB_fl (hmac_len _ _)) (agB_lay (a := zs20) (hmac_len _ _).symm) fun s2 e2 c3 n3 => ?_
  replace n3 : s2.next = s1.next + 1 := n3
  replace c3 : Chg s s2 [] := c2.nil (m1.fresh c3 (by simp))
  (repeat refine sb ?_)
  refine slA_is10 0 20 rfl e2 rfl rfl rfl rfl (by omega) (by omega) ?_
  (repeat refine sb ?_)
  refine (base64_w (hG.nil c3) (c3.fine hF) (cell_slc e2 (show s1.next < s2.next by omega) (hmac_len _ _)).1 (by omega)).mono fun v s3 q => ?_
  obtain ⟨rfl, c4⟩ := q
  (repeat refine sb ?_)
  intro n hn
  subst hn
  (repeat refine sb ?_)
  intro z hz
  (repeat refine sb ?_)
  refine slS_hi (min (tellF 6 (hmac keyK l)).length 4) rfl rfl (by omega) (by omega) ?_
  rw [min_take]
  (repeat refine sb ?_)
  exact ⟨rfl, c3.nil c4⟩
theorem atc_w {s : SS} {l : List UInt8} (hF : Fine s) : CallW pr n_law12_SrsKnown_2 [str l] s fun v s' => v = adV l bEx ∧ Chg s s' [] := by
  refine CallW.run good ok_law12_SrsKnown_2 (by simp) rfl ?_
  obtain ⟨h0, c0, f0⟩ := new1_at hF (.cells (adC2 [] []) tAd false false)
  (try refine pSeq ?_); (repeat refine sb ?_)
  refine st_abs (cs' := adC2 l bEx) rfl rfl h0 (Nat.lt_succ_self _) rfl rfl fun s1 e1 c1 n1 => ?_
  (repeat refine sb ?_)
  (repeat (first | with_reducible refine sqRet ?_ | with_reducible refine bkRet ?_ | with_reducible refine hdRet ?_))
  exact ret_cell1 agg_Ad sz_Ad rfl e1 rfl ⟨rfl, c0.fresh c1 (by simp)⟩
end Go.Vf.S
end
section
/- SHA-1 over plain numbers, each made a numeral at once: what the kernel runs. -/
namespace Go.Vf.S
open Go Go.Vf
set_option linter.unusedVariables false
set_option linter.unusedSimpArgs false
set_option maxRecDepth 10000

/-- A number is told ahead of what asks it. -/
def fz {α : Type} (n : Nat) (k : Nat → α) : α := match n with
  | 0 => k 0
  | m + 1 => k (m + 1)
theorem fz_eq {α : Type} (n : Nat) (k : Nat → α) : fz n k = k n := by cases n <;> rfl

def fN (t b c d : Nat) : Nat := if t < 20 then Nat.lor (Nat.land b c) (Nat.land (4294967295 - b) d) else if t < 40 then Nat.xor (Nat.xor b c) d
  else if t < 60 then Nat.lor (Nat.lor (Nat.land b c) (Nat.land b d)) (Nat.land c d) else Nat.xor (Nat.xor b c) d
def kN (t : Nat) : Nat := if t < 20 then 0x5a827999 else if t < 40 then 0x6ed9eba1 else if t < 60 then 0x8f1bbcdc else 0xca62c1d6
def rnN : List Nat → Nat → Nat → Nat → Nat → Nat → Nat → List Nat
  | [], _, a, b, c, d, e => [a, b, c, d, e]
  | w :: ws, t, a, b, c, d, e =>
    fz ((a * 32 % 4294967296 + a / 134217728 + fN t b c d + e + kN t + w) % 4294967296) fun x =>
    fz (b * 1073741824 % 4294967296 + b / 4) fun y => fz (t + 1) fun t' => rnN ws t' x a y c d
def scN : Nat → List Nat → List Nat
  | 0, r => r.reverse
  | n + 1, r => fz (Nat.xor (Nat.xor (Nat.xor (r.getD 2 0) (r.getD 7 0)) (r.getD 13 0)) (r.getD 15 0)) fun x => fz (x * 2 % 4294967296 + x / 2147483648) fun y => scN n (y :: r)
def wdN : Nat → List Nat → List Nat → List Nat
  | n + 1, r, a :: b :: c :: d :: l => fz (a * 16777216 + b * 65536 + c * 256 + d) fun x => wdN n (x :: r) l
  | _, r, _ => r
def adN : List Nat → List Nat → List Nat
  | x :: xs, y :: ys => fz ((x + y) % 4294967296) fun z => z :: adN xs ys
  | _, _ => []
def rn5 (ws : List Nat) : List Nat → List Nat
  | [a, b, c, d, e] => rnN ws 0 a b c d e
  | _ => []
def blN : Nat → List Nat → List Nat → List Nat
  | 0, h, _ => h
  | n + 1, h, l => blN n (adN h (rn5 (scN 64 (wdN 16 [] l)) h)) (l.drop 64)
def b8N (n : Nat) : List Nat := [n / 72057594037927936 % 256, n / 281474976710656 % 256, n / 1099511627776 % 256, n / 4294967296 % 256, n / 16777216 % 256, n / 65536 % 256, n / 256 % 256, n % 256]
def paN (l : List Nat) : List Nat := l ++ 128 :: (List.replicate (zrs l.length) 0 ++ b8N (8 * l.length))
def byN : List Nat → List Nat
  | [] => []
  | x :: l => (x / 16777216) :: (x / 65536 % 256) :: (x / 256 % 256) :: (x % 256) :: byN l
def shN (l : List Nat) : List Nat := byN (blN ((paN l).length / 64) [0x67452301, 0xefcdab89, 0x98badcfe, 0x10325476, 0xc3d2e1f0] (paN l))

/-! ### It is SHA-1 -/
abbrev tn (l : List Wd) : List Nat := l.map (·.toNat)
abbrev un (l : List UInt8) : List Nat := l.map (·.toNat)
theorem fN_is (t : Nat) (b c d : Wd) : fN t b.toNat c.toNat d.toNat = (fT t b c d).toNat := by
  have hn : (~~~ b).toNat = 4294967295 - b.toNat := by rw [BitVec.toNat_not]
  unfold fN fT choF oddF majF
  by_cases h1 : t < 20
  · rw [if_pos h1, if_pos h1, BitVec.toNat_or, BitVec.toNat_and, BitVec.toNat_and, hn]; rfl
  · rw [if_neg h1, if_neg h1]
    by_cases h2 : t < 40
    · rw [if_pos h2, if_pos h2, BitVec.toNat_xor, BitVec.toNat_xor]; rfl
    · rw [if_neg h2, if_neg h2]
      by_cases h3 : t < 60
      · rw [if_pos h3, if_pos h3, BitVec.toNat_or, BitVec.toNat_or, BitVec.toNat_and, BitVec.toNat_and, BitVec.toNat_and]; rfl
      · rw [if_neg h3, if_neg h3, BitVec.toNat_xor, BitVec.toNat_xor]; rfl
theorem kN_is (t : Nat) : kN t = (kT t).toNat := by
  unfold kN kT
  by_cases h1 : t < 20
  · rw [if_pos h1, if_pos h1]; rfl
  · rw [if_neg h1, if_neg h1]
    by_cases h2 : t < 40
    · rw [if_pos h2, if_pos h2]; rfl
    · rw [if_neg h2, if_neg h2]
      by_cases h3 : t < 60
      · rw [if_pos h3, if_pos h3]; rfl
      · rw [if_neg h3, if_neg h3]; rfl
/-- Rounds from the front on. -/
def rndf : List Wd → Nat → W5 → W5
  | [], _, s => s
  | w :: ws, t, s => rndf ws (t + 1) (rnd t w s)
theorem rndf_is (ws : List Wd) : ∀ (n : Nat) (s : W5), n ≤ ws.length → rndf (ws.drop n) n (rnds ws n s) = rndf ws 0 s
  | 0, s, h => rfl
  | n + 1, s, h => by
    rw [← rndf_is ws n s (by omega), List.drop_eq_getElem_cons (show n < ws.length by omega)]
    show _ = rndf (ws.drop (n + 1)) (n + 1) (rnd n _ (rnds ws n s))
    rw [rnds, List.getD_eq_getElem?_getD, List.getElem?_eq_getElem (by omega)]
    rfl
theorem rnds_f (ws : List Wd) (s : W5) : rnds ws ws.length s = rndf ws 0 s := by
  rw [← rndf_is ws ws.length s (Nat.le_refl _), List.drop_length]; rfl
theorem rnN_is : ∀ (ws : List Wd) (t : Nat) (s : W5), rnN (tn ws) t s.a.toNat s.b.toNat s.c.toNat s.d.toNat s.e.toNat = tn (rndf ws t s).l
  | [], t, s => rfl
  | w :: ws, t, s => by
    show fz _ _ = tn (rndf ws (t + 1) (rnd t w s)).l
    rw [← rnN_is ws (t + 1), fz_eq, fz_eq, fz_eq]
    have e1 : (rnd t w s).a.toNat = (s.a.toNat * 32 % 4294967296 + s.a.toNat / 134217728 + fN t s.b.toNat s.c.toNat s.d.toNat + s.e.toNat + kN t + w.toNat) % 4294967296 := by
      show (rl s.a 5 + fT t s.b s.c s.d + s.e + kT t + w).toNat = _
      rw [BitVec.toNat_add, BitVec.toNat_add, BitVec.toNat_add, BitVec.toNat_add, rl_nat _ _ (by omega), fN_is, kN_is]
      omega
    have e2 : (rnd t w s).c.toNat = s.b.toNat * 1073741824 % 4294967296 + s.b.toNat / 4 := by
      show (rl s.b 30).toNat = _
      rw [rl_nat _ _ (by omega)]
    rw [e1, e2]; rfl
theorem getD_tn (l : List Wd) (i : Nat) : (tn l).getD i 0 = (l.getD i 0).toNat := by
  rw [List.getD_eq_getElem?_getD, List.getD_eq_getElem?_getD, List.getElem?_map]
  cases l[i]? <;> rfl
theorem getD_rev (l : List Wd) (i : Nat) (h : i < l.length) : l.reverse.getD i 0 = l.getD (l.length - 1 - i) 0 := by
  rw [List.getD_eq_getElem?_getD, List.getD_eq_getElem?_getD, List.getElem?_reverse h]
theorem scN_is (l : List UInt8) : ∀ (n t : Nat), 16 ≤ t → scN n (tn (schd l t).reverse) = tn (schd l (t + n))
  | 0, t, h => by
    show (tn (schd l t).reverse).reverse = _
    rw [tn, ← List.map_reverse, List.reverse_reverse]; rfl
  | n + 1, t, h => by
    have hl := schd_len l t
    show fz _ _ = _
    rw [fz_eq, fz_eq, show t + (n + 1) = (t + 1) + n from by omega, ← scN_is l n (t + 1) (by omega)]
    congr 1
    rw [schd, if_neg (by omega), List.reverse_append]
    show _ = (nxt (schd l t) t).toNat :: tn (schd l t).reverse
    congr 1
    unfold nxt
    rw [rl_nat _ _ (by omega), getD_tn, getD_tn, getD_tn, getD_tn, getD_rev _ _ (by omega), getD_rev _ _ (by omega), getD_rev _ _ (by omega), getD_rev _ _ (by omega), hl,
      show t - 1 - 2 = t - 3 from by omega, show t - 1 - 7 = t - 8 from by omega, show t - 1 - 13 = t - 14 from by omega, show t - 1 - 15 = t - 16 from by omega,
      BitVec.toNat_xor, BitVec.toNat_xor, BitVec.toNat_xor]
    rfl
theorem wOf_nat (l : List UInt8) (t : Nat) (a b c d : UInt8) (r : List UInt8) (h : l.drop (4 * t) = a :: b :: c :: d :: r) : (wOf l t).toNat = a.toNat * 16777216 + b.toNat * 65536 + c.toNat * 256 + d.toNat := by
  unfold wOf
  rw [h]
  show (((((0 : Wd) <<< 8 ||| a.toBitVec.setWidth 32) <<< 8 ||| b.toBitVec.setWidth 32) <<< 8 ||| c.toBitVec.setWidth 32) <<< 8 ||| d.toBitVec.setWidth 32).toNat = _
  have k : ∀ (w : Wd) (x : UInt8), w.toNat < 2 ^ 24 → (w <<< 8 ||| x.toBitVec.setWidth 32).toNat = w.toNat * 256 + x.toNat := by
    intro w x hw
    have := x.toNat_lt
    have hx : (x.toBitVec.setWidth 32).toNat = x.toNat := by simp
    rw [BitVec.toNat_or, BitVec.toNat_shiftLeft, hx, Nat.shiftLeft_eq, Nat.mod_eq_of_lt (by omega), Nat.mul_comm, ← Nat.two_pow_add_eq_or_of_lt (by omega)]
  have ha := a.toNat_lt; have hb := b.toNat_lt; have hc := c.toNat_lt; have hd := d.toNat_lt
  have e0 := k 0 a (by decide)
  have z0 : (0 : Wd).toNat = 0 := rfl
  have e1 := k _ b (by rw [e0]; omega)
  have e2 := k _ c (by rw [e1, e0]; omega)
  have e3 := k _ d (by rw [e2, e1, e0]; omega)
  rw [e3, e2, e1, e0, z0]; omega
theorem wdN_is (l : List UInt8) : ∀ (n t : Nat), n + t = 16 → 64 ≤ l.length → wdN n (tn (schd l t).reverse) (un (l.drop (4 * t))) = tn (schd l 16).reverse
  | 0, t, h, hl => by
    obtain rfl : t = 16 := by omega
    unfold wdN
    rfl
  | n + 1, t, h, hl => by
    obtain ⟨a, b, c, d, r, e⟩ : ∃ a b c d r, l.drop (4 * t) = a :: b :: c :: d :: r := by
      have hl' : (l.drop (4 * t)).length = l.length - 4 * t := List.length_drop
      generalize l.drop (4 * t) = m at hl'
      match m, hl' with
      | [], q => simp at q; omega
      | [_], q => simp at q; omega
      | [_, _], q => simp at q; omega
      | [_, _, _], q => simp at q; omega
      | a :: b :: c :: d :: r, q => exact ⟨a, b, c, d, r, rfl⟩
    rw [← wdN_is l n (t + 1) (by omega) hl, e]
    show fz _ _ = _
    rw [fz_eq]
    have e2 : l.drop (4 * (t + 1)) = r := by
      rw [show 4 * (t + 1) = 4 * t + 4 from by omega, ← List.drop_drop, e]; rfl
    rw [e2, schd, if_pos (by omega), List.reverse_append, ← wOf_nat l t a b c d r e]
    rfl
theorem adN_is (x y : W5) : adN (tn x.l) (tn y.l) = tn (x.add y).l := by
  simp only [W5.l, W5.add, List.map_cons, List.map_nil, adN, fz_eq, BitVec.toNat_add]
theorem blN_is : ∀ (n : Nat) (s : W5) (l : List UInt8), 64 * n ≤ l.length → blN n (tn s.l) (un l) = tn (blks n s l).l
  | 0, s, l, h => rfl
  | n + 1, s, l, h => by
    show blN n (adN (tn s.l) (rn5 (scN 64 (wdN 16 [] (un l))) (tn s.l))) ((un l).drop 64) = tn (blks n (blk5 s (l.take 64)) (l.drop 64)).l
    have hs : schd (l.take 64) = schd l := by
      funext t
      induction t with
      | zero => rfl
      | succ t ih =>
        rw [schd, schd, ih]
        by_cases ht : t < 16
        · rw [if_pos ht, if_pos ht]
          congr 2
          unfold wOf
          rw [List.drop_take, List.take_take, Nat.min_eq_left (by omega)]
        · rw [if_neg ht, if_neg ht]
    have w1 := wdN_is l 16 0 rfl (by omega)
    rw [show wdN 16 [] (un l) = tn (schd l 16).reverse from w1, scN_is l 64 16 (by omega)]
    have r1 : rn5 (tn (schd l 80)) (tn s.l) = tn (rnds (schd (l.take 64) 80) 80 s).l := by
      show rnN (tn (schd l 80)) 0 s.a.toNat s.b.toNat s.c.toNat s.d.toNat s.e.toNat = _
      have := rnds_f (schd l 80) s
      rw [schd_len] at this
      rw [rnN_is, hs, this]
    have ih := blN_is n (blk5 s (l.take 64)) (l.drop 64) (by rw [List.length_drop]; omega)
    rw [show 16 + 64 = 80 from rfl, r1, adN_is, ← ih, show un (l.drop 64) = (un l).drop 64 from List.map_drop]
    rfl
theorem b8N_is (n : Nat) : un (be8 n) = b8N n := by
  have k : ∀ m : Nat, (UInt8.ofNat m).toNat = m % 256 := fun m => by simp
  have r : List.range 8 = [0, 1, 2, 3, 4, 5, 6, 7] := rfl
  unfold be8 b8N un
  rw [r]
  simp only [List.map_cons, List.map_nil, k]
  simp
theorem paN_is (l : List UInt8) : un (padF l) = paN (un l) := by
  unfold padF endF paN
  rw [un, List.map_append, List.map_cons, List.map_append, List.map_replicate, List.length_map, ← b8N_is]
  rfl
theorem byN_is (s : W5) : un s.bytes = byN (tn s.l) := by
  have k : ∀ (x : Wd) (r : List Nat), un (be4 x) ++ r = (x.toNat / 16777216) :: (x.toNat / 65536 % 256) :: (x.toNat / 256 % 256) :: (x.toNat % 256) :: r := by
    intro x r
    have := x.isLt
    show (byteOf (x >>> 24)).toNat :: (byteOf (x >>> 16)).toNat :: (byteOf (x >>> 8)).toNat :: (byteOf (x >>> 0)).toNat :: r = _
    unfold byteOf
    rw [BitVec.toNat_ushiftRight, BitVec.toNat_ushiftRight, BitVec.toNat_ushiftRight, BitVec.toNat_ushiftRight, Nat.shiftRight_eq_div_pow, Nat.shiftRight_eq_div_pow, Nat.shiftRight_eq_div_pow, Nat.shiftRight_eq_div_pow]
    simp
    omega
  show un (be4 s.a ++ be4 s.b ++ be4 s.c ++ be4 s.d ++ be4 s.e) = _
  rw [List.append_assoc, List.append_assoc, List.append_assoc, un, List.map_append, List.map_append, List.map_append, List.map_append, ← List.append_nil (List.map _ (be4 s.e)), k, k, k, k, k]
  rfl
theorem sha_N (l : List UInt8) : un (sha l) = shN (un l) := by
  unfold sha shN
  rw [byN_is, ← paN_is]
  unfold sha5
  rw [List.length_map]
  congr 1
  have := padF_len l
  have := zrs_mod l.length
  exact (blN_is _ ini5 _ (by omega)).symm
def fiN (k : List Nat) : List Nat := bif Nat.blt 64 k.length then shN k ++ List.replicate 44 0 else k ++ List.replicate (64 - k.length) 0
def xoN (c : Nat) : List Nat → List Nat
  | [] => []
  | x :: l => fz (Nat.xor x c) fun y => y :: xoN c l
def hmN (k l : List Nat) : List Nat := shN (xoN 0x5c (fiN k) ++ shN (xoN 0x36 (fiN k) ++ l))
theorem un_app (x y : List UInt8) : un (x ++ y) = un x ++ un y := List.map_append
theorem fiN_is (k : List UInt8) : un (fillF k) = fiN (un k) := by
  unfold fiN
  rw [List.length_map]
  by_cases h : 64 < k.length
  · rw [fill_eq1 h, un_app, sha_N, show Nat.blt 64 k.length = true from by rw [Nat.blt_eq]; exact h]
    rfl
  · rw [fill_eq2 (by omega), un_app, show Nat.blt 64 k.length = false from by
      cases hb : Nat.blt 64 k.length with
      | false => rfl
      | true => rw [Nat.blt_eq] at hb; omega]
    rw [show un (List.replicate (64 - k.length) 0) = List.replicate (64 - k.length) 0 from List.map_replicate]
    rfl
theorem xoN_is (c : UInt8) : ∀ l : List UInt8, un (xorF c l) = xoN c.toNat (un l)
  | [] => rfl
  | x :: l => by
    show (x ^^^ c).toNat :: un (xorF c l) = fz (Nat.xor x.toNat c.toNat) fun y => y :: xoN c.toNat (un l)
    rw [fz_eq, xoN_is c l, UInt8.toNat_xor]
    rfl
theorem hmac_N (k l : List UInt8) : un (hmac k l) = hmN (un k) (un l) := by
  unfold hmac hmN
  rw [sha_N, un_app, xoN_is, sha_N, un_app, xoN_is, fiN_is]
  rfl
end Go.Vf.S
end
section
/- What SrsKnown's calls tell, by numbers that the kernel runs. -/
namespace Go.Vf.S
open Go Go.Vf Go.Proofs Go.RowKit
attribute [local irreducible] wSeq wRow wp wG hmac
set_option linter.unusedVariables false
set_option linter.unusedSimpArgs false
set_option maxRecDepth 10000

def ofN (l : List Nat) : List UInt8 := l.map UInt8.ofNat
theorem of_un (l : List UInt8) : ofN (un l) = l := by
  unfold ofN un
  rw [List.map_map]
  conv => rhs; rw [← List.map_id l]
  exact List.map_congr_left fun c _ => by simp
def hmK (k l : List UInt8) : List UInt8 := ofN (hmN (un k) (un l))
theorem hmac_K (k l : List UInt8) : hmac k l = hmK k l := by
  unfold hmK
  rw [← hmac_N, of_un]
def tagN (sec t : List UInt8) : List UInt8 := (tellF 6 (hmK sec (low t))).take 4
theorem tag_N (sec t : List UInt8) : tagF sec t = tagN sec t := by unfold tagF tagN; rw [hmac_K]
def revKN (c : Cdr) (k : Nat) (a : List UInt8) (day : Int) : List UInt8 × List UInt8 × Nat :=
  match readS k a with
  | none => ([], [], 5)
  | some x =>
    if mayF (toF k x) x.dom = false then ([], [], 5)
    else if low x.tag ≠ low (tagN c.sec (x.st ++ x.dom ++ x.rest)) then ([], [], 11)
    else if k = 0 ∧ 21 < agF (pstF x.st).1 day ∧ agF (pstF x.st).1 day < 1023 then ([], [], 13)
    else (toF k x, x.dom, 0)
def revN (c : Cdr) (a d : List UInt8) (day : Int) : List UInt8 × List UInt8 × Nat :=
  if cmayF c = false ∨ mayF a d = false then ([], [], 1)
  else if isF c a d = false then ([], [], 6)
  else revKN c (if begF 1 a = true then 1 else 0) a day
theorem rev_N (c : Cdr) (a d : List UInt8) (day : Int) : revF c a d day = revN c a d day := by
  have hK : ∀ k, revK c k a day = revKN c k a day := fun k => by unfold revK revKN; simp only [tag_N]; rfl
  unfold revF revN
  rw [hK]
def chainN (sec d r : List UInt8) : List UInt8 := [83, 82, 83, 49, 61] ++ tagN sec (low d ++ r) ++ [61] ++ low d ++ [61] ++ r
def firstN (sec st d a : List UInt8) : List UInt8 := [83, 82, 83, 48, 61] ++ tagN sec (st ++ low d ++ a) ++ [61] ++ st ++ [61] ++ low d ++ [61] ++ a
def nsN (sec a d : List UInt8) (day : Int) : List UInt8 :=
  if begF 0 a = true then chainN sec d (a.drop 4) else match readS 1 a with
    | some x => chainN sec x.dom x.rest
    | none => firstN sec (stT (sn day)) d a
theorem ns_N (sec a d : List UInt8) (day : Int) : nsF sec a d day = nsN sec a d day := by
  have hc : ∀ d r, chainF sec d r = chainN sec d r := fun d r => by unfold chainF chainN; rw [tag_N]
  have hf : ∀ st d r, firstF sec st d r = firstN sec st d r := fun st d r => by unfold firstF firstN; rw [tag_N]
  unfold nsF nsN
  simp only [hc, hf]
  rfl
def fwdN (c : Cdr) (a d : List UInt8) (day : Int) : List UInt8 × List UInt8 × Nat :=
  if cmayF c = false ∨ (mayF a d = false ∧ ¬(a = [] ∧ d = [])) then ([], [], 1)
  else if (a = [] ∧ d = []) ∨ oursF c d = true then (a, d, 0)
  else if 64 < (nsN c.sec a d day).length then (a, d, 3) else (nsN c.sec a d day, c.doms.headD [], 0)
theorem fwd_N (c : Cdr) (a d : List UInt8) (day : Int) : fwdF c a d day = fwdN c a d day := by
  unfold fwdF fwdN
  simp only [ns_N]
theorem tgK_N (l : List UInt8) : tgK l = (tellF 6 (hmK keyK l)).take 4 := by unfold tgK; rw [hmac_K]

abbrev cK : Cdr := ⟨keyK, [bEx, cEx]⟩
abbrev T1 : List UInt8 := [67, 115, 53, 52]
abbrev T2 : List UInt8 := [89, 108, 100, 76]
abbrev T3 : List UInt8 := [65, 77, 108, 86]
abbrev T4 : List UInt8 := [113, 82, 87, 51]
theorem tg1 : tgK [97, 97, 97, 46, 101, 120, 97, 109, 112, 108, 101, 97, 110, 110] = T1 := by rw [tgK_N]; kernel_rfl
theorem tg2 : tgK [102, 97, 114, 46, 110, 101, 116, 120] = T2 := by rw [tgK_N]; kernel_rfl
theorem tg3 : tgK [102, 97, 114, 46, 110, 101, 116, 61, 120, 61, 121] = T3 := by rw [tgK_N]; kernel_rfl
theorem tg4 : tgK [102, 97, 114, 46, 110, 101, 116, 61, 120] = T4 := by rw [tgK_N]; kernel_rfl
/-- SRS0=Cs54=AA=a.example=Ann -/
abbrev kF1 : List UInt8 := [83, 82, 83, 48, 61] ++ T1 ++ [61, 65, 65, 61, 97, 46, 101, 120, 97, 109, 112, 108, 101, 61, 65, 110, 110]
/-- SRS1=qRW3=far.net==x -/
abbrev kF2 : List UInt8 := [83, 82, 83, 49, 61] ++ T4 ++ [61, 102, 97, 114, 46, 110, 101, 116, 61, 61, 120]
theorem kf1 : fwdF cK [65, 110, 110] [65, 46, 101, 120, 97, 109, 112, 108, 101] 0 = (kF1, bEx, 0) := by rw [fwd_N]; kernel_rfl
theorem kf2 : fwdF cK [115, 114, 115, 48, 61, 120] [70, 97, 114, 46, 110, 101, 116] 9 = (kF2, bEx, 0) := by rw [fwd_N]; kernel_rfl
theorem kf3 : fwdF cK (Lib.repeatL [120] 45) aEx 0 = (Lib.repeatL [120] 45, aEx, 3) := by rw [fwd_N]; kernel_rfl
abbrev kF4 : List UInt8 := [83, 82, 83, 48, 61, 80, 119, 81, 51, 61, 65, 65, 61, 102, 97, 114, 46, 110, 101, 116, 61, 83, 82, 83, 49, 61, 110, 111, 116, 104, 105, 110, 103]
theorem kf4 : fwdF cK [83, 82, 83, 49, 61, 110, 111, 116, 104, 105, 110, 103] [102, 97, 114, 46, 110, 101, 116] 0 = (kF4, bEx, 0) := by rw [fwd_N]; kernel_rfl
theorem k_may : cmayF cK = true := by kernel_rfl
theorem k_ours : oursF cK [67, 46, 69, 120, 97, 109, 112, 108, 101] = true := by kernel_rfl
theorem k_wrong : (cmayF ⟨[], []⟩ = false ∧ cmayF ⟨[107], []⟩ = false ∧ cmayF ⟨[], [bEx]⟩ = false) ∧ cmayF ⟨Lib.repeatL [107] 65, [bEx]⟩ = false ∧ cmayF ⟨[107], [[45]]⟩ = false ∧ cmayF ⟨[107], List.replicate 9 []⟩ = false := ⟨⟨by kernel_rfl, by kernel_rfl, by kernel_rfl⟩, by kernel_rfl, by kernel_rfl, by kernel_rfl⟩

/-! ### A tag asked anywhere, with nothing left behind -/
theorem gk_good {s : SS} {B : Nat} {w0 : World} {ρ : Go.Vf.Ren} {w : World} (hG : Gk s) (H : HRel pr B w0 ρ s.st w) : GoodB pr w kE kB := by
  obtain ⟨e, he, hb1, ho⟩ := H.glob gK hG.g
  have hr := H.blk gK kB e (by rw [SS.get]; exact hG.b) he
  obtain ⟨g1, rc, lo, hi, t0, g2, g3, g4, g5, g6, g7, g8⟩ := hr
  have h12 : kindsV.length = 12 := rfl
  rw [h12] at g6
  refine ⟨fun ρ' => ⟨rfl, rc, lo, hi, t0, (show w.heap[gK]? = _ from (by rw [← hb1]; exact g2)), (fun z => by cases z), fun i hi' => ?_, ?_, by rw [h12]; exact Nat.le_refl _, by kernel_rfl, fun i v hv => ?_⟩, rfl, ?_⟩
  · have hi' : i < 12 := hi'
    have := g4 i (by omega)
    rw [ho] at this
    exact this
  · show 0 + 12 ≤ rc.length
    omega
  · obtain ⟨v', p1, p2⟩ := g8 i v hv
    have hp : plain1 v = true := List.all_eq_true.1 (show kindsV.all plain1 = true by kernel_rfl) v (List.mem_of_getElem? hv)
    have hpv : plainV v = true := List.all_eq_true.1 (show kindsV.all plainV = true by kernel_rfl) v (List.mem_of_getElem? hv)
    rw [plain_inv hpv p2, ho] at p1
    exact ⟨v, p1, plain1_rel hp⟩
  · show gK < w.heap.size
    have := H.lt _ _ he
    rw [hb1] at this
    exact this
theorem tagk_w {s : SS} {l : List UInt8} (hG : Gk s) (hl : l.length ≤ 10000) : CallW pr n_law12_SrsKnown_1 [str l] s fun v s' => v = str (tgK l) ∧ s' = s := by
  refine CallW.kit rfl fun B w0 ρ args' w H ha => ?_
  obtain ⟨v1, rfl, q1⟩ := lrel_1 ha
  obtain rfl := str_inv q1
  have g := gk_good hG H
  obtain ⟨HR, HF, _, _, HG, Hf⟩ := startC_rel (xs := []) g (fun _ _ i x hi => by simp at hi)
  exact CallW.answer ((tagc_w HG Hf hl).mono fun v s' q => q.1) rfl HR HF (args' := [.string ⟨⟨l⟩⟩]) (.cons (.string _) (.nil _))
end Go.Vf.S
end

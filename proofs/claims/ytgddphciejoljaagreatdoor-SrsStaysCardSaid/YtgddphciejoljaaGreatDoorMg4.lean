import Derived.Test.YtgddphciejoljaaGreatDoorMg3
import Derived.Test.YtgddphciejoljaaGreatDoorMg1
import Derived.Test.YtgddphciejoljaaGreatDoorMg2
import Derived.Test.YtgddphciejoljaaGreatDoorChecked
import Derived.WalkKit
import Derived.Test.YtgddphciejoljaaGreatDoorFn
import Derived.Test.YtgddphciejoljaaGreatDoorEngBd
import Derived.LaidMore
import Derived.Lay
import Derived.OpenShut
import Derived.Handed
import Derived.Lib.LaidTab
section
/- Senders written anew: what a coder may be; what is ours. -/
namespace Go.Vf.S
open Go Go.Vf Go.Proofs Go.RowKit
attribute [local irreducible] wSeq wRow wp wG hmac tellF pstF tagF agF mayF domF
set_option linter.unusedVariables false
set_option linter.unusedSimpArgs false
set_option maxRecDepth 10000

/-- Our domains: a row that is full, or none. -/
def DomAt (s : SS) (W : Option Addr) (cw : Nat) (ds : List (List UInt8)) : Prop := (W = none ∧ cw = 0 ∧ ds = []) ∨ ∃ b, W = some ⟨b, 0, none⟩ ∧ cw = ds.length ∧ RowC s b ds
theorem DomAt.chg {s s' : SS} {W : Option Addr} {cw : Nat} {ds : List (List UInt8)} {A : List Nat} (h : DomAt s W cw ds) (c : Chg s s' A) (hA : ∀ id ∈ blkOf W, id ∉ A) : DomAt s' W cw ds := by
  rcases h with h | ⟨b, rfl, h1, h2⟩
  · exact .inl h
  · exact .inr ⟨b, rfl, h1, h2.chg c (hA b (by simp [blkOf]))⟩
theorem DomAt.pos {s : SS} {W : Option Addr} {cw : Nat} {ds : List (List UInt8)} (h : DomAt s W cw ds) (h0 : 0 < ds.length) : ∃ b, W = some ⟨b, 0, none⟩ ∧ cw = ds.length ∧ RowC s b ds := by
  rcases h with ⟨_, _, h⟩ | h
  · rw [h] at h0; exact absurd h0 (Nat.lt_irrefl _)
  · exact h
abbrev cdV (sec : List UInt8) (W : Option Addr) (n cw : Nat) : Value := .agg ⟨[str sec, .slice W n cw]⟩
def SmallD (ds : List (List UInt8)) : Prop := ds.length ≤ 1000 ∧ ∀ d ∈ ds, d.length ≤ 10000

set_option maxHeartbeats 1000000 in
theorem cmay_w {s : SS} {sec : List UInt8} {W : Option Addr} {cw : Nat} {ds : List (List UInt8)} (hF : Fine s) (hd : DomAt s W cw ds) (hs : sec.length ≤ 1000) (hsm : SmallD ds) :
    CallW pr n_srs_Coder_May [cdV sec W ds.length cw] s fun v s' => v = .bool (cmayF ⟨sec, ds⟩) ∧ Chg s s' [] := by
  refine CallW.run good ok_srs_Coder_May (by simp) rfl ?_
  obtain ⟨h0, c0, f0⟩ := new1_at hF (.cells [str sec, .slice W ds.length cw] tCo false false)
  have eF : cmayF ⟨sec, ds⟩ = decide ((∀ d ∈ ds, low d = d ∧ mayF [120] d = true) ∧ 1 ≤ sec.length ∧ sec.length ≤ 64 ∧ 1 ≤ ds.length ∧ ds.length ≤ 8) := rfl
  (try refine pSeq ?_); (repeat(first|refine sb ?_|refine gOn rfl ?_|refine gOff rfl rfl ?_|refine gTup rfl ?_))
  refine ldS_is rfl h0 rfl ?_
  (repeat(first|refine sb ?_|refine gOn rfl ?_|refine gOff rfl rfl ?_|refine gTup rfl ?_))
  intro n hn
  subst hn
  (repeat(first|refine sb ?_|refine gOn rfl ?_|refine gOff rfl rfl ?_|refine gTup rfl ?_))
  refine swithin_w.mono fun v s q => ?_
  obtain ⟨rfl, rfl⟩ := q
  (repeat(first|refine sb ?_|refine gOn rfl ?_|refine gOff rfl rfl ?_|refine gTup rfl ?_))
  intro q hq
  by_cases h1 : 1 ≤ sec.length ∧ sec.length ≤ 64
  case neg =>
    obtain rfl : q = true := by rw [hq, decide_eq_false (by omega)]; rfl
    have eN : cmayF ⟨sec, ds⟩ = false := by rw [eF]; exact decide_eq_false (fun h => h1 ⟨h.2.1, h.2.2.1⟩)
    rw [eN]
    (repeat(first|refine sb ?_|refine gOn rfl ?_|refine gOff rfl rfl ?_|refine gTup rfl ?_))
    exact ⟨rfl, c0⟩
  obtain rfl : q = false := by rw [hq, decide_eq_true (by omega)]; rfl
  (repeat(first|refine sb ?_|refine gOn rfl ?_|refine gOff rfl rfl ?_|refine gTup rfl ?_))
  refine ld1_is rfl h0 rfl ?_
  (repeat(first|refine sb ?_|refine gOn rfl ?_|refine gOff rfl rfl ?_|refine gTup rfl ?_))
  refine swithin_w.mono fun v s q => ?_
  obtain ⟨rfl, rfl⟩ := q
  (repeat(first|refine sb ?_|refine gOn rfl ?_|refine gOff rfl rfl ?_|refine gTup rfl ?_))
  intro q hq
  by_cases h2 : 1 ≤ ds.length ∧ ds.length ≤ 8
  case neg =>
    obtain rfl : q = true := by rw [hq, decide_eq_false (by omega)]; rfl
    have eN : cmayF ⟨sec, ds⟩ = false := by rw [eF]; exact decide_eq_false (fun h => h2 h.2.2.2)
    rw [eN]
    (repeat(first|refine sb ?_|refine gOn rfl ?_|refine gOff rfl rfl ?_|refine gTup rfl ?_))
    exact ⟨rfl, c0⟩
  obtain rfl : q = false := by rw [hq, decide_eq_true (by omega)]; rfl
  (repeat(first|refine sb ?_|refine gOn rfl ?_|refine gOff rfl rfl ?_|refine gTup rfl ?_))
  refine ld1_is rfl h0 rfl ?_
  (repeat(first|refine sb ?_|refine gOn rfl ?_|refine gOff rfl rfl ?_|refine gTup rfl ?_))
  have hd0 := hd.chg c0 (by simp)
  refine pLoop (MW.head good (fun x : Nat × SS => ds.length - x.1) (fun x => x.1 ≤ ds.length ∧ (∀ j d, j < x.1 → ds[j]? = some d → low d = d ∧ mayF [120] d = true) ∧ Chg s x.2 [] ∧ DomAt x.2 W cw ds)
    (fun x => [(18, .slice W ds.length cw), (19, .int .i64 (ds.length : Nat)), (20, .int .i64 x.1)]) (fun x => x.2) (0, _) ⟨Nat.zero_le _, fun j d hj => absurd hj (Nat.not_lt_zero _), c0, hd0⟩ (Wk.same ⟨rfl, rfl, rfl, trivial⟩) ?_)
  intro ⟨i, s1⟩ ⟨hi, hj, c1, hd1⟩
  dsimp only at hi hj c1 hd1 ⊢
  (repeat(first|refine sb ?_|refine gOn rfl ?_|refine gOff rfl rfl ?_|refine gTup rfl ?_))
  intro q hq
  by_cases hlt : i < ds.length
  case neg =>
    obtain rfl : q = false := by rw [hq]; simp; omega
    (repeat(first|refine sb ?_|refine gOn rfl ?_|refine gOff rfl rfl ?_|refine gTup rfl ?_))
    refine ⟨?_, c1⟩
    rw [eF, decide_eq_true]
    · rfl
    · refine ⟨fun d hd => ?_, h1.1, h1.2, h2.1, h2.2⟩
      obtain ⟨j, hj1, hj2⟩ := List.mem_iff_getElem.1 hd
      exact hj j d (by omega) (by rw [List.getElem?_eq_getElem hj1, hj2])
  obtain rfl : q = true := by rw [hq]; simp; omega
  obtain ⟨d, hdd⟩ : ∃ d, ds[i]? = some d := ⟨_, List.getElem?_eq_getElem hlt⟩
  have hmem := List.mem_of_getElem? hdd
  have hdl := hsm.2 d hmem
  obtain ⟨b, rfl, hcw, hr1⟩ := hd1.pos (by omega)
  (repeat(first|refine sb ?_|refine gOn rfl ?_|refine gOff rfl rfl ?_|refine gTup rfl ?_))
  refine ⟨by omega, ?_⟩
  intro m hm o ho
  obtain rfl : m = i := by omega
  (repeat(first|refine sb ?_|refine gOn rfl ?_|refine gOff rfl rfl ?_|refine gTup rfl ?_))
  refine ldS_is rfl hr1.2 (by rw [ho, Nat.zero_add, Nat.mul_one]; exact strV_get hdd) ?_
  (repeat(first|refine sb ?_|refine gOn rfl ?_|refine gOff rfl rfl ?_|refine gTup rfl ?_))
  refine (lower_w (l := d) (by omega)).mono fun v s2 q => ?_
  obtain ⟨rfl, c2⟩ := q
  have c12 := c1.nil c2
  replace hd1 := hd1.chg c2 (by simp)
  (repeat(first|refine sb ?_|refine gOn rfl ?_|refine gOff rfl rfl ?_|refine gTup rfl ?_))
  intro q hq
  by_cases h3 : low d = d
  case neg =>
    obtain rfl : q = true := by rw [hq]; exact decide_eq_true (fun e => h3 e.symm)
    (repeat(first|refine sb ?_|refine gOn rfl ?_|refine gOff rfl rfl ?_|refine gTup rfl ?_))
    refine ⟨?_, c12⟩
    rw [eF, decide_eq_false (fun h => h3 (h.1 d hmem).1)]
    rfl
  obtain rfl : q = false := by rw [hq]; exact decide_eq_false (fun e => e h3.symm)
  (repeat(first|refine sb ?_|refine gOn rfl ?_|refine gOff rfl rfl ?_|refine gTup rfl ?_))
  refine (may_w (a := [120]) (d := d) (by simp) (by omega)).mono fun v s3 q => ?_
  obtain ⟨rfl, c3⟩ := q
  have c13 := c12.nil c3
  replace hd1 := hd1.chg c3 (by simp)
  (repeat(first|refine sb ?_|refine gOn rfl ?_|refine gOff rfl rfl ?_|refine gTup rfl ?_))
  intro q hq
  cases hmf : mayF [120] d with
  | false =>
    obtain rfl : q = true := by rw [hq, hmf]; rfl
    (repeat(first|refine sb ?_|refine gOn rfl ?_|refine gOff rfl rfl ?_|refine gTup rfl ?_))
    refine ⟨?_, c13⟩
    rw [eF, decide_eq_false (fun h => by have := (h.1 d hmem).2; rw [hmf] at this; cases this)]
    rfl
  | true =>
    obtain rfl : q = false := by rw [hq, hmf]; rfl
    (repeat(first|refine sb ?_|refine gOn rfl ?_|refine gOff rfl rfl ?_|refine gTup rfl ?_))
    intro z hz
    rw [i64_id (by omega)] at hz
    obtain rfl : z = ((m + 1 : Nat) : Int) := by omega
    (repeat(first|refine sb ?_|refine gOn rfl ?_|refine gOff rfl rfl ?_|refine gTup rfl ?_))
    refine ⟨(m + 1, s3), ⟨by show m + 1 ≤ _; omega, fun j x hj' hx => ?_, c13, hd1⟩, by show ds.length - (m + 1) < ds.length - m; omega, Wk.same ⟨rfl, rfl, rfl, trivial⟩⟩
    rcases Nat.lt_or_ge j m with q | q
    · exact hj j x q hx
    · obtain rfl : j = m := by dsimp only at hj'; omega
      rw [hdd] at hx
      obtain rfl := Option.some.inj hx
      exact ⟨h3, hmf⟩
/-! ### Ours -/
theorem sindex_w12 {s : SS} {W : Option Addr} {cw : Nat} {ds : List (List UInt8)} {v : List UInt8} (hd : DomAt s W cw ds) (hn : ds.length ≤ 1000) : CallW pr n_slices_Index_string_string [.slice W ds.length cw, str v] s fun u s' => (∃ z : Int, u = .int .i64 z ∧ (0 ≤ z ↔ v ∈ ds)) ∧ s' = s := by
  refine CallW.run good ok_slices_Index_string_string (by simp) rfl ?_
  (try refine pSeq ?_); (repeat refine sb ?_)
  refine pLoop (MW.head good (fun x : Nat × SS => ds.length - x.1) (fun x => x.1 ≤ ds.length ∧ (∀ j, j < x.1 → ds[j]? ≠ some v) ∧ x.2 = s)
    (fun x => [(0, .slice W ds.length cw), (1, str v), (7, .int .i64 (ds.length : Nat)), (8, .int .i64 x.1)]) (fun x => x.2) (0, _) ⟨Nat.zero_le _, fun j hj => absurd hj (Nat.not_lt_zero _), rfl⟩ (Wk.same ⟨rfl, rfl, rfl, rfl, trivial⟩) ?_)
  rintro ⟨i, s1⟩ ⟨hi, hj, rfl⟩
  dsimp only at hi hj hd ⊢
  (repeat refine sb ?_)
  intro q hq
  by_cases hlt : i < ds.length
  case neg =>
    obtain rfl : q = false := by rw [hq]; simp; omega
    (repeat refine sb ?_)
    refine ⟨⟨-1, rfl, ⟨fun h => absurd h (by decide), fun hv => ?_⟩⟩, rfl⟩
    obtain ⟨j, hj1, hj2⟩ := List.mem_iff_getElem.1 hv
    exact absurd (by rw [List.getElem?_eq_getElem hj1, hj2]) (hj j (by omega))
  obtain rfl : q = true := by rw [hq]; simp; omega
  obtain ⟨d, hdd⟩ : ∃ d, ds[i]? = some d := ⟨_, List.getElem?_eq_getElem hlt⟩
  obtain ⟨b, rfl, hcw, hr1⟩ := hd.pos (by omega)
  (repeat refine sb ?_)
  refine ⟨by omega, ?_⟩
  intro m hm o ho
  obtain rfl : m = i := by omega
  (repeat refine sb ?_)
  refine ldS_is rfl hr1.2 (by rw [ho, Nat.zero_add, Nat.mul_one]; exact strV_get hdd) ?_
  (repeat refine sb ?_)
  intro q hq
  by_cases hv : v = d
  · obtain rfl : q = true := by rw [hq]; exact decide_eq_true hv
    (repeat refine sb ?_)
    exact ⟨⟨_, rfl, ⟨fun _ => hv ▸ List.mem_of_getElem? hdd, fun _ => by omega⟩⟩, rfl⟩
  · obtain rfl : q = false := by rw [hq]; exact decide_eq_false hv
    (repeat refine sb ?_)
    intro z hz
    rw [i64_id (by omega)] at hz
    obtain rfl : z = ((m + 1 : Nat) : Int) := by omega
    (repeat refine sb ?_)
    refine ⟨(m + 1, s1), ⟨by show m + 1 ≤ _; omega, fun j hj' => ?_, rfl⟩, by show ds.length - (m + 1) < ds.length - m; omega, Wk.same ⟨rfl, rfl, rfl, rfl, trivial⟩⟩
    rcases Nat.lt_or_ge j m with q | q
    · exact hj j q
    · obtain rfl : j = m := by dsimp only at hj'; omega
      rw [hdd]
      intro e
      exact hv (Option.some.inj e).symm
theorem scontains_w12 {s : SS} {W : Option Addr} {cw : Nat} {ds : List (List UInt8)} {v : List UInt8} (hd : DomAt s W cw ds) (hn : ds.length ≤ 1000) : CallW pr n_slices_Contains_string_string [.slice W ds.length cw, str v] s fun u s' => u = .bool (decide (v ∈ ds)) ∧ s' = s := by
  refine CallW.run good ok_slices_Contains_string_string (by simp) rfl ?_
  (try refine pSeq ?_); (repeat refine sb ?_)
  refine (sindex_w12 hd hn).mono fun u s q => ?_
  obtain ⟨⟨z, rfl, hz⟩, rfl⟩ := q
  (repeat refine sb ?_)
  intro q hq
  (repeat refine sb ?_)
  refine ⟨?_, rfl⟩
  rw [hq]
  show Value.bool (decide _) = _
  rw [decide_eq_decide.2 hz]
theorem ours_w {s : SS} {sec a d : List UInt8} {W : Option Addr} {cw : Nat} {ds : List (List UInt8)} (hF : Fine s) (hd : DomAt s W cw ds) (hn : ds.length ≤ 1000) (hdl : d.length ≤ 1000000) :
    CallW pr n_srs_Coder_Ours [cdV sec W ds.length cw, adV a d] s fun v s' => v = .bool (oursF ⟨sec, ds⟩ d) ∧ Chg s s' [] := by
  refine CallW.run good ok_srs_Coder_Ours (by simp) rfl ?_
  obtain ⟨h0, h1, c0, f0⟩ := new2_at hF (.cells [str sec, .slice W ds.length cw] tCo false false) (.cells [str a, str d] tAd false false)
  (try refine pSeq ?_); (repeat(first|refine sb ?_|refine kNo ?_))
  refine ld1_is rfl h0 rfl ?_
  (repeat(first|refine sb ?_|refine kNo ?_))
  refine ldS_is rfl h1 rfl ?_
  (repeat(first|refine sb ?_|refine kNo ?_))
  refine (lower_w (l := d) hdl).mono fun v s1 q => ?_
  obtain ⟨rfl, c1⟩ := q
  refine kAll (c1.keep f0) ?_
  (repeat(first|refine sb ?_|refine kNo ?_))
  refine (scontains_w12 ((hd.chg c0 (by simp)).chg c1 (by simp)) hn).mono fun v s q => ?_
  obtain ⟨rfl, rfl⟩ := q
  refine kNo ?_
  (repeat(first|refine sb ?_|refine kNo ?_))
  exact ⟨rfl, c0.nil c1⟩
theorem is_w {s : SS} {sec a d : List UInt8} {W : Option Addr} {cw : Nat} {ds : List (List UInt8)} (hF : Fine s) (hd : DomAt s W cw ds) (hn : ds.length ≤ 1000) (hal : a.length ≤ 1000000) (hdl : d.length ≤ 1000000) :
    CallW pr n_srs_Coder_Is [cdV sec W ds.length cw, adV a d] s fun v s' => v = .bool (isF ⟨sec, ds⟩ a d) ∧ Chg s s' [] := by
  refine CallW.run good ok_srs_Coder_Is (by simp) rfl ?_
  obtain ⟨h0, h1, c0, f0⟩ := new2_at hF (.cells [str sec, .slice W ds.length cw] tCo false false) (.cells [str a, str d] tAd false false)
  (try refine pSeq ?_); (repeat(first|refine sb ?_|refine gOn rfl ?_|refine gOff rfl rfl ?_|refine gTup rfl ?_))
  refine ldN_is rfl h0 rfl ?_
  (repeat(first|refine sb ?_|refine gOn rfl ?_|refine gOff rfl rfl ?_|refine gTup rfl ?_))
  refine ldN_is rfl h1 rfl ?_
  (repeat(first|refine sb ?_|refine gOn rfl ?_|refine gOff rfl rfl ?_|refine gTup rfl ?_))
  refine (ours_w f0 (hd.chg c0 (by simp)) hn hdl).mono fun v s1 q => ?_
  obtain ⟨rfl, c1⟩ := q
  have k1 := c1.blk _ _ (show s.next + 1 < s.next + 1 + 1 by omega) (by simp) h1
  have f1 := c1.fine f0
  unfold isF
  cases ho : oursF ⟨sec, ds⟩ d with
  | false =>
    (repeat(first|refine sb ?_|refine gOn rfl ?_|refine gOff rfl rfl ?_|refine gTup rfl ?_))
    exact ⟨rfl, c0.nil c1⟩
  | true =>
    (repeat(first|refine sb ?_|refine gOn rfl ?_|refine gOff rfl rfl ?_|refine gTup rfl ?_))
    refine ldS_is rfl k1 rfl ?_
    (repeat(first|refine sb ?_|refine gOn rfl ?_|refine gOff rfl rfl ?_|refine gTup rfl ?_))
    refine (begins_w (k := 0) (by omega) hal).mono fun v s2 q => ?_
    obtain ⟨rfl, c2⟩ := q
    have k2 := c2.blk _ _ (show s.next + 1 < s1.next by have := c1.next; have : s.next + 1 + 1 ≤ s1.next := this; omega) (by simp) k1
    cases hb : begF 0 a with
    | true =>
      (repeat(first|refine sb ?_|refine gOn rfl ?_|refine gOff rfl rfl ?_|refine gTup rfl ?_))
      exact ⟨rfl, (c0.nil c1).nil c2⟩
    | false =>
      (repeat(first|refine sb ?_|refine gOn rfl ?_|refine gOff rfl rfl ?_|refine gTup rfl ?_))
      refine ldS_is rfl k2 rfl ?_
      (repeat(first|refine sb ?_|refine gOn rfl ?_|refine gOff rfl rfl ?_|refine gTup rfl ?_))
      refine (begins_w (k := 1) (by omega) hal).mono fun v s3 q => ?_
      obtain ⟨rfl, c3⟩ := q
      (repeat(first|refine sb ?_|refine gOn rfl ?_|refine gOff rfl rfl ?_|refine gTup rfl ?_))
      exact ⟨rfl, ((c0.nil c1).nil c2).nil c3⟩
end Go.Vf.S
end
section
/- Senders written anew: where a local part leads; whether it is old; what is written. -/
namespace Go.Vf.S
open Go Go.Vf Go.Proofs Go.RowKit
attribute [local irreducible] wSeq wRow wp wG hmac tellF pstF tagF agF mayF domF
set_option linter.unusedVariables false
set_option linter.unusedSimpArgs false
set_option maxRecDepth 10000

def bkF (kd rs : List UInt8) : List UInt8 := if kd = srsU 1 then srsU 0 ++ rs else rs
theorem sback_w {s : SS} {kd tg st dm rs : List UInt8} (hF : Fine s) (hl : rs.length ≤ 1000000) : CallW pr n_srs_written_back [.agg ⟨strV [kd, tg, st, dm, rs]⟩] s fun v s' => v = adV (bkF kd rs) dm ∧ Chg s s' [] := by
  refine CallW.run good ok_srs_written_back (by simp) rfl ?_
  obtain ⟨h0, h1, c0, f0⟩ := new2_at hF (.cells (strV [kd, tg, st, dm, rs]) tWr false false) (.cells [str [], str []] tAd false false)
  unfold bkF
  (try refine pSeq ?_); (repeat refine sb ?_)
  refine ldS_is rfl h0 rfl ?_
  (repeat refine sb ?_)
  refine ldS_is rfl h0 rfl ?_
  (repeat refine sb ?_)
  intro q hq
  by_cases h : kd = srsU 1
  · obtain rfl : q = true := by rw [hq]; exact decide_eq_true h
    rw [if_pos h]
    (repeat refine sb ?_)
    refine ⟨by simp only [List.length_cons, List.length_nil]; omega, ?_⟩
    intro w hw
    subst hw
    (repeat refine sb ?_)
    refine ldS_is rfl h0 rfl ?_
    (repeat refine sb ?_)
    refine st_abs (cs' := [str (srsU 0 ++ rs), str dm]) rfl rfl h1 (Nat.lt_succ_self _) rfl rfl fun s1 e1 c1 n1 => ?_
    (repeat refine sb ?_)
    (repeat (first | with_reducible refine sqRet ?_ | with_reducible refine bkRet ?_ | with_reducible refine hdRet ?_))
    exact ret_cell1 agg_Ad sz_Ad rfl e1 rfl ⟨rfl, c0.fresh c1 (by simp)⟩
  · obtain rfl : q = false := by rw [hq]; exact decide_eq_false h
    rw [if_neg h]
    (repeat refine sb ?_)
    refine ldS_is rfl h0 rfl ?_
    (repeat refine sb ?_)
    refine st_abs (cs' := [str rs, str dm]) rfl rfl h1 (Nat.lt_succ_self _) rfl rfl fun s1 e1 c1 n1 => ?_
    (repeat refine sb ?_)
    (repeat (first | with_reducible refine sqRet ?_ | with_reducible refine bkRet ?_ | with_reducible refine hdRet ?_))
    exact ret_cell1 agg_Ad sz_Ad rfl e1 rfl ⟨rfl, c0.fresh c1 (by simp)⟩
theorem ag_lt (k d : Int) : agF k d < 1024 := by unfold agF; exact Nat.mod_lt _ (by omega)
def oldF (kd st : List UInt8) (day : Int) : Bool := decide (kd = srsU 0 ∧ 21 < agF (pstF st).1 day ∧ agF (pstF st).1 day < 1023)
theorem sold_w {s : SS} {kd tg st dm rs : List UInt8} {day : Int} (hF : Fine s) (hl : st.length ≤ 1000000) (hd : day ≤ 9223372036854775807) : CallW pr n_srs_written_old [.agg ⟨strV [kd, tg, st, dm, rs]⟩, .int .i64 day] s fun v s' => v = .bool (oldF kd st day) ∧ Chg s s' [] := by
  refine CallW.run good ok_srs_written_old (by simp) rfl ?_
  obtain ⟨h0, c0, f0⟩ := new1_at hF (.cells (strV [kd, tg, st, dm, rs]) tWr false false)
  unfold oldF
  have hp := pst_lt st
  have ha := ag_lt (pstF st).1 day
  (try refine pSeq ?_); (repeat(first|refine sb ?_|refine gOn rfl ?_|refine gOff rfl rfl ?_|refine gTup rfl ?_))
  refine ldS_is rfl h0 rfl ?_
  (repeat(first|refine sb ?_|refine gOn rfl ?_|refine gOff rfl rfl ?_|refine gTup rfl ?_))
  intro q hq
  by_cases h : kd = srsU 0
  case neg =>
    obtain rfl : q = true := by rw [hq]; exact decide_eq_true h
    have e : decide (kd = srsU 0 ∧ 21 < agF (pstF st).1 day ∧ agF (pstF st).1 day < 1023) = false := decide_eq_false (fun q => h q.1)
    rw [e]
    (repeat(first|refine sb ?_|refine gOn rfl ?_|refine gOff rfl rfl ?_|refine gTup rfl ?_))
    exact ⟨rfl, c0⟩
  obtain rfl : q = false := by rw [hq]; exact decide_eq_false (fun q => q h)
  (repeat(first|refine sb ?_|refine gOn rfl ?_|refine gOff rfl rfl ?_|refine gTup rfl ?_))
  refine ldS_is rfl h0 rfl ?_
  (repeat(first|refine sb ?_|refine gOn rfl ?_|refine gOff rfl rfl ?_|refine gTup rfl ?_))
  refine (pst_w f0 hl).mono fun v s q => ?_
  obtain ⟨rfl, rfl⟩ := q
  generalize pstF st = P at *
  obtain ⟨k, e⟩ := P
  dsimp only at *
  (repeat(first|refine sb ?_|refine gOn rfl ?_|refine gOff rfl rfl ?_|refine gTup rfl ?_))
  refine (age_w (k := (k : Int)) (by omega) hd).mono fun v s q => ?_
  obtain ⟨rfl, rfl⟩ := q
  generalize agF (k : Int) day = A at *
  (repeat(first|refine sb ?_|refine gOn rfl ?_|refine gOff rfl rfl ?_|refine gTup rfl ?_))
  intro q hq
  by_cases h1 : 21 < A
  · obtain rfl : q = true := by rw [hq]; simp; omega
    (repeat(first|refine sb ?_|refine gOn rfl ?_|refine gOff rfl rfl ?_|refine gTup rfl ?_))
    intro q hq
    (repeat(first|refine sb ?_|refine gOn rfl ?_|refine gOff rfl rfl ?_|refine gTup rfl ?_))
    refine ⟨?_, c0⟩
    rw [hq]
    show Value.bool _ = Value.bool _
    congr 1
    rw [Bool.eq_iff_iff]
    simp only [decide_eq_true_eq]
    exact ⟨fun q => ⟨h, by omega, by omega⟩, fun q => by have := q.2.2; omega⟩
  · obtain rfl : q = false := by rw [hq]; simp; omega
    (repeat(first|refine sb ?_|refine gOn rfl ?_|refine gOff rfl rfl ?_|refine gTup rfl ?_))
    refine ⟨?_, c0⟩
    show Value.bool false = Value.bool _
    rw [decide_eq_false (fun q => h1 q.2.1)]

/-! ### What is written -/
theorem srsU_ne : srsU 1 ≠ srsU 0 ∧ srsU 0 ≠ srsU 1 := by decide
set_option maxHeartbeats 1000000 in
theorem anew_w {s : SS} {sec a d : List UInt8} {dv : Value} {day : Int} (hG : Gk s) (hF : Fine s) (hs : sec.length ≤ 1000) (hal : a.length ≤ 1000) (hdl : d.length ≤ 1000) (hd : day ≤ 9223372036854775807) :
    CallW pr n_srs_Coder_anew [.agg ⟨[str sec, dv]⟩, adV a d, .int .i64 day] s fun v s' => v = str (nsF sec a d day) ∧ Chg s s' [] := by
  refine CallW.run good ok_srs_Coder_anew (by simp) rfl ?_
  obtain ⟨h0, h1, c0, f0⟩ := new2_at hF (.cells [str sec, dv] tCo false false) (.cells [str a, str d] tAd false false)
  (try refine pSeq ?_); (repeat(first|refine sb ?_|refine kNo ?_))
  refine ldS_is rfl h1 rfl ?_
  (repeat(first|refine sb ?_|refine kNo ?_))
  refine (lower_w (l := d) (by omega)).mono fun v s1 q => ?_
  obtain ⟨rfl, c1⟩ := q
  have f1 := c1.fine f0
  replace h0 := c1.blk _ _ (show s.next < s.next + 1 + 1 by omega) (by simp) h0
  replace h1 := c1.blk _ _ (show s.next + 1 < s.next + 1 + 1 by omega) (by simp) h1
  have n1 := c1.next
  replace n1 : s.next + 1 + 1 ≤ s1.next := n1
  replace c1 := c0.nil c1
  clear c0 f0
  (repeat(first|refine sb ?_|refine kNo ?_))
  refine ldS_is rfl h1 rfl ?_
  (repeat(first|refine sb ?_|refine kNo ?_))
  refine (begins_w (k := 0) (by omega) (by omega)).mono fun v s2 q => ?_
  obtain ⟨rfl, c2⟩ := q
  have f2 := c2.fine f1
  replace h0 := c2.blk _ _ (show s.next < s1.next by omega) (by simp) h0
  replace h1 := c2.blk _ _ (show s.next + 1 < s1.next by omega) (by simp) h1
  have n2 := c2.next
  replace c2 := c1.nil c2
  clear f1 c1
  cases hb : begF 0 a with
  | true =>
    have h5 := beg_len hb
    have eN : nsF sec a d day = chainF sec d (a.drop 4) := by unfold nsF; rw [if_pos hb]
    rw [eN]
    (repeat(first|refine sb ?_|refine kNo ?_))
    refine ldN_is rfl h0 rfl ?_
    (repeat(first|refine sb ?_|refine kNo ?_))
    refine ldS_is rfl h1 rfl ?_
    (repeat(first|refine sb ?_|refine kNo ?_))
    refine slS_lo 4 rfl rfl rfl (by omega) ?_
    (repeat(first|refine sb ?_|refine kNo ?_))
    refine mkS_is rfl rfl (rNew f2.at ?_)
    obtain ⟨m0, m1, m2⟩ := new1_at f2 (.cells (strV [low d, a.drop 4]) tS false false)
    (repeat(first|refine sb ?_|refine kNo ?_))
    refine (write_w (kd := srsU 1) (ls := [low d, a.drop 4]) (hG.nil (c2.nil m1)) m2 ⟨Nat.lt_succ_self s2.next, m0⟩ hs (by decide) (by simp) (by simp) (by simp only [List.flatten_cons, List.flatten_nil, List.length_append, List.length_nil, low_len, List.length_drop]; omega)).mono fun v s3 q => ?_
    obtain ⟨rfl, c3⟩ := q
    rw [wr_chain]
    refine kNo ?_
    (repeat(first|refine sb ?_|refine kNo ?_))
    exact ⟨rfl, (c2.nil m1).nil c3⟩
  | false =>
    (repeat(first|refine sb ?_|refine kNo ?_))
    refine ldS_is rfl h1 rfl ?_
    (repeat(first|refine sb ?_|refine kNo ?_))
    refine (sread_w f2 (l := a) (by omega)).mono fun v s3 q => ?_
    obtain ⟨rfl, c3⟩ := q
    have f3 := c3.fine f2
    replace h0 := c3.blk _ _ (show s.next < s2.next by omega) (by simp) h0
    replace h1 := c3.blk _ _ (show s.next + 1 < s2.next by omega) (by simp) h1
    have n3 := c3.next
    replace c3 := c2.nil c3
    clear f2 c2
    have eW : readW a = (readS 1 a).map (Prod.mk 1) := by
      cases hb1 : begF 1 a with
      | true => exact readW_1 hb1
      | false => rw [readW_no hb hb1, readS_no hb1]; rfl
    rw [eW]
    obtain ⟨k0, k1, k2⟩ := new1_at f3 (.cells (strV [[], [], [], [], []]) tWr false false)
    (repeat(first|refine sb ?_|refine kNo ?_))
    refine st_abs (cs' := strV (wrL ((readS 1 a).map (Prod.mk 1)))) rfl rfl k0 (Nat.lt_succ_self _) (by cases readS 1 a <;> rfl) (by cases readS 1 a <;> rfl) fun s4 e4 c4 n4 => ?_
    replace h0 := c4.blk _ _ (show s.next < s3.next + 1 by omega) (by simp; omega) (k1.blk _ _ (show s.next < s3.next by omega) (by simp) h0)
    replace h1 := c4.blk _ _ (show s.next + 1 < s3.next + 1 by omega) (by simp; omega) (k1.blk _ _ (show s.next + 1 < s3.next by omega) (by simp) h1)
    replace n4 : s4.next = s3.next + 1 := n4
    replace c4 : Chg s s4 [] := c3.nil (k1.fresh c4 (by simp))
    have f4 := c4.fine hF
    clear f3 c3 k0 k1 k2
    cases hr : readS 1 a with
    | some x =>
      obtain ⟨x1, x2, x3, x4⟩ := readS_len hr
      have eN : nsF sec a d day = chainF sec x.dom x.rest := by unfold nsF; rw [hb, if_neg (by decide), hr]
      rw [eN]
      rw [hr] at e4
      (repeat(first|refine sb ?_|refine kNo ?_))
      refine ldN_is rfl h0 rfl ?_
      (repeat(first|refine sb ?_|refine kNo ?_))
      refine ldS_is rfl e4 rfl ?_
      (repeat(first|refine sb ?_|refine kNo ?_))
      refine ldS_is rfl e4 rfl ?_
      (repeat(first|refine sb ?_|refine kNo ?_))
      refine (lower_w (l := x.dom) (by omega)).mono fun v s5 q => ?_
      obtain ⟨rfl, c5⟩ := q
      have f5 := c5.fine f4
      refine kAll (c5.keep f4) ?_
      (repeat(first|refine sb ?_|refine kNo ?_))
      refine mkS_is rfl rfl (rNew f5.at ?_)
      obtain ⟨m0, m1, m2⟩ := new1_at f5 (.cells (strV [low x.dom, x.rest]) tS false false)
      have c45 := c4.nil c5
      (repeat(first|refine sb ?_|refine kNo ?_))
      refine (write_w (kd := srsU 1) (ls := [low x.dom, x.rest]) (hG.nil (c45.nil m1)) m2 ⟨Nat.lt_succ_self s5.next, m0⟩ hs (by decide) (by simp) (by simp) (by simp only [List.flatten_cons, List.flatten_nil, List.length_append, List.length_nil, low_len]; omega)).mono fun v s6 q => ?_
      obtain ⟨rfl, c6⟩ := q
      rw [wr_chain]
      refine kNo ?_
      (repeat(first|refine sb ?_|refine kNo ?_))
      exact ⟨rfl, (c45.nil m1).nil c6⟩
    | none =>
      have eN : nsF sec a d day = firstF sec (stT (sn day)) d a := by unfold nsF; rw [hb, if_neg (by decide), hr]
      rw [eN]
      (repeat(first|refine sb ?_|refine kNo ?_))
      refine ldN_is rfl h0 rfl ?_
      (repeat(first|refine sb ?_|refine kNo ?_))
      refine ldS_is rfl h1 rfl ?_
      (repeat(first|refine sb ?_|refine kNo ?_))
      refine (stext_w f4 hd).mono fun v s5 q => ?_
      obtain ⟨rfl, c5⟩ := q
      have f5 := c5.fine f4
      refine kAll (c5.keep f4) ?_
      (repeat(first|refine sb ?_|refine kNo ?_))
      refine mkS_is rfl rfl (rNew f5.at ?_)
      obtain ⟨m0, m1, m2⟩ := new1_at f5 (.cells (strV [stT (sn day), low d, a]) tS false false)
      have c45 := c4.nil c5
      (repeat(first|refine sb ?_|refine kNo ?_))
      refine (write_w (kd := srsU 0) (ls := [stT (sn day), low d, a]) (hG.nil (c45.nil m1)) m2 ⟨Nat.lt_succ_self s5.next, m0⟩ hs (by decide) (by simp) (by simp) (by simp only [List.flatten_cons, List.flatten_nil, List.length_append, List.length_nil, low_len, stT_len]; omega)).mono fun v s6 q => ?_
      obtain ⟨rfl, c6⟩ := q
      rw [wr_first]
      refine kNo ?_
      (repeat(first|refine sb ?_|refine kNo ?_))
      exact ⟨rfl, (c45.nil m1).nil c6⟩
end Go.Vf.S
end
section
/- Senders written anew: forward. -/
namespace Go.Vf.S
open Go Go.Vf Go.Proofs Go.RowKit
attribute [local irreducible] wSeq wRow wp wG hmac tellF pstF tagF agF mayF domF cmayF nsF oursF
set_option linter.unusedVariables false
set_option linter.unusedSimpArgs false
set_option maxRecDepth 10000

abbrev rvV (r : List UInt8 × List UInt8 × Nat) : Value := .tuple ⟨[adV r.1 r.2.1, .int .i64 r.2.2]⟩
theorem fwd_arg {c : Cdr} {a d : List UInt8} {day : Int} (h : cmayF c = false ∨ (mayF a d = false ∧ ¬(a = [] ∧ d = []))) : fwdF c a d day = ([], [], 1) := by unfold fwdF; rw [if_pos h]
theorem fwd_same {c : Cdr} {a d : List UInt8} {day : Int} (h : ¬(cmayF c = false ∨ (mayF a d = false ∧ ¬(a = [] ∧ d = [])))) (h2 : (a = [] ∧ d = []) ∨ oursF c d = true) : fwdF c a d day = (a, d, 0) := by unfold fwdF; rw [if_neg h, if_pos h2]
theorem fwd_long {c : Cdr} {a d : List UInt8} {day : Int} (h : ¬(cmayF c = false ∨ (mayF a d = false ∧ ¬(a = [] ∧ d = [])))) (h2 : ¬((a = [] ∧ d = []) ∨ oursF c d = true)) (h3 : 64 < (nsF c.sec a d day).length) : fwdF c a d day = (a, d, 3) := by unfold fwdF; rw [if_neg h, if_neg h2, if_pos h3]
theorem fwd_new {c : Cdr} {a d : List UInt8} {day : Int} (h : ¬(cmayF c = false ∨ (mayF a d = false ∧ ¬(a = [] ∧ d = [])))) (h2 : ¬((a = [] ∧ d = []) ∨ oursF c d = true)) (h3 : ¬64 < (nsF c.sec a d day).length) : fwdF c a d day = (nsF c.sec a d day, c.doms.headD [], 0) := by unfold fwdF; rw [if_neg h, if_neg h2, if_neg h3]
theorem cmay_doms {c : Cdr} (h : cmayF c = true) : 1 ≤ c.doms.length ∧ c.sec.length ≤ 64 := by
  unfold cmayF at h
  have := of_decide_eq_true h
  exact ⟨this.2.2.2.1, this.2.2.1⟩

set_option maxHeartbeats 2000000 in
theorem forward_w {s : SS} {sec a d : List UInt8} {W : Option Addr} {cw : Nat} {ds : List (List UInt8)} {day : Int} (hG : Gk s) (hF : Fine s) (hdm : DomAt s W cw ds) (hs : sec.length ≤ 1000) (hsm : SmallD ds) (hal : a.length ≤ 1000) (hdl : d.length ≤ 1000) (hd : day ≤ 9223372036854775807) :
    CallW pr n_srs_Coder_Forward [cdV sec W ds.length cw, adV a d, .int .i64 day] s fun v s' => v = rvV (fwdF ⟨sec, ds⟩ a d day) ∧ Chg s s' [] := by
  refine CallW.run good ok_srs_Coder_Forward (by simp) rfl ?_
  obtain ⟨h0, h1, h2, c0, f0⟩ := new3_at hF (.cells [str sec, .slice W ds.length cw] tCo false false) (.cells [str a, str d] tAd false false) (.cells [str [], str []] tAd false false)
  (try refine pSeq ?_); (repeat(first|refine sb ?_|refine gOn rfl ?_|refine gOff rfl rfl ?_|refine gTup rfl ?_))
  refine ldN_is rfl h1 rfl ?_
  (repeat(first|refine sb ?_|refine gOn rfl ?_|refine gOff rfl rfl ?_|refine gTup rfl ?_))
  intro q hq
  obtain ⟨nul, hnul⟩ : ∃ nul : Bool, nul = decide (a = [] ∧ d = []) := ⟨_, rfl⟩
  obtain rfl : nul = q := by
    rw [hq, hnul, Bool.eq_iff_iff]
    simp
  (repeat(first|refine sb ?_|refine gOn rfl ?_|refine gOff rfl rfl ?_|refine gTup rfl ?_))
  refine ldN_is rfl h0 rfl ?_
  (repeat(first|refine sb ?_|refine gOn rfl ?_|refine gOff rfl rfl ?_|refine gTup rfl ?_))
  refine (cmay_w f0 (hdm.chg c0 (by simp)) hs hsm).mono fun v s1 q => ?_
  obtain ⟨rfl, c1⟩ := q
  have f1 := c1.fine f0
  replace h0 := c1.blk _ _ (show s.next < s.next + 1 + 1 + 1 by omega) (by simp) h0
  replace h1 := c1.blk _ _ (show s.next + 1 < s.next + 1 + 1 + 1 by omega) (by simp) h1
  replace h2 := c1.blk _ _ (show s.next + 1 + 1 < s.next + 1 + 1 + 1 by omega) (by simp) h2
  have n1 := c1.next
  replace n1 : s.next + 1 + 1 + 1 ≤ s1.next := n1
  replace c1 := c0.nil c1
  clear c0 f0 hq
  (repeat(first|refine sb ?_|refine gOn rfl ?_|refine gOff rfl rfl ?_|refine gTup rfl ?_))
  intro q hq
  cases hcm : cmayF ⟨sec, ds⟩ with
  | false =>
    obtain rfl : q = true := by rw [hq, hcm]; rfl
    rw [fwd_arg (.inl hcm)]
    (repeat(first|refine sb ?_|refine gOn rfl ?_|refine gOff rfl rfl ?_|refine gTup rfl ?_))
    refine st_abs (cs' := [str [], str []]) rfl rfl h2 (show s.next + 1 + 1 < s1.next by omega) rfl rfl fun s2 e2 c2 n2 => ?_
    (repeat(first|refine sb ?_|refine gOn rfl ?_|refine gOff rfl rfl ?_|refine gTup rfl ?_))
    (repeat (first | with_reducible refine sqRet ?_ | with_reducible refine bkRet ?_ | with_reducible refine hdRet ?_))
    exact ret_cell agg_Ad sz_Ad rfl e2 rfl rfl ⟨rfl, c1.fresh c2 (by simp; omega)⟩
  | true =>
    obtain rfl : q = false := by rw [hq, hcm]; rfl
    obtain ⟨m1, m2⟩ := cmay_doms hcm
    (repeat(first|refine sb ?_|refine gOn rfl ?_|refine gOff rfl rfl ?_|refine gTup rfl ?_))
    intro q hq
    cases nul with
    | true =>
      obtain rfl : q = false := by rw [hq]; rfl
      have hn := of_decide_eq_true hnul.symm
      rw [fwd_same (by rw [hcm]; simp [hn]) (.inl hn)]
      (repeat(first|refine sb ?_|refine gOn rfl ?_|refine gOff rfl rfl ?_|refine gTup rfl ?_))
      refine ldN_is rfl h1 rfl ?_
      (repeat(first|refine sb ?_|refine gOn rfl ?_|refine gOff rfl rfl ?_|refine gTup rfl ?_))
      refine st_abs (cs' := [str a, str d]) rfl rfl h2 (show s.next + 1 + 1 < s1.next by omega) rfl rfl fun s2 e2 c2 n2 => ?_
      (repeat(first|refine sb ?_|refine gOn rfl ?_|refine gOff rfl rfl ?_|refine gTup rfl ?_))
      (repeat (first | with_reducible refine sqRet ?_ | with_reducible refine bkRet ?_ | with_reducible refine hdRet ?_))
      exact ret_cell agg_Ad sz_Ad rfl e2 rfl rfl ⟨rfl, c1.fresh c2 (by simp; omega)⟩
    | false =>
      obtain rfl : q = true := by rw [hq]; rfl
      have hn := of_decide_eq_false hnul.symm
      (repeat(first|refine sb ?_|refine gOn rfl ?_|refine gOff rfl rfl ?_|refine gTup rfl ?_))
      refine ldN_is rfl h1 rfl ?_
      (repeat(first|refine sb ?_|refine gOn rfl ?_|refine gOff rfl rfl ?_|refine gTup rfl ?_))
      refine (may_w (a := a) (d := d) (by omega) (by omega)).mono fun v s2 q => ?_
      obtain ⟨rfl, c2⟩ := q
      have f2 := c2.fine f1
      replace h0 := c2.blk _ _ (show s.next < s1.next by omega) (by simp) h0
      replace h1 := c2.blk _ _ (show s.next + 1 < s1.next by omega) (by simp) h1
      replace h2 := c2.blk _ _ (show s.next + 1 + 1 < s1.next by omega) (by simp) h2
      have n2 := c2.next
      replace c2 := c1.nil c2
      clear c1 f1
      (repeat(first|refine sb ?_|refine gOn rfl ?_|refine gOff rfl rfl ?_|refine gTup rfl ?_))
      intro q hq
      cases hm : mayF a d with
      | false =>
        obtain rfl : q = true := by rw [hq, hm]; rfl
        rw [fwd_arg (.inr ⟨hm, hn⟩)]
        (repeat(first|refine sb ?_|refine gOn rfl ?_|refine gOff rfl rfl ?_|refine gTup rfl ?_))
        refine st_abs (cs' := [str [], str []]) rfl rfl h2 (show s.next + 1 + 1 < s2.next by omega) rfl rfl fun s3 e3 c3 n3 => ?_
        (repeat(first|refine sb ?_|refine gOn rfl ?_|refine gOff rfl rfl ?_|refine gTup rfl ?_))
        (repeat (first | with_reducible refine sqRet ?_ | with_reducible refine bkRet ?_ | with_reducible refine hdRet ?_))
        exact ret_cell agg_Ad sz_Ad rfl e3 rfl rfl ⟨rfl, c2.fresh c3 (by simp; omega)⟩
      | true =>
        obtain rfl : q = false := by rw [hq, hm]; rfl
        have hok : ¬(cmayF ⟨sec, ds⟩ = false ∨ (mayF a d = false ∧ ¬(a = [] ∧ d = []))) := by rw [hcm, hm]; simp
        (repeat(first|refine sb ?_|refine gOn rfl ?_|refine gOff rfl rfl ?_|refine gTup rfl ?_))
        refine ldN_is rfl h0 rfl ?_
        (repeat(first|refine sb ?_|refine gOn rfl ?_|refine gOff rfl rfl ?_|refine gTup rfl ?_))
        refine ldN_is rfl h1 rfl ?_
        (repeat(first|refine sb ?_|refine gOn rfl ?_|refine gOff rfl rfl ?_|refine gTup rfl ?_))
        refine (ours_w f2 (hdm.chg c2 (by simp)) hsm.1 (by omega)).mono fun v s3 q => ?_
        obtain ⟨rfl, c3⟩ := q
        have f3 := c3.fine f2
        replace h0 := c3.blk _ _ (show s.next < s2.next by omega) (by simp) h0
        replace h1 := c3.blk _ _ (show s.next + 1 < s2.next by omega) (by simp) h1
        replace h2 := c3.blk _ _ (show s.next + 1 + 1 < s2.next by omega) (by simp) h2
        have n3 := c3.next
        replace c3 := c2.nil c3
        clear c2 f2
        cases ho : oursF ⟨sec, ds⟩ d with
        | true =>
          rw [fwd_same hok (.inr ho)]
          (repeat(first|refine sb ?_|refine gOn rfl ?_|refine gOff rfl rfl ?_|refine gTup rfl ?_))
          refine ldN_is rfl h1 rfl ?_
          (repeat(first|refine sb ?_|refine gOn rfl ?_|refine gOff rfl rfl ?_|refine gTup rfl ?_))
          refine st_abs (cs' := [str a, str d]) rfl rfl h2 (show s.next + 1 + 1 < s3.next by omega) rfl rfl fun s4 e4 c4 n4 => ?_
          (repeat(first|refine sb ?_|refine gOn rfl ?_|refine gOff rfl rfl ?_|refine gTup rfl ?_))
          (repeat (first | with_reducible refine sqRet ?_ | with_reducible refine bkRet ?_ | with_reducible refine hdRet ?_))
          exact ret_cell agg_Ad sz_Ad rfl e4 rfl rfl ⟨rfl, c3.fresh c4 (by simp; omega)⟩
        | false =>
          have hnew : ¬((a = [] ∧ d = []) ∨ oursF ⟨sec, ds⟩ d = true) := by rw [ho]; simpa using hn
          (repeat(first|refine sb ?_|refine gOn rfl ?_|refine gOff rfl rfl ?_|refine gTup rfl ?_))
          refine ldN_is rfl h0 rfl ?_
          (repeat(first|refine sb ?_|refine gOn rfl ?_|refine gOff rfl rfl ?_|refine gTup rfl ?_))
          refine ldN_is rfl h1 rfl ?_
          (repeat(first|refine sb ?_|refine gOn rfl ?_|refine gOff rfl rfl ?_|refine gTup rfl ?_))
          refine (anew_w (hG.nil c3) f3 hs hal hdl hd).mono fun v s4 q => ?_
          obtain ⟨rfl, c4⟩ := q
          replace h0 := c4.blk _ _ (show s.next < s3.next by omega) (by simp) h0
          replace h1 := c4.blk _ _ (show s.next + 1 < s3.next by omega) (by simp) h1
          replace h2 := c4.blk _ _ (show s.next + 1 + 1 < s3.next by omega) (by simp) h2
          have n4 := c4.next
          replace c4 := c3.nil c4
          clear c3 f3
          (repeat(first|refine sb ?_|refine gOn rfl ?_|refine gOff rfl rfl ?_|refine gTup rfl ?_))
          intro n hn'
          subst hn'
          (repeat(first|refine sb ?_|refine gOn rfl ?_|refine gOff rfl rfl ?_|refine gTup rfl ?_))
          intro q hq
          by_cases hl : 64 < (nsF sec a d day).length
          · obtain rfl : q = true := by rw [hq]; simp; omega
            rw [fwd_long hok hnew hl]
            (repeat(first|refine sb ?_|refine gOn rfl ?_|refine gOff rfl rfl ?_|refine gTup rfl ?_))
            refine ldN_is rfl h1 rfl ?_
            (repeat(first|refine sb ?_|refine gOn rfl ?_|refine gOff rfl rfl ?_|refine gTup rfl ?_))
            refine st_abs (cs' := [str a, str d]) rfl rfl h2 (show s.next + 1 + 1 < s4.next by omega) rfl rfl fun s5 e5 c5 n5 => ?_
            (repeat(first|refine sb ?_|refine gOn rfl ?_|refine gOff rfl rfl ?_|refine gTup rfl ?_))
            (repeat (first | with_reducible refine sqRet ?_ | with_reducible refine bkRet ?_ | with_reducible refine hdRet ?_))
            exact ret_cell agg_Ad sz_Ad rfl e5 rfl rfl ⟨rfl, c4.fresh c5 (by simp; omega)⟩
          · obtain rfl : q = false := by rw [hq]; simp; omega
            rw [fwd_new hok hnew hl]
            obtain ⟨b, rfl, hcw, hr⟩ := (hdm.chg c4 (by simp)).pos (show 0 < ds.length from m1)
            obtain ⟨x, xs, rfl⟩ : ∃ x xs, ds = x :: xs := by
              cases ds with
              | nil => simp at m1
              | cons x xs => exact ⟨x, xs, rfl⟩
            (repeat(first|refine sb ?_|refine gOn rfl ?_|refine gOff rfl rfl ?_|refine gTup rfl ?_))
            refine ld1_is rfl h0 rfl ?_
            (repeat(first|refine sb ?_|refine gOn rfl ?_|refine gOff rfl rfl ?_|refine gTup rfl ?_))
            refine ⟨by simp, ?_⟩
            intro m hm' o ho'
            obtain rfl : m = 0 := by omega
            (repeat(first|refine sb ?_|refine gOn rfl ?_|refine gOff rfl rfl ?_|refine gTup rfl ?_))
            refine ldS_is (l := x) rfl hr.2 (by rw [ho']; rfl) ?_
            (repeat(first|refine sb ?_|refine gOn rfl ?_|refine gOff rfl rfl ?_|refine gTup rfl ?_))
            refine st_abs (cs' := [str (nsF sec a d day), str x]) rfl rfl h2 (show s.next + 1 + 1 < s4.next by omega) rfl rfl fun s5 e5 c5 n5 => ?_
            (repeat(first|refine sb ?_|refine gOn rfl ?_|refine gOff rfl rfl ?_|refine gTup rfl ?_))
            (repeat (first | with_reducible refine sqRet ?_ | with_reducible refine bkRet ?_ | with_reducible refine hdRet ?_))
            exact ret_cell agg_Ad sz_Ad rfl e5 rfl rfl ⟨rfl, c4.fresh c5 (by simp; omega)⟩
end Go.Vf.S
end
section
/- Senders as the law makes them: what a letter is turned into: the closure. -/
namespace Go.Vf.S
open Go Go.Vf Go.Proofs Go.RowKit
set_option linter.unusedVariables false
set_option linter.unusedSimpArgs false
abbrev fMk : Nat := 29
def mk8 (x : Int) : Int := if x < 32 ∨ 126 < x then 120 else x
theorem mk_calls (x : Nat) (W : World) (hx : x ≤ 1114111) : Calls Tryz.prog 29 #[.int .i32 (x : Int)] W fun e w' => e = .returned (.int .i32 (mk8 x)) ∧ w' = W := by
  go_enter Tryz.func29, Tryz.ntmps29
  go_wp2
  all_goals
    go_ret
    refine ⟨?_, rfl⟩
    first
      | (rw [show mk8 x = 120 from if_pos (by (try simp only [beq_iff_eq, beq_eq_false_iff_ne, ne_eq] at *); omega)]; rfl)
      | (rw [show mk8 x = x from if_neg (by (try simp only [beq_iff_eq, beq_eq_false_iff_ne, ne_eq] at *); omega)]; rfl)
theorem mk_runes (w : World) : MapAtRunes Tryz.prog 29 #[] mk8 w := fun W x hx hB => by
  show Calls Tryz.prog 29 #[encR x] W fun e w' => e = .returned (.int .i32 (mk8 x)) ∧ ∃ q, w' = W.drewN q
  exact (mk_calls x W hx).mono fun e w' ⟨h1, h2⟩ => ⟨h1, 0, h2⟩
theorem mk_range (x : Int) : 32 ≤ mk8 x ∧ mk8 x ≤ 126 := by
  unfold mk8
  split <;> omega
theorem map_mk : ∀ (n : Nat) (l : List UInt8), l.length ≤ n → (Lib.mapD mk8 l).all plainB = true ∧ (Lib.mapD mk8 l).length ≤ l.length
  | 0, l, h => by
    have : l = [] := List.eq_nil_of_length_eq_zero (by omega)
    subst this
    exact ⟨rfl, Nat.le_refl _⟩
  | n + 1, l, h => by
    by_cases hl : l = []
    · subst hl; exact ⟨rfl, Nat.le_refl _⟩
    · have h0 : 0 < l.length := List.length_pos_iff.2 hl
      have hw := Lib.decodeL_width l
      obtain ⟨h1, h2⟩ := map_mk n (l.drop (Lib.decodeL l).2) (by simp; omega)
      rw [Lib.mapD_step mk8 l hl]
      generalize (Lib.decodeL l).1 = x
      generalize (Lib.decodeL l).2 = w at hw h1 h2 ⊢
      have hx := mk_range x
      generalize mk8 x = y at hx ⊢
      rw [if_pos (by omega)]
      have e1 : Lib.encodeRune y = [y.toNat.toUInt8] := by
        unfold Lib.encodeRune
        rw [Lib.encodeRuneZ_one (by omega) (by omega)]
        rfl
      have e2 : y.toNat.toUInt8.toNat = y.toNat := by
        rw [Nat.toUInt8_eq, UInt8.toNat_ofNat']
        omega
      rw [e1]
      refine ⟨?_, ?_⟩
      · rw [List.all_append, h1]
        simp only [List.all_cons, List.all_nil, Bool.and_true, plainB, e2, decide_eq_true_eq]
        omega
      · simp only [List.length_append, List.length_cons, List.length_nil, List.length_drop] at h2 ⊢
        omega
end Go.Vf.S

/- Senders as the law makes them. -/
namespace Go.Vf.S
open Go Go.Vf Go.Proofs Go.RowKit
attribute [local irreducible] wSeq wRow wp wG
set_option linter.unusedVariables false
set_option linter.unusedSimpArgs false
set_option maxRecDepth 10000

theorem mapMk_w {s : SS} {l : List UInt8} (hG : Gv s) (hl : l.length ≤ 1000000) : CallW pr 28 [.func (.func fMk) #[] #[], str l] s fun v s' => v = str (Lib.mapD mk8 l) ∧ s' = s := by
  refine CallW.kit rfl fun B w0 ρ args' w H ha => ?_
  obtain ⟨v1, v2, rfl, q1, q2⟩ := lrel_t ha
  obtain rfl := str_inv q2
  have e1 : v1 = .func (.func fMk) #[] #[] := by
    cases q1 with
    | func fn hy h1 h2 h3 h4 =>
      rename_i a' b'
      have ha : a' = #[] := Array.toList_inj.1 (List.eq_nil_of_length_eq_zero h1.symm)
      have hb : b' = #[] := Array.toList_inj.1 (List.eq_nil_of_length_eq_zero h2.symm)
      rw [ha, hb]
  subst e1
  exact Any.strings_Map_runes Tryz.lays230 Tryz.Builder_Extra_230 fMk #[] (enters_of Tryz.func29 (by kernel_rfl) rfl) mk8 ⟨⟨l⟩⟩ w (by show l.length < _; omega) (mk_runes w) (fun x hx => by have := mk_range x; omega) (hG.tabs H)
def domS : List (List UInt8) := [aEx, aEU, aLt]
def sndA (a : List UInt8) : List UInt8 := 117 :: Lib.mapD mk8 (a.take 12)
def sndD (d : List UInt8) : List UInt8 := domS.getD (d.length % 3) []
theorem snd_Sn (a d : List UInt8) : Sn (sndA a) (sndD d) := by
  obtain ⟨h1, h2⟩ := map_mk _ (a.take 12) (Nat.le_refl _)
  have : (a.take 12).length ≤ 12 := by rw [List.length_take]; omega
  refine ⟨⟨_, rfl, by omega, h1⟩, ?_⟩
  unfold sndD domS
  rcases (show d.length % 3 = 0 ∨ d.length % 3 = 1 ∨ d.length % 3 = 2 by omega) with h | h | h <;> rw [h]
  · exact .inl rfl
  · exact .inr (.inl rfl)
  · exact .inr (.inr rfl)

attribute [local irreducible] hmac tellF pstF tagF agF mayF domF cmayF nsF oursF
theorem agg_Co : aggB pr tCo = some true := by kernel_rfl
theorem sz_Co : sizeB pr tCo = some 2 := by kernel_rfl
theorem min_take {l : List UInt8} {m : Nat} : l.take (min l.length m) = l.take m := by
  rcases Nat.lt_or_ge l.length m with h | h
  · rw [Nat.min_eq_left (by omega), List.take_of_length_le (Nat.le_refl _), List.take_of_length_le (by omega)]
  · rw [Nat.min_eq_right h]
theorem coder_w {s : SS} {x dm : List UInt8} (hF : Fine s) : CallW pr n_law12_coder [str x, str dm] s fun v s' => ∃ b, v = cdV (cdr x dm).sec (some ⟨b, 0, none⟩) 1 1 ∧ RowC s' b [dm] ∧ s.next ≤ b ∧ Chg s s' [] := by
  refine CallW.run good ok_law12_coder (by simp) rfl ?_
  obtain ⟨h0, c0, f0⟩ := new1_at hF (.cells [str [], .slice none 0 0] tCo false false)
  obtain ⟨k0, k1, c1, f1⟩ := new2_at hF (.cells [str [], .slice none 0 0] tCo false false) (.cells (strV [dm]) tS false false)
  (try refine pSeq ?_); (repeat refine sb ?_)
  intro n hn
  subst hn
  (repeat refine sb ?_)
  intro z hz
  (repeat refine sb ?_)
  refine slS_hi (min x.length 60) rfl rfl (by omega) (by omega) ?_
  rw [min_take]
  (repeat refine sb ?_)
  have ht : (x.take 60).length ≤ 60 := by rw [List.length_take]; omega
  refine ⟨by simp only [List.length_cons, List.length_nil]; omega, ?_⟩
  intro w hw
  have hw : w = 107 :: x.take 60 := hw
  subst hw
  (repeat refine sb ?_)
  refine st_abs (cs' := [str (107 :: x.take 60), .slice (some ⟨s.next + 1, 0, none⟩) 1 1]) rfl rfl k0 (show s.next < s.next + 1 + 1 by omega) rfl rfl fun s1 e1 c2 n2 => ?_
  have k1 := c2.blk _ _ (show s.next + 1 < s.next + 1 + 1 by omega) (by simp) k1
  have n2 : s1.next = s.next + 1 + 1 := n2
  (repeat refine sb ?_)
  (repeat (first | with_reducible refine sqRet ?_ | with_reducible refine bkRet ?_ | with_reducible refine hdRet ?_))
  exact ret_cell1 agg_Co sz_Co rfl e1 rfl ⟨_, rfl, ⟨by omega, k1⟩, by omega, c1.fresh c2 (by simp)⟩
set_option maxHeartbeats 1000000 in
theorem sender_w {s : SS} {a d : List UInt8} (hV : Gv s) (hF : Fine s) : CallW pr n_law12_sender [adV a d] s fun v s' => v = adV (sndA a) (sndD d) ∧ Chg s s' [] := by
  refine CallW.run good ok_law12_sender (by simp) rfl ?_
  obtain ⟨h0, h1, c0, f0⟩ := new2_at hF (.cells [str a, str d] tAd false false) (.cells [str [], str []] tAd false false)
  (try refine pSeq ?_); (repeat refine sb ?_)
  refine ldS_is rfl h0 rfl ?_
  (repeat refine sb ?_)
  refine ldS_is rfl h0 rfl ?_
  (repeat refine sb ?_)
  intro n hn
  subst hn
  (repeat refine sb ?_)
  intro z hz
  (repeat refine sb ?_)
  refine slS_hi (min a.length 12) rfl rfl (by omega) (by omega) ?_
  rw [min_take]
  have ht : (a.take 12).length ≤ 12 := by rw [List.length_take]; omega
  (repeat refine sb ?_)
  refine (mapMk_w (hV.chg c0) (l := a.take 12) (by omega)).mono fun v s1 q => ?_
  obtain ⟨rfl, rfl⟩ := q
  have hm := (map_mk _ (a.take 12) (Nat.le_refl _)).2
  (repeat refine sb ?_)
  refine ⟨by simp only [List.length_cons, List.length_nil]; omega, ?_⟩
  intro w hw
  have hw : w = sndA a := hw
  subst hw
  obtain ⟨k0, k1, k2, c1, f1⟩ := new3_at hF (.cells [str a, str d] tAd false false) (.cells [str [], str []] tAd false false) (.cells (strV domS) tS false false)
  (repeat refine sb ?_)
  refine ldS_is rfl k0 rfl ?_
  (repeat refine sb ?_)
  intro n hn
  subst hn
  (repeat refine sb ?_)
  refine ⟨by decide, ?_⟩
  intro z3 hz3
  have hz3 : z3 = ((d.length % 3 : Nat) : Int) := by
    rw [hz3]
    exact (Int.ofNat_tmod _ 3).symm
  subst hz3
  have h3 := Nat.mod_lt d.length (show 0 < 3 by omega)
  (repeat refine sb ?_)
  refine ⟨by omega, ?_⟩
  intro m hm' o ho
  obtain rfl : m = d.length % 3 := by omega
  (repeat refine sb ?_)
  refine ldS_is (l := sndD d) rfl k2 ?_ ?_
  · rw [ho, Nat.zero_add, Nat.mul_one]
    unfold sndD
    rcases (show d.length % 3 = 0 ∨ d.length % 3 = 1 ∨ d.length % 3 = 2 by omega) with h | h | h <;> rw [h] <;> rfl
  (repeat refine sb ?_)
  refine st_abs (cs' := [str (sndA a), str (sndD d)]) rfl rfl k1 (show s.next + 1 < s.next + 1 + 1 + 1 by omega) rfl rfl fun s1 e1 c2 n2 => ?_
  (repeat refine sb ?_)
  (repeat (first | with_reducible refine sqRet ?_ | with_reducible refine bkRet ?_ | with_reducible refine hdRet ?_))
  exact ret_cell1 agg_Ad sz_Ad rfl e1 rfl ⟨rfl, c1.fresh c2 (by simp)⟩
theorem short12_w {s : SS} {a d : List UInt8} (hF : Fine s) : CallW pr n_law12_Short [adV a d] s fun v s' => v = adV (a.take 300) (d.take 300) ∧ Chg s s' [] := by
  refine CallW.run good ok_law12_Short (by simp) rfl ?_
  obtain ⟨h0, h1, c0, f0⟩ := new2_at hF (.cells [str a, str d] tAd false false) (.cells [str [], str []] tAd false false)
  (try refine pSeq ?_); (repeat(first|refine sb ?_|refine kNo ?_))
  refine ldS_is rfl h0 rfl ?_
  (repeat(first|refine sb ?_|refine kNo ?_))
  refine ldS_is rfl h0 rfl ?_
  (repeat(first|refine sb ?_|refine kNo ?_))
  intro n hn
  subst hn
  (repeat(first|refine sb ?_|refine kNo ?_))
  intro z hz
  (repeat(first|refine sb ?_|refine kNo ?_))
  refine slS_hi (min a.length 300) rfl rfl (by omega) (by omega) ?_
  rw [min_take]
  (repeat(first|refine sb ?_|refine kNo ?_))
  refine ldS_is rfl h0 rfl ?_
  (repeat(first|refine sb ?_|refine kNo ?_))
  refine ldS_is rfl h0 rfl ?_
  (repeat(first|refine sb ?_|refine kNo ?_))
  intro n hn
  subst hn
  (repeat(first|refine sb ?_|refine kNo ?_))
  intro z hz
  (repeat(first|refine sb ?_|refine kNo ?_))
  refine slS_hi (min d.length 300) rfl rfl (by omega) (by omega) ?_
  rw [min_take]
  (repeat(first|refine sb ?_|refine kNo ?_))
  refine st_abs (cs' := [str (a.take 300), str (d.take 300)]) rfl rfl h1 (show s.next + 1 < s.next + 1 + 1 by omega) rfl rfl fun s2 e2 c2 n2 => ?_
  refine kNo ?_
  (repeat(first|refine sb ?_|refine kNo ?_))
  (repeat (first | with_reducible refine sqRet ?_ | with_reducible refine bkRet ?_ | with_reducible refine hdRet ?_))
  exact ret_cell1 agg_Ad sz_Ad rfl e2 rfl ⟨rfl, c0.fresh c2 (by simp)⟩
end Go.Vf.S
end
section
/- Senders written anew: reverse. -/
namespace Go.Vf.S
open Go Go.Vf Go.Proofs Go.RowKit
attribute [local irreducible] wSeq wRow wp wG hmac tellF pstF tagF agF mayF domF cmayF nsF oursF isF
set_option linter.unusedVariables false
set_option linter.unusedSimpArgs false
set_option maxRecDepth 10000

abbrev rwV (r : List UInt8 × List UInt8 × Nat) : Value := .tuple ⟨[adV r.1 r.2.1, .int .i64 r.2.2]⟩
theorem rev_arg {c : Cdr} {a d : List UInt8} {day : Int} (h : cmayF c = false ∨ mayF a d = false) : revF c a d day = ([], [], 1) := by unfold revF; rw [if_pos h]
theorem rev_none {c : Cdr} {a d : List UInt8} {day : Int} (h : cmayF c = true) (h1 : mayF a d = true) (h2 : isF c a d = false) : revF c a d day = ([], [], 6) := by unfold revF; rw [if_neg (by rw [h, h1]; simp), if_pos h2]
theorem rev_go {c : Cdr} {a d : List UInt8} {day : Int} (h : cmayF c = true) (h1 : mayF a d = true) (h2 : isF c a d = true) : revF c a d day = revK c (if begF 1 a = true then 1 else 0) a day := by unfold revF; rw [if_neg (by rw [h, h1]; simp), if_neg (by rw [h2]; simp)]
/-- What leads back, told of what was read. -/
theorem rev_read {c : Cdr} {a d : List UInt8} {day : Int} (hi : isF c a d = true) : (readW a = none ∧ revK c (if begF 1 a = true then 1 else 0) a day = ([], [], 5)) ∨
    ∃ k x, k < 2 ∧ readW a = some (k, x) ∧ readS k a = some x ∧ revK c (if begF 1 a = true then 1 else 0) a day = revK c k a day := by
  have hb : begF 0 a = true ∨ begF 1 a = true := by
    unfold isF at hi
    rw [Bool.and_eq_true, Bool.or_eq_true] at hi
    exact hi.2
  rcases hb with hb | hb
  · rw [beg_one hb, if_neg (by decide), readW_0 hb]
    cases h : readS 0 a with
    | none => exact .inl ⟨rfl, revK_no h⟩
    | some x => exact .inr ⟨0, x, by decide, rfl, h, rfl⟩
  · rw [if_pos hb, readW_1 hb]
    cases h : readS 1 a with
    | none => exact .inl ⟨rfl, revK_no h⟩
    | some x => exact .inr ⟨1, x, by decide, rfl, h, rfl⟩
theorem bk_to {k : Nat} (x : Sd) (hk : k < 2) : bkF (srsU k) x.rest = toF k x := by
  unfold bkF
  rcases (show k = 0 ∨ k = 1 by omega) with rfl | rfl
  · rw [if_neg srsU_ne.2, toF_0]
  · rw [if_pos rfl, toF_1]; rfl
theorem revK_form {c : Cdr} {k : Nat} {a : List UInt8} {day : Int} {x : Sd} (h : readS k a = some x) (hm : mayF (toF k x) x.dom = false) : revK c k a day = ([], [], 5) := by rw [revK_at h, hm, if_pos rfl]
theorem kd_0 {k : Nat} (hk : k < 2) : srsU k = srsU 0 ↔ k = 0 := by
  rcases (show k = 0 ∨ k = 1 by omega) with rfl | rfl
  · simp
  · simp [srsU_ne.1]

set_option maxHeartbeats 4000000 in
theorem reverse_w {s : SS} {sec a d : List UInt8} {W : Option Addr} {cw : Nat} {ds : List (List UInt8)} {day : Int} (hG : Gk s) (hF : Fine s) (hdm : DomAt s W cw ds) (hs : sec.length ≤ 1000) (hsm : SmallD ds) (hal : a.length ≤ 1000) (hdl : d.length ≤ 1000) (hd : day ≤ 9223372036854775807) :
    CallW pr n_srs_Coder_Reverse [cdV sec W ds.length cw, adV a d, .int .i64 day] s fun v s' => v = rwV (revF ⟨sec, ds⟩ a d day) ∧ Chg s s' [] := by
  refine CallW.run good ok_srs_Coder_Reverse (by simp) rfl ?_
  obtain ⟨h0, h1, h2, c0, f0⟩ := new3_at hF (.cells [str sec, .slice W ds.length cw] tCo false false) (.cells [str a, str d] tAd false false) (.cells [str [], str []] tAd false false)
  (try refine pSeq ?_); (repeat(first|refine sb ?_|refine kNo ?_|refine gOn rfl ?_|refine gOff rfl rfl ?_|refine gTup rfl ?_))
  refine ldN_is rfl h0 rfl ?_
  (repeat(first|refine sb ?_|refine kNo ?_|refine gOn rfl ?_|refine gOff rfl rfl ?_|refine gTup rfl ?_))
  refine (cmay_w f0 (hdm.chg c0 (by simp)) hs hsm).mono fun v s1 q => ?_
  obtain ⟨rfl, c1⟩ := q
  have f1 := c1.fine f0
  replace h0 := c1.blk _ _ (show s.next < s.next + 1 + 1 + 1 by omega) (by simp) h0
  replace h1 := c1.blk _ _ (show s.next + 1 < s.next + 1 + 1 + 1 by omega) (by simp) h1
  replace h2 := c1.blk _ _ (show s.next + 1 + 1 < s.next + 1 + 1 + 1 by omega) (by simp) h2
  have n1 := c1.next
  replace n1 : s.next + 1 + 1 + 1 ≤ s1.next := n1
  replace c1 := c0.nil c1
  clear c0 f0
  (repeat(first|refine sb ?_|refine kNo ?_|refine gOn rfl ?_|refine gOff rfl rfl ?_|refine gTup rfl ?_))
  intro q hq
  cases hcm : cmayF ⟨sec, ds⟩ with
  | false =>
    obtain rfl : q = true := by rw [hq, hcm]; rfl
    rw [rev_arg (.inl hcm)]
    (repeat(first|refine sb ?_|refine kNo ?_|refine gOn rfl ?_|refine gOff rfl rfl ?_|refine gTup rfl ?_))
    refine st_abs (cs' := [str [], str []]) rfl rfl h2 (show s.next + 1 + 1 < s1.next by omega) rfl rfl fun s2 e2 c2 n2 => ?_
    (repeat(first|refine sb ?_|refine kNo ?_|refine gOn rfl ?_|refine gOff rfl rfl ?_|refine gTup rfl ?_))
    (repeat (first | with_reducible refine sqRet ?_ | with_reducible refine bkRet ?_ | with_reducible refine hdRet ?_))
    exact ret_cell agg_Ad sz_Ad rfl e2 rfl rfl ⟨rfl, c1.fresh c2 (by simp; omega)⟩
  | true =>
    obtain rfl : q = false := by rw [hq, hcm]; rfl
    (repeat(first|refine sb ?_|refine kNo ?_|refine gOn rfl ?_|refine gOff rfl rfl ?_|refine gTup rfl ?_))
    refine ldN_is rfl h1 rfl ?_
    (repeat(first|refine sb ?_|refine kNo ?_|refine gOn rfl ?_|refine gOff rfl rfl ?_|refine gTup rfl ?_))
    refine (may_w (a := a) (d := d) (by omega) (by omega)).mono fun v s2 q => ?_
    obtain ⟨rfl, c2⟩ := q
    have f2 := c2.fine f1
    replace h0 := c2.blk _ _ (show s.next < s1.next by omega) (by simp) h0
    replace h1 := c2.blk _ _ (show s.next + 1 < s1.next by omega) (by simp) h1
    replace h2 := c2.blk _ _ (show s.next + 1 + 1 < s1.next by omega) (by simp) h2
    have n2 := c2.next
    replace c2 := c1.nil c2
    clear c1 f1
    (repeat(first|refine sb ?_|refine kNo ?_|refine gOn rfl ?_|refine gOff rfl rfl ?_|refine gTup rfl ?_))
    intro q hq
    cases hm : mayF a d with
    | false =>
      obtain rfl : q = true := by rw [hq, hm]; rfl
      rw [rev_arg (.inr hm)]
      (repeat(first|refine sb ?_|refine kNo ?_|refine gOn rfl ?_|refine gOff rfl rfl ?_|refine gTup rfl ?_))
      refine st_abs (cs' := [str [], str []]) rfl rfl h2 (show s.next + 1 + 1 < s2.next by omega) rfl rfl fun s3 e3 c3 n3 => ?_
      (repeat(first|refine sb ?_|refine kNo ?_|refine gOn rfl ?_|refine gOff rfl rfl ?_|refine gTup rfl ?_))
      (repeat (first | with_reducible refine sqRet ?_ | with_reducible refine bkRet ?_ | with_reducible refine hdRet ?_))
      exact ret_cell agg_Ad sz_Ad rfl e3 rfl rfl ⟨rfl, c2.fresh c3 (by simp; omega)⟩
    | true =>
      obtain rfl : q = false := by rw [hq, hm]; rfl
      (repeat(first|refine sb ?_|refine kNo ?_|refine gOn rfl ?_|refine gOff rfl rfl ?_|refine gTup rfl ?_))
      refine ldN_is rfl h0 rfl ?_
      (repeat(first|refine sb ?_|refine kNo ?_|refine gOn rfl ?_|refine gOff rfl rfl ?_|refine gTup rfl ?_))
      refine ldN_is rfl h1 rfl ?_
      (repeat(first|refine sb ?_|refine kNo ?_|refine gOn rfl ?_|refine gOff rfl rfl ?_|refine gTup rfl ?_))
      refine (is_w f2 (hdm.chg c2 (by simp)) hsm.1 (by omega) (by omega)).mono fun v s3 q => ?_
      obtain ⟨rfl, c3⟩ := q
      have f3 := c3.fine f2
      replace h0 := c3.blk _ _ (show s.next < s2.next by omega) (by simp) h0
      replace h1 := c3.blk _ _ (show s.next + 1 < s2.next by omega) (by simp) h1
      replace h2 := c3.blk _ _ (show s.next + 1 + 1 < s2.next by omega) (by simp) h2
      have n3 := c3.next
      replace c3 := c2.nil c3
      clear c2 f2
      (repeat(first|refine sb ?_|refine kNo ?_|refine gOn rfl ?_|refine gOff rfl rfl ?_|refine gTup rfl ?_))
      intro q hq
      cases hi : isF ⟨sec, ds⟩ a d with
      | false =>
        obtain rfl : q = true := by rw [hq, hi]; rfl
        rw [rev_none hcm hm hi]
        (repeat(first|refine sb ?_|refine kNo ?_|refine gOn rfl ?_|refine gOff rfl rfl ?_|refine gTup rfl ?_))
        refine st_abs (cs' := [str [], str []]) rfl rfl h2 (show s.next + 1 + 1 < s3.next by omega) rfl rfl fun s4 e4 c4 n4 => ?_
        (repeat(first|refine sb ?_|refine kNo ?_|refine gOn rfl ?_|refine gOff rfl rfl ?_|refine gTup rfl ?_))
        (repeat (first | with_reducible refine sqRet ?_ | with_reducible refine bkRet ?_ | with_reducible refine hdRet ?_))
        exact ret_cell agg_Ad sz_Ad rfl e4 rfl rfl ⟨rfl, c3.fresh c4 (by simp; omega)⟩
      | true =>
        obtain rfl : q = false := by rw [hq, hi]; rfl
        rw [rev_go hcm hm hi]
        (repeat(first|refine sb ?_|refine kNo ?_|refine gOn rfl ?_|refine gOff rfl rfl ?_|refine gTup rfl ?_))
        refine ldS_is rfl h1 rfl ?_
        (repeat(first|refine sb ?_|refine kNo ?_|refine gOn rfl ?_|refine gOff rfl rfl ?_|refine gTup rfl ?_))
        refine (sread_w f3 (l := a) (by omega)).mono fun v s4 q => ?_
        obtain ⟨rfl, c4⟩ := q
        have f4 := c4.fine f3
        replace h0 := c4.blk _ _ (show s.next < s3.next by omega) (by simp) h0
        replace h2 := c4.blk _ _ (show s.next + 1 + 1 < s3.next by omega) (by simp) h2
        have n4 := c4.next
        replace c4 := c3.nil c4
        clear c3 f3 h1
        rcases rev_read (c := ⟨sec, ds⟩) (day := day) hi with ⟨hW, hK⟩ | ⟨k, x, hk, hW, hS, hK⟩
        · rw [hW, hK]
          obtain ⟨k0, k1, k2⟩ := new1_at f4 (.cells (strV [[], [], [], [], []]) tWr false false)
          (repeat(first|refine sb ?_|refine kNo ?_|refine gOn rfl ?_|refine gOff rfl rfl ?_|refine gTup rfl ?_))
          refine st_abs (cs' := strV [[], [], [], [], []]) rfl rfl k0 (Nat.lt_succ_self _) rfl rfl fun s5 e5 c5 n5 => ?_
          replace h2 := c5.blk _ _ (show s.next + 1 + 1 < s4.next + 1 by omega) (by simp; omega) (k1.blk _ _ (show s.next + 1 + 1 < s4.next by omega) (by simp) h2)
          replace n5 : s5.next = s4.next + 1 := n5
          replace c5 : Chg s s5 [] := c4.nil (k1.fresh c5 (by simp))
          have f5 := c5.fine hF
          (repeat(first|refine sb ?_|refine kNo ?_|refine gOn rfl ?_|refine gOff rfl rfl ?_|refine gTup rfl ?_))
          refine ldN_is rfl e5 rfl ?_
          (repeat(first|refine sb ?_|refine kNo ?_|refine gOn rfl ?_|refine gOff rfl rfl ?_|refine gTup rfl ?_))
          refine (sback_w f5 (by simp)).mono fun v s6 q => ?_
          obtain ⟨rfl, c6⟩ := q
          have f6 := c6.fine f5
          replace h2 := c6.blk _ _ (show s.next + 1 + 1 < s5.next by omega) (by simp) h2
          have n6 := c6.next
          obtain ⟨k0, k1, k2⟩ := new1_at f6 (.cells [str [], str []] tAd false false)
          (repeat(first|refine sb ?_|refine kNo ?_|refine gOn rfl ?_|refine gOff rfl rfl ?_|refine gTup rfl ?_))
          refine st_abs (cs' := [str (bkF [] []), str []]) rfl rfl k0 (Nat.lt_succ_self _) rfl rfl fun s7 e7 c7 n7 => ?_
          replace h2 := c7.blk _ _ (show s.next + 1 + 1 < s6.next + 1 by omega) (by simp; omega) (k1.blk _ _ (show s.next + 1 + 1 < s6.next by omega) (by simp) h2)
          replace n7 : s7.next = s6.next + 1 := n7
          replace c7 : Chg s s7 [] := (c5.nil c6).nil (k1.fresh c7 (by simp))
          (repeat(first|refine sb ?_|refine kNo ?_|refine gOn rfl ?_|refine gOff rfl rfl ?_|refine gTup rfl ?_))
          intro q hq
          obtain rfl : q = true := by rw [hq]; rfl
          (repeat(first|refine sb ?_|refine kNo ?_|refine gOn rfl ?_|refine gOff rfl rfl ?_|refine gTup rfl ?_))
          refine st_abs (cs' := [str [], str []]) rfl rfl h2 (show s.next + 1 + 1 < s7.next by omega) rfl rfl fun s8 e8 c8 n8 => ?_
          (repeat(first|refine sb ?_|refine kNo ?_|refine gOn rfl ?_|refine gOff rfl rfl ?_|refine gTup rfl ?_))
          (repeat (first | with_reducible refine sqRet ?_ | with_reducible refine bkRet ?_ | with_reducible refine hdRet ?_))
          exact ret_cell agg_Ad sz_Ad rfl e8 rfl rfl ⟨rfl, c7.fresh c8 (by simp; omega)⟩
        · rw [hW, hK]
          obtain ⟨x1, x2, x3, x4⟩ := readS_len hS
          obtain ⟨k0, k1, k2⟩ := new1_at f4 (.cells (strV [[], [], [], [], []]) tWr false false)
          (repeat(first|refine sb ?_|refine kNo ?_|refine gOn rfl ?_|refine gOff rfl rfl ?_|refine gTup rfl ?_))
          refine st_abs (cs' := strV [srsU k, x.tag, x.st, x.dom, x.rest]) rfl rfl k0 (Nat.lt_succ_self _) rfl rfl fun s5 e5 c5 n5 => ?_
          replace h0 := c5.blk _ _ (show s.next < s4.next + 1 by omega) (by simp; omega) (k1.blk _ _ (show s.next < s4.next by omega) (by simp) h0)
          replace h2 := c5.blk _ _ (show s.next + 1 + 1 < s4.next + 1 by omega) (by simp; omega) (k1.blk _ _ (show s.next + 1 + 1 < s4.next by omega) (by simp) h2)
          replace n5 : s5.next = s4.next + 1 := n5
          replace c5 : Chg s s5 [] := c4.nil (k1.fresh c5 (by simp))
          have f5 := c5.fine hF
          clear c4 f4 k0 k1 k2
          (repeat(first|refine sb ?_|refine kNo ?_|refine gOn rfl ?_|refine gOff rfl rfl ?_|refine gTup rfl ?_))
          refine ldN_is rfl e5 (show _ = some (strV [srsU k, x.tag, x.st, x.dom, x.rest]) from rfl) ?_
          (repeat(first|refine sb ?_|refine kNo ?_|refine gOn rfl ?_|refine gOff rfl rfl ?_|refine gTup rfl ?_))
          refine (sback_w f5 (by omega)).mono fun v s6 q => ?_
          obtain ⟨rfl, c6⟩ := q
          rw [bk_to x hk]
          have htl : (toF k x).length ≤ 4 + a.length := by
            rw [← bk_to x hk]
            unfold bkF
            split
            · rw [List.length_append]; have : (srsU 0).length = 4 := rfl; omega
            · omega
          have f6 := c6.fine f5
          replace h0 := c6.blk _ _ (show s.next < s5.next by omega) (by simp) h0
          replace h2 := c6.blk _ _ (show s.next + 1 + 1 < s5.next by omega) (by simp) h2
          replace e5 := c6.blk _ _ (show s4.next < s5.next by omega) (by simp) e5
          have n6 := c6.next
          obtain ⟨k0, k1, k2⟩ := new1_at f6 (.cells [str [], str []] tAd false false)
          (repeat(first|refine sb ?_|refine kNo ?_|refine gOn rfl ?_|refine gOff rfl rfl ?_|refine gTup rfl ?_))
          refine st_abs (cs' := [str (toF k x), str x.dom]) rfl rfl k0 (Nat.lt_succ_self _) rfl rfl fun s7 e7 c7 n7 => ?_
          replace h0 := c7.blk _ _ (show s.next < s6.next + 1 by omega) (by simp; omega) (k1.blk _ _ (show s.next < s6.next by omega) (by simp) h0)
          replace h2 := c7.blk _ _ (show s.next + 1 + 1 < s6.next + 1 by omega) (by simp; omega) (k1.blk _ _ (show s.next + 1 + 1 < s6.next by omega) (by simp) h2)
          replace e5 := c7.blk _ _ (show s4.next < s6.next + 1 by omega) (by simp; omega) (k1.blk _ _ (show s4.next < s6.next by omega) (by simp) e5)
          replace n7 : s7.next = s6.next + 1 := n7
          replace c7 : Chg s s7 [] := (c5.nil c6).nil (k1.fresh c7 (by simp))
          have f7 := c7.fine hF
          clear c5 f5 c6 f6 k0 k1 k2
          (repeat(first|refine sb ?_|refine kNo ?_|refine gOn rfl ?_|refine gOff rfl rfl ?_|refine gTup rfl ?_))
          intro q hq
          obtain rfl : q = false := by rw [hq]; rfl
          (repeat(first|refine sb ?_|refine kNo ?_|refine gOn rfl ?_|refine gOff rfl rfl ?_|refine gTup rfl ?_))
          refine ldN_is rfl e7 rfl ?_
          (repeat(first|refine sb ?_|refine kNo ?_|refine gOn rfl ?_|refine gOff rfl rfl ?_|refine gTup rfl ?_))
          refine (may_w (a := toF k x) (d := x.dom) (by omega) (by omega)).mono fun v s8 q => ?_
          obtain ⟨rfl, c8⟩ := q
          have f8 := c8.fine f7
          replace h0 := c8.blk _ _ (show s.next < s7.next by omega) (by simp) h0
          replace h2 := c8.blk _ _ (show s.next + 1 + 1 < s7.next by omega) (by simp) h2
          replace e5 := c8.blk _ _ (show s4.next < s7.next by omega) (by simp) e5
          replace e7 := c8.blk _ _ (show s6.next < s7.next by omega) (by simp) e7
          have n8 := c8.next
          replace c8 := c7.nil c8
          clear c7 f7
          (repeat(first|refine sb ?_|refine kNo ?_|refine gOn rfl ?_|refine gOff rfl rfl ?_|refine gTup rfl ?_))
          intro q hq
          cases hm2 : mayF (toF k x) x.dom with
          | false =>
            obtain rfl : q = true := by rw [hq, hm2]; rfl
            rw [revK_form hS hm2]
            (repeat(first|refine sb ?_|refine kNo ?_|refine gOn rfl ?_|refine gOff rfl rfl ?_|refine gTup rfl ?_))
            refine st_abs (cs' := [str [], str []]) rfl rfl h2 (show s.next + 1 + 1 < s8.next by omega) rfl rfl fun s9 e9 c9 n9 => ?_
            (repeat(first|refine sb ?_|refine kNo ?_|refine gOn rfl ?_|refine gOff rfl rfl ?_|refine gTup rfl ?_))
            (repeat (first | with_reducible refine sqRet ?_ | with_reducible refine bkRet ?_ | with_reducible refine hdRet ?_))
            exact ret_cell agg_Ad sz_Ad rfl e9 rfl rfl ⟨rfl, c8.fresh c9 (by simp; omega)⟩
          | true =>
            obtain rfl : q = false := by rw [hq, hm2]; rfl
            (repeat(first|refine sb ?_|refine kNo ?_|refine gOn rfl ?_|refine gOff rfl rfl ?_|refine gTup rfl ?_))
            refine ldS_is rfl e5 rfl ?_
            (repeat(first|refine sb ?_|refine kNo ?_|refine gOn rfl ?_|refine gOff rfl rfl ?_|refine gTup rfl ?_))
            refine ldN_is rfl h0 rfl ?_
            (repeat(first|refine sb ?_|refine kNo ?_|refine gOn rfl ?_|refine gOff rfl rfl ?_|refine gTup rfl ?_))
            refine ldS_is rfl e5 rfl ?_
            (repeat(first|refine sb ?_|refine kNo ?_|refine gOn rfl ?_|refine gOff rfl rfl ?_|refine gTup rfl ?_))
            refine ldS_is rfl e5 rfl ?_
            (repeat(first|refine sb ?_|refine kNo ?_|refine gOn rfl ?_|refine gOff rfl rfl ?_|refine gTup rfl ?_))
            refine ldS_is rfl e5 rfl ?_
            (repeat(first|refine sb ?_|refine kNo ?_|refine gOn rfl ?_|refine gOff rfl rfl ?_|refine gTup rfl ?_))
            refine mkS_is rfl rfl (rNew f8.at ?_)
            obtain ⟨m0, m1, m2⟩ := new1_at f8 (.cells (strV [x.st, x.dom, x.rest]) tS false false)
            have efl : [x.st, x.dom, x.rest].flatten = x.st ++ x.dom ++ x.rest := by simp
            (repeat(first|refine sb ?_|refine kNo ?_|refine gOn rfl ?_|refine gOff rfl rfl ?_|refine gTup rfl ?_))
            refine (tag_w (sec := sec) (ls := [x.st, x.dom, x.rest]) (hG.nil (c8.nil m1)) m2 ⟨Nat.lt_succ_self s8.next, m0⟩ hs (by simp) (by simp) (by rw [efl]; simp only [List.length_append]; omega)).mono fun v s9 q => ?_
            obtain ⟨rfl, c9⟩ := q
            rw [efl]
            have h4 := tag_4 sec (x.st ++ x.dom ++ x.rest)
            have f9 := c9.fine m2
            have c89 := m1.nil c9
            replace h0 := c89.blk _ _ (show s.next < s8.next by omega) (by simp) h0
            replace h2 := c89.blk _ _ (show s.next + 1 + 1 < s8.next by omega) (by simp) h2
            replace e5 := c89.blk _ _ (show s4.next < s8.next by omega) (by simp) e5
            replace e7 := c89.blk _ _ (show s6.next < s8.next by omega) (by simp) e7
            have n9 := c89.next
            replace c89 := c8.nil c89
            refine kAll (c9.keep m2) ?_
            (repeat(first|refine sb ?_|refine kNo ?_|refine gOn rfl ?_|refine gOff rfl rfl ?_|refine gTup rfl ?_))
            refine (same_w (l := x.tag) (t := tagF sec (x.st ++ x.dom ++ x.rest)) (by omega) (by omega)).mono fun v s10 q => ?_
            obtain ⟨rfl, c10⟩ := q
            have f10 := c10.fine f9
            replace h0 := c10.blk _ _ (show s.next < s9.next by omega) (by simp) h0
            replace h2 := c10.blk _ _ (show s.next + 1 + 1 < s9.next by omega) (by simp) h2
            replace e5 := c10.blk _ _ (show s4.next < s9.next by omega) (by simp) e5
            replace e7 := c10.blk _ _ (show s6.next < s9.next by omega) (by simp) e7
            have n10 := c10.next
            replace c10 := c89.nil c10
            clear c89 c8 f8 f9 m0 m1 m2 c9
            refine kNo ?_
            (repeat(first|refine sb ?_|refine kNo ?_|refine gOn rfl ?_|refine gOff rfl rfl ?_|refine gTup rfl ?_))
            intro q hq
            by_cases ht : low x.tag = low (tagF sec (x.st ++ x.dom ++ x.rest))
            case neg =>
              obtain rfl : q = true := by rw [hq]; exact (congrArg not (decide_eq_false ht))
              rw [revK_check hS hm2 ht]
              (repeat(first|refine sb ?_|refine kNo ?_|refine gOn rfl ?_|refine gOff rfl rfl ?_|refine gTup rfl ?_))
              refine st_abs (cs' := [str [], str []]) rfl rfl h2 (show s.next + 1 + 1 < s10.next by omega) rfl rfl fun s11 e11 c11 n11 => ?_
              (repeat(first|refine sb ?_|refine kNo ?_|refine gOn rfl ?_|refine gOff rfl rfl ?_|refine gTup rfl ?_))
              (repeat (first | with_reducible refine sqRet ?_ | with_reducible refine bkRet ?_ | with_reducible refine hdRet ?_))
              exact ret_cell agg_Ad sz_Ad rfl e11 rfl rfl ⟨rfl, c10.fresh c11 (by simp; omega)⟩
            obtain rfl : q = false := by rw [hq]; exact (congrArg not (decide_eq_true ht))
            (repeat(first|refine sb ?_|refine kNo ?_|refine gOn rfl ?_|refine gOff rfl rfl ?_|refine gTup rfl ?_))
            refine ldN_is rfl e5 (show _ = some (strV [srsU k, x.tag, x.st, x.dom, x.rest]) from rfl) ?_
            (repeat(first|refine sb ?_|refine kNo ?_|refine gOn rfl ?_|refine gOff rfl rfl ?_|refine gTup rfl ?_))
            refine (sold_w f10 (by omega) hd).mono fun v s11 q => ?_
            obtain ⟨rfl, c11⟩ := q
            replace h2 := c11.blk _ _ (show s.next + 1 + 1 < s10.next by omega) (by simp) h2
            replace e7 := c11.blk _ _ (show s6.next < s10.next by omega) (by simp) e7
            have n11 := c11.next
            replace c11 := c10.nil c11
            cases ho : oldF (srsU k) x.st day with
            | true =>
              unfold oldF at ho
              obtain ⟨o1, o2⟩ := of_decide_eq_true ho
              obtain rfl := (kd_0 hk).1 o1
              rw [revK_old hS hm2 ht rfl o2]
              (repeat(first|refine sb ?_|refine kNo ?_|refine gOn rfl ?_|refine gOff rfl rfl ?_|refine gTup rfl ?_))
              refine st_abs (cs' := [str [], str []]) rfl rfl h2 (show s.next + 1 + 1 < s11.next by omega) rfl rfl fun s12 e12 c12 n12 => ?_
              (repeat(first|refine sb ?_|refine kNo ?_|refine gOn rfl ?_|refine gOff rfl rfl ?_|refine gTup rfl ?_))
              (repeat (first | with_reducible refine sqRet ?_ | with_reducible refine bkRet ?_ | with_reducible refine hdRet ?_))
              exact ret_cell agg_Ad sz_Ad rfl e12 rfl rfl ⟨rfl, c11.fresh c12 (by simp; omega)⟩
            | false =>
              unfold oldF at ho
              have o1 := of_decide_eq_false ho
              rw [revK_ok hS hm2 ht rfl (fun q => o1 ⟨(kd_0 hk).2 q.1, q.2⟩)]
              (repeat(first|refine sb ?_|refine kNo ?_|refine gOn rfl ?_|refine gOff rfl rfl ?_|refine gTup rfl ?_))
              refine ldN_is rfl e7 rfl ?_
              (repeat(first|refine sb ?_|refine kNo ?_|refine gOn rfl ?_|refine gOff rfl rfl ?_|refine gTup rfl ?_))
              refine st_abs (cs' := [str (toF k x), str x.dom]) rfl rfl h2 (show s.next + 1 + 1 < s11.next by omega) rfl rfl fun s12 e12 c12 n12 => ?_
              (repeat(first|refine sb ?_|refine kNo ?_|refine gOn rfl ?_|refine gOff rfl rfl ?_|refine gTup rfl ?_))
              (repeat (first | with_reducible refine sqRet ?_ | with_reducible refine bkRet ?_ | with_reducible refine hdRet ?_))
              exact ret_cell agg_Ad sz_Ad rfl e12 rfl rfl ⟨rfl, c11.fresh c12 (by simp; omega)⟩
end Go.Vf.S
end
section
/- What the rows of the seat have in common: no law of them reads a listed variable here. -/
namespace Go.Vf.S
open Go Go.Vf Go.Proofs Go.Proofs.YtgddphciejoljaaGreatDoor Go.RowKit Go.ChangeShapes
theorem i64_of_wf {z : Int} (h : (Lit.int .i64 z).wf = true) : -9223372036854775808 ≤ z ∧ z ≤ 9223372036854775807 := by simpa [Lit.wf, IntKind.min, IntKind.max, IntKind.signed, IntKind.bits] using h
theorem own : ownKnob pr.godebug = none := by kernel_rfl
theorem laidOut : laidOutB pr = true := by kernel_rfl
end Go.Vf.S
end
section
/- A wrap that keeps the world's shape beside what is laid. -/
namespace Go.Vf.S
open Go Go.Vf Go.Proofs Go.Proofs.YtgddphciejoljaaGreatDoor Go.RowKit Go.ChangeShapes
set_option linter.unusedVariables false
set_option linter.unusedSimpArgs false

theorem hand_shaped {H : Type} {enc : TypeId × Value → H} {a : Assume} {C : Checked} {os : Os} {f : FuncId} {fn : Func} {s : ChangeSpec} {conds : List PathCond} {apart fresh handsOn again : Bool} {X : World → Array Value → Prop}
    (hX : ∀ (w w' : World) (args : Array Value), w.heap = w'.heap → X w args → X w' args) (own : ownKnob C.prog.godebug = none) (started : os.Started) (noInit : C.prog.inits.idxOf? f = none) (hfn : C.prog.funcs[f]? = some fn)
    (witness : ∃ (w : World) (tape : Tape) (i : Input), w.os = os ∧ (w.forCall tape i).Shaped C.prog ∧ i.vars = [] ∧ Input.okWide C.prog (w.forCall tape i) .any w.heap.size f i ∧
      ((s.pre enc C.prog fn conds apart (w.forCall tape i).memory i.args ∧ X (w.forCall tape i).memory i.args) ∧ sizedMet enc C.prog fn (OpenSpec.ofChange s) apart (w.forCall tape i).memory i.args) ∧ a.holds C.prog (lone (Frame.enter C.prog f i.args .normal) [] (w.forCall tape i)))
    (contract : ∀ (W : World) (base : Nat) (args : Array Value) (ds gs : List (DataW H)) (before : List MemPlace), (∀ (j : Nat) t v, fn.params[j]? = some t → args[j]? = some v → Value.okWide C.prog W .any base t v) →
      DataW.Whole enc C.prog fn.params.toList s.vars apart W args.toList ds gs before → X W args → W.ShapedOpen C.prog → Calls C.prog f args W fun e W' => ∃ v, e = .returned v ∧ s.post enc C.prog fn apart fresh handsOn again W args v W') :
    ReturnsInHanded a C os f .any (fun w args => (s.pre enc C.prog fn conds apart w args ∧ X w args) ∧ sizedMet enc C.prog fn (OpenSpec.ofChange s) apart w args) (s.post enc C.prog fn apart fresh handsOn again) := by
  refine returnsInHanded_of_calls own started noInit witness ?_
  intro w tape i _ hsh _ hok hpre _
  obtain ⟨_, _, _, fn', hfn', _, _, _, _, hval⟩ := hok
  obtain rfl : fn' = fn := Option.some.inj (hfn'.symm.trans hfn)
  obtain ⟨⟨⟨ds, gs, before, hw, _⟩, hx⟩, _⟩ := hpre
  refine (contract (w.forCall tape i) w.heap.size i.args ds gs before hval (DataW.Whole.of_heap (w' := w.forCall tape i) (by rfl) hw) (hX _ _ _ (by rfl) hx) hsh).mono fun e W' ⟨v, he, hp⟩ => ?_
  subst he
  exact ChangeSpec.post_blind hp
end Go.Vf.S
end
section
/- The kinds' table, as the rows lay it; a start that knows it, and what is handed in. -/
namespace Go.Vf.S
open Go Go.Vf Go.Proofs Go.Proofs.YtgddphciejoljaaGreatDoor Go.RowKit Go.ChangeShapes
set_option linter.unusedVariables false
set_option linter.unusedSimpArgs false
set_option maxRecDepth 10000

theorem tab_core11 {W : World} {name : String} {g es : Nat} {t : TypeId} {cs : Array Value} {V : List Value} (hg : pr.globalNamed name = some g) (hv : W.var? pr name = some cs) (hcs : cs.toList = V) (hz : ∃ c t0, W.heap[g]? = some (.cells c t0 (0, 0))) (he : (pr.info? t).map (·.size) = some es) (hp : V.all plain1 = true) :
    GoodB pr W ⟨g, 0, V.length, es, false⟩ (.cells V t false true) := by
  obtain ⟨c, t0, hblk⟩ := hz
  have hc : c = ⟨V⟩ := by
    unfold World.var? at hv
    rw [hg] at hv
    simp only [Option.bind_some, hblk, Option.some.injEq] at hv
    rw [hv]
    exact Array.toList_inj.1 hcs
  subst hc
  refine ⟨fun ρ => ⟨rfl, V, 0, 0, t0, hblk, (fun z => by cases z), (fun i _ hh => by omega), by show 0 + V.length ≤ V.length; omega, Nat.le_refl _, he, fun i v hi => ⟨v, by simpa using hi, plain1_rel ?_⟩⟩, rfl, ?_⟩
  · exact List.all_eq_true.1 hp v (List.mem_of_getElem? hi)
  · exact (Array.getElem?_eq_some_iff.1 hblk).1
def kOf (r : Nat) : Nat := if r = 0 then 5 else if r = 1 then 6 else 4
abbrev tK3 : TypeId := 78
theorem kinds_get {r j : Nat} (hr : r < 3) (hj : j < 4) : kindsV[r * 4 + j]? = (kV (kOf r))[j]? := by
  rcases (show r = 0 ∨ r = 1 ∨ r = 2 by omega) with rfl | rfl | rfl <;> rcases (show j = 0 ∨ j = 1 ∨ j = 2 ∨ j = 3 by omega) with rfl | rfl | rfl | rfl <;> rfl
theorem kd_core {W : World} {g : Nat} {t : TypeId} {cs : Array Value} {fuel : Nat} {p : List MemPlace} (hg : pr.globalNamed "postrider/coding.kinds" = some g) (ht : (pr.globals[g]?).map (·.type) = some t)
    (hd : DataW.trod (fun _ => ()) pr W 0 (fun _ => true) false fuel t cs.toList = some (Rows.laid_postrider_coding_kinds, p)) : g = gK ∧ cs.toList = kindsV := by
  obtain rfl := Option.some.inj ((show pr.globalNamed "postrider/coding.kinds" = some gK by kernel_rfl).symm.trans hg)
  obtain rfl := Option.some.inj ((show (pr.globals[gK]?).map (·.type) = some tK3 by kernel_rfl).symm.trans ht)
  refine ⟨rfl, ?_⟩
  obtain ⟨xs, m, _, ex, hlen, hl, hel⟩ := DataW.trod_array Tryz.underlying78 hd
  have c4 : pr.cellsOf tKd = 4 := by kernel_rfl
  have c59 : pr.cellsOf tK3 = 12 := by kernel_rfl
  have cS : pr.cellsOf 9 = 1 := by kernel_rfl
  have cU : pr.cellsOf 75 = 1 := by kernel_rfl
  have cI : pr.cellsOf 3 = 1 := by kernel_rfl
  have cB : pr.cellsOf 4 = 1 := by kernel_rfl
  have e3 : (xs.map (·.1)) = ((List.range 3).map fun i => (.agg [.lit (.string (lets (kOf i))), .lit (.int .u64 (kOf i : Nat)), .lit (.int .i64 (rowN (kOf i) : Nat)), .lit (.bool (decide (kOf i ≠ 6)))] : DataW Unit)) := (DataW.agg.inj (Prod.mk.inj ex).1).symm.trans (by kernel_rfl)
  have key : ∀ r, r < 3 → ∀ j, j < 4 → cs.toList[r * 4 + j]? = (kV (kOf r))[j]? := fun r hr j hj => by
    have hE := hel r hr
    rw [c4, List.getElem?_eq_getElem (by omega)] at hE
    obtain ⟨ys, n, _, ey, _, hyl, hf⟩ := DataW.trod_struct Tryz.underlying77 hE
    have hyl2 : ys.length = 4 := hyl
    have e4 : (xs.map (·.1))[r]? = ((List.range 3).map fun i => (.agg [.lit (.string (lets (kOf i))), .lit (.int .u64 (kOf i : Nat)), .lit (.int .i64 (rowN (kOf i) : Nat)), .lit (.bool (decide (kOf i ≠ 6)))] : DataW Unit))[r]? := by rw [e3]
    rw [List.getElem?_map, List.getElem?_map, List.getElem?_eq_getElem (by omega : r < xs.length), List.getElem?_range hr, ey] at e4
    simp only [Option.map_some, Option.some.injEq, DataW.agg.injEq] at e4
    match ys, hyl2 with
    | [y0, y1, y2, y3], _ =>
      have f0 := hf 0 _ rfl
      have f1 := hf 1 _ rfl
      have f2 := hf 2 _ rfl
      have f3 := hf 3 _ rfl
      simp only [List.map_cons, List.map_nil, List.cons.injEq, and_true] at e4
      obtain ⟨z0, a1, a2, _⟩ := DataW.trod_string Tryz.underlying9 f0
      obtain ⟨z1, b1, b2, _⟩ := DataW.trod_int Tryz.underlying75 f1
      obtain ⟨z2, d1, d2, _⟩ := DataW.trod_int Tryz.underlying3 f2
      obtain ⟨z3, g1, g2⟩ := DataW.trod_bool Tryz.underlying4 f3
      rw [a2, b2, d2, g2] at e4
      simp only [DataW.lit.injEq, Lit.string.injEq, Lit.int.injEq, Lit.bool.injEq, true_and] at e4
      have a3 : (((cs.toList.drop (r * 4)).take 4).drop 0).take (pr.cellsOf 9) = [.string z0] := a1
      have b3 : (((cs.toList.drop (r * 4)).take 4).drop 1).take (pr.cellsOf 75) = [.int .u64 z1] := b1
      have d3 : (((cs.toList.drop (r * 4)).take 4).drop 2).take (pr.cellsOf 3) = [.int .i64 z2] := d1
      have g3 : (((cs.toList.drop (r * 4)).take 4).drop 3).take (pr.cellsOf 4) = [.bool z3] := g1
      rw [cS] at a3
      rw [cU] at b3
      rw [cI] at d3
      rw [cB] at g3
      have a4 : ((((cs.toList.drop (r * 4)).take 4).drop 0).take 1)[0]? = some (.string z0) := by rw [a3]; rfl
      have b4 : ((((cs.toList.drop (r * 4)).take 4).drop 1).take 1)[0]? = some (.int .u64 z1) := by rw [b3]; rfl
      have d4 : ((((cs.toList.drop (r * 4)).take 4).drop 2).take 1)[0]? = some (.int .i64 z2) := by rw [d3]; rfl
      have g4 : ((((cs.toList.drop (r * 4)).take 4).drop 3).take 1)[0]? = some (.bool z3) := by rw [g3]; rfl
      simp only [List.getElem?_take, List.getElem?_drop, Nat.zero_lt_one, if_true, Nat.add_zero, Nat.zero_add, show (0 : Nat) < 4 from by decide, show (1 : Nat) < 4 from by decide, show (2 : Nat) < 4 from by decide, show (3 : Nat) < 4 from by decide] at a4 b4 d4 g4
      obtain ⟨q0, q1, q2, q3⟩ := e4
      rcases (show j = 0 ∨ j = 1 ∨ j = 2 ∨ j = 3 by omega) with rfl | rfl | rfl | rfl
      · rw [kv0, Nat.add_zero, a4, ← q0]
      · rw [kv1, b4, q1]
      · rw [kv2, d4, q2]
      · rw [kv3, g4, q3]
  have alen : kindsV.length = 12 := rfl
  refine List.ext_getElem? fun r => ?_
  rcases Nat.lt_or_ge r 12 with hr | hr
  · have h1 := key (r / 4) (by omega) (r % 4) (by omega)
    have h2 := kinds_get (r := r / 4) (j := r % 4) (by omega) (by omega)
    rw [show r / 4 * 4 + r % 4 = r by omega] at h1 h2
    rw [h1, h2]
  · rw [List.getElem?_eq_none (by rw [hlen, c59]; exact hr), List.getElem?_eq_none (by rw [alen]; exact hr)]
theorem row_in11 {ps : List MemPlace} {g n : Nat} {p q : List MemPlace} (h : ∀ x, x ∈ MemPlace.row ⟨g, 0, none⟩ n ++ p ++ q → x ∈ ps) (hi : 0 < n) : MemPlace.cell g 0 ∈ ps := by
  refine h _ ?_
  simp only [List.mem_append]
  left; left
  exact List.mem_map.2 ⟨0, List.mem_range.2 hi, by simp⟩
theorem size_of11 {cs : Array Value} {V : List Value} (h : cs.toList = V) (hV : 0 < V.length) : 0 < cs.size := by
  have := congrArg List.length h
  rw [Array.length_toList] at this
  omega
abbrev kE : RE := ⟨gK, 0, 12, 4, false⟩
abbrev kB : ABlk := .cells kindsV tKd false true
def laidC : List (String × DataW Unit) := [("unicode/utf8.acceptRanges", Rows.laid_unicode_utf8_acceptRanges), ("postrider/coding.kinds", Rows.laid_postrider_coding_kinds), ("unicode/utf8.first", Rows.laid_unicode_utf8_first)]
theorem kinds_good {W : World} {r : List (String × DataW Unit)} (h : laidMet pr (("unicode/utf8.acceptRanges", Rows.laid_unicode_utf8_acceptRanges) :: ("postrider/coding.kinds", Rows.laid_postrider_coding_kinds) :: r) W) : GoodB pr W kE kB := by
  obtain ⟨ps0, hL, _, hz⟩ := h
  obtain ⟨g0, t0, cs0, fuel0, p0, q0, _, _, _, _, hL1, hps0⟩ := hL
  obtain ⟨g1, t1, cs1, fuel1, p1, q1, hg1, ht1, hv1, hd1, hL2, hps1⟩ := hL1
  obtain ⟨rfl, e1⟩ := kd_core hg1 ht1 hd1
  have app := @List.mem_append_right MemPlace
  exact tab_core11 hg1 hv1 e1 (hz _ 0 (row_in11 (fun x hx => by rw [hps0, hps1]; exact app _ hx) (size_of11 e1 (by decide)))).1 (by kernel_rfl) (by kernel_rfl)
theorem tabsC {W : World} (h : laidMetH pr laidC W) : GoodB pr W kE kB := by
  rw [MakeChecks.laidMetH_plain _ _ _ (by kernel_rfl)] at h
  exact kinds_good h
/-! ### A start -/
end Go.Vf.S
end
section
/- The coders that the laws make; the chapter's row. -/
namespace Go.Vf.S
open Go Go.Vf Go.Proofs Go.RowKit
attribute [local irreducible] wSeq wRow wp wG hmac tellF pstF tagF agF mayF domF cmayF nsF oursF isF fwdF revF
set_option linter.unusedVariables false
set_option linter.unusedSimpArgs false
set_option maxRecDepth 10000

theorem small_1 {d : List UInt8} (h : d.length ≤ 100) : SmallD [d] := ⟨by simp, fun x hx => by rw [List.mem_singleton.1 hx]; omega⟩
theorem sec_61 (x dm : List UInt8) : (cdr x dm).sec.length ≤ 1000 := by
  show (107 :: x.take 60).length ≤ _
  rw [List.length_cons, List.length_take]; omega
theorem dom_1 {s : SS} {b : Nat} {d : List UInt8} (h : RowC s b [d]) : DomAt s (some ⟨b, 0, none⟩) 1 [d] := .inr ⟨b, rfl, rfl, h⟩
abbrev cdU (x dm : List UInt8) (b : Nat) : Value := cdV (cdr x dm).sec (some ⟨b, 0, none⟩) 1 1
section
variable {s : SS} {x dm a d : List UInt8} {b : Nat} {day : Int}
theorem fwd1_w (hG : Gk s) (hF : Fine s) (hr : RowC s b [dm]) (hm : dm.length ≤ 100) (hal : a.length ≤ 1000) (hdl : d.length ≤ 1000) (hd : day ≤ 9223372036854775807) :
    CallW pr n_srs_Coder_Forward [cdU x dm b, adV a d, .int .i64 day] s fun v s' => v = rvV (fwdF (cdr x dm) a d day) ∧ Chg s s' [] :=
  forward_w (ds := [dm]) hG hF (dom_1 hr) (sec_61 x dm) (small_1 hm) hal hdl hd
theorem rev1_w (hG : Gk s) (hF : Fine s) (hr : RowC s b [dm]) (hm : dm.length ≤ 100) (hal : a.length ≤ 1000) (hdl : d.length ≤ 1000) (hd : day ≤ 9223372036854775807) :
    CallW pr n_srs_Coder_Reverse [cdU x dm b, adV a d, .int .i64 day] s fun v s' => v = rwV (revF (cdr x dm) a d day) ∧ Chg s s' [] :=
  reverse_w (ds := [dm]) hG hF (dom_1 hr) (sec_61 x dm) (small_1 hm) hal hdl hd
theorem is1_w (hF : Fine s) (hr : RowC s b [dm]) (hal : a.length ≤ 1000000) (hdl : d.length ≤ 1000000) :
    CallW pr n_srs_Coder_Is [cdU x dm b, adV a d] s fun v s' => v = .bool (isF (cdr x dm) a d) ∧ Chg s s' [] :=
  is_w (ds := [dm]) hF (dom_1 hr) (by simp) hal hdl
theorem ours1_w (hF : Fine s) (hr : RowC s b [dm]) (hdl : d.length ≤ 1000000) :
    CallW pr n_srs_Coder_Ours [cdU x dm b, adV a d] s fun v s' => v = .bool (oursF (cdr x dm) d) ∧ Chg s s' [] :=
  ours_w (ds := [dm]) hF (dom_1 hr) (by simp) hdl
end
abbrev coC (x dm : List UInt8) (b : Nat) : List Value := [str (cdr x dm).sec, .slice (some ⟨b, 0, none⟩) 1 1]
abbrev adC2 (a d : List UInt8) : List Value := [str a, str d]

/-! ### The chapter's row -/
def tlF : List UInt8 := firstF [107, 101, 121] (stT (sn 0)) aEx [97, 110, 110]
theorem tl_fwd : fwdF (cdr [101, 121] bEx) [97, 110, 110] aEx 0 = (tlF, bEx, 0) := by
  have h0 : domF aEx = 0 := dom_facts.1.1
  have hm : mayF [97, 110, 110] aEx = true := may_of (by decide) (by decide) (by decide) h0
  have hn : nsF (cdr [101, 121] bEx).sec [97, 110, 110] aEx 0 = tlF := by
    unfold nsF
    have e0 : begF 0 [97, 110, 110] = false := by decide
    have e1 : begF 1 [97, 110, 110] = false := by decide
    rw [e0, if_neg (by decide), readS_no e1]
    rfl
  have hl : (low aEx).length = 9 := by decide
  have hlen : tlF.length = 26 := by unfold tlF; rw [first_len (stT_len _), hl]; rfl
  have ho : oursF (cdr [101, 121] bEx) aEx = false := by rw [ours_cdr]; decide
  unfold fwdF
  rw [cdr_may (by decide) dom_facts.2.2.1, hm, if_neg (by simp), ho, if_neg (by simp), hn, if_neg (by rw [hlen]; decide)]
  rfl
theorem tl_is : tlF.length = 26 ∧ tlF.take 5 = [83, 82, 83, 48, 61] ∧ tlF.drop 9 = [61, 65, 65, 61, 97, 46, 101, 120, 97, 109, 112, 108, 101, 61, 97, 110, 110] := by
  unfold tlF
  rw [tells_first (t := [])]
  obtain ⟨t0, t1, t2, t3, h⟩ := len4 (tag_4 [107, 101, 121] (stT (sn 0) ++ low aEx ++ [97, 110, 110]))
  rw [h]
  exact ⟨rfl, rfl, rfl⟩
set_option maxHeartbeats 1000000 in
theorem tells12_w {s : SS} (hG : Gk s) (hF : Fine s) : CallW pr n_law12_tells [] s fun v s' => v = .bool true ∧ Chg s s' [] := by
  refine CallW.run good ok_law12_tells (by simp) rfl ?_
  obtain ⟨h0, h1, c0, f0⟩ := new2_at hF (.cells (strV [bEx]) tS false false) (.cells [str [], .slice none 0 0] tCo false false)
  (try refine pSeq ?_); (repeat(first|refine sb ?_|refine gOn rfl ?_|refine gOff rfl rfl ?_|refine gTup rfl ?_))
  refine st_abs (cs' := coC [101, 121] bEx s.next) rfl rfl h1 (show s.next + 1 < s.next + 1 + 1 by omega) rfl rfl fun s1 e1 c1 n1 => ?_
  replace h0 := c1.blk _ _ (show s.next < s.next + 1 + 1 by omega) (by simp) h0
  replace n1 : s1.next = s.next + 1 + 1 := n1
  replace c1 : Chg s s1 [] := c0.fresh c1 (by simp)
  have f1 := c1.fine hF
  (repeat(first|refine sb ?_|refine gOn rfl ?_|refine gOff rfl rfl ?_|refine gTup rfl ?_))
  refine ldN_is rfl e1 rfl ?_
  (repeat(first|refine sb ?_|refine gOn rfl ?_|refine gOff rfl rfl ?_|refine gTup rfl ?_))
  refine (fwd1_w (x := [101, 121]) (dm := bEx) (hG.nil c1) f1 ⟨by omega, h0⟩ (by decide) (a := [97, 110, 110]) (d := aEx) (by decide) (by decide) (day := 0) (by decide)).mono fun v s2 q => ?_
  obtain ⟨rfl, c2⟩ := q
  rw [tl_fwd]
  obtain ⟨t1, t2, t3⟩ := tl_is
  generalize tlF = T at *
  have f2 := c2.fine f1
  replace c2 := c1.nil c2
  obtain ⟨k0, k1, k2⟩ := new1_at f2 (.cells (adC2 [] []) tAd false false)
  (repeat(first|refine sb ?_|refine gOn rfl ?_|refine gOff rfl rfl ?_|refine gTup rfl ?_))
  refine st_abs (cs' := adC2 T bEx) rfl rfl k0 (Nat.lt_succ_self _) rfl rfl fun s3 e3 c3 n3 => ?_
  replace c3 : Chg s s3 [] := c2.nil (k1.fresh c3 (by simp))
  (repeat(first|refine sb ?_|refine gOn rfl ?_|refine gOff rfl rfl ?_|refine gTup rfl ?_))
  intro q hq
  obtain rfl : q = true := by rw [hq]; rfl
  (repeat(first|refine sb ?_|refine gOn rfl ?_|refine gOff rfl rfl ?_|refine gTup rfl ?_))
  refine ldS_is rfl e3 rfl ?_
  (repeat(first|refine sb ?_|refine gOn rfl ?_|refine gOff rfl rfl ?_|refine gTup rfl ?_))
  intro q hq
  obtain rfl : q = true := by rw [hq]; exact decide_eq_true rfl
  (repeat(first|refine sb ?_|refine gOn rfl ?_|refine gOff rfl rfl ?_|refine gTup rfl ?_))
  refine ldS_is rfl e3 rfl ?_
  (repeat(first|refine sb ?_|refine gOn rfl ?_|refine gOff rfl rfl ?_|refine gTup rfl ?_))
  intro n hn
  (repeat(first|refine sb ?_|refine gOn rfl ?_|refine gOff rfl rfl ?_|refine gTup rfl ?_))
  intro q hq
  obtain rfl : q = true := by rw [hq, hn, t1]; rfl
  (repeat(first|refine sb ?_|refine gOn rfl ?_|refine gOff rfl rfl ?_|refine gTup rfl ?_))
  refine ldS_is rfl e3 rfl ?_
  (repeat(first|refine sb ?_|refine gOn rfl ?_|refine gOff rfl rfl ?_|refine gTup rfl ?_))
  refine slS_hi 5 rfl rfl rfl (by omega) ?_
  rw [t2]
  (repeat(first|refine sb ?_|refine gOn rfl ?_|refine gOff rfl rfl ?_|refine gTup rfl ?_))
  intro q hq
  obtain rfl : q = true := by rw [hq]; exact decide_eq_true rfl
  (repeat(first|refine sb ?_|refine gOn rfl ?_|refine gOff rfl rfl ?_|refine gTup rfl ?_))
  refine ldS_is rfl e3 rfl ?_
  (repeat(first|refine sb ?_|refine gOn rfl ?_|refine gOff rfl rfl ?_|refine gTup rfl ?_))
  refine slS_lo 9 rfl rfl rfl (by omega) ?_
  rw [t3]
  (repeat(first|refine sb ?_|refine gOn rfl ?_|refine gOff rfl rfl ?_|refine gTup rfl ?_))
  intro q hq
  obtain rfl : q = true := by rw [hq]; exact decide_eq_true rfl
  (repeat(first|refine sb ?_|refine gOn rfl ?_|refine gOff rfl rfl ?_|refine gTup rfl ?_))
  exact ⟨rfl, c3⟩
end Go.Vf.S
end

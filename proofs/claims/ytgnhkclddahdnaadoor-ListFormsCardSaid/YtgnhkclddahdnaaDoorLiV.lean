import Derived.Test.YtgnhkclddahdnaaDoorLiU
import Derived.Test.YtgnhkclddahdnaaDoorLiQ
/- Lists of addresses: the law ListForms, from any state. -/
namespace Go.Vf.S
open Go Go.Vf Go.Proofs Go.RowKit
attribute [local irreducible] wSeq wRow wp wG
set_option linter.unusedVariables false
set_option linter.unusedSimpArgs false
set_option maxRecDepth 10000

/-- Some things behind a row. -/
theorem appRk {P : Program} {T : TL} {s : SS} {K : RR → Prop} {x y : Operand} {t t' : TypeId} {size bytes k c : Nat} {W : Option Addr} {cw n b : Nat} {cs new : List Value} {g r : Bool} (hk : 0 < k) (h : OwnR t s W cw n cs) (hsz : cs.length = n * size) (hb1 : (n + k) * bytes ≤ 140737488355328 ∧ n + k ≤ 4294967296) (hx : opd T s.gl x = some (.slice W n cw)) (hy : opd T s.gl y = some (.slice (some ⟨b, 0, none⟩) k c))
    (hb : lookH s.heap b = some (.cells new t' g r)) (hnew : new.length = k * size) (ha : all1 new = true) (hK : ∀ s' : SS, OwnR t s' (some ⟨s.next, 0, none⟩) 0 (n + k) (cs ++ new) → Chg s s' (blkOf W) → s'.next = s.next + 1 → K (.eff (.slice (some ⟨s.next, 0, none⟩) (n + k) 0) s')) : wN P (.app t size bytes x y) T s K := by
  simp only [wN, hx, hy, wSrc, hb]
  refine ⟨new, by rw [List.drop_zero, takeN_take _ _ (by omega), List.take_of_length_le (by omega)], ⟨⟨hb1.1, hb1.2, hnew, ha⟩, ?_⟩⟩
  cases W with
  | none =>
    obtain ⟨rfl, rfl, rfl⟩ := h
    refine ⟨fun q => by simp at q; omega, fun _ => ⟨rfl, fun m' hm' => ?_⟩⟩
    subst hm'
    have := hK { s with heap := (s.next, some (.cells new t true false)) :: s.heap, next := s.next + 1 } ⟨rfl, rfl, Nat.lt_succ_self _, true, by simp only [List.nil_append]; exact lkH, fun q => by cases q⟩ (.new _) rfl
    rw [Nat.zero_add] at this
    exact this
  | some q =>
    obtain ⟨b2, off, sp⟩ := q
    obtain ⟨rfl, rfl, h3, g2, h4, h5⟩ := h
    simp only [h4]
    have old : takeN (n * size) (cs.drop 0) = some cs := by
      rw [List.drop_zero, takeN_take _ _ (by omega), List.take_of_length_le (by omega)]
    cases g2 with
    | true =>
      refine ⟨fun q => by omega, fun _ => ⟨rfl, rfl, _, old, fun m' l' hm' hl' => ?_⟩⟩
      subst hm'; subst hl'
      exact hK { s with heap := (s.next, some (.cells (cs ++ new) t true false)) :: (b2, none) :: s.heap, next := s.next + 1 } ⟨rfl, rfl, Nat.lt_succ_self _, true, lkH, fun q => by cases q⟩ .new2 rfl
    | false =>
      have := h5 rfl
      refine ⟨fun q => by omega, fun _ => ⟨_, old, fun m' l' hm' hl' => ?_⟩⟩
      subst hm'; subst hl'
      exact hK { s with heap := (s.next, some (.cells (cs ++ new) t true false)) :: s.heap, next := s.next + 1 } ⟨rfl, rfl, Nat.lt_succ_self _, true, lkH, fun q => by cases q⟩ (.new _) rfl

theorem made_len (xs : List AA) (n : Nat) : (made8 xs n).length ≤ n := by unfold made8; rw [List.length_map, List.length_take]; omega
theorem made_in {xs : List AA} {n : Nat} : ∀ a ∈ made8 xs n, mayF a.1 a.2 = true ∧ a.1.length ≤ 15 ∧ a.2.length ≤ 10 := fun a h => by
  unfold made8 at h
  obtain ⟨x, -, rfl⟩ := List.mem_map.1 h
  exact ⟨mk1_may x, mk1_len x⟩
theorem want_len {f i : Nat} {xs : List AA} (hi : i ≤ xs.length) (h : ∀ j, j < xs.length → True) : (wantF f (xs.take i)).length ≤ 2 * i := by
  induction i with
  | zero => simp [wantF]
  | succ i ih =>
    obtain ⟨a, ha⟩ : ∃ a, xs[i]? = some a := ⟨_, List.getElem?_eq_getElem (by omega)⟩
    rw [want_next ha, List.length_append]
    have := ih (by omega)
    have h2 : (wk f i a).length ≤ 2 := by unfold wk; split <;> (try split) <;> simp
    omega
theorem want_in {f : Nat} {xs : List AA} : ∀ a ∈ wantF f xs, a ∈ xs := fun a ha => by
  unfold wantF at ha
  obtain ⟨w, hw, haw⟩ := List.mem_flatten.1 ha
  obtain ⟨i, hi, rfl⟩ := List.mem_mapIdx.1 hw
  unfold wk at haw
  split at haw
  · simp at haw; rw [haw]; exact List.getElem_mem hi
  · split at haw
    · simp at haw; rw [haw]; exact List.getElem_mem hi
    · simp at haw

set_option maxHeartbeats 4000000 in
theorem lforms_w {s : SS} {A : Option Addr} {ca f : Nat} {ls : List AA} (hG : Gb s) (hV : Gv s) (hF : Fine s) (hR : AdRd s A ls) (hx : ls.length ≤ 9223372036854775807) (hf : f < 4294967296) : CallW pr n_law08_ListForms [.slice A ls.length ca, .int .u32 f] s fun v s' => v = .bool true := by
  refine CallW.run good ok_law08_ListForms (by simp) rfl ?_
  (repeat(first|refine pSeq ?_|refine pReg ?_|refine sCons ?_|refine sNil ?_|refine rCons ?_|refine rNil ?_|refine kNo ?_|refine pRow ?_|refine pBlock ?_|refine pSkip ?_|refine pExit ?_|refine pRet ?_|refine pCond ?_|refine gNone ?_|refine gOn rfl ?_|refine gOff rfl rfl ?_|refine gTup rfl ?_))
  refine (made8_w (n := 10) hV hF hR hx (by omega)).mono fun v s1 q => ?_
  obtain ⟨A1, ca1, rfl, o1, c1, -⟩ := q
  have hml := made_len ls 10
  have hmi := @made_in ls 10
  generalize made8 ls 10 = xs at *
  have r1 := rd_own o1
  (repeat(first|refine pSeq ?_|refine pReg ?_|refine sCons ?_|refine sNil ?_|refine rCons ?_|refine rNil ?_|refine kNo ?_|refine pRow ?_|refine pBlock ?_|refine pSkip ?_|refine pExit ?_|refine pRet ?_|refine pCond ?_|refine gNone ?_|refine gOn rfl ?_|refine gOff rfl rfl ?_|refine gTup rfl ?_))
  refine pLoop (MW.head good (fun x : AdI => xs.length - x.i) (fun x => x.i ≤ xs.length ∧ Chg s1 x.s [] ∧ AdO x.s x.W x.cw (wantF f (xs.take x.i)) ∧ ∀ id ∈ blkOf x.W, s1.next ≤ id)
    (fun x => [(0, .slice A1 xs.length ca1), (1, .int .u32 f), (5, .slice x.W (wantF f (xs.take x.i)).length x.cw), (15, .slice A1 xs.length ca1), (16, .int .i64 (xs.length : Nat)), (17, .int .i64 x.i)]) (fun x => x.s) ⟨0, none, 0, s1⟩ ⟨Nat.zero_le _, .refl _ _, ⟨rfl, rfl, rfl⟩, by simp [blkOf]⟩ (Wk.same ⟨rfl, rfl, rfl, rfl, rfl, rfl, trivial⟩) ?_)
  rintro ⟨i, W, cw, s2⟩ ⟨hi, c2, o2, w2⟩
  dsimp only at hi c2 o2 w2 ⊢
  have hwl := want_len (f := f) hi (fun _ _ => trivial)
  replace r1 := r1.chg c2
  (repeat(first|refine pSeq ?_|refine pReg ?_|refine sCons ?_|refine sNil ?_|refine rCons ?_|refine rNil ?_|refine kNo ?_|refine pRow ?_|refine pBlock ?_|refine pSkip ?_|refine pExit ?_|refine pRet ?_|refine pCond ?_|refine gNone ?_|refine gOn rfl ?_|refine gOff rfl rfl ?_|refine gTup rfl ?_))
  intro q hq
  by_cases hlt : i < xs.length
  · obtain rfl : q = true := by rw [hq]; simp <;> omega
    obtain ⟨x, hxx⟩ : ∃ x, xs[i]? = some x := ⟨_, List.getElem?_eq_getElem hlt⟩
    obtain ⟨b, t, g, r, rfl, hb, k1⟩ := r1.at (fun e => by rw [e] at hlt; simp at hlt)
    (repeat(first|refine pSeq ?_|refine pReg ?_|refine sCons ?_|refine sNil ?_|refine rCons ?_|refine rNil ?_|refine kNo ?_|refine pRow ?_|refine pBlock ?_|refine pSkip ?_|refine pExit ?_|refine pRet ?_|refine pCond ?_|refine gNone ?_|refine gOn rfl ?_|refine gOff rfl rfl ?_|refine gTup rfl ?_))
    refine ⟨by omega, ?_⟩
    intro m hm2 o ho
    obtain rfl : m = i := by omega
    rw [Nat.zero_add] at ho
    subst ho
    (repeat(first|refine pSeq ?_|refine pReg ?_|refine sCons ?_|refine sNil ?_|refine rCons ?_|refine rNil ?_|refine kNo ?_|refine pRow ?_|refine pBlock ?_|refine pSkip ?_|refine pExit ?_|refine pRet ?_|refine pCond ?_|refine gNone ?_|refine gOn rfl ?_|refine gOff rfl rfl ?_|refine gTup rfl ?_))
    refine ldN_is rfl k1 (ads_take hxx) ?_
    (repeat(first|refine pSeq ?_|refine pReg ?_|refine sCons ?_|refine sNil ?_|refine rCons ?_|refine rNil ?_|refine kNo ?_|refine pRow ?_|refine pBlock ?_|refine pSkip ?_|refine pExit ?_|refine pRet ?_|refine pCond ?_|refine gNone ?_|refine gOn rfl ?_|refine gOff rfl rfl ?_|refine gTup rfl ?_))
    refine st_abs (cs' := adC x) rfl rfl lkH (Nat.lt_succ_self _) rfl rfl fun s3 e3 c3 n3 => ?_
    have c23 : Chg s2 s3 [] := (Chg.new []).fresh c3 (by simp)
    have e3 : lookH s3.heap s2.next = some (.cells (adC x) tAd false false) := e3
    have n3 : s3.next = s2.next + 1 := n3
    replace o2 := o2.chg c23 (by simp)
    have h10 : m % 10 = m := Nat.mod_eq_of_lt (by omega)
    have hN := c2.next
    (repeat(first|refine pSeq ?_|refine pReg ?_|refine sCons ?_|refine sNil ?_|refine rCons ?_|refine rNil ?_|refine kNo ?_|refine pRow ?_|refine pBlock ?_|refine pSkip ?_|refine pExit ?_|refine pRet ?_|refine pCond ?_|refine gNone ?_|refine gOn rfl ?_|refine gOff rfl rfl ?_|refine gTup rfl ?_))
    refine ⟨by omega, ?_⟩
    intro z hz
    have hz : z = ((m % 10 : Nat) : Int) := by rw [hz]; exact (Int.ofNat_tmod m 10).symm
    rw [h10] at hz
    subst hz
    (repeat(first|refine pSeq ?_|refine pReg ?_|refine sCons ?_|refine sNil ?_|refine rCons ?_|refine rNil ?_|refine kNo ?_|refine pRow ?_|refine pBlock ?_|refine pSkip ?_|refine pExit ?_|refine pRet ?_|refine pCond ?_|refine gNone ?_|refine gOn rfl ?_|refine gOff rfl rfl ?_|refine gTup rfl ?_))
    intro z2 hz2
    rw [i64_id (by omega)] at hz2
    obtain rfl : z2 = ((3 * m : Nat) : Int) := by omega
    (repeat(first|refine pSeq ?_|refine pReg ?_|refine sCons ?_|refine sNil ?_|refine rCons ?_|refine rNil ?_|refine kNo ?_|refine pRow ?_|refine pBlock ?_|refine pSkip ?_|refine pExit ?_|refine pRet ?_|refine pCond ?_|refine gNone ?_|refine gOn rfl ?_|refine gOff rfl rfl ?_|refine gTup rfl ?_))
    refine ⟨by omega, ?_⟩
    intro z3 hz3
    rw [shr_u32 (by omega)] at hz3
    subst hz3
    have hfk := @fk_is f m hf
    rw [h10] at hfk
    (repeat(first|refine pSeq ?_|refine pReg ?_|refine sCons ?_|refine sNil ?_|refine rCons ?_|refine rNil ?_|refine kNo ?_|refine pRow ?_|refine pBlock ?_|refine pSkip ?_|refine pExit ?_|refine pRet ?_|refine pCond ?_|refine gNone ?_|refine gOn rfl ?_|refine gOff rfl rfl ?_|refine gTup rfl ?_))
    intro z4 hz4
    rw [and7 hfk] at hz4
    have efk : f / 2 ^ (3 * m) % 8 = fk f m := by unfold fk; rw [h10]
    rw [efk] at hz4
    subst hz4
    have hk8 := fk_lt f m
    have hwn := want_next (f := f) hxx
    (repeat(first|refine pSeq ?_|refine pReg ?_|refine sCons ?_|refine sNil ?_|refine rCons ?_|refine rNil ?_|refine kNo ?_|refine pRow ?_|refine pBlock ?_|refine pSkip ?_|refine pExit ?_|refine pRet ?_|refine pCond ?_|refine gNone ?_|refine gOn rfl ?_|refine gOff rfl rfl ?_|refine gTup rfl ?_))
    intro q hq
    by_cases h6 : fk f m = 6
    · obtain rfl : q = true := by rw [hq, h6]; rfl
      have ewk : wk f m x = [x, x] := by unfold wk; rw [if_pos h6]
      rw [ewk] at hwn
      have hwl2 : (wantF f (xs.take (m + 1))).length = (wantF f (xs.take m)).length + 2 := by rw [hwn, List.length_append]; rfl
      (repeat(first|refine pSeq ?_|refine pReg ?_|refine sCons ?_|refine sNil ?_|refine rCons ?_|refine rNil ?_|refine kNo ?_|refine pRow ?_|refine pBlock ?_|refine pSkip ?_|refine pExit ?_|refine pRet ?_|refine pCond ?_|refine gNone ?_|refine gOn rfl ?_|refine gOff rfl rfl ?_|refine gTup rfl ?_))
      refine ldN_is rfl e3 agg2 ?_
      (repeat(first|refine pSeq ?_|refine pReg ?_|refine sCons ?_|refine sNil ?_|refine rCons ?_|refine rNil ?_|refine kNo ?_|refine pRow ?_|refine pBlock ?_|refine pSkip ?_|refine pExit ?_|refine pRet ?_|refine pCond ?_|refine gNone ?_|refine gOn rfl ?_|refine gOff rfl rfl ?_|refine gTup rfl ?_))
      refine ldN_is rfl e3 agg2 ?_
      (repeat(first|refine pSeq ?_|refine pReg ?_|refine sCons ?_|refine sNil ?_|refine rCons ?_|refine rNil ?_|refine kNo ?_|refine pRow ?_|refine pBlock ?_|refine pSkip ?_|refine pExit ?_|refine pRet ?_|refine pCond ?_|refine gNone ?_|refine gOn rfl ?_|refine gOff rfl rfl ?_|refine gTup rfl ?_))
      refine appRk (k := 2) (new := adsC [x, x]) (by omega) (OwnR.chg o2 (Chg.new []) (by simp)) (adsC_len _) ⟨by omega, by omega⟩ rfl rfl lkH rfl rfl fun s4 r4 c4 n4 => ?_
      have c24 : Chg s1 s4 [] := (c2.nil c23).fresh ((Chg.new []).nil c4) w2
      have n4 : s4.next = s3.next + 2 := n4
      (repeat(first|refine pSeq ?_|refine pReg ?_|refine sCons ?_|refine sNil ?_|refine rCons ?_|refine rNil ?_|refine kNo ?_|refine pRow ?_|refine pBlock ?_|refine pSkip ?_|refine pExit ?_|refine pRet ?_|refine pCond ?_|refine gNone ?_|refine gOn rfl ?_|refine gOff rfl rfl ?_|refine gTup rfl ?_))
      intro z hz
      rw [i64_id (by omega)] at hz
      obtain rfl : z = ((m + 1 : Nat) : Int) := by omega
      (repeat(first|refine pSeq ?_|refine pReg ?_|refine sCons ?_|refine sNil ?_|refine rCons ?_|refine rNil ?_|refine kNo ?_|refine pRow ?_|refine pBlock ?_|refine pSkip ?_|refine pExit ?_|refine pRet ?_|refine pCond ?_|refine gNone ?_|refine gOn rfl ?_|refine gOff rfl rfl ?_|refine gTup rfl ?_))
      refine ⟨⟨m + 1, some ⟨s3.next + 1, 0, none⟩, 0, s4⟩, ⟨hlt, c24, ?_, fun id hid => by
        have : id = s3.next + 1 := List.mem_singleton.1 hid
        omega⟩, by show xs.length - (m + 1) < xs.length - m; omega, Wk.same ⟨rfl, rfl, by rw [hwl2]; rfl, rfl, rfl, rfl, trivial⟩⟩
      show OwnR tAd s4 _ 0 (wantF f (xs.take (m + 1))).length (adsC (wantF f (xs.take (m + 1))))
      rw [hwl2, hwn, adsC_app]
      exact r4
    · obtain rfl : q = false := by rw [hq]; simp; omega
      (repeat(first|refine pSeq ?_|refine pReg ?_|refine sCons ?_|refine sNil ?_|refine rCons ?_|refine rNil ?_|refine kNo ?_|refine pRow ?_|refine pBlock ?_|refine pSkip ?_|refine pExit ?_|refine pRet ?_|refine pCond ?_|refine gNone ?_|refine gOn rfl ?_|refine gOff rfl rfl ?_|refine gTup rfl ?_))
      intro q hq
      by_cases h7 : fk f m = 7
      · obtain rfl : q = true := by rw [hq, h7]; rfl
        have ewk : wk f m x = [] := by unfold wk; rw [if_neg h6, if_neg (by omega)]
        rw [ewk, List.append_nil] at hwn
        (repeat(first|refine pSeq ?_|refine pReg ?_|refine sCons ?_|refine sNil ?_|refine rCons ?_|refine rNil ?_|refine kNo ?_|refine pRow ?_|refine pBlock ?_|refine pSkip ?_|refine pExit ?_|refine pRet ?_|refine pCond ?_|refine gNone ?_|refine gOn rfl ?_|refine gOff rfl rfl ?_|refine gTup rfl ?_))
        intro z hz
        rw [i64_id (by omega)] at hz
        obtain rfl : z = ((m + 1 : Nat) : Int) := by omega
        (repeat(first|refine pSeq ?_|refine pReg ?_|refine sCons ?_|refine sNil ?_|refine rCons ?_|refine rNil ?_|refine kNo ?_|refine pRow ?_|refine pBlock ?_|refine pSkip ?_|refine pExit ?_|refine pRet ?_|refine pCond ?_|refine gNone ?_|refine gOn rfl ?_|refine gOff rfl rfl ?_|refine gTup rfl ?_))
        exact ⟨⟨m + 1, W, cw, s3⟩, ⟨hlt, c2.nil c23, by dsimp only; rw [hwn]; exact o2, w2⟩, by show xs.length - (m + 1) < xs.length - m; omega, Wk.same ⟨rfl, rfl, by rw [hwn]; rfl, rfl, rfl, rfl, trivial⟩⟩
      · obtain rfl : q = false := by rw [hq]; simp; omega
        have ewk : wk f m x = [x] := by unfold wk; rw [if_neg h6, if_pos (by omega)]
        rw [ewk] at hwn
        have hwl2 : (wantF f (xs.take (m + 1))).length = (wantF f (xs.take m)).length + 1 := by rw [hwn, List.length_append]; rfl
        (repeat(first|refine pSeq ?_|refine pReg ?_|refine sCons ?_|refine sNil ?_|refine rCons ?_|refine rNil ?_|refine kNo ?_|refine pRow ?_|refine pBlock ?_|refine pSkip ?_|refine pExit ?_|refine pRet ?_|refine pCond ?_|refine gNone ?_|refine gOn rfl ?_|refine gOff rfl rfl ?_|refine gTup rfl ?_))
        refine ldN_is rfl e3 agg2 ?_
        (repeat(first|refine pSeq ?_|refine pReg ?_|refine sCons ?_|refine sNil ?_|refine rCons ?_|refine rNil ?_|refine kNo ?_|refine pRow ?_|refine pBlock ?_|refine pSkip ?_|refine pExit ?_|refine pRet ?_|refine pCond ?_|refine gNone ?_|refine gOn rfl ?_|refine gOff rfl rfl ?_|refine gTup rfl ?_))
        refine appRk (k := 1) (new := adsC [x]) (by omega) (OwnR.chg o2 (Chg.new []) (by simp)) (adsC_len _) ⟨by omega, by omega⟩ rfl rfl lkH rfl rfl fun s4 r4 c4 n4 => ?_
        have c24 : Chg s1 s4 [] := (c2.nil c23).fresh ((Chg.new []).nil c4) w2
        have n4 : s4.next = s3.next + 2 := n4
        (repeat(first|refine pSeq ?_|refine pReg ?_|refine sCons ?_|refine sNil ?_|refine rCons ?_|refine rNil ?_|refine kNo ?_|refine pRow ?_|refine pBlock ?_|refine pSkip ?_|refine pExit ?_|refine pRet ?_|refine pCond ?_|refine gNone ?_|refine gOn rfl ?_|refine gOff rfl rfl ?_|refine gTup rfl ?_))
        intro z hz
        rw [i64_id (by omega)] at hz
        obtain rfl : z = ((m + 1 : Nat) : Int) := by omega
        (repeat(first|refine pSeq ?_|refine pReg ?_|refine sCons ?_|refine sNil ?_|refine rCons ?_|refine rNil ?_|refine kNo ?_|refine pRow ?_|refine pBlock ?_|refine pSkip ?_|refine pExit ?_|refine pRet ?_|refine pCond ?_|refine gNone ?_|refine gOn rfl ?_|refine gOff rfl rfl ?_|refine gTup rfl ?_))
        refine ⟨⟨m + 1, some ⟨s3.next + 1, 0, none⟩, 0, s4⟩, ⟨hlt, c24, ?_, fun id hid => by
          have : id = s3.next + 1 := List.mem_singleton.1 hid
          omega⟩, by show xs.length - (m + 1) < xs.length - m; omega, Wk.same ⟨rfl, rfl, by rw [hwl2]; rfl, rfl, rfl, rfl, trivial⟩⟩
        show OwnR tAd s4 _ 0 (wantF f (xs.take (m + 1))).length (adsC (wantF f (xs.take (m + 1))))
        rw [hwl2, hwn, adsC_app]
        exact r4
  · obtain rfl : q = false := by rw [hq]; simp <;> omega
    rw [List.take_of_length_le (by omega)] at o2 hwl ⊢
    have c02 := c1.nil c2
    obtain ⟨hl0, hl1, hl2⟩ := line_find (f := f) (fun a ha => (hmi a ha).1) hml
    have hwi := @want_in f xs
    have hLlen : (lineF f xs).length ≤ 9000 := by
      unfold lineF
      have hpl : ∀ l ∈ partsL f xs, l.length ≤ 884 := fun l hl => by
        unfold partsL at hl
        obtain ⟨j, hj, rfl⟩ := List.mem_mapIdx.1 hl
        have h1 := hmi _ (List.getElem_mem hj)
        have h2 := tx_len (a := xs[j].1) (d := xs[j].2) (by omega) (by omega)
        have h3 := form_len (fk f j) (txF xs[j])
        unfold txF at h3 ⊢
        omega
      have hjl := join_len (partsL f xs) 884 hpl
      have : (partsL f xs).length * (884 + 1) ≤ 10 * 885 := Nat.mul_le_mul (by unfold partsL; rw [List.length_mapIdx]; exact hml) (by omega)
      omega
    (repeat(first|refine pSeq ?_|refine pReg ?_|refine sCons ?_|refine sNil ?_|refine rCons ?_|refine rNil ?_|refine kNo ?_|refine pRow ?_|refine pBlock ?_|refine pSkip ?_|refine pExit ?_|refine pRet ?_|refine pCond ?_|refine gNone ?_|refine gOn rfl ?_|refine gOff rfl rfl ?_|refine gTup rfl ?_))
    refine (line_w (hG.chg c02 (by simp)) (c02.fine hF) r1 hml hf (fun a ha => by have := hmi a ha; omega)).mono fun v s3 q => ?_
    obtain ⟨rfl, c3⟩ := q
    have c03 := c02.nil c3
    replace o2 := o2.chg c3 (by simp)
    (repeat(first|refine pSeq ?_|refine pReg ?_|refine sCons ?_|refine sNil ?_|refine rCons ?_|refine rNil ?_|refine kNo ?_|refine pRow ?_|refine pBlock ?_|refine pSkip ?_|refine pExit ?_|refine pRet ?_|refine pCond ?_|refine gNone ?_|refine gOn rfl ?_|refine gOff rfl rfl ?_|refine gTup rfl ?_))
    refine (find_w (c03.fine hF) (hG.chg c03 (by simp)) (by omega)).mono fun v s4 q => ?_
    obtain ⟨W4, cw4, rfl, o4, c4, -⟩ := q
    have c04 := c03.nil c4
    replace o2 := o2.chg c4 (by simp)
    have hfin := find_in (lineF f xs)
    generalize findF (lineF f xs) = Z at *
    obtain ⟨zs, e⟩ := Z
    generalize lineF f xs = L at *
    dsimp only at hl0 hl1 hl2 o4 hfin ⊢
    subst hl0
    have hzw : zs.length = (wantF f xs).length := by
      have := congrArg List.length hl2
      rwa [List.length_map] at this
    generalize wantF f xs = ws at *
    (repeat(first|refine pSeq ?_|refine pReg ?_|refine sCons ?_|refine sNil ?_|refine rCons ?_|refine rNil ?_|refine kNo ?_|refine pRow ?_|refine pBlock ?_|refine pSkip ?_|refine pExit ?_|refine pRet ?_|refine pCond ?_|refine gNone ?_|refine gOn rfl ?_|refine gOff rfl rfl ?_|refine gTup rfl ?_))
    intro q hq; obtain rfl : q = false := (by rw [hq]; simp <;> omega); (repeat(first|refine pSeq ?_|refine pReg ?_|refine sCons ?_|refine sNil ?_|refine rCons ?_|refine rNil ?_|refine kNo ?_|refine pRow ?_|refine pBlock ?_|refine pSkip ?_|refine pExit ?_|refine pRet ?_|refine pCond ?_|refine gNone ?_|refine gOn rfl ?_|refine gOff rfl rfl ?_|refine gTup rfl ?_))
    intro q hq
    obtain rfl : q = false := by rw [hq, hzw]; simp
    (repeat(first|refine pSeq ?_|refine pReg ?_|refine sCons ?_|refine sNil ?_|refine rCons ?_|refine rNil ?_|refine kNo ?_|refine pRow ?_|refine pBlock ?_|refine pSkip ?_|refine pExit ?_|refine pRet ?_|refine pCond ?_|refine gNone ?_|refine gOn rfl ?_|refine gOff rfl rfl ?_|refine gTup rfl ?_))
    refine pLoop (MW.head good (fun x : Nat × SS => zs.length - x.1) (fun x => x.1 ≤ zs.length ∧ Chg s4 x.2 []) (fun x => [(5, .slice W ws.length cw), (8, str L), (59, .slice W4 zs.length cw4), (60, .int .i64 (zs.length : Nat)), (61, .int .i64 x.1)]) (fun x => x.2) (0, s4) ⟨Nat.zero_le _, .refl _ _⟩ (Wk.same ⟨rfl, rfl, rfl, rfl, rfl, trivial⟩) ?_)
    intro ⟨j, s5⟩ ⟨hj, c5⟩
    dsimp only at hj c5 ⊢
    replace o2 := o2.chg c5 (by simp)
    replace o4 := o4.chg c5 (by simp)
    have c05 := c04.nil c5
    (repeat(first|refine pSeq ?_|refine pReg ?_|refine sCons ?_|refine sNil ?_|refine rCons ?_|refine rNil ?_|refine kNo ?_|refine pRow ?_|refine pBlock ?_|refine pSkip ?_|refine pExit ?_|refine pRet ?_|refine pCond ?_|refine gNone ?_|refine gOn rfl ?_|refine gOff rfl rfl ?_|refine gTup rfl ?_))
    intro q hq
    by_cases hlt : j < zs.length
    · obtain rfl : q = true := by rw [hq]; simp <;> omega
      obtain ⟨y, hy⟩ : ∃ y, zs[j]? = some y := ⟨_, List.getElem?_eq_getElem hlt⟩
      obtain ⟨a, hay⟩ : ∃ a, ws[j]? = some a := ⟨_, List.getElem?_eq_getElem (by omega)⟩
      have hya : (y.a, y.d) = a := by
        have := congrArg (fun l => l[j]?) hl2
        simp only [List.getElem?_map, hy, hay, Option.map_some] at this
        exact Option.some.inj this
      have hyt : (L.drop y.f).take (y.t - y.f) = txF a := by
        have := congrArg (fun l => l[j]?) hl1
        simp only [List.getElem?_map, hy, hay, Option.map_some] at this
        exact Option.some.inj this
      have hyin := hfin y (List.mem_of_getElem? hy)
      have hax := hmi a (hwi a (List.mem_of_getElem? hay))
      obtain ⟨b4, g4, rfl, k4⟩ := o4.pos (by omega)
      obtain ⟨b2, g2, rfl, k2⟩ := o2.pos (by omega)
      (repeat(first|refine pSeq ?_|refine pReg ?_|refine sCons ?_|refine sNil ?_|refine rCons ?_|refine rNil ?_|refine kNo ?_|refine pRow ?_|refine pBlock ?_|refine pSkip ?_|refine pExit ?_|refine pRet ?_|refine pCond ?_|refine gNone ?_|refine gOn rfl ?_|refine gOff rfl rfl ?_|refine gTup rfl ?_))
      refine ⟨by omega, ?_⟩
      intro m hm o ho
      obtain rfl : m = j := by omega
      rw [Nat.zero_add] at ho
      subst ho
      (repeat(first|refine pSeq ?_|refine pReg ?_|refine sCons ?_|refine sNil ?_|refine rCons ?_|refine rNil ?_|refine kNo ?_|refine pRow ?_|refine pBlock ?_|refine pSkip ?_|refine pExit ?_|refine pRet ?_|refine pCond ?_|refine gNone ?_|refine gOn rfl ?_|refine gOff rfl rfl ?_|refine gTup rfl ?_))
      refine ldN_is rfl k4 (sps_take hy) ?_
      (repeat(first|refine pSeq ?_|refine pReg ?_|refine sCons ?_|refine sNil ?_|refine rCons ?_|refine rNil ?_|refine kNo ?_|refine pRow ?_|refine pBlock ?_|refine pSkip ?_|refine pExit ?_|refine pRet ?_|refine pCond ?_|refine gNone ?_|refine gOn rfl ?_|refine gOff rfl rfl ?_|refine gTup rfl ?_))
      refine st_abs (cs' := spC y) rfl rfl lkH (Nat.lt_succ_self _) rfl rfl fun s6 e6 c6 n6 => ?_
      have c56 : Chg s5 s6 [] := (Chg.new []).fresh c6 (by simp)
      have e6 : lookH s6.heap s5.next = some (.cells (spC y) tSp false false) := e6
      have k2 := c56.blk _ _ (by obtain ⟨_, _, q, _⟩ := o2; exact q) (by simp) k2
      have c06 := c05.nil c56
      (repeat(first|refine pSeq ?_|refine pReg ?_|refine sCons ?_|refine sNil ?_|refine rCons ?_|refine rNil ?_|refine kNo ?_|refine pRow ?_|refine pBlock ?_|refine pSkip ?_|refine pExit ?_|refine pRet ?_|refine pCond ?_|refine gNone ?_|refine gOn rfl ?_|refine gOff rfl rfl ?_|refine gTup rfl ?_))
      refine ldN_is rfl e6 rfl ?_
      (repeat(first|refine pSeq ?_|refine pReg ?_|refine sCons ?_|refine sNil ?_|refine rCons ?_|refine rNil ?_|refine kNo ?_|refine pRow ?_|refine pBlock ?_|refine pSkip ?_|refine pExit ?_|refine pRet ?_|refine pCond ?_|refine gNone ?_|refine gOn rfl ?_|refine gOff rfl rfl ?_|refine gTup rfl ?_))
      refine ⟨by omega, ?_⟩
      intro m2 hm2 o ho
      obtain rfl : m2 = m := by omega
      rw [Nat.zero_add] at ho
      subst ho
      (repeat(first|refine pSeq ?_|refine pReg ?_|refine sCons ?_|refine sNil ?_|refine rCons ?_|refine rNil ?_|refine kNo ?_|refine pRow ?_|refine pBlock ?_|refine pSkip ?_|refine pExit ?_|refine pRet ?_|refine pCond ?_|refine gNone ?_|refine gOn rfl ?_|refine gOff rfl rfl ?_|refine gTup rfl ?_))
      refine ldN_is rfl k2 (ads_take hay) ?_
      (repeat(first|refine pSeq ?_|refine pReg ?_|refine sCons ?_|refine sNil ?_|refine rCons ?_|refine rNil ?_|refine kNo ?_|refine pRow ?_|refine pBlock ?_|refine pSkip ?_|refine pExit ?_|refine pRet ?_|refine pCond ?_|refine gNone ?_|refine gOn rfl ?_|refine gOff rfl rfl ?_|refine gTup rfl ?_))
      intro q hq
      obtain rfl : q = false := by rw [hq, ← hya]; simp
      (repeat(first|refine pSeq ?_|refine pReg ?_|refine sCons ?_|refine sNil ?_|refine rCons ?_|refine rNil ?_|refine kNo ?_|refine pRow ?_|refine pBlock ?_|refine pSkip ?_|refine pExit ?_|refine pRet ?_|refine pCond ?_|refine gNone ?_|refine gOn rfl ?_|refine gOff rfl rfl ?_|refine gTup rfl ?_))
      refine ldI_is rfl e6 rfl ?_
      (repeat(first|refine pSeq ?_|refine pReg ?_|refine sCons ?_|refine sNil ?_|refine rCons ?_|refine rNil ?_|refine kNo ?_|refine pRow ?_|refine pBlock ?_|refine pSkip ?_|refine pExit ?_|refine pRet ?_|refine pCond ?_|refine gNone ?_|refine gOn rfl ?_|refine gOff rfl rfl ?_|refine gTup rfl ?_))
      intro q hq
      obtain rfl : q = false := by rw [hq]; exact decide_eq_false (by omega)
      (repeat(first|refine pSeq ?_|refine pReg ?_|refine sCons ?_|refine sNil ?_|refine rCons ?_|refine rNil ?_|refine kNo ?_|refine pRow ?_|refine pBlock ?_|refine pSkip ?_|refine pExit ?_|refine pRet ?_|refine pCond ?_|refine gNone ?_|refine gOn rfl ?_|refine gOff rfl rfl ?_|refine gTup rfl ?_))
      refine ldI_is rfl e6 rfl ?_
      (repeat(first|refine pSeq ?_|refine pReg ?_|refine sCons ?_|refine sNil ?_|refine rCons ?_|refine rNil ?_|refine kNo ?_|refine pRow ?_|refine pBlock ?_|refine pSkip ?_|refine pExit ?_|refine pRet ?_|refine pCond ?_|refine gNone ?_|refine gOn rfl ?_|refine gOff rfl rfl ?_|refine gTup rfl ?_))
      intro n hn
      (repeat(first|refine pSeq ?_|refine pReg ?_|refine sCons ?_|refine sNil ?_|refine rCons ?_|refine rNil ?_|refine kNo ?_|refine pRow ?_|refine pBlock ?_|refine pSkip ?_|refine pExit ?_|refine pRet ?_|refine pCond ?_|refine gNone ?_|refine gOn rfl ?_|refine gOff rfl rfl ?_|refine gTup rfl ?_))
      intro q hq
      obtain rfl : q = false := by rw [hq, hn]; simp; omega
      (repeat(first|refine pSeq ?_|refine pReg ?_|refine sCons ?_|refine sNil ?_|refine rCons ?_|refine rNil ?_|refine kNo ?_|refine pRow ?_|refine pBlock ?_|refine pSkip ?_|refine pExit ?_|refine pRet ?_|refine pCond ?_|refine gNone ?_|refine gOn rfl ?_|refine gOff rfl rfl ?_|refine gTup rfl ?_))
      refine ldI_is rfl e6 rfl ?_
      (repeat(first|refine pSeq ?_|refine pReg ?_|refine sCons ?_|refine sNil ?_|refine rCons ?_|refine rNil ?_|refine kNo ?_|refine pRow ?_|refine pBlock ?_|refine pSkip ?_|refine pExit ?_|refine pRet ?_|refine pCond ?_|refine gNone ?_|refine gOn rfl ?_|refine gOff rfl rfl ?_|refine gTup rfl ?_))
      refine ldI_is rfl e6 rfl ?_
      (repeat(first|refine pSeq ?_|refine pReg ?_|refine sCons ?_|refine sNil ?_|refine rCons ?_|refine rNil ?_|refine kNo ?_|refine pRow ?_|refine pBlock ?_|refine pSkip ?_|refine pExit ?_|refine pRet ?_|refine pCond ?_|refine gNone ?_|refine gOn rfl ?_|refine gOff rfl rfl ?_|refine gTup rfl ?_))
      intro q hq
      obtain rfl : q = false := by rw [hq]; simp; omega
      (repeat(first|refine pSeq ?_|refine pReg ?_|refine sCons ?_|refine sNil ?_|refine rCons ?_|refine rNil ?_|refine kNo ?_|refine pRow ?_|refine pBlock ?_|refine pSkip ?_|refine pExit ?_|refine pRet ?_|refine pCond ?_|refine gNone ?_|refine gOn rfl ?_|refine gOff rfl rfl ?_|refine gTup rfl ?_))
      refine ldI_is rfl e6 rfl ?_
      (repeat(first|refine pSeq ?_|refine pReg ?_|refine sCons ?_|refine sNil ?_|refine rCons ?_|refine rNil ?_|refine kNo ?_|refine pRow ?_|refine pBlock ?_|refine pSkip ?_|refine pExit ?_|refine pRet ?_|refine pCond ?_|refine gNone ?_|refine gOn rfl ?_|refine gOff rfl rfl ?_|refine gTup rfl ?_))
      refine ldI_is rfl e6 rfl ?_
      (repeat(first|refine pSeq ?_|refine pReg ?_|refine sCons ?_|refine sNil ?_|refine rCons ?_|refine rNil ?_|refine kNo ?_|refine pRow ?_|refine pBlock ?_|refine pSkip ?_|refine pExit ?_|refine pRet ?_|refine pCond ?_|refine gNone ?_|refine gOn rfl ?_|refine gOff rfl rfl ?_|refine gTup rfl ?_))
      refine ⟨by omega, ?_⟩
      intro m3 hm3
      refine ⟨by omega, ?_⟩
      intro m4 hm4 l hl
      have el : l = txF a := by
        obtain rfl : m4 = y.f := by omega
        obtain rfl : m3 = y.t := by omega
        rw [hl, hyt]
      clear hl
      subst el
      (repeat(first|refine pSeq ?_|refine pReg ?_|refine sCons ?_|refine sNil ?_|refine rCons ?_|refine rNil ?_|refine kNo ?_|refine pRow ?_|refine pBlock ?_|refine pSkip ?_|refine pExit ?_|refine pRet ?_|refine pCond ?_|refine gNone ?_|refine gOn rfl ?_|refine gOff rfl rfl ?_|refine gTup rfl ?_))
      refine ⟨by omega, ?_⟩
      intro m5 hm5 o ho
      obtain rfl : m5 = m2 := by omega
      rw [Nat.zero_add] at ho
      subst ho
      (repeat(first|refine pSeq ?_|refine pReg ?_|refine sCons ?_|refine sNil ?_|refine rCons ?_|refine rNil ?_|refine kNo ?_|refine pRow ?_|refine pBlock ?_|refine pSkip ?_|refine pExit ?_|refine pRet ?_|refine pCond ?_|refine gNone ?_|refine gOn rfl ?_|refine gOff rfl rfl ?_|refine gTup rfl ?_))
      refine ldN_is rfl k2 (ads_take hay) ?_
      (repeat(first|refine pSeq ?_|refine pReg ?_|refine sCons ?_|refine sNil ?_|refine rCons ?_|refine rNil ?_|refine kNo ?_|refine pRow ?_|refine pBlock ?_|refine pSkip ?_|refine pExit ?_|refine pRet ?_|refine pCond ?_|refine gNone ?_|refine gOn rfl ?_|refine gOff rfl rfl ?_|refine gTup rfl ?_))
      refine (text_w (a := a.1) (d := a.2) (hG.chg c06 (by simp)) (by omega) (by omega)).mono fun v s7 q => ?_
      obtain ⟨rfl, c7⟩ := q
      refine kAll (c7.keep (c06.fine hF)) ?_
      (repeat(first|refine pSeq ?_|refine pReg ?_|refine sCons ?_|refine sNil ?_|refine rCons ?_|refine rNil ?_|refine kNo ?_|refine pRow ?_|refine pBlock ?_|refine pSkip ?_|refine pExit ?_|refine pRet ?_|refine pCond ?_|refine gNone ?_|refine gOn rfl ?_|refine gOff rfl rfl ?_|refine gTup rfl ?_))
      intro q hq
      obtain rfl : q = false := by rw [hq]; simp [txF]
      (repeat(first|refine pSeq ?_|refine pReg ?_|refine sCons ?_|refine sNil ?_|refine rCons ?_|refine rNil ?_|refine kNo ?_|refine pRow ?_|refine pBlock ?_|refine pSkip ?_|refine pExit ?_|refine pRet ?_|refine pCond ?_|refine gNone ?_|refine gOn rfl ?_|refine gOff rfl rfl ?_|refine gTup rfl ?_))
      intro z hz
      rw [i64_id (by omega)] at hz
      obtain rfl : z = ((m5 + 1 : Nat) : Int) := by omega
      (repeat(first|refine pSeq ?_|refine pReg ?_|refine sCons ?_|refine sNil ?_|refine rCons ?_|refine rNil ?_|refine kNo ?_|refine pRow ?_|refine pBlock ?_|refine pSkip ?_|refine pExit ?_|refine pRet ?_|refine pCond ?_|refine gNone ?_|refine gOn rfl ?_|refine gOff rfl rfl ?_|refine gTup rfl ?_))
      exact ⟨(m5 + 1, s7), ⟨hlt, (c5.nil c56).nil c7⟩, by show zs.length - (m5 + 1) < zs.length - m5; omega, Wk.same ⟨rfl, rfl, rfl, rfl, rfl, trivial⟩⟩
    · obtain rfl : q = false := by rw [hq]; simp <;> omega
      (repeat(first|refine pSeq ?_|refine pReg ?_|refine sCons ?_|refine sNil ?_|refine rCons ?_|refine rNil ?_|refine kNo ?_|refine pRow ?_|refine pBlock ?_|refine pSkip ?_|refine pExit ?_|refine pRet ?_|refine pCond ?_|refine gNone ?_|refine gOn rfl ?_|refine gOff rfl rfl ?_|refine gTup rfl ?_))
      refine (ltells_w (hG.chg c05 (by simp)) (c05.fine hF)).mono fun v s6 q => ?_
      obtain ⟨rfl, c6⟩ := q
      (repeat(first|refine pSeq ?_|refine pReg ?_|refine sCons ?_|refine sNil ?_|refine rCons ?_|refine rNil ?_|refine kNo ?_|refine pRow ?_|refine pBlock ?_|refine pSkip ?_|refine pExit ?_|refine pRet ?_|refine pCond ?_|refine gNone ?_|refine gOn rfl ?_|refine gOff rfl rfl ?_|refine gTup rfl ?_))
      rfl
end Go.Vf.S

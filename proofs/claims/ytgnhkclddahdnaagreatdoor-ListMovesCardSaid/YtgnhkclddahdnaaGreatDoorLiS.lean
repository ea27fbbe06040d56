import Derived.Test.YtgnhkclddahdnaaGreatDoorLbT
import Derived.Test.YtgnhkclddahdnaaGreatDoorBnB
import Derived.Test.YtgnhkclddahdnaaGreatDoorChecked
import Derived.WalkKit
/- Lists of addresses: what a letter is turned into: the closure. -/
namespace Go.Vf.S
open Go Go.Proofs Go.RowKit
set_option linter.unusedVariables false
set_option linter.unusedSimpArgs false
abbrev fMk : Nat := 24
def mk8 (x : Int) : Int := if x < 32 ∨ 126 < x then 120 else x
theorem mk_calls (x : Nat) (W : World) (hx : x ≤ 1114111) : Calls Tryz.prog 24 #[.int .i32 (x : Int)] W fun e w' => e = .returned (.int .i32 (mk8 x)) ∧ w' = W := by
  go_enter Tryz.func24, Tryz.ntmps24
  go_wp2
  all_goals
    go_ret
    refine ⟨?_, rfl⟩
    first
      | (rw [show mk8 x = 120 from if_pos (by (try simp only [beq_iff_eq, beq_eq_false_iff_ne, ne_eq] at *); omega)]; rfl)
      | (rw [show mk8 x = x from if_neg (by (try simp only [beq_iff_eq, beq_eq_false_iff_ne, ne_eq] at *); omega)]; rfl)
theorem mk_runes (w : World) : MapAtRunes Tryz.prog 24 #[] mk8 w := fun W x hx hB => by
  show Calls Tryz.prog 24 #[encR x] W fun e w' => e = .returned (.int .i32 (mk8 x)) ∧ ∃ q, w' = W.drewN q
  exact (mk_calls x W hx).mono fun e w' ⟨h1, h2⟩ => ⟨h1, 0, h2⟩
theorem mk_range (x : Int) : 32 ≤ mk8 x ∧ mk8 x ≤ 126 := by
  unfold mk8
  split <;> omega
theorem map_mk : ∀ (n : Nat) (l : List UInt8), l.length ≤ n → (Lib.mapD mk8 l).all plainB = true ∧ (Lib.mapD mk8 l).length ≤ l.length
  | 0, l, h => by
    have : l = [] := List.eq_nil_of_length_eq_zero (by omega)
    subst this
    exact ⟨rfl, Nat.le_refl _⟩
  | n + 1, l, h => by
    by_cases hl : l = []
    · subst hl; exact ⟨rfl, Nat.le_refl _⟩
    · have h0 : 0 < l.length := List.length_pos_iff.2 hl
      have hw := Lib.decodeL_width l
      obtain ⟨h1, h2⟩ := map_mk n (l.drop (Lib.decodeL l).2) (by simp; omega)
      rw [Lib.mapD_step mk8 l hl]
      generalize (Lib.decodeL l).1 = x
      generalize (Lib.decodeL l).2 = w at hw h1 h2 ⊢
      have hx := mk_range x
      generalize mk8 x = y at hx ⊢
      rw [if_pos (by omega)]
      have e1 : Lib.encodeRune y = [y.toNat.toUInt8] := by
        unfold Lib.encodeRune
        rw [Lib.encodeRuneZ_one (by omega) (by omega)]
        rfl
      have e2 : y.toNat.toUInt8.toNat = y.toNat := by
        rw [Nat.toUInt8_eq, UInt8.toNat_ofNat']
        omega
      rw [e1]
      refine ⟨?_, ?_⟩
      · rw [List.all_append, h1]
        simp only [List.all_cons, List.all_nil, Bool.and_true, plainB, e2, decide_eq_true_eq]
        omega
      · simp only [List.length_append, List.length_cons, List.length_nil, List.length_drop] at h2 ⊢
        omega
end Go.Vf.S

/- Addresses that are made. -/
namespace Go.Vf.S
open Go Go.Vf Go.Proofs Go.RowKit
attribute [local irreducible] wSeq wRow wp wG
set_option linter.unusedVariables false
set_option linter.unusedSimpArgs false
set_option maxRecDepth 10000

theorem mapMk_w {s : SS} {l : List UInt8} (hG : Gv s) (hl : l.length ≤ 1000000) : CallW pr 23 [.func (.func fMk) #[] #[], str l] s fun v s' => v = str (Lib.mapD mk8 l) ∧ s' = s := by
  refine CallW.kit rfl fun B w0 ρ args' w H ha => ?_
  obtain ⟨v1, v2, rfl, q1, q2⟩ := lrel_t ha
  obtain rfl := str_inv q2
  have e1 : v1 = .func (.func fMk) #[] #[] := by
    cases q1 with
    | func fn hy h1 h2 h3 h4 =>
      rename_i a' b'
      have ha : a' = #[] := Array.toList_inj.1 (List.eq_nil_of_length_eq_zero h1.symm)
      have hb : b' = #[] := Array.toList_inj.1 (List.eq_nil_of_length_eq_zero h2.symm)
      rw [ha, hb]
  subst e1
  exact Any.strings_Map_runes Tryz.lays230 Tryz.Builder_Extra_230 fMk #[] (enters_of Tryz.func24 (by kernel_rfl) rfl) mk8 ⟨⟨l⟩⟩ w (by show l.length < _; omega) (mk_runes w) (fun x hx => by have := mk_range x; omega) (hG.tabs H)

abbrev AA := List UInt8 × List UInt8
def adC (x : AA) : List Value := [str x.1, str x.2]
def adsC (xs : List AA) : List Value := xs.flatMap adC
theorem adsC_len (xs : List AA) : (adsC xs).length = xs.length * 2 := by
  induction xs with
  | nil => rfl
  | cons x xs ih =>
    unfold adsC at ih ⊢
    rw [List.flatMap_cons, List.length_append, ih, List.length_cons]
    show 2 + _ = _
    omega
theorem adsC_app (a b : List AA) : adsC (a ++ b) = adsC a ++ adsC b := by unfold adsC; rw [List.flatMap_append]
theorem ads_drop : ∀ (xs : List AA) (i : Nat), (adsC xs).drop (i * 2) = adsC (xs.drop i)
  | xs, 0 => by simp
  | [], i + 1 => by simp [adsC]
  | x :: xs, i + 1 => by
    have ih := ads_drop xs i
    rw [List.drop_succ_cons, ← ih, show (i + 1) * 2 = 2 + i * 2 by omega, ← List.drop_drop]
    rfl
theorem ads_take {xs : List AA} {i : Nat} {x : AA} (h : xs[i]? = some x) : takeN 2 ((adsC xs).drop (i * 2)) = some (adC x) := by
  rw [ads_drop, drop_next h]
  show takeN 2 (adC x ++ adsC _) = _
  rw [takeN_take _ _ (by rw [List.length_append]; show 2 ≤ 2 + _; omega)]
  exact congrArg some (List.take_left' (l₁ := adC x) rfl)
/-- A row of addresses: of one's own; that is read. -/
abbrev AdO (s : SS) (W : Option Addr) (cw : Nat) (xs : List AA) : Prop := OwnR tAd s W cw xs.length (adsC xs)
def AdRd (s : SS) (W : Option Addr) (xs : List AA) : Prop := match W with
  | none => xs = []
  | some ⟨b, off, sp⟩ => off = 0 ∧ sp = none ∧ b < s.next ∧ ∃ t g r, lookH s.heap b = some (.cells (adsC xs) t g r)
theorem AdRd.chg {s s' : SS} {W : Option Addr} {xs : List AA} (h : AdRd s W xs) (c : Chg s s' []) : AdRd s' W xs := by
  cases W with
  | none => exact h
  | some a =>
    obtain ⟨b, off, sp⟩ := a
    obtain ⟨h1, h2, h3, t, g, r, h4⟩ := h
    exact ⟨h1, h2, Nat.lt_of_lt_of_le h3 c.next, t, g, r, c.blk _ _ h3 (by simp) h4⟩
theorem AdRd.at {s : SS} {W : Option Addr} {xs : List AA} (h : AdRd s W xs) (hn : xs ≠ []) : ∃ b t g r, W = some ⟨b, 0, none⟩ ∧ b < s.next ∧ lookH s.heap b = some (.cells (adsC xs) t g r) := by
  cases W with
  | none => exact absurd h hn
  | some a =>
    obtain ⟨b, off, sp⟩ := a
    obtain ⟨rfl, rfl, h3, t, g, r, h4⟩ := h
    exact ⟨b, t, g, r, rfl, h3, h4⟩
theorem ads_nil {xs : List AA} (h : adsC xs = []) : xs = [] := by
  have := congrArg List.length h
  rw [adsC_len] at this
  exact List.length_eq_zero_iff.1 (by simp only [List.length_nil] at this; omega)
def domM : List (List UInt8) := [[97, 46, 101, 120, 97, 109, 112, 108, 101], [66, 46, 69, 120, 97, 109, 112, 108, 101], [91, 49, 48, 46, 48, 46, 48, 46, 49, 93], [120]]
def mk1 (x : AA) : AA := (117 :: Lib.mapD mk8 (x.1.take 14), domM.getD (x.2.length % 4) [])
def made8 (xs : List AA) (n : Nat) : List AA := (xs.take n).map mk1
theorem dom_fine : ∀ k, k < 4 → domF (domM.getD k []) = 0 ∧ (domM.getD k []).length ≤ 10 := by decide +kernel
theorem mk1_may (x : AA) : mayF (mk1 x).1 (mk1 x).2 = true := by
  obtain ⟨h1, h2⟩ := map_mk _ (x.1.take 14) (Nat.le_refl _)
  have h3 := dom_fine (x.2.length % 4) (Nat.mod_lt _ (by omega))
  unfold mayF mk1
  refine decide_eq_true ⟨by simp, ?_, ?_, h3.1⟩
  · have : (x.1.take 14).length ≤ 14 := by rw [List.length_take]; omega
    simp only [List.length_cons]
    omega
  · rw [List.all_cons, h1]
    decide
theorem mk1_len (x : AA) : (mk1 x).1.length ≤ 15 ∧ (mk1 x).2.length ≤ 10 := by
  obtain ⟨h1, h2⟩ := map_mk _ (x.1.take 14) (Nat.le_refl _)
  have h3 := dom_fine (x.2.length % 4) (Nat.mod_lt _ (by omega))
  have : (x.1.take 14).length ≤ 14 := by rw [List.length_take]; omega
  refine ⟨?_, h3.2⟩
  unfold mk1
  simp only [List.length_cons]
  omega

structure AdI where
  i : Nat
  W : Option Addr
  cw : Nat
  s : SS

set_option maxHeartbeats 2000000 in
theorem made8_w {s : SS} {A : Option Addr} {ca n : Nat} {xs : List AA} (hV : Gv s) (hF : Fine s) (hR : AdRd s A xs) (hx : xs.length ≤ 9223372036854775807) (hn : n ≤ 1000) : CallW pr n_law08_made [.slice A xs.length ca, .int .i64 n] s fun v s' => ∃ W cw, v = .slice W (made8 xs n).length cw ∧ AdO s' W cw (made8 xs n) ∧ Chg s s' [] ∧ ∀ id ∈ blkOf W, s.next ≤ id := by
  refine CallW.run good ok_law08_made (by simp) rfl ?_
  (try refine pSeq ?_); (repeat refine sb ?_)
  refine pLoop (MW.head good (fun x : AdI => xs.length - x.i) (fun x => x.i ≤ xs.length ∧ x.i ≤ n ∧ Chg s x.s [] ∧ AdO x.s x.W x.cw (made8 xs x.i) ∧ ∀ id ∈ blkOf x.W, s.next ≤ id)
    (fun x => [(1, .int .i64 n), (5, .slice x.W (made8 xs x.i).length x.cw), (9, .slice A xs.length ca), (10, .int .i64 (xs.length : Nat)), (11, .int .i64 x.i)]) (fun x => x.s) ⟨0, none, 0, s⟩ ⟨Nat.zero_le _, Nat.zero_le _, .refl _ _, ⟨rfl, rfl, rfl⟩, by simp [blkOf]⟩ (Wk.same ⟨rfl, rfl, rfl, rfl, rfl, trivial⟩) ?_)
  rintro ⟨i, W, cw, s1⟩ ⟨hi, hin, c1, o1, w1⟩
  dsimp only at hi hin c1 o1 w1 ⊢
  replace hR := hR.chg c1
  have hml : (made8 xs i).length = i := by unfold made8; rw [List.length_map, List.length_take]; omega
  (repeat refine sb ?_)
  intro q hq
  by_cases hlt : i < xs.length
  · obtain rfl : q = true := by rw [hq]; simp <;> omega
    obtain ⟨x, hxx⟩ : ∃ x, xs[i]? = some x := ⟨_, List.getElem?_eq_getElem hlt⟩
    obtain ⟨b, t, g, r, rfl, hb, k1⟩ := hR.at (fun e => by rw [e] at hlt; simp at hlt)
    (repeat refine sb ?_)
    refine ⟨by omega, ?_⟩
    intro m hm o ho
    obtain rfl : m = i := by omega
    rw [Nat.zero_add] at ho
    subst ho
    (repeat refine sb ?_)
    refine ldN_is rfl k1 (ads_take hxx) ?_
    (repeat refine sb ?_)
    refine st_abs (cs' := adC x) rfl rfl lkH (Nat.lt_succ_self _) rfl rfl fun s2 e2 c2 n2 => ?_
    have c12 : Chg s1 s2 [] := (Chg.new []).fresh c2 (by simp)
    have e2 : lookH s2.heap s1.next = some (.cells (adC x) tAd false false) := e2
    have n2 : s2.next = s1.next + 1 := n2
    replace o1 := o1.chg c12 (by simp)
    (repeat refine sb ?_)
    intro q hq
    by_cases hmn : m = n
    · obtain rfl : q = true := by rw [hq, hmn]; simp
      have e : made8 xs m = made8 xs n := by rw [hmn]
      (repeat refine sb ?_)
      exact ⟨W, cw, by rw [e]; rfl, by rw [← e]; exact o1, c1.nil c12, w1⟩
    · obtain rfl : q = false := by rw [hq]; simp; omega
      (repeat refine sb ?_)
      refine ldS_is rfl e2 rfl ?_
      (repeat refine sb ?_)
      refine ldS_is rfl e2 rfl ?_
      (repeat refine sb ?_)
      intro n1 hn1
      (repeat refine sb ?_)
      intro z hz
      (repeat refine sb ?_)
      refine ⟨by omega, ?_⟩
      intro m2 hm2 l hl
      have el : l = x.1.take 14 := by
        rw [hl, List.drop_zero, Nat.sub_zero]
        rcases Nat.lt_or_ge x.1.length 14 with q | q
        · rw [List.take_of_length_le (by omega), List.take_of_length_le (by omega)]
        · rw [show m2 = 14 by omega]
      clear hl
      subst el
      have hl14 : (x.1.take 14).length ≤ 14 := by rw [List.length_take]; omega
      (repeat refine sb ?_)
      refine (mapMk_w ((hV.chg c1).chg c12) (by omega)).mono fun v s2 q => ?_
      obtain ⟨rfl, rfl⟩ := q
      have hmk := mk1_len x
      (repeat refine sb ?_)
      refine ⟨by have := (map_mk _ (x.1.take 14) (Nat.le_refl _)).2; simp only [List.length_cons, List.length_nil]; omega, ?_⟩
      intro w hw
      have ew : w = (mk1 x).1 := by rw [hw]; rfl
      clear hw
      subst ew
      (repeat refine sb ?_)
      refine ldS_is rfl (lkT (by omega) e2) rfl ?_
      (repeat refine sb ?_)
      intro n3 hn3
      (repeat refine sb ?_)
      refine ⟨by omega, ?_⟩
      intro z3 hz3
      have hz3 : z3 = ((x.2.length % 4 : Nat) : Int) := by
        rw [hz3, hn3]
        exact (Int.ofNat_tmod _ 4).symm
      have h4 := Nat.mod_lt x.2.length (show 0 < 4 by omega)
      (repeat refine sb ?_)
      refine ⟨by omega, ?_⟩
      intro m4 hm4 o ho
      obtain rfl : m4 = x.2.length % 4 := by omega
      rw [Nat.zero_add, Nat.mul_one] at ho
      subst ho
      (repeat refine sb ?_)
      refine ldS_is (l := (mk1 x).2) rfl lkH ?_ ?_
      · have : ∀ k, k < 4 → (domM.map str)[k]? = some (str (domM.getD k [])) := by
          intro k hk
          rw [List.getElem?_map]
          have : k = 0 ∨ k = 1 ∨ k = 2 ∨ k = 3 := by omega
          rcases this with rfl | rfl | rfl | rfl <;> rfl
        exact this _ h4
      (repeat refine sb ?_)
      refine appR (new := adC (mk1 x)) (OwnR.chg o1 ((Chg.new []).nil (Chg.new [])) (by simp)) (adsC_len _) ⟨by rw [hml]; omega, by rw [hml]; omega⟩ rfl rfl lkH rfl rfl fun s3 r3 c3 n3 => ?_
      have c13 : Chg s s3 [] := (c1.nil c12).fresh (((Chg.new []).nil (.new _)).nil c3) w1
      have n3 : s3.next = s2.next + 3 := n3
      have hN := c1.next
      have em : made8 xs (m + 1) = made8 xs m ++ [mk1 x] := by
        unfold made8
        rw [take_next hxx, List.map_append]
        rfl
      have hml2 : (made8 xs (m + 1)).length = (made8 xs m).length + 1 := by rw [em, List.length_append]; rfl
      (repeat refine sb ?_)
      intro z hz
      rw [i64_id (by omega)] at hz
      obtain rfl : z = ((m + 1 : Nat) : Int) := by omega
      (repeat refine sb ?_)
      refine ⟨⟨m + 1, some ⟨s2.next + 2, 0, none⟩, 0, s3⟩, ⟨hlt, by dsimp only; omega, c13, ?_, fun id hid => by
        have : id = s2.next + 2 := List.mem_singleton.1 hid
        omega⟩, by show xs.length - (m + 1) < xs.length - m; omega, Wk.same ⟨rfl, by rw [hml2]; rfl, rfl, rfl, rfl, trivial⟩⟩
      show OwnR tAd s3 _ 0 (made8 xs (m + 1)).length (adsC (made8 xs (m + 1)))
      rw [hml2, em, adsC_app]
      exact r3
  · obtain rfl : q = false := by rw [hq]; simp <;> omega
    have e : made8 xs i = made8 xs n := by
      unfold made8
      rw [List.take_of_length_le (by omega), List.take_of_length_le (by omega)]
    (repeat refine sb ?_)
    exact ⟨W, cw, by rw [e]; rfl, by rw [← e]; exact o1, c1, w1⟩
end Go.Vf.S

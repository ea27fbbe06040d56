import Derived.Test.YtgnhkclddahdnaaGreatDoorLmA
import Derived.Test.YtgnhkclddahdnaaGreatDoorLjF
/- Lists of addresses: the law ListMoves, from any state. -/
namespace Go.Vf.S
open Go Go.Vf Go.Proofs Go.RowKit
attribute [local irreducible] wSeq wRow wp wG
attribute [local irreducible] parseF domF sameF textF mayF putF tokF
set_option linter.unusedVariables false
set_option linter.unusedSimpArgs false
set_option maxRecDepth 10000

/-- A row of addresses as handed in: its block may only be read. -/
def AdH (s : SS) (W : Option Addr) (xs : List AA) : Prop := match W with
  | none => xs = []
  | some ⟨b, off, sp⟩ => off = 0 ∧ sp = none ∧ b < s.next ∧ lookH s.heap b = some (.cells (adsC xs) tAd true true)
theorem AdH.rd {s : SS} {W : Option Addr} {xs : List AA} (h : AdH s W xs) : AdRd s W xs := by
  cases W with
  | none => exact h
  | some a =>
    obtain ⟨b, off, sp⟩ := a
    obtain ⟨h1, h2, h3, h4⟩ := h
    exact ⟨h1, h2, h3, _, _, _, h4⟩
theorem ads_takeN (xs : List AA) {k : Nat} (hk : k ≤ xs.length) : takeN (k * 2) ((adsC xs).drop 0) = some (adsC (xs.take k)) := by
  rw [List.drop_zero, takeN_take _ _ (by rw [adsC_len]; omega)]
  congr 1
  have e : adsC xs = adsC (xs.take k) ++ adsC (xs.drop k) := by rw [← adsC_app, List.take_append_drop]
  rw [e, List.take_left' (by rw [adsC_len, List.length_take]; omega)]
theorem slice3 {s : SS} {b k n : Nat} {cs : List Value} {r : Bool} (h : lookH s.heap b = some (.cells cs tAd true r)) (hk : k ≤ n) : sliceV pr s.st 22 (.slice (some ⟨b, 0, none⟩) n 0) none (some (.int .i64 (Int.ofNat k))) (some (.int .i64 (Int.ofNat k))) = some (.slice (some ⟨b, 0, none⟩) k (k + 1)) := by
  have hu : pr.underlying 22 = some (.slice tAd) := by kernel_rfl
  have e1 : Nat.ble k n = true := by rw [Nat.ble_eq]; exact hk
  have e2 : Nat.ble k k = true := by rw [Nat.ble_eq]; exact Nat.le_refl _
  have hg : growOf s.st ⟨b, 0, none⟩ = some (true, tAd) := by unfold growOf; simp only [SS.get, h]
  have hz : sizeB pr tAd = some 2 := sz_Ad
  simp only [sliceV, hu, hg, hz, mxOk, bound, e1, e2, cond_true, Nat.beq_refl, Bool.and_self, Nat.sub_zero, Nat.zero_mul]
  rfl
theorem slice3n {s : SS} : sliceV pr s.st 22 (.slice none 0 0) none (some (.int .i64 (Int.ofNat 0))) (some (.int .i64 (Int.ofNat 0))) = some (.slice none 0 0) := by
  have hu : pr.underlying 22 = some (.slice tAd) := by kernel_rfl
  have hz : sizeB pr tAd = some 2 := sz_Ad
  simp only [sliceV, hu, hz, mxOk, bound, cond_true, Nat.sub_zero]
  rfl

theorem aOp_slice3 {T : TL} {s : SS} {t : TypeId} {x h m : Operand} {vx vh vm r : Value} (hx : operand (toTr T) s.st x = some vx) (hh : operand (toTr T) s.st h = some vh) (hm : operand (toTr T) s.st m = some vm) (hv : sliceV pr s.st t vx none (some vh) (some vm) = some r) : aOp pr (toTr T) s.st (.slice t x none (some h) (some m)) = some (.val r) := by
  simp only [aOp, opt, hx, hh, hm, hv, Option.map_some]
/-- One more behind a row that is cut to its length, or behind none: a new block, whatever the row's block may be. -/
theorem appT {T : TL} {s : SS} {K : RR → Prop} {x y : Operand} {b n cw : Nat} {W : Option Addr} {xs : List AA} {a : AA} {t' : TypeId} {g r : Bool} (hn : n ≤ 64) (hx : opd T s.gl x = some (.slice W n cw)) (hy : opd T s.gl y = some (.slice (some ⟨b, 0, none⟩) 1 1)) (hb : lookH s.heap b = some (.cells (adC a) t' g r))
    (h : (W = none ∧ cw = 0 ∧ n = 0 ∧ xs = []) ∨ ∃ b2 c, W = some ⟨b2, 0, none⟩ ∧ cw = n + 1 ∧ lookH s.heap b2 = some (.cells c tAd true true) ∧ takeN (n * 2) (c.drop 0) = some (adsC xs))
    (hK : ∀ s' : SS, lookH s'.heap s.next = some (.cells (adsC (xs ++ [a])) tAd true false) → Chg s s' [] → s'.next = s.next + 1 → K (.eff (.slice (some ⟨s.next, 0, none⟩) (n + 1) 0) s')) : wN pr (.app tAd 2 32 x y) T s K := by
  simp only [wN, hx, hy, wSrc, hb]
  refine ⟨adC a, rfl, ⟨⟨by omega, by omega, rfl, rfl⟩, ?_⟩⟩
  rcases h with ⟨rfl, rfl, rfl, rfl⟩ | ⟨b2, c, rfl, rfl, h1, h2⟩
  · refine ⟨fun q => by simp at q, fun _ => ⟨rfl, fun m hm => ?_⟩⟩
    subst hm
    exact hK _ lkH (.new _) rfl
  · simp only [h1]
    refine ⟨fun q => by omega, fun _ => ⟨trivial, adsC xs, h2, fun m l hm hl => ?_⟩⟩
    subst hm hl
    exact hK _ (by rw [adsC_app]; exact lkH) (.new _) rfl

/-- With an error nothing is found. -/
theorem find_no {l : List UInt8} (h : (findF l).2 ≠ 0) : (findF l).1 = [] ∧ ((findF l).2 = 5 ∨ (findF l).2 = 3 ∨ (findF l).2 = 7) := by
  unfold findF at h ⊢
  split
  · exact ⟨rfl, .inl rfl⟩
  · split
    · exact ⟨rfl, .inr (.inl rfl)⟩
    · split
      · exact ⟨rfl, .inr (.inr rfl)⟩
      · rename_i T hT h1 h2
        rw [hT] at h
        simp only [h1, h2, if_neg] at h
        exact absurd rfl h

theorem find_tok {l : List UInt8} (h : (findF l).2 = 0) : ∃ T, tokF l = some T ∧ findF l = (spT 0 T, 0) ∧ lgT T = false ∧ (spT 0 T).length ≤ 64 := by
  cases hT : tokF l with
  | none =>
    have e : findF l = ([], 5) := by unfold findF; rw [hT]
    rw [e] at h
    cases h
  | some T =>
    have e : findF l = if lgT T = true then ([], 3) else if 64 < (spT 0 T).length then ([], 7) else (spT 0 T, 0) := by unfold findF; rw [hT]
    rw [e] at h
    by_cases h1 : lgT T = true
    · rw [if_pos h1] at h; cases h
    · rw [if_neg h1] at h e
      by_cases h2 : 64 < (spT 0 T).length
      · rw [if_pos h2] at h; cases h
      · rw [if_neg h2] at e
        exact ⟨T, rfl, e, by simpa using h1, by omega⟩
def ownF (xs : List Spt) : List AA := xs.map fun x => (x.a, x.d)
def newF (ys : List AA) (n : Nat) : List AA := (List.range n).map fun i => ys.getD (i % ys.length) ([], [])
theorem own_at {xs : List Spt} {i : Nat} {x : Spt} (h : xs[i]? = some x) : (ownF xs)[i]? = some (x.a, x.d) := by unfold ownF; rw [List.getElem?_map, h]; rfl
theorem new_at {ys : List AA} {n i : Nat} {y : AA} (h : ys[i % ys.length]? = some y) (hi : i < n) : (newF ys n)[i]? = some y := by
  unfold newF
  rw [List.getElem?_map, List.getElem?_range hi]
  show some (ys.getD (i % ys.length) ([], [])) = _
  rw [List.getD_eq_getElem?_getD, h]
  rfl
structure MvI where
  i : Nat
  V : Option Addr
  c : Nat
  U : Option Addr
  d : Nat
  s : SS

/-- What is made of the row handed in, and one more. -/
def bigF (ls : List AA) : List AA := ls.take 64 ++ [([108, 97, 115, 116], [120])]

set_option maxHeartbeats 2000000 in
theorem lmoves_w {s : SS} {l0 : List UInt8} {A : Option Addr} {ls : List AA} (hG : Gb s) (hV : Gv s) (hF : Fine s) (hR : AdH s A ls) (hx : ls.length ≤ 9223372036854775807) : CallW pr n_law08_ListMoves [str l0, .slice A ls.length 0] s fun v s' => v = .bool true := by
  refine CallW.run good ok_law08_ListMoves (by simp) rfl ?_
  (try refine pSeq ?_); (repeat(first|refine sb ?_|refine kNo ?_|refine gOn rfl ?_|refine gOff rfl rfl ?_|refine gTup rfl ?_))
  intro n hn
  (repeat(first|refine sb ?_|refine kNo ?_|refine gOn rfl ?_|refine gOff rfl rfl ?_|refine gTup rfl ?_))
  intro z hz
  (repeat(first|refine sb ?_|refine kNo ?_|refine gOn rfl ?_|refine gOff rfl rfl ?_|refine gTup rfl ?_))
  refine ⟨by omega, ?_⟩
  intro m hm l hl
  have hll : l.length ≤ 500 := few_str hl (by omega)
  clear hl hm hz hn
  (repeat(first|refine sb ?_|refine kNo ?_|refine gOn rfl ?_|refine gOff rfl rfl ?_|refine gTup rfl ?_))
  intro z hz
  (repeat(first|refine sb ?_|refine kNo ?_|refine gOn rfl ?_|refine gOff rfl rfl ?_|refine gTup rfl ?_))
  intro z2 hz2
  obtain ⟨k, hk⟩ : ∃ k, k = min ls.length 64 := ⟨_, rfl⟩
  obtain rfl : z = Int.ofNat k := by show z = (k : Int); omega
  obtain rfl : z2 = Int.ofNat k := by show z2 = (k : Int); omega
  (repeat(first|refine sb ?_|refine kNo ?_|refine gOn rfl ?_|refine gOff rfl rfl ?_|refine gTup rfl ?_))
  have key : ∃ (W : Option Addr) (cw : Nat), W = A ∧ sliceV pr s.st 22 (.slice A ls.length 0) none (some (.int .i64 (Int.ofNat k))) (some (.int .i64 (Int.ofNat k))) = some (.slice W k cw) ∧ (W ≠ none → cw = k + 1) ∧ (W = none → cw = 0 ∧ k = 0 ∧ ls = []) := by
    cases A with
    | none =>
      obtain rfl : ls = [] := hR
      obtain rfl : k = 0 := by rw [hk]; rfl
      exact ⟨none, 0, rfl, slice3n, fun h => absurd rfl h, fun _ => ⟨rfl, rfl, rfl⟩⟩
    | some a =>
      obtain ⟨b, off, sp⟩ := a
      obtain ⟨rfl, rfl, h3, h4⟩ := hR
      exact ⟨_, k + 1, rfl, slice3 h4 (by omega), fun _ => rfl, fun h => by cases h⟩
  obtain ⟨W, cw, eW, k1, k2, k3⟩ := key
  refine ⟨.val (.slice W k cw), ?_, ?_⟩
  · exact aOp_slice3 ((toTr_get _ _).trans rfl) ((toTr_get _ _).trans rfl) ((toTr_get _ _).trans rfl) k1
  (repeat(first|refine sb ?_|refine kNo ?_|refine gOn rfl ?_|refine gOff rfl rfl ?_|refine gTup rfl ?_))
  have hmk : k ≤ ls.length ∧ k ≤ 64 := by omega
  refine appT (xs := ls.take k) (a := ([108, 97, 115, 116], [120])) hmk.2 rfl rfl lkH ?_ fun s2 e2 c2 n2 => ?_
  · cases W with
    | none =>
      obtain ⟨h1, h2, h3⟩ := k3 rfl
      exact .inl ⟨rfl, h1, h2, by rw [h3]; simp⟩
    | some a =>
      obtain ⟨b, off, sp⟩ := a
      subst eW
      obtain ⟨rfl, rfl, h3, h4⟩ := hR
      exact .inr ⟨b, _, rfl, k2 (by simp), lkT (by omega) h4, ads_takeN ls hmk.1⟩
  have eb : ls.take k = ls.take 64 := by
    rcases Nat.lt_or_ge ls.length 64 with q | q
    · rw [List.take_of_length_le (by omega), List.take_of_length_le (by omega)]
    · rw [show k = 64 by omega]
  rw [eb] at e2
  have c02 : Chg s s2 [] := (Chg.new []).nil c2
  have lb : (bigF ls).length = k + 1 := by
    unfold bigF
    rw [List.length_append, ← eb, List.length_take]
    show min k ls.length + 1 = k + 1
    omega
  have hR2 : AdRd s2 (some ⟨_, 0, none⟩) (bigF ls) := ⟨rfl, rfl, by rw [n2]; exact Nat.lt_succ_self _, _, _, _, e2⟩
  (repeat(first|refine sb ?_|refine kNo ?_|refine gOn rfl ?_|refine gOff rfl rfl ?_|refine gTup rfl ?_))
  have hmd := made8_w (s := s2) (ca := 0) (n := 65) (hV.chg c02) (c02.fine hF) hR2 (by omega) (by omega)
  rw [lb] at hmd
  refine hmd.mono fun v s3 q => ?_
  obtain ⟨W3, cw3, rfl, o3, c3, w3⟩ := q
  have c03 := c02.nil c3
  obtain ⟨ys, hys⟩ : ∃ ys, ys = made8 (bigF ls) 65 := ⟨_, rfl⟩
  have hy0 : 0 < ys.length ∧ ys.length ≤ 65 := by
    rw [hys]
    unfold made8
    rw [List.length_map, List.length_take, lb]
    omega
  have hyi : ∀ a ∈ ys, mayF a.1 a.2 = true ∧ a.1.length ≤ 15 ∧ a.2.length ≤ 10 := fun a h => by
    rw [hys] at h
    obtain ⟨x, -, rfl⟩ := List.mem_map.1 h
    exact ⟨mk1_may x, (mk1_len x).1, (mk1_len x).2⟩
  rw [← hys] at o3 ⊢
  clear hmd
  (repeat(first|refine sb ?_|refine kNo ?_|refine gOn rfl ?_|refine gOff rfl rfl ?_|refine gTup rfl ?_))
  refine (find_w (c03.fine hF) (hG.chg c03 (by simp)) (by omega)).mono fun v s4 q => ?_
  obtain ⟨W4, cw4, rfl, o4, c4, w4⟩ := q
  have c04 := c03.nil c4
  replace o3 := o3.chg c4 (by simp)
  (repeat(first|refine sb ?_|refine kNo ?_|refine gOn rfl ?_|refine gOff rfl rfl ?_|refine gTup rfl ?_))
  intro q hq
  by_cases h0 : (findF l).2 = 0
  · obtain rfl : q = false := by rw [hq, h0]; rfl
    obtain ⟨T, hT, eF, hlg, h64⟩ := find_tok h0
    obtain ⟨xs, hxs⟩ : ∃ xs, xs = spT 0 T := ⟨_, rfl⟩
    rw [eF, ← hxs] at o4 ⊢
    dsimp only at o4 ⊢
    rw [← hxs] at h64
    clear hq
    (repeat(first|refine sb ?_|refine kNo ?_|refine gOn rfl ?_|refine gOff rfl rfl ?_|refine gTup rfl ?_))
    refine pLoop (MW.head good (fun x : MvI => xs.length - x.i) (fun x => x.i ≤ xs.length ∧ Chg s4 x.s [] ∧ OwnR tAd x.s x.V x.c x.i (adsC ((ownF xs).take x.i)) ∧ OwnR tAd x.s x.U x.d x.i (adsC ((newF ys xs.length).take x.i)) ∧ (∀ id ∈ blkOf x.V, s4.next ≤ id) ∧ (∀ id ∈ blkOf x.U, s4.next ≤ id) ∧ ∀ id ∈ blkOf x.V, id ∉ blkOf x.U)
      (fun x => [(0, str l), (5, .slice W3 ys.length cw3), (6, .slice W4 xs.length cw4), (8, .slice x.V x.i x.c), (9, .slice x.U x.i x.d), (67, .slice W4 xs.length cw4), (68, .int .i64 (xs.length : Nat)), (69, .int .i64 x.i)]) (fun x => x.s) ⟨0, none, 0, none, 0, s4⟩ ⟨Nat.zero_le _, .refl _ _, ⟨rfl, rfl, rfl⟩, ⟨rfl, rfl, rfl⟩, by simp [blkOf], by simp [blkOf], by simp [blkOf]⟩ (Wk.same ⟨rfl, rfl, rfl, rfl, rfl, rfl, rfl, rfl, trivial⟩) ?_)
    rintro ⟨i, V, c, U, d, s5⟩ ⟨hi, c5, o8, o9, w8, w9, w89⟩
    dsimp only at hi c5 o8 o9 w8 w9 w89 ⊢
    have o35 := o3.chg c5 (by simp)
    have o45 := o4.chg c5 (by simp)
    have c05 := c04.nil c5
    have l8 := o8.lt
    have l9 := o9.lt
    (repeat(first|refine sb ?_|refine kNo ?_|refine gOn rfl ?_|refine gOff rfl rfl ?_|refine gTup rfl ?_))
    intro q hq
    by_cases hlt : i < xs.length
    · obtain rfl : q = true := by rw [hq]; simp <;> omega
      obtain ⟨x, hx⟩ : ∃ x, xs[i]? = some x := ⟨_, List.getElem?_eq_getElem hlt⟩
      have hmod := Nat.mod_lt i hy0.1
      obtain ⟨y, hy⟩ : ∃ y, ys[i % ys.length]? = some y := ⟨_, List.getElem?_eq_getElem hmod⟩
      have hyn := new_at hy hlt
      obtain ⟨r, hr⟩ : ∃ r, r = i % ys.length := ⟨_, rfl⟩
      rw [← hr] at hmod hy
      obtain ⟨b4, g4, rfl, k4⟩ := o45.pos (by omega)
      obtain ⟨b3, g3, rfl, k3⟩ := o35.pos hy0.1
      have lb3 : b3 < s5.next := o35.lt _ (by simp [blkOf])
      (repeat(first|refine sb ?_|refine kNo ?_|refine gOn rfl ?_|refine gOff rfl rfl ?_|refine gTup rfl ?_))
      refine ⟨by omega, ?_⟩
      intro m hm o ho
      obtain rfl : m = i := by omega
      rw [Nat.zero_add] at ho
      subst ho
      (repeat(first|refine sb ?_|refine kNo ?_|refine gOn rfl ?_|refine gOff rfl rfl ?_|refine gTup rfl ?_))
      refine ldN_is rfl k4 (sps_take hx) ?_
      (repeat(first|refine sb ?_|refine kNo ?_|refine gOn rfl ?_|refine gOff rfl rfl ?_|refine gTup rfl ?_))
      refine st_abs (cs' := spC x) rfl rfl lkH (Nat.lt_succ_self _) rfl rfl fun s6 e6 c6 n6 => ?_
      have c56 : Chg s5 s6 [] := (Chg.new []).fresh c6 (by simp)
      have e6 : lookH s6.heap s5.next = some (.cells (spC x) tSp false false) := e6
      have n6 : s6.next = s5.next + 1 := n6
      have c06 := c05.nil c56
      have o86 := o8.chg c56 (by simp)
      have o96 := o9.chg c56 (by simp)
      have k36 := c56.blk _ _ lb3 (by simp) k3
      (repeat(first|refine sb ?_|refine kNo ?_|refine gOn rfl ?_|refine gOff rfl rfl ?_|refine gTup rfl ?_))
      refine ldN_is rfl e6 (show takeN 2 ((spC x).drop 2) = some [str x.a, str x.d] from rfl) ?_
      (repeat(first|refine sb ?_|refine kNo ?_|refine gOn rfl ?_|refine gOff rfl rfl ?_|refine gTup rfl ?_))
      refine mkS_is rfl rfl (rNew (c06.fine hF).at ?_)
      (repeat(first|refine sb ?_|refine kNo ?_|refine gOn rfl ?_|refine gOff rfl rfl ?_|refine gTup rfl ?_))
      refine ⟨by omega, ?_⟩
      intro z3 hz3
      have hz3 : z3 = (r : Int) := by
        rw [hz3, hr]
        exact (Int.ofNat_tmod _ _).symm
      (repeat(first|refine sb ?_|refine kNo ?_|refine gOn rfl ?_|refine gOff rfl rfl ?_|refine gTup rfl ?_))
      refine ⟨by omega, ?_⟩
      intro m4 hm4 o ho
      obtain rfl : m4 = r := by omega
      rw [Nat.zero_add] at ho
      subst ho
      (repeat(first|refine sb ?_|refine kNo ?_|refine gOn rfl ?_|refine gOff rfl rfl ?_|refine gTup rfl ?_))
      have k37 : lookH ((s6.next, some (ABlk.cells [str x.a, str x.d] 27 false false)) :: s6.heap) b3 = some (.cells (adsC ys) tAd g3 false) := lkT (by omega) k36
      refine ldN_is rfl k37 (ads_take hy) ?_
      (repeat(first|refine sb ?_|refine kNo ?_|refine gOn rfl ?_|refine gOff rfl rfl ?_|refine gTup rfl ?_))
      refine mkS_is rfl rfl (rNew ((c06.nil (.new [])).fine hF).at ?_)
      (repeat(first|refine sb ?_|refine kNo ?_|refine gOn rfl ?_|refine gOff rfl rfl ?_|refine gTup rfl ?_))
      have hol : ((ownF xs).take m).length = m := by rw [List.length_take]; unfold ownF; rw [List.length_map]; omega
      have hnl : ((newF ys xs.length).take m).length = m := by rw [List.length_take]; unfold newF; rw [List.length_map, List.length_range]; omega
      refine appR (new := adC (x.a, x.d)) ((o86.chg (.new []) (by simp)).chg (.new []) (by simp)) (by rw [adsC_len, hol]) ⟨by omega, by omega⟩ rfl rfl (lkT (show s6.next + 1 ≠ s6.next by omega) lkH) rfl rfl fun s7 r7 c7 n7 => ?_
      have n7 : s7.next = s6.next + 3 := n7
      have c67 : Chg s6 s7 (blkOf V) := (((Chg.new (s := s6) []).trans' (.new []) (C := []) (fun id q _ => q) (fun id q _ => q)).trans' c7 (C := blkOf V) (fun id q _ => by simp at q) (fun id q _ => q))
      have hb3V : b3 ∉ blkOf V := fun h => by have := w8 _ h; have := o4.lt b4 (by simp [blkOf]); have := o3.lt b3 (by simp [blkOf]); omega
      have k38 := c67.blk b3 _ (by omega) hb3V k36
      have k68 : lookH s7.heap (s6.next + 1) = some (.cells [str y.1, str y.2] 27 false false) := c7.blk (s6.next + 1) _ (show s6.next + 1 < s6.next + 1 + 1 by omega) (fun h => by have := l8 _ h; omega) lkH
      refine kEach ⟨fun _ => k68, fun _ => ldN_is rfl k38 (ads_take hy) rfl, fun _ => rfl, trivial⟩ ?_
      (repeat(first|refine sb ?_|refine kNo ?_|refine gOn rfl ?_|refine gOff rfl rfl ?_|refine gTup rfl ?_))
      have o97 : OwnR tAd s7 U d m (adsC ((newF ys xs.length).take m)) := o96.chg c67 (fun id h1 h2 => w89 id h2 h1)
      refine appR (new := adC y) o97 (by rw [adsC_len, hnl]) ⟨by omega, by omega⟩ rfl rfl k68 rfl rfl fun s8 r8 c8 n8 => ?_
      have hN := c5.next
      (repeat(first|refine sb ?_|refine kNo ?_|refine gOn rfl ?_|refine gOff rfl rfl ?_|refine gTup rfl ?_))
      intro z hz
      rw [i64_id (by omega)] at hz
      obtain rfl : z = ((m + 1 : Nat) : Int) := by omega
      (repeat(first|refine sb ?_|refine kNo ?_|refine gOn rfl ?_|refine gOff rfl rfl ?_|refine gTup rfl ?_))
      have c48 : Chg s4 s8 [] := ((c5.nil c56).fresh c67 w8).fresh c8 w9
      refine ⟨⟨m + 1, some ⟨s6.next + 2, 0, none⟩, 0, some ⟨s7.next, 0, none⟩, 0, s8⟩, ⟨hlt, c48, ?_, ?_, fun id hid => ?_, fun id hid => ?_, fun id hid hid2 => ?_⟩, by show xs.length - (m + 1) < xs.length - m; omega, Wk.same ⟨rfl, rfl, rfl, rfl, rfl, rfl, rfl, rfl, trivial⟩⟩
      · dsimp only
        rw [take_next (own_at hx), adsC_app]
        exact r7.chg c8 (fun id h1 h2 => by have : id = s6.next + 2 := List.mem_singleton.1 h1; have := l9 _ h2; omega)
      · dsimp only
        rw [take_next hyn, adsC_app]
        exact r8
      · have : id = s6.next + 2 := List.mem_singleton.1 hid
        omega
      · have : id = s7.next := List.mem_singleton.1 hid
        omega
      · have h1 : id = s6.next + 2 := List.mem_singleton.1 hid
        have h2 : id = s7.next := List.mem_singleton.1 hid2
        omega
    · obtain rfl : q = false := by rw [hq]; simp <;> omega
      obtain rfl : i = xs.length := by omega
      have eo : (ownF xs).take xs.length = ownF xs := List.take_of_length_le (by unfold ownF; rw [List.length_map]; omega)
      have en : (newF ys xs.length).take xs.length = newF ys xs.length := List.take_of_length_le (by unfold newF; rw [List.length_map, List.length_range]; omega)
      rw [eo] at o8
      rw [en] at o9
      have lo : (ownF xs).length = xs.length := by unfold ownF; rw [List.length_map]
      have ln : (newF ys xs.length).length = xs.length := by unfold newF; rw [List.length_map, List.length_range]
      clear hq hlt hi
      (repeat(first|refine sb ?_|refine kNo ?_|refine gOn rfl ?_|refine gOff rfl rfl ?_|refine gTup rfl ?_))
      have hoM := ord_mem (find_ord l)
      rw [eF, ← hxs] at hoM
      dsimp only at hoM
      have hb1 : ∀ a ∈ ownF xs, a.1.length ≤ 1000 ∧ a.2.length ≤ 1000 := fun a ha => by
        obtain ⟨x, hx, rfl⟩ := List.mem_map.1 ha
        have := hoM x hx
        dsimp only
        omega
      have hnin : ∀ a ∈ newF ys xs.length, a ∈ ys := fun a ha => by
        obtain ⟨i, -, rfl⟩ := List.mem_map.1 ha
        have hm := Nat.mod_lt i hy0.1
        rw [List.getD_eq_getElem?_getD, List.getElem?_eq_getElem hm]
        exact List.getElem_mem hm
      have hb2 : ∀ a ∈ newF ys xs.length, a.1.length ≤ 1000 ∧ a.2.length ≤ 1000 := fun a ha => by
        have := hyi a (hnin a ha)
        omega
      have ep1 : putF l (ownF xs) = (l, 0) := by
        rw [hxs]
        exact moves_own hT hlg (by rw [← hxs]; exact h64)
      obtain ⟨o, zs, eo1, ep2, ef2, lz, hmv⟩ := moves (ys := newF ys xs.length) hT hlg (by rw [← hxs]; exact h64) (fun y hy => (hyi y (hnin y hy)).1) (by rw [ln, hxs])
      rw [← hxs] at eo1 lz hmv
      have hol : o.length ≤ 100000 := by
        rw [eo1]
        have hOr := find_ord l
        rw [eF, ← hxs] at hOr
        dsimp only at hOr
        have := out_len (B := 100) hOr (ys := newF ys xs.length) fun a h => by have := pt_len (a := a.1) (d := a.2); have := hyi a (hnin a h); show (textF a.1 a.2).length ≤ 100; omega
        omega
      have hp1 := put_w (s := s5) (A := V) (ca := c) (l := l) (ys := ownF xs) (hG.chg c05 (by simp)) (c05.fine hF) (by omega) (rd_ownR o8) (by omega) hb1
      rw [lo, ep1] at hp1
      refine hp1.mono fun v s6 q => ?_
      obtain ⟨rfl, c6⟩ := q
      have c06 := c05.nil c6
      clear hp1
      (repeat(first|refine sb ?_|refine kNo ?_|refine gOn rfl ?_|refine gOff rfl rfl ?_|refine gTup rfl ?_))
      have hp2 := put_w (s := s6) (A := U) (ca := d) (l := l) (ys := newF ys xs.length) (hG.chg c06 (by simp)) (c06.fine hF) (by omega) ((rd_ownR o9).chg c6) (by omega) hb2
      rw [ln, ep2] at hp2
      refine hp2.mono fun v s7 q => ?_
      obtain ⟨rfl, c7⟩ := q
      have c07 := c06.nil c7
      clear hp2
      (repeat(first|refine sb ?_|refine kNo ?_|refine gOn rfl ?_|refine gOff rfl rfl ?_|refine gTup rfl ?_))
      refine (find_w (l := o) (c07.fine hF) (hG.chg c07 (by simp)) (by omega)).mono fun v s8 q => ?_
      obtain ⟨W8, cw8, rfl, o16, c8, -⟩ := q
      have c08 := c07.nil c8
      rw [ef2] at o16 ⊢
      dsimp only at o16 ⊢
      (repeat(first|refine sb ?_|refine kNo ?_|refine gOn rfl ?_|refine gOff rfl rfl ?_|refine gTup rfl ?_))
      intro q hq; obtain rfl : q = false := (by rw [hq]; simp <;> omega); (repeat(first|refine sb ?_|refine kNo ?_|refine gOn rfl ?_|refine gOff rfl rfl ?_|refine gTup rfl ?_))
      intro q hq; obtain rfl : q = false := (by rw [hq]; simp <;> omega); (repeat(first|refine sb ?_|refine kNo ?_|refine gOn rfl ?_|refine gOff rfl rfl ?_|refine gTup rfl ?_))
      intro q hq; obtain rfl : q = false := (by rw [hq]; simp <;> omega); (repeat(first|refine sb ?_|refine kNo ?_|refine gOn rfl ?_|refine gOff rfl rfl ?_|refine gTup rfl ?_))
      intro q hq; obtain rfl : q = false := (by rw [hq]; simp <;> omega); (repeat(first|refine sb ?_|refine kNo ?_|refine gOn rfl ?_|refine gOff rfl rfl ?_|refine gTup rfl ?_))
      intro q hq; obtain rfl : q = false := (by rw [hq]; simp <;> omega); (repeat(first|refine sb ?_|refine kNo ?_|refine gOn rfl ?_|refine gOff rfl rfl ?_|refine gTup rfl ?_))
      have hzM := ord_mem (find_ord o)
      rw [ef2] at hzM
      dsimp only at hzM
      have o48 := ((o45.chg c6 (by simp)).chg c7 (by simp)).chg c8 (by simp)
      have o98 := ((o9.chg c6 (by simp)).chg c7 (by simp)).chg c8 (by simp)
      refine pLoop (MW.head good (fun x : RPutI => xs.length - x.i) (fun x => x.i ≤ xs.length ∧ ∃ q, x.w.length = q ∧ Chg s8 x.s [] ∧ MvR l o x.p q (xs.drop x.i) (zs.drop x.i) ((newF ys xs.length).drop x.i))
        (fun x => [(0, str l), (6, .slice W4 xs.length cw4), (9, .slice U xs.length d), (14, str o), (16, .slice W8 zs.length cw8), (18, .int .i64 x.p), (19, .int .i64 (x.w.length : Nat)), (129, .slice W4 xs.length cw4), (130, .int .i64 (xs.length : Nat)), (131, .int .i64 x.i)]) (fun x => x.s) ⟨0, 0, [], s8⟩ ⟨Nat.zero_le _, 0, rfl, .refl _ _, hmv⟩ (Wk.same ⟨rfl, rfl, rfl, rfl, rfl, rfl, rfl, rfl, rfl, rfl, trivial⟩) ?_)
      rintro ⟨i, p, w, s9⟩ ⟨hi, q9, hq9, c9, hM⟩
      dsimp only at hi hq9 c9 hM ⊢
      subst hq9
      have o49 := o48.chg c9 (by simp)
      have o99 := o98.chg c9 (by simp)
      have o169 := o16.chg c9 (by simp)
      have c09 := c08.nil c9
      (repeat(first|refine sb ?_|refine kNo ?_|refine gOn rfl ?_|refine gOff rfl rfl ?_|refine gTup rfl ?_))
      intro q hq
      by_cases hlt : i < xs.length
      · obtain rfl : q = true := by rw [hq]; simp <;> omega
        obtain ⟨x, hx⟩ : ∃ x, xs[i]? = some x := ⟨_, List.getElem?_eq_getElem hlt⟩
        obtain ⟨z, hz⟩ : ∃ z, zs[i]? = some z := ⟨_, List.getElem?_eq_getElem (by omega)⟩
        obtain ⟨y, hy⟩ : ∃ y, (newF ys xs.length)[i]? = some y := ⟨_, List.getElem?_eq_getElem (by omega)⟩
        have hyy := hb2 y (List.mem_of_getElem? hy)
        have hxx := hoM x (List.mem_of_getElem? hx)
        rw [drop_next hx, drop_next hz, drop_next hy] at hM
        obtain ⟨⟨m1, m2, m3⟩, ⟨m4, m5, m6⟩, m7, m8, m9, m10, hM⟩ := hM
        obtain ⟨b4, g4, rfl, k4⟩ := o49.pos (by omega)
        obtain ⟨b8, g8, rfl, k8⟩ := o169.pos (by omega)
        obtain ⟨b9, g9, rfl, k9⟩ := o99.pos (by omega)
        have lb4 := o49.lt b4 (by simp [blkOf])
        have lb8 := o169.lt b8 (by simp [blkOf])
        have lb9 := o99.lt b9 (by simp [blkOf])
        (repeat(first|refine sb ?_|refine kNo ?_|refine gOn rfl ?_|refine gOff rfl rfl ?_|refine gTup rfl ?_))
        refine ⟨by omega, ?_⟩
        intro m hm o' ho'
        obtain rfl : m = i := by omega
        rw [Nat.zero_add] at ho'
        subst ho'
        (repeat(first|refine sb ?_|refine kNo ?_|refine gOn rfl ?_|refine gOff rfl rfl ?_|refine gTup rfl ?_))
        refine ldN_is rfl k4 (sps_take hx) ?_
        (repeat(first|refine sb ?_|refine kNo ?_|refine gOn rfl ?_|refine gOff rfl rfl ?_|refine gTup rfl ?_))
        refine st_abs (cs' := spC x) rfl rfl lkH (Nat.lt_succ_self _) rfl rfl fun s10 e10 c10 n10 => ?_
        have c910 : Chg s9 s10 [] := (Chg.new []).fresh c10 (by simp)
        have e10 : lookH s10.heap s9.next = some (.cells (spC x) tSp false false) := e10
        have n10 : s10.next = s9.next + 1 := n10
        have k810 := c910.blk _ _ lb8 (by simp) k8
        (repeat(first|refine sb ?_|refine kNo ?_|refine gOn rfl ?_|refine gOff rfl rfl ?_|refine gTup rfl ?_))
        refine ⟨by omega, ?_⟩
        intro m' hm' o' ho'
        obtain rfl : m' = m := by omega
        rw [Nat.zero_add] at ho'
        subst ho'
        (repeat(first|refine sb ?_|refine kNo ?_|refine gOn rfl ?_|refine gOff rfl rfl ?_|refine gTup rfl ?_))
        refine ldN_is rfl k810 (sps_take hz) ?_
        (repeat(first|refine sb ?_|refine kNo ?_|refine gOn rfl ?_|refine gOff rfl rfl ?_|refine gTup rfl ?_))
        refine st_abs (cs' := spC z) rfl rfl lkH (Nat.lt_succ_self _) rfl rfl fun s11 e11 c11 n11 => ?_
        have c1011 : Chg s10 s11 [] := (Chg.new []).fresh c11 (by simp)
        have e11 : lookH s11.heap s10.next = some (.cells (spC z) tSp false false) := e11
        have n11 : s11.next = s10.next + 1 := n11
        have c911 := c910.nil c1011
        have c011 := c09.nil c911
        have e10 := c1011.blk s9.next _ (by omega) (by simp) e10
        have k911 := c911.blk _ _ lb9 (by simp) k9
        (repeat(first|refine sb ?_|refine kNo ?_|refine gOn rfl ?_|refine gOff rfl rfl ?_|refine gTup rfl ?_))
        refine ldI_is rfl e10 rfl ?_
        (repeat(first|refine sb ?_|refine kNo ?_|refine gOn rfl ?_|refine gOff rfl rfl ?_|refine gTup rfl ?_))
        intro q hq; obtain rfl : q = false := (by rw [hq]; simp <;> omega); (repeat(first|refine sb ?_|refine kNo ?_|refine gOn rfl ?_|refine gOff rfl rfl ?_|refine gTup rfl ?_))
        refine ldI_is rfl e10 rfl ?_
        (repeat(first|refine sb ?_|refine kNo ?_|refine gOn rfl ?_|refine gOff rfl rfl ?_|refine gTup rfl ?_))
        refine ldI_is rfl e10 rfl ?_
        (repeat(first|refine sb ?_|refine kNo ?_|refine gOn rfl ?_|refine gOff rfl rfl ?_|refine gTup rfl ?_))
        intro q hq; obtain rfl : q = false := (by rw [hq]; simp <;> omega); (repeat(first|refine sb ?_|refine kNo ?_|refine gOn rfl ?_|refine gOff rfl rfl ?_|refine gTup rfl ?_))
        refine ldI_is rfl e10 rfl ?_
        (repeat(first|refine sb ?_|refine kNo ?_|refine gOn rfl ?_|refine gOff rfl rfl ?_|refine gTup rfl ?_))
        intro n hn
        (repeat(first|refine sb ?_|refine kNo ?_|refine gOn rfl ?_|refine gOff rfl rfl ?_|refine gTup rfl ?_))
        intro q hq; obtain rfl : q = false := (by rw [hq]; simp <;> omega); (repeat(first|refine sb ?_|refine kNo ?_|refine gOn rfl ?_|refine gOff rfl rfl ?_|refine gTup rfl ?_))
        refine ldI_is rfl e11 rfl ?_
        (repeat(first|refine sb ?_|refine kNo ?_|refine gOn rfl ?_|refine gOff rfl rfl ?_|refine gTup rfl ?_))
        intro q hq; obtain rfl : q = false := (by rw [hq]; simp <;> omega); (repeat(first|refine sb ?_|refine kNo ?_|refine gOn rfl ?_|refine gOff rfl rfl ?_|refine gTup rfl ?_))
        refine ldI_is rfl e11 rfl ?_
        (repeat(first|refine sb ?_|refine kNo ?_|refine gOn rfl ?_|refine gOff rfl rfl ?_|refine gTup rfl ?_))
        intro n hn
        (repeat(first|refine sb ?_|refine kNo ?_|refine gOn rfl ?_|refine gOff rfl rfl ?_|refine gTup rfl ?_))
        intro q hq; obtain rfl : q = false := (by rw [hq]; simp <;> omega); (repeat(first|refine sb ?_|refine kNo ?_|refine gOn rfl ?_|refine gOff rfl rfl ?_|refine gTup rfl ?_))
        refine ldI_is rfl e10 rfl ?_
        (repeat(first|refine sb ?_|refine kNo ?_|refine gOn rfl ?_|refine gOff rfl rfl ?_|refine gTup rfl ?_))
        have hzz := hzM z (List.mem_of_getElem? hz)
        refine ⟨by omega, ?_⟩
        intro a1 ha1
        refine ⟨by omega, ?_⟩
        intro a2 ha2 t ht
        rw [show a1 = x.f by omega, show a2 = p by omega] at ht
        clear ha1 ha2
        (repeat(first|refine sb ?_|refine kNo ?_|refine gOn rfl ?_|refine gOff rfl rfl ?_|refine gTup rfl ?_))
        refine ldI_is rfl e11 rfl ?_
        (repeat(first|refine sb ?_|refine kNo ?_|refine gOn rfl ?_|refine gOff rfl rfl ?_|refine gTup rfl ?_))
        refine ⟨by omega, ?_⟩
        intro a1 ha1
        refine ⟨by omega, ?_⟩
        intro a2 ha2 t' ht'
        rw [show a1 = z.f by omega, show a2 = w.length by omega] at ht'
        clear ha1 ha2
        (repeat(first|refine sb ?_|refine kNo ?_|refine gOn rfl ?_|refine gOff rfl rfl ?_|refine gTup rfl ?_))
        intro q hq
        obtain rfl : q = false := by rw [hq, ht, ht', m7]; simp
        (repeat(first|refine sb ?_|refine kNo ?_|refine gOn rfl ?_|refine gOff rfl rfl ?_|refine gTup rfl ?_))
        refine ldN_is rfl e11 (show takeN 2 ((spC z).drop 2) = some [str z.a, str z.d] from rfl) ?_
        (repeat(first|refine sb ?_|refine kNo ?_|refine gOn rfl ?_|refine gOff rfl rfl ?_|refine gTup rfl ?_))
        refine ⟨by omega, ?_⟩
        intro m3' hm3' o' ho'
        obtain rfl : m3' = m' := by omega
        rw [Nat.zero_add] at ho'
        subst ho'
        (repeat(first|refine sb ?_|refine kNo ?_|refine gOn rfl ?_|refine gOff rfl rfl ?_|refine gTup rfl ?_))
        refine ldN_is rfl k911 (ads_take hy) ?_
        (repeat(first|refine sb ?_|refine kNo ?_|refine gOn rfl ?_|refine gOff rfl rfl ?_|refine gTup rfl ?_))
        refine (asame_w (a := z.a) (d := z.d) (b := y.1) (e := y.2) (by omega) (by omega) (by omega) (by omega)).mono fun v s12 q => ?_
        obtain ⟨rfl, c12⟩ := q
        rw [m8]
        have c012 := c011.nil c12
        have n12 := c12.next
        have e10 := c12.blk _ _ (by omega) (by simp) e10
        have e11 := c12.blk _ _ (by omega) (by simp) e11
        have k912 := c12.blk _ _ (by omega) (by simp) k911
        (repeat(first|refine sb ?_|refine kNo ?_|refine gOn rfl ?_|refine gOff rfl rfl ?_|refine gTup rfl ?_))
        intro q hq
        obtain rfl : q = false := by rw [hq]; rfl
        (repeat(first|refine sb ?_|refine kNo ?_|refine gOn rfl ?_|refine gOff rfl rfl ?_|refine gTup rfl ?_))
        refine ldI_is rfl e10 rfl ?_
        (repeat(first|refine sb ?_|refine kNo ?_|refine gOn rfl ?_|refine gOff rfl rfl ?_|refine gTup rfl ?_))
        refine ldI_is rfl e10 rfl ?_
        (repeat(first|refine sb ?_|refine kNo ?_|refine gOn rfl ?_|refine gOff rfl rfl ?_|refine gTup rfl ?_))
        refine ⟨by omega, ?_⟩
        intro a1 ha1
        refine ⟨by omega, ?_⟩
        intro a2 ha2 t3 ht3
        rw [show a1 = x.t by omega, show a2 = x.f by omega] at ht3
        clear ha1 ha2
        (repeat(first|refine sb ?_|refine kNo ?_|refine gOn rfl ?_|refine gOff rfl rfl ?_|refine gTup rfl ?_))
        refine (parse_w (l := t3) (hG.chg c012 (by simp)) (by rw [ht3, List.length_take, List.length_drop]; omega)).mono fun v s13 q => ?_
        obtain ⟨rfl, c13⟩ := q
        rw [ht3, m9]
        have c013 := c012.nil c13
        have n13 := c13.next
        have e10 := c13.blk _ _ (by omega) (by simp) e10
        have e11 := c13.blk _ _ (by omega) (by simp) e11
        have k913 := c13.blk _ _ (by omega) (by simp) k912
        (repeat(first|refine sb ?_|refine kNo ?_|refine gOn rfl ?_|refine gOff rfl rfl ?_|refine gTup rfl ?_))
        refine st_abs (cs' := [str x.a, str x.d]) rfl rfl lkH (Nat.lt_succ_self _) rfl rfl fun s14 e14 c14 n14 => ?_
        have c1314 : Chg s13 s14 [] := (Chg.new []).fresh c14 (by simp)
        have e14 : lookH s14.heap s13.next = some (.cells [str x.a, str x.d] tAd false false) := e14
        have n14 : s14.next = s13.next + 1 := n14
        have c014 := c013.nil c1314
        have e10 := c1314.blk _ _ (by omega) (by simp) e10
        have e11 := c1314.blk _ _ (by omega) (by simp) e11
        have k914 := c1314.blk _ _ (by omega) (by simp) k913
        (repeat(first|refine sb ?_|refine kNo ?_|refine gOn rfl ?_|refine gOff rfl rfl ?_|refine gTup rfl ?_))
        intro q hq; obtain rfl : q = false := (by rw [hq]; simp <;> omega); (repeat(first|refine sb ?_|refine kNo ?_|refine gOn rfl ?_|refine gOff rfl rfl ?_|refine gTup rfl ?_))
        refine ldN_is rfl e14 agg2 ?_
        (repeat(first|refine sb ?_|refine kNo ?_|refine gOn rfl ?_|refine gOff rfl rfl ?_|refine gTup rfl ?_))
        refine ldN_is rfl e10 (show takeN 2 ((spC x).drop 2) = some [str x.a, str x.d] from rfl) ?_
        (repeat(first|refine sb ?_|refine kNo ?_|refine gOn rfl ?_|refine gOff rfl rfl ?_|refine gTup rfl ?_))
        intro q hq; obtain rfl : q = false := (by rw [hq]; simp <;> omega); (repeat(first|refine sb ?_|refine kNo ?_|refine gOn rfl ?_|refine gOff rfl rfl ?_|refine gTup rfl ?_))
        refine ldN_is rfl e10 (show takeN 2 ((spC x).drop 2) = some [str x.a, str x.d] from rfl) ?_
        (repeat(first|refine sb ?_|refine kNo ?_|refine gOn rfl ?_|refine gOff rfl rfl ?_|refine gTup rfl ?_))
        refine ⟨by omega, ?_⟩
        intro m4' hm4' o' ho'
        obtain rfl : m4' = m3' := by omega
        rw [Nat.zero_add] at ho'
        subst ho'
        (repeat(first|refine sb ?_|refine kNo ?_|refine gOn rfl ?_|refine gOff rfl rfl ?_|refine gTup rfl ?_))
        refine ldN_is rfl k914 (ads_take hy) ?_
        (repeat(first|refine sb ?_|refine kNo ?_|refine gOn rfl ?_|refine gOff rfl rfl ?_|refine gTup rfl ?_))
        refine (asame_w (a := x.a) (d := x.d) (b := y.1) (e := y.2) (by omega) (by omega) (by omega) (by omega)).mono fun v s15 q => ?_
        obtain ⟨rfl, c15⟩ := q
        have c015 := c014.nil c15
        have n15 := c15.next
        have e10 := c15.blk _ _ (by omega) (by simp) e10
        have e11 := c15.blk _ _ (by omega) (by simp) e11
        have c915 : Chg s9 s15 [] := (((c911.nil c12).nil c13).nil c1314).nil c15
        obtain ⟨w', hw'⟩ : ∃ w' : List UInt8, w'.length = z.t := ⟨List.replicate z.t 0, List.length_replicate⟩
        cases hs : sameF x.a x.d y.1 y.2 with
        | true =>
          (repeat(first|refine sb ?_|refine kNo ?_|refine gOn rfl ?_|refine gOff rfl rfl ?_|refine gTup rfl ?_))
          refine ldI_is rfl e10 rfl ?_
          (repeat(first|refine sb ?_|refine kNo ?_|refine gOn rfl ?_|refine gOff rfl rfl ?_|refine gTup rfl ?_))
          refine ldI_is rfl e10 rfl ?_
          (repeat(first|refine sb ?_|refine kNo ?_|refine gOn rfl ?_|refine gOff rfl rfl ?_|refine gTup rfl ?_))
          refine ⟨by omega, ?_⟩
          intro a1 ha1
          refine ⟨by omega, ?_⟩
          intro a2 ha2 t4 ht4
          rw [show a1 = x.t by omega, show a2 = x.f by omega] at ht4
          clear ha1 ha2
          (repeat(first|refine sb ?_|refine kNo ?_|refine gOn rfl ?_|refine gOff rfl rfl ?_|refine gTup rfl ?_))
          refine ldI_is rfl e11 rfl ?_
          (repeat(first|refine sb ?_|refine kNo ?_|refine gOn rfl ?_|refine gOff rfl rfl ?_|refine gTup rfl ?_))
          refine ldI_is rfl e11 rfl ?_
          (repeat(first|refine sb ?_|refine kNo ?_|refine gOn rfl ?_|refine gOff rfl rfl ?_|refine gTup rfl ?_))
          refine ⟨by omega, ?_⟩
          intro a1 ha1
          refine ⟨by omega, ?_⟩
          intro a2 ha2 t5 ht5
          rw [show a1 = z.t by omega, show a2 = z.f by omega] at ht5
          clear ha1 ha2
          (repeat(first|refine sb ?_|refine kNo ?_|refine gOn rfl ?_|refine gOff rfl rfl ?_|refine gTup rfl ?_))
          intro q hq
          obtain rfl : q = false := by rw [hq, ht4, ht5, m10 hs]; simp
          (repeat(first|refine sb ?_|refine kNo ?_|refine gOn rfl ?_|refine gOff rfl rfl ?_|refine gTup rfl ?_))
          refine ldI_is rfl e10 rfl ?_
          (repeat(first|refine sb ?_|refine kNo ?_|refine gOn rfl ?_|refine gOff rfl rfl ?_|refine gTup rfl ?_))
          refine ldI_is rfl e11 rfl ?_
          (repeat(first|refine sb ?_|refine kNo ?_|refine gOn rfl ?_|refine gOff rfl rfl ?_|refine gTup rfl ?_))
          intro z5 hz5
          rw [i64_id (by omega)] at hz5
          obtain rfl : z5 = ((m4' + 1 : Nat) : Int) := by omega
          (repeat(first|refine sb ?_|refine kNo ?_|refine gOn rfl ?_|refine gOff rfl rfl ?_|refine gTup rfl ?_))
          exact ⟨⟨m4' + 1, x.t, w', s15⟩, ⟨hlt, z.t, hw', c9.nil c915, hM⟩, by show xs.length - (m4' + 1) < xs.length - m4'; omega, Wk.same ⟨rfl, rfl, rfl, rfl, rfl, rfl, by rw [hw']; rfl, rfl, rfl, rfl, trivial⟩⟩
        | false =>
          (repeat(first|refine sb ?_|refine kNo ?_|refine gOn rfl ?_|refine gOff rfl rfl ?_|refine gTup rfl ?_))
          refine ldI_is rfl e10 rfl ?_
          (repeat(first|refine sb ?_|refine kNo ?_|refine gOn rfl ?_|refine gOff rfl rfl ?_|refine gTup rfl ?_))
          refine ldI_is rfl e11 rfl ?_
          (repeat(first|refine sb ?_|refine kNo ?_|refine gOn rfl ?_|refine gOff rfl rfl ?_|refine gTup rfl ?_))
          intro z5 hz5
          rw [i64_id (by omega)] at hz5
          obtain rfl : z5 = ((m4' + 1 : Nat) : Int) := by omega
          (repeat(first|refine sb ?_|refine kNo ?_|refine gOn rfl ?_|refine gOff rfl rfl ?_|refine gTup rfl ?_))
          exact ⟨⟨m4' + 1, x.t, w', s15⟩, ⟨hlt, z.t, hw', c9.nil c915, hM⟩, by show xs.length - (m4' + 1) < xs.length - m4'; omega, Wk.same ⟨rfl, rfl, rfl, rfl, rfl, rfl, by rw [hw']; rfl, rfl, rfl, rfl, trivial⟩⟩
      · obtain rfl : q = false := by rw [hq]; simp <;> omega
        have hend : MvR l o p w.length [] [] [] := by
          rw [List.drop_of_length_le (show xs.length ≤ i by omega), List.drop_of_length_le (show zs.length ≤ i by omega), List.drop_of_length_le (show (newF ys xs.length).length ≤ i by omega)] at hM
          exact hM
        obtain ⟨e1, e2', e3⟩ := hend
        clear hM
        (repeat(first|refine sb ?_|refine kNo ?_|refine gOn rfl ?_|refine gOff rfl rfl ?_|refine gTup rfl ?_))
        refine ⟨by omega, ?_⟩
        intro a1 ha1 t ht
        have et : t = l.drop p := by
          rw [ht, show a1 = p by omega, List.take_of_length_le (by rw [List.length_drop]; omega)]
        clear ht
        subst et
        (repeat(first|refine sb ?_|refine kNo ?_|refine gOn rfl ?_|refine gOff rfl rfl ?_|refine gTup rfl ?_))
        refine ⟨by omega, ?_⟩
        intro a2 ha2 t' ht'
        have et : t' = o.drop w.length := by
          rw [ht', show a2 = w.length by omega, List.take_of_length_le (by rw [List.length_drop]; omega)]
        clear ht'
        subst et
        (repeat(first|refine sb ?_|refine kNo ?_|refine gOn rfl ?_|refine gOff rfl rfl ?_|refine gTup rfl ?_))
        intro q hq
        obtain rfl : q = true := by rw [hq, e3]; simp
        (repeat(first|refine sb ?_|refine kNo ?_|refine gOn rfl ?_|refine gOff rfl rfl ?_|refine gTup rfl ?_))
        refine (ltells_w (hG.chg c09 (by simp)) (c09.fine hF)).mono fun v s10 q => ?_
        obtain ⟨rfl, c10⟩ := q
        (repeat(first|refine sb ?_|refine kNo ?_|refine gOn rfl ?_|refine gOff rfl rfl ?_|refine gTup rfl ?_))
        rfl
  · obtain rfl : q = true := by rw [hq]; simp; omega
    obtain ⟨f1, f2⟩ := find_no h0
    rw [f1] at o4 ⊢
    (repeat(first|refine sb ?_|refine kNo ?_|refine gOn rfl ?_|refine gOff rfl rfl ?_|refine gTup rfl ?_))
    rcases f2 with f2 | f2 | f2
    · rw [f2]
      (repeat(first|refine sb ?_|refine kNo ?_|refine gOn rfl ?_|refine gOff rfl rfl ?_|refine gTup rfl ?_))
      intro q hq; obtain rfl : q = true := (by rw [hq]; simp <;> omega); (repeat(first|refine sb ?_|refine kNo ?_|refine gOn rfl ?_|refine gOff rfl rfl ?_|refine gTup rfl ?_))
      intro q hq; obtain rfl : q = true := (by rw [hq]; simp <;> omega); (repeat(first|refine sb ?_|refine kNo ?_|refine gOn rfl ?_|refine gOff rfl rfl ?_|refine gTup rfl ?_))
      refine (ltells_w (hG.chg c04 (by simp)) (c04.fine hF)).mono fun v s5 q => ?_
      obtain ⟨rfl, c5⟩ := q
      (repeat(first|refine sb ?_|refine kNo ?_|refine gOn rfl ?_|refine gOff rfl rfl ?_|refine gTup rfl ?_))
      rfl
    · rw [f2]
      (repeat(first|refine sb ?_|refine kNo ?_|refine gOn rfl ?_|refine gOff rfl rfl ?_|refine gTup rfl ?_))
      intro q hq; obtain rfl : q = true := (by rw [hq]; simp <;> omega); (repeat(first|refine sb ?_|refine kNo ?_|refine gOn rfl ?_|refine gOff rfl rfl ?_|refine gTup rfl ?_))
      intro q hq; obtain rfl : q = false := (by rw [hq]; simp <;> omega); (repeat(first|refine sb ?_|refine kNo ?_|refine gOn rfl ?_|refine gOff rfl rfl ?_|refine gTup rfl ?_))
      intro q hq; obtain rfl : q = true := (by rw [hq]; simp <;> omega); (repeat(first|refine sb ?_|refine kNo ?_|refine gOn rfl ?_|refine gOff rfl rfl ?_|refine gTup rfl ?_))
      refine (ltells_w (hG.chg c04 (by simp)) (c04.fine hF)).mono fun v s5 q => ?_
      obtain ⟨rfl, c5⟩ := q
      (repeat(first|refine sb ?_|refine kNo ?_|refine gOn rfl ?_|refine gOff rfl rfl ?_|refine gTup rfl ?_))
      rfl
    · rw [f2]
      (repeat(first|refine sb ?_|refine kNo ?_|refine gOn rfl ?_|refine gOff rfl rfl ?_|refine gTup rfl ?_))
      intro q hq; obtain rfl : q = true := (by rw [hq]; simp <;> omega); (repeat(first|refine sb ?_|refine kNo ?_|refine gOn rfl ?_|refine gOff rfl rfl ?_|refine gTup rfl ?_))
      intro q hq; obtain rfl : q = false := (by rw [hq]; simp <;> omega); (repeat(first|refine sb ?_|refine kNo ?_|refine gOn rfl ?_|refine gOff rfl rfl ?_|refine gTup rfl ?_))
      intro q hq; obtain rfl : q = false := (by rw [hq]; simp <;> omega); (repeat(first|refine sb ?_|refine kNo ?_|refine gOn rfl ?_|refine gOff rfl rfl ?_|refine gTup rfl ?_))
      intro q hq; obtain rfl : q = true := (by rw [hq]; simp <;> omega); (repeat(first|refine sb ?_|refine kNo ?_|refine gOn rfl ?_|refine gOff rfl rfl ?_|refine gTup rfl ?_))
      refine (ltells_w (hG.chg c04 (by simp)) (c04.fine hF)).mono fun v s5 q => ?_
      obtain ⟨rfl, c5⟩ := q
      (repeat(first|refine sb ?_|refine kNo ?_|refine gOn rfl ?_|refine gOff rfl rfl ?_|refine gTup rfl ?_))
      rfl
end Go.Vf.S

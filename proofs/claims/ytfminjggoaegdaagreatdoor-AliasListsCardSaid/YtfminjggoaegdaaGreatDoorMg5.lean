import Derived.Test.YtfminjggoaegdaaGreatDoorMg4
import Derived.Test.YtfminjggoaegdaaGreatDoorAdS
import Derived.Test.YtfminjggoaegdaaGreatDoorMg3
import Derived.Test.YtfminjggoaegdaaGreatDoorMg1
import Derived.Test.YtfminjggoaegdaaGreatDoorEngBl
import Derived.Shelf.Small.Bits
import Derived.Shelf.LaysM
import Derived.Test.YtfminjggoaegdaaGreatDoorProg
import Derived.Test.YtfminjggoaegdaaGreatDoorMg2
section
namespace Go.Vf.S
open Go Go.Vf Go.Proofs Go.RowKit
attribute [local irreducible] wSeq wRow wp wG
set_option linter.unusedVariables false
set_option linter.unusedSimpArgs false
set_option maxRecDepth 10000
theorem all_lp1 {l : List UInt8} {e : UInt8} {p : UInt8 → Bool} (h : l.all p = true) : (lpF e l).1.all p = true := by
 have sub : ∀ m : List UInt8, (∀ c ∈ m, c ∈ l) → m.all p = true := fun m hm => List.all_eq_true.2 fun c hc => List.all_eq_true.1 h c (hm c hc)
 have cutm : ∀ m : List UInt8, ∀ c ∈ (cutF e m).1, c ∈ m := by
  intro m c hc
  rcases cut_two e m with ⟨_, g2⟩ | ⟨a, r, _, g2, g3⟩
  ·rw [g2] at hc; exact hc
  ·rw [g3] at hc; rw [g2]; exact List.mem_append.2 (.inl hc)
 have trm : ∀ c ∈ trL l, c ∈ l := fun c hc => (List.dropWhile_sublist _).subset hc
 have trr : ∀ m : List UInt8, ∀ c ∈ trR m, c ∈ m := by
  intro m c hc
  obtain ⟨q, _, h2⟩ := trR_dec m
  rw [h2]
  exact List.mem_append.2 (.inl hc)
 have qum : ∀ (b : Bool) (m w t : List UInt8), quG b m = some (w, t) → ∀ c ∈ w, c ∈ m := by
  intro b m
  induction m generalizing b with
  | nil => intro w t q; simp [quG] at q
  | cons x r ih =>
   intro w t q c hc
   have one : ∀ y : List UInt8 × List UInt8, quG false r = some y → (x :: y.1, y.2) = (w, t) → c ∈ x :: r := by
    intro y h1 h2
    cases h2
    rcases List.mem_cons.1 hc with rfl | hc
    ·simp
    ·exact List.mem_cons_of_mem _ (ih _ _ _ h1 c hc)
   cases b with
   | true =>
    rw [quG] at q
    obtain ⟨y, h1, h2⟩ := Option.map_eq_some_iff.1 q
    exact one y h1 h2
   | false =>
    rw [quG] at q
    split at q
    ·cases q; cases hc
    ·split at q
     ·exact List.mem_cons_of_mem _ (ih _ _ _ q c hc)
     ·obtain ⟨y, h1, h2⟩ := Option.map_eq_some_iff.1 q
      exact one y h1 h2
 refine sub _ fun c hc => ?_
 unfold lpF at hc
 split at hc
 ·cases hq : quF (trL l).tail with
  | none => rw [hq] at hc; cases hc
  | some y =>
   obtain ⟨w, t⟩ := y
   rw [hq] at hc
   dsimp only at hc
   split at hc
   ·exact trm c (List.mem_of_mem_tail (qum _ _ _ _ hq c hc))
   ·cases hc
 ·split at hc
  ·cases hc
  ·exact trm c (cutm _ c (trr _ c hc))
theorem tx_asc {l : List UInt8} (h : l.all txB = true) : asc l := by
 intro c hc
 have := List.all_eq_true.1 h c hc
 rcases Nat.lt_or_ge c.toNat 128 with q | q
 ·exact q
 ·rw [tx_hi q] at this; cases this
theorem en_key {vals : Bool} {x : Sai} (h : (enF vals x).2 = 0) : asc (enF vals x).1.k ∧ (enF vals x).1.k.length ≤ x.t.length := by
 cases vals with
 | true =>
  rw [en_true] at h ⊢
  split at h
  ·cases h
  ·rename_i hc
   have ht : x.t.all txB = true := by
    cases hx : x.t.all txB with
    | true => rfl
    | false => exact absurd (by simp [hx]) hc
   rw [if_neg hc]
   generalize vwE (vwA (lpF 58 x.t).2.1).2 (vwA (lpF 58 x.t).2.1).1 = V
   obtain ⟨ws, e⟩ := V
   cases e with
   | zero => exact ⟨tx_asc (all_lp1 ht), (lp_len 58 x.t).1⟩
   | succ e => exact ⟨(by intro c hc; cases hc), Nat.zero_le _⟩
 | false =>
  rw [en_false] at h ⊢
  split at h
  ·cases h
  ·rename_i hc
   have ht : x.t.all txB = true := by
    cases hx : x.t.all txB with
    | true => rfl
    | false => exact absurd (by simp [hx]) hc
   rw [if_neg hc]
   refine ⟨tx_asc (List.all_eq_true.2 fun c hc => List.all_eq_true.1 ht c ?_), trB_len _⟩
   obtain ⟨q, _, h2⟩ := trR_dec (trL x.t)
   exact (List.dropWhile_sublist _).subset (show c ∈ trL x.t by rw [h2]; exact List.mem_append.2 (.inl hc))
def flC (x : Nat × Nat) : List Value := [.int .i64 (x.1 : Int), .int .i64 (x.2 : Int)]
def flCs (fs : List (Nat × Nat)) : List Value := fs.flatMap flC
theorem flCs_len (R : List (Nat × Nat)) : (flCs R).length = R.length * 2 := by
 unfold flCs
 induction R with
 | nil => rfl
 | cons x R ih => rw [List.flatMap_cons, List.length_append, ih, List.length_cons]; simp [flC]; omega
theorem flCs_app (R : List (Nat × Nat)) (x : Nat × Nat) : flCs (R ++ [x]) = flCs R ++ flC x := by unfold flCs; rw [List.flatMap_append]; simp
abbrev tFt13 : TypeId := 102
abbrev FsO13 (s : SS) (W : Option Addr) (fs : List (Nat × Nat)) : Prop := OwnR tFt13 s W 0 fs.length (flCs fs)
structure PaIx where
 i : Nat
 xs : List EnV
 fs : List (Nat × Nat)
 W : Option Addr
 V : Option Addr
 s : SS
theorem hasV_K (xs : List EnV) (k : List UInt8) : hasV xs k = hasK (xs.map (·.e)) k := by
 unfold hasV hasK
 rw [List.any_map]
 rfl
structure EsA (s0 s : SS) (W : Option Addr) (xs : List EnV) : Prop where
 own : EsO s W xs
 vals : ∀ x ∈ xs, TsO s x.W x.e.vs
 newW : ∀ id ∈ blkOf W, s0.next ≤ id
 newV : ∀ x ∈ xs, ∀ id ∈ blkOf x.W, s0.next ≤ id
theorem tyNeO {s : SS} {t t' : TypeId} {W V : Option Addr} {n m : Nat} {cs cs' : List Value} (h : OwnR t s W 0 n cs) (h' : OwnR t' s V 0 m cs') (ht : t ≠ t') : ∀ id ∈ blkOf W, id ∉ blkOf V := by
 intro id h1 h2
 obtain ⟨g, k1⟩ := h.at id h1
 obtain ⟨g', k2⟩ := h'.at id h2
 exact absurd rfl (tyNe k1 k2 ht)
def FlR (s : SS) (V : Option Addr) (fs : List (Nat × Nat)) : Prop := (fs = [] ∨ ∃ b t g r, V = some ⟨b, 0, none⟩ ∧ b < s.next ∧ lookH s.heap b = some (.cells (flCs fs) t g r))
theorem FlR.chg {s s' : SS} {W : Option Addr} {fs : List (Nat × Nat)} {A : List Nat} (h : FlR s W fs) (c : Chg s s' A) (hA : ∀ id ∈ blkOf W, id ∉ A) : FlR s' W fs := by
 rcases h with h | ⟨b, t, g, r, rfl, h1, h2⟩
 ·exact .inl h
 ·exact .inr ⟨b, t, g, r, rfl, Nat.lt_of_lt_of_le h1 c.next, c.blk _ _ h1 (hA b (by simp [blkOf])) h2⟩
theorem fso_rd {s : SS} {W : Option Addr} {xs : List (Nat × Nat)} (h : FsO13 s W xs) : FlR s W xs := by
 cases W with
 | none => exact .inl (List.eq_nil_of_length_eq_zero h.2.1)
 | some a =>
  obtain ⟨b, off, sp⟩ := a
  obtain ⟨rfl, rfl, h3, g, h4, _⟩ := h
  exact .inr ⟨b, _, _, _, rfl, h3, h4⟩
theorem saCs_take {R : List Sai} {k : Nat} {x : Sai} (h : R[k]? = some x) : takeN 3 ((saCs R).drop (k * 3)) = some (saC x) := by
 obtain ⟨hk, e⟩ := List.getElem?_eq_some_iff.1 h
 rw [saCs_drop, List.drop_eq_getElem_cons hk, e]
 rfl
set_option maxHeartbeats 4000000 in
theorem parse13_w {s : SS} {l : List UInt8} {vals : Bool} (f : Fine s) (hl : l.length ≤ 10000) : CallW pr n_lines_Parse [str l, .bool vals] s fun v s' =>
  ∃ W V cv xs fs, v = .tuple ⟨[.slice W xs.length 0, .slice V fs.length cv]⟩ ∧ (xs.map (·.e), fs) = tabF l vals ∧ EsA s s' W xs ∧ FlR s' V fs ∧ (∀ id ∈ blkOf V, s.next ≤ id) ∧ Chg s s' [] := by
 refine CallW.run good ok_lines_Parse (by simp) rfl ?_
 (try refine pSeq ?_); (repeat refine sb ?_)
 intro n hn
 subst hn
 (repeat refine sb ?_)
 intro q hq
 by_cases hlong : 8192 < l.length
 ·obtain rfl : q = true := by rw [hq]; simp; omega
  (repeat refine sb ?_)
  exact ⟨none, some ⟨s.next, 0, none⟩, 1, [], [(0, 3)], rfl, by unfold tabF; rw [if_pos hlong]; rfl, ⟨⟨rfl, rfl, rfl⟩, by simp, by simp [blkOf], by simp⟩, .inr ⟨s.next, _, _, _, rfl, Nat.lt_succ_self _, lkH⟩, by simp [blkOf], .new []⟩
 ·obtain rfl : q = false := by rw [hq]; simp; omega
  have htab : tabF l vals = tbG vals (saF l) [] [] := by unfold tabF; rw [if_neg hlong]
  rw [htab]
  (repeat refine sb ?_)
  refine (rows13_w f hl).mono fun v s1 q => ?_
  obtain ⟨Wr, rfl, oR, hWr, c1⟩ := q
  have hRn := saF_many l
  have hRl := saF_len (l := l)
  generalize saF l = R at *
  have lWr := oR.lt
  (repeat refine sb ?_)
  refine pLoop (MW.head good (fun x : PaIx => R.length - x.i) (fun x => x.i ≤ R.length ∧ EsA s1 x.s x.W x.xs ∧ FsO13 x.s x.V x.fs ∧ Chg s1 x.s [] ∧ (∀ id ∈ blkOf x.V, s1.next ≤ id) ∧ tbG vals (R.drop x.i) (x.xs.map (·.e)) x.fs = tbG vals R [] [] ∧ x.xs.length ≤ 64 ∧ x.fs.length ≤ x.i ∧ (∀ y ∈ x.xs, asc y.e.k ∧ y.e.k.length ≤ 100000))
   (fun x => [(1, .bool vals), (4, .slice x.W x.xs.length 0), (5, .slice x.V x.fs.length 0), (16, .slice Wr R.length 0), (17, .int .i64 (R.length : Int)), (18, .int .i64 (x.i : Int))]) (fun x => x.s) ⟨0, [], [], none, none, s1⟩ ⟨Nat.zero_le _, ⟨⟨rfl, rfl, rfl⟩, by simp, by simp [blkOf], by simp⟩, ⟨rfl, rfl, rfl⟩, .refl _ _, by simp [blkOf], rfl, by simp, by simp, by simp⟩ (Wk.same ⟨rfl, rfl, rfl, rfl, rfl, rfl, trivial⟩) ?_)
  rintro ⟨i, xs, fs, W, V, s2⟩ ⟨hi, ⟨oW, oT, hW, hTn⟩, oV, c12, hV, hT, h64, hfi, hasc⟩
  dsimp only at hi oW oT hW hTn oV c12 hV hT h64 hfi hasc ⊢
  (repeat refine sb ?_)
  intro q hq
  by_cases hlt : i < R.length
  ·obtain rfl : q = true := by rw [hq]; simp; omega
   obtain ⟨x, hx⟩ : ∃ x, R[i]? = some x := ⟨_, List.getElem?_eq_getElem hlt⟩
   have hxl := hRl x (List.mem_of_getElem? hx)
   have hdr : R.drop i = x :: R.drop (i + 1) := by
    rw [List.drop_eq_getElem_cons hlt, show R[i] = x from by rw [List.getElem?_eq_getElem hlt] at hx; exact Option.some.inj hx]
   have oR2 := oR.chg c12 (fun _ _ q => by cases q)
   obtain ⟨br, gr, rfl, kr⟩ := oR2.pos (by omega)
   (repeat refine sb ?_)
   refine ⟨by omega, ?_⟩
   intro m hm o ho
   obtain rfl : m = i := by omega
   (repeat refine sb ?_)
   refine ldN_is rfl kr (by rw [ho, Nat.zero_add]; exact saCs_take hx) ?_
   (repeat refine sb ?_)
   refine st_abs (cs' := saC x) rfl rfl lkH (Nat.lt_succ_self _) rfl rfl fun s3 e3 c3 n3 => ?_
   have n3 : s3.next = s2.next + 1 := n3
   have c3 : Chg s2 s3 [] := (Chg.new []).fresh c3 (by simp)
   (repeat refine sb ?_)
   refine ldN_is rfl e3 rfl ?_
   have f3 := (c1.nil (c12.nil c3)).fine f
   (repeat refine sb ?_)
   refine (entry13_w (x := x) f3 (by omega)).mono fun v s4 q => ?_
   obtain ⟨k, W', ws, rfl, oN, hW', c4, hE⟩ := q
   have e4 := c4.blk _ _ (show s2.next < s3.next by omega) (by simp) e3
   have n4 := c4.next
   (repeat refine sb ?_)
   refine st_abs (cs' := enC ⟨⟨x.n, k, ws⟩, W'⟩) rfl rfl lkH (Nat.lt_succ_self _) rfl rfl fun s5 e5 c5 n5 => ?_
   have n5 : s5.next = s4.next + 1 := n5
   have c5 : Chg s4 s5 [] := (Chg.new []).fresh c5 (by simp)
   have k7 := c5.blk _ _ (show s2.next < s4.next by omega) (by simp) e4
   have c25 := (c3.nil c4).nil c5
   (repeat refine sb ?_)
   intro q hq
   by_cases he0 : (enF vals x).2 = 0
   ·obtain rfl : q = false := by rw [hq, he0]; rfl
    have hE := hE he0
    rw [he0]
    (repeat refine sb ?_)
    intro q hq
    by_cases hfull : xs.length = 64
    ·obtain rfl : q = true := by rw [hq]; simp; omega
     have c2X := c25
     have k7X := k7
     have oWX := oW.chg c2X (fun _ _ q => by cases q)
     have oTX := fun y hy => (oT y hy).chg c2X (fun _ _ q => by cases q)
     have oVX := oV.chg c2X (fun _ _ q => by cases q)
     (repeat refine sb ?_)
     intro q hq
     obtain rfl : q = true := by rw [hq]; decide
     (repeat refine sb ?_)
     refine ldI_is (z := (x.n : Int)) rfl k7X rfl ?_
     (repeat refine sb ?_)
     have cm : Chg s5 { s5 with heap := (s5.next, some (.cells (flC (x.n, 7)) tFt13 false false)) :: s5.heap, next := s5.next + 1 } [] := .new []
     refine appR (oVX.chg cm (fun _ _ q => by cases q)) (flCs_len fs) ⟨by omega, by omega⟩ rfl rfl lkH rfl rfl fun s8 o8 c8 n8 => ?_
     have c28 := (c12.nil (c2X.nil cm)).fresh c8 (fun id q => by have := hV id q; omega)
     have cXm := cm.nil c8
     (repeat refine sb ?_)
     intro z2 hz2
     rw [i64_id (by omega)] at hz2
     (repeat refine sb ?_)
     refine ⟨⟨m + 1, xs, fs ++ [(x.n, 7)], W, some ⟨s5.next + 1, 0, none⟩, s8⟩, ⟨by show m + 1 ≤ R.length; omega, ⟨oWX.chg cXm (tyNeO oWX oVX (by decide)), fun y hy => (oTX y hy).chg cXm (tyNeO (oTX y hy) oVX (by decide)), hW, hTn⟩, ?_, c28, fun id q => by simp [blkOf] at q; have := c2X.next; have := c12.next; omega, ?_, h64, by show (fs ++ [_]).length ≤ m + 1; rw [List.length_append, List.length_singleton]; omega, hasc⟩, by show R.length - (m + 1) < R.length - m; omega, Wk.same ⟨rfl, rfl, ?_, rfl, rfl, ?_, trivial⟩⟩
     ·show OwnR tFt13 s8 _ 0 (fs ++ [(x.n, 7)]).length (flCs (fs ++ [(x.n, 7)]))
      rw [List.length_append, flCs_app]
      exact o8
     ·show tbG vals (R.drop (m + 1)) _ (fs ++ [(x.n, 7)]) = _
      rw [← hT, hdr]
      exact (by rw [tbG, if_neg (by rw [he0]; simp), if_pos (by rw [List.length_map]; omega)])
     ·show some (Value.slice _ (fs.length + 1) 0) = some (.slice _ (fs ++ [(x.n, 7)]).length 0)
      rw [List.length_append]
      rfl
     ·rw [show z2 = ((m + 1 : Nat) : Int) by omega]; rfl
    ·obtain rfl : q = false := by rw [hq]; simp; omega
     (repeat refine sb ?_)
     refine ldS_is (l := k) rfl e5 rfl ?_
     have oW5 := oW.chg c25 (fun _ _ q => by cases q)
     have hk := en_key he0
     rw [hE] at hk
     (repeat refine sb ?_)
     refine (there_w ((c1.nil (c12.nil c25)).fine f) (EsO.rd oW5) (by omega) hasc hk.1).mono fun v sX q => ?_
     obtain ⟨rfl, cX⟩ := q
     have c2X := c25.nil cX
     have k7X := cX.blk _ _ (show s2.next < s5.next by omega) (by simp) k7
     have k8X := cX.blk _ _ (show s4.next < s5.next by omega) (by simp) e5
     have oWX := oW.chg c2X (fun _ _ q => by cases q)
     have oTX := fun y hy => (oT y hy).chg c2X (fun _ _ q => by cases q)
     have oVX := oV.chg c2X (fun _ _ q => by cases q)
     have oNX := oN.chg (c5.nil cX) (fun _ _ q => by cases q)
     cases hth : hasV xs k with
     | true =>
      (repeat refine sb ?_)
      intro q hq
      obtain rfl : q = true := by rw [hq]; decide
      (repeat refine sb ?_)
      refine ldI_is (z := (x.n : Int)) rfl k7X rfl ?_
      (repeat refine sb ?_)
      have cm : Chg sX { sX with heap := (sX.next, some (.cells (flC (x.n, 9)) tFt13 false false)) :: sX.heap, next := sX.next + 1 } [] := .new []
      refine appR (oVX.chg cm (fun _ _ q => by cases q)) (flCs_len fs) ⟨by omega, by omega⟩ rfl rfl lkH rfl rfl fun s8 o8 c8 n8 => ?_
      have c28 := (c12.nil (c2X.nil cm)).fresh c8 (fun id q => by have := hV id q; omega)
      have cXm := cm.nil c8
      (repeat refine sb ?_)
      intro z2 hz2
      rw [i64_id (by omega)] at hz2
      (repeat refine sb ?_)
      refine ⟨⟨m + 1, xs, fs ++ [(x.n, 9)], W, some ⟨sX.next + 1, 0, none⟩, s8⟩, ⟨by show m + 1 ≤ R.length; omega, ⟨oWX.chg cXm (tyNeO oWX oVX (by decide)), fun y hy => (oTX y hy).chg cXm (tyNeO (oTX y hy) oVX (by decide)), hW, hTn⟩, ?_, c28, fun id q => by simp [blkOf] at q; have := c2X.next; have := c12.next; omega, ?_, h64, by show (fs ++ [_]).length ≤ m + 1; rw [List.length_append, List.length_singleton]; omega, hasc⟩, by show R.length - (m + 1) < R.length - m; omega, Wk.same ⟨rfl, rfl, ?_, rfl, rfl, ?_, trivial⟩⟩
      ·show OwnR tFt13 s8 _ 0 (fs ++ [(x.n, 9)]).length (flCs (fs ++ [(x.n, 9)]))
       rw [List.length_append, flCs_app]
       exact o8
      ·show tbG vals (R.drop (m + 1)) _ (fs ++ [(x.n, 9)]) = _
       rw [← hT, hdr]
       exact (by rw [tbG, if_neg (by rw [he0]; simp), if_neg (by rw [List.length_map]; omega), if_pos (by rw [hE, ← hasV_K]; exact hth)])
      ·show some (Value.slice _ (fs.length + 1) 0) = some (.slice _ (fs ++ [(x.n, 9)]).length 0)
       rw [List.length_append]
       rfl
      ·rw [show z2 = ((m + 1 : Nat) : Int) by omega]; rfl
     | false =>
      (repeat refine sb ?_)
      intro q hq
      obtain rfl : q = false := by rw [hq]; decide
      (repeat refine sb ?_)
      refine ldN_is (off := 0) (new := enC ⟨⟨x.n, k, ws⟩, W'⟩) rfl k8X rfl ?_
      (repeat refine sb ?_)
      have cm : Chg sX { sX with heap := (sX.next, some (.cells (enC ⟨⟨x.n, k, ws⟩, W'⟩) tEn13 false false)) :: sX.heap, next := sX.next + 1 } [] := .new []
      refine appR (oWX.chg cm (fun _ _ q => by cases q)) (enCs_len xs) ⟨by omega, by omega⟩ rfl rfl lkH rfl rfl fun s8 o8 c8 n8 => ?_
      have c28 := (c12.nil (c2X.nil cm)).fresh c8 (fun id q => by have := hW id q; omega)
      have cXm := cm.nil c8
      (repeat refine sb ?_)
      intro z2 hz2
      rw [i64_id (by omega)] at hz2
      (repeat refine sb ?_)
      refine ⟨⟨m + 1, xs ++ [⟨⟨x.n, k, ws⟩, W'⟩], fs, some ⟨sX.next + 1, 0, none⟩, V, s8⟩, ⟨by show m + 1 ≤ R.length; omega, ⟨?_, ?_, fun id q => by simp [blkOf] at q; have := c2X.next; have := c12.next; omega, ?_⟩, oVX.chg cXm (tyNeO oVX oWX (by decide)), c28, hV, ?_, by show (xs ++ [_]).length ≤ 64; rw [List.length_append, List.length_singleton]; omega, by show fs.length ≤ m + 1; omega, ?_⟩, by show R.length - (m + 1) < R.length - m; omega, Wk.same ⟨rfl, ?_, rfl, rfl, rfl, ?_, trivial⟩⟩
      ·show OwnR tEn13 s8 _ 0 (xs ++ [_]).length (enCs (xs ++ [_]))
       rw [List.length_append, enCs_app]
       exact o8
      ·intro y hy
       rcases List.mem_append.1 hy with hy | hy
       ·exact (oTX y hy).chg cXm (tyNeO (oTX y hy) oWX (by decide))
       ·rw [List.mem_singleton.1 hy]
        exact oNX.chg cXm (tyNeO oNX oWX (by decide))
      ·intro y hy
       rcases List.mem_append.1 hy with hy | hy
       ·exact hTn y hy
       ·rw [List.mem_singleton.1 hy]
        intro id q
        have := hW' id q
        have := c12.next
        have := c3.next
        omega
      ·show tbG vals (R.drop (m + 1)) ((xs ++ [(⟨⟨x.n, k, ws⟩, W'⟩ : EnV)]).map (·.e)) fs = _
       rw [← hT, hdr, List.map_append, tbG, if_neg (by rw [he0]; simp), if_neg (by rw [List.length_map]; omega), if_neg (by rw [hE, ← hasV_K, hth]; simp), hE]
       rfl
      ·intro y hy
       rcases List.mem_append.1 hy with hy | hy
       ·exact hasc y hy
       ·rw [List.mem_singleton.1 hy]
        have h1 := en_key he0
        rw [hE] at h1
        exact ⟨h1.1, Nat.le_trans h1.2 (by omega)⟩
      ·show some (Value.slice _ (xs.length + 1) 0) = some (.slice _ (xs ++ [_]).length 0)
       rw [List.length_append]
       rfl
      ·rw [show z2 = ((m + 1 : Nat) : Int) by omega]; rfl
   ·obtain rfl : q = true := by rw [hq]; simp; omega
    have c2X := c25
    have k7X := k7
    have oWX := oW.chg c2X (fun _ _ q => by cases q)
    have oTX := fun y hy => (oT y hy).chg c2X (fun _ _ q => by cases q)
    have oVX := oV.chg c2X (fun _ _ q => by cases q)
    (repeat refine sb ?_)
    intro q hq
    obtain rfl : q = true := by rw [hq]; simp; omega
    (repeat refine sb ?_)
    refine ldI_is (z := (x.n : Int)) rfl k7X rfl ?_
    (repeat refine sb ?_)
    have cm : Chg s5 { s5 with heap := (s5.next, some (.cells (flC (x.n, (enF vals x).2)) tFt13 false false)) :: s5.heap, next := s5.next + 1 } [] := .new []
    refine appR (oVX.chg cm (fun _ _ q => by cases q)) (flCs_len fs) ⟨by omega, by omega⟩ rfl rfl lkH rfl rfl fun s8 o8 c8 n8 => ?_
    have c28 := (c12.nil (c2X.nil cm)).fresh c8 (fun id q => by have := hV id q; omega)
    have cXm := cm.nil c8
    (repeat refine sb ?_)
    intro z2 hz2
    rw [i64_id (by omega)] at hz2
    (repeat refine sb ?_)
    refine ⟨⟨m + 1, xs, fs ++ [(x.n, (enF vals x).2)], W, some ⟨s5.next + 1, 0, none⟩, s8⟩, ⟨by show m + 1 ≤ R.length; omega, ⟨oWX.chg cXm (tyNeO oWX oVX (by decide)), fun y hy => (oTX y hy).chg cXm (tyNeO (oTX y hy) oVX (by decide)), hW, hTn⟩, ?_, c28, fun id q => by simp [blkOf] at q; have := c2X.next; have := c12.next; omega, ?_, h64, by show (fs ++ [_]).length ≤ m + 1; rw [List.length_append, List.length_singleton]; omega, hasc⟩, by show R.length - (m + 1) < R.length - m; omega, Wk.same ⟨rfl, rfl, ?_, rfl, rfl, ?_, trivial⟩⟩
    ·show OwnR tFt13 s8 _ 0 (fs ++ [(x.n, (enF vals x).2)]).length (flCs (fs ++ [(x.n, (enF vals x).2)]))
     rw [List.length_append, flCs_app]
     exact o8
    ·show tbG vals (R.drop (m + 1)) _ (fs ++ [(x.n, (enF vals x).2)]) = _
     rw [← hT, hdr]
     exact (by rw [tbG, if_pos he0])
    ·show some (Value.slice _ (fs.length + 1) 0) = some (.slice _ (fs ++ [(x.n, (enF vals x).2)]).length 0)
     rw [List.length_append]
     rfl
    ·rw [show z2 = ((m + 1 : Nat) : Int) by omega]; rfl
  ·obtain rfl : q = false := by rw [hq]; simp; omega
   obtain rfl : i = R.length := by omega
   rw [List.drop_length, tbG] at hT
   (repeat refine sb ?_)
   exact ⟨W, V, 0, xs, fs, rfl, hT, ⟨oW, oT, fun id q => by have := hW id q; have := c1.next; omega, fun y hy id q => by have := hTn y hy id q; have := c1.next; omega⟩, fso_rd oV, fun id q => by have := hV id q; have := c1.next; omega, c1.nil c12⟩
end Go.Vf.S
end
section
namespace Go.Vf.S
open Go Go.Vf Go.Proofs Go.RowKit
attribute [local irreducible] wSeq wRow wp wG
set_option linter.unusedVariables false
set_option linter.unusedSimpArgs false
set_option maxRecDepth 10000
abbrev tBl : TypeId := 62
structure Bld (s : SS) (b : Nat) (W : Option Addr) (l : List UInt8) : Prop where
 lt : b < s.next
 cell : ∃ p, lookH s.heap b = some (.cells [p, .slice W l.length 0] tBl false false) ∧ (p = .pointer none ∨ p = .pointer (some ⟨b, 0, none⟩))
 own : Own tB s W l
 nil : l = [] → W = none
theorem Bld.off {s : SS} {b : Nat} {W : Option Addr} {l : List UInt8} (h : Bld s b W l) : ∀ id ∈ blkOf W, id ≠ b := by
 obtain ⟨p, h1, -⟩ := h.cell
 have ho := h.own
 cases W with
 | none => simp [blkOf]
 | some a =>
  obtain ⟨g, off, sp⟩ := a
  obtain ⟨-, -, -, gr, h2, -⟩ := ho
  intro id hid
  simp only [blkOf, List.mem_singleton] at hid
  subst hid
  exact tyNe h2 h1 (by decide)
theorem Bld.chg {s s' : SS} {b : Nat} {W : Option Addr} {l : List UInt8} {A : List Nat} (h : Bld s b W l) (c : Chg s s' A) (hb : b ∉ A) (hA : ∀ id ∈ blkOf W, id ∉ A) : Bld s' b W l := by
 obtain ⟨p, h1, h2⟩ := h.cell
 exact ⟨Nat.lt_of_lt_of_le h.lt c.next, ⟨p, c.blk _ _ h.lt hb h1, h2⟩, h.own.chg c hA, h.nil⟩
theorem Bld.new (s : SS) : Bld { s with heap := (s.next, some (.cells [.pointer none, .slice none 0 0] tBl false false)) :: s.heap, next := s.next + 1 } s.next none [] :=
 ⟨Nat.lt_succ_self _, ⟨_, lkH, .inl rfl⟩, rfl, fun _ => rfl⟩
end Go.Vf.S
end
section
namespace Go.Vf.S
open Go Go.Vf Go.Proofs Go.RowKit
attribute [local irreducible] wSeq wRow wp wG
set_option linter.unusedVariables false
set_option linter.unusedSimpArgs false
set_option maxRecDepth 10000
def TsR (s : SS) (W : Option Addr) (ws : List (List UInt8)) : Prop := ws = [] ∨ ∃ b t g r, W = some ⟨b, 0, none⟩ ∧ b < s.next ∧ ∃ cs, lookH s.heap b = some (.cells cs t g r) ∧ ∀ (i : Nat) x, ws[i]? = some x → cs[i]? = some (str x)
theorem TsR.nil {s s' : SS} {W : Option Addr} {ws : List (List UInt8)} (h : TsR s W ws) (c : Chg s s' []) : TsR s' W ws := by
 rcases h with h | ⟨b, t, g, r, rfl, h1, cs, h2, h3⟩
 ·exact .inl h
 ·exact .inr ⟨b, t, g, r, rfl, Nat.lt_of_lt_of_le h1 c.next, cs, c.blk _ _ h1 (by simp) h2, h3⟩
theorem TsO.rd {s : SS} {W : Option Addr} {ws : List (List UInt8)} (h : TsO s W ws) : TsR s W ws := by
 cases W with
 | none => exact .inl (List.eq_nil_of_length_eq_zero h.2.1)
 | some a =>
  obtain ⟨b, off, sp⟩ := a
  obtain ⟨rfl, rfl, h3, g, h4, _⟩ := h
  exact .inr ⟨b, _, _, _, rfl, h3, _, h4, fun i x hx => strV_get hx⟩
def EsQ (s : SS) (W : Option Addr) (xs : List EnV) : Prop := xs = [] ∨ ∃ b off t g r cs, W = some ⟨b, off, none⟩ ∧ b < s.next ∧ lookH s.heap b = some (.cells cs t g r) ∧ ∀ (i : Nat) x, xs[i]? = some x → takeN 3 (cs.drop (off + i * 3)) = some (enC x)
theorem EsQ.nil {s s' : SS} {W : Option Addr} {xs : List EnV} (h : EsQ s W xs) (c : Chg s s' []) : EsQ s' W xs := by
 rcases h with h | ⟨b, off, t, g, r, cs, rfl, h1, h2, h3⟩
 ·exact .inl h
 ·exact .inr ⟨b, off, t, g, r, cs, rfl, Nat.lt_of_lt_of_le h1 c.next, c.blk _ _ h1 (by simp) h2, h3⟩
structure TxIx where
 i : Nat
 W : Option Addr
 s : SS
end Go.Vf.S
end
section
namespace Go.Vf.S
open Go Go.Vf Go.Proofs Go.RowKit
attribute [local irreducible] wSeq wRow wp wG
set_option linter.unusedVariables false
set_option linter.unusedSimpArgs false
set_option maxRecDepth 10000
def tgCs (ts : List Tg) : List Value := ts.flatMap tgC
theorem tgCs_len (R : List Tg) : (tgCs R).length = R.length * 4 := by
 unfold tgCs
 induction R with
 | nil => rfl
 | cons x R ih => rw [List.flatMap_cons, List.length_append, ih, List.length_cons]; simp [tgC]; omega
theorem tgCs_app (R : List Tg) (x : Tg) : tgCs (R ++ [x]) = tgCs R ++ tgC x := by unfold tgCs; rw [List.flatMap_append]; simp
abbrev tTb : TypeId := 71
abbrev TgO (s : SS) (W : Option Addr) (ts : List Tg) : Prop := OwnR tTg s W 0 ts.length (tgCs ts)
structure TabP (s : SS) (tb a b : Nat) : Prop where
 lt : tb < s.next
 at_ : lookH s.heap tb = some (.cells [.map (some a), .map (some b)] tTb false false)
theorem TabP.chg {s s' : SS} {tb a b : Nat} {A : List Nat} (h : TabP s tb a b) (c : Chg s s' A) (hA : tb ∉ A) : TabP s' tb a b := ⟨Nat.lt_of_lt_of_le h.lt c.next, c.blk _ _ h.lt hA h.at_⟩
theorem fdB_in (xs : List KvV) (z : List UInt8) : fdB xs z = decide (z ∈ xs.map (·.k)) := by
 unfold fdB
 cases h : getV xs z with
 | none => rw [decide_eq_false (getV_no h)]; rfl
 | some x => obtain ⟨h1, rfl⟩ := getV_in h; rw [decide_eq_true (List.mem_map_of_mem h1)]; rfl
structure TgIx where
 i : Nat
 ts : List Tg
 e : Nat
 V : Option Addr
 s : SS
set_option maxHeartbeats 2000000 in
theorem targets_w {s : SS} {tb a b cw : Nat} {ls : List KvV} {W : Option Addr} {ws : List (List UInt8)} {alone : Bool} (f : Fine s) (hF : FrT s) (hG : Gb s) (hT : TabP s tb a b) (hM : MapK s b ls) (hW : TsR s W ws) (hn : ws.length ≤ 10000) (hl : ∀ w ∈ ws, w.length ≤ 1000000) :
  CallW pr n_alias_Table_targets [ptrV tb, .slice W ws.length cw, .bool alone] s fun v s' => ∃ V ts e, v = .tuple ⟨[.slice V ts.length 0, .int .i64 ((e : Nat) : Int)]⟩ ∧ (ts, e) = tgsF (ls.map (·.k)) alone ws [] 0 ∧ TgO s' V ts ∧ (∀ id ∈ blkOf V, s.next ≤ id) ∧ Chg s s' [] := by
 refine CallW.run good ok_alias_Table_targets (by simp) rfl ?_
 (try refine pSeq ?_); (repeat(first|refine sb ?_|refine kNo ?_|refine gOn rfl ?_|refine gOff rfl rfl ?_|refine gTup rfl ?_))
 refine pLoop (MW.head good (fun x : TgIx => ws.length - x.i) (fun x => x.i ≤ ws.length ∧ TgO x.s x.V x.ts ∧ (∀ id ∈ blkOf x.V, s.next ≤ id) ∧ Chg s x.s [] ∧ tgsF (ls.map (·.k)) alone (ws.drop x.i) x.ts x.e = tgsF (ls.map (·.k)) alone ws [] 0 ∧ x.ts.length ≤ x.i)
  (fun x => [(0, ptrV tb), (2, .bool alone), (6, .slice x.V x.ts.length 0), (7, .int .i64 (x.e : Int)), (14, .slice W ws.length cw), (15, .int .i64 (ws.length : Int)), (16, .int .i64 (x.i : Int))]) (fun x => x.s) ⟨0, [], 0, none, s⟩ ⟨Nat.zero_le _, ⟨rfl, rfl, rfl⟩, by simp [blkOf], .refl _ _, rfl, Nat.le_refl _⟩ (Wk.same ⟨rfl, rfl, rfl, rfl, rfl, rfl, rfl, trivial⟩) ?_)
 rintro ⟨i, ts, e, V, s1⟩ ⟨hi, oV, hV, c1, hE, hti⟩
 dsimp only at hi oV hV c1 hE hti ⊢
 (repeat(first|refine sb ?_|refine kNo ?_|refine gOn rfl ?_|refine gOff rfl rfl ?_|refine gTup rfl ?_))
 intro q hq
 by_cases hlt : i < ws.length
 ·obtain rfl : q = true := by rw [hq]; simp; omega
  obtain ⟨w, hw⟩ : ∃ w, ws[i]? = some w := ⟨_, List.getElem?_eq_getElem hlt⟩
  have hdr : ws.drop i = w :: ws.drop (i + 1) := by
   rw [List.drop_eq_getElem_cons hlt, show ws[i] = w from by rw [List.getElem?_eq_getElem hlt] at hw; exact Option.some.inj hw]
  rcases hW.nil c1 with h0 | ⟨bw, tw, gw, rw_, hWe, lw, cs, kw, hcs⟩
  ·rw [h0] at hlt; simp at hlt
  subst hWe
  (repeat(first|refine sb ?_|refine kNo ?_|refine gOn rfl ?_|refine gOff rfl rfl ?_|refine gTup rfl ?_))
  refine ⟨by omega, ?_⟩
  intro m hm o ho
  obtain rfl : m = i := by omega
  (repeat(first|refine sb ?_|refine kNo ?_|refine gOn rfl ?_|refine gOff rfl rfl ?_|refine gTup rfl ?_))
  refine ldS_is (l := w) rfl kw (by rw [ho, Nat.zero_add, Nat.mul_one]; exact hcs _ _ hw) ?_
  (repeat(first|refine sb ?_|refine kNo ?_|refine gOn rfl ?_|refine gOff rfl rfl ?_|refine gTup rfl ?_))
  refine (pt14_w (hF.chg c1 (by simp)) (hG.chg c1 (by simp)) (hl w (List.mem_of_getElem? hw))).mono fun v s2 q => ?_
  obtain ⟨rfl, c2⟩ := q
  have n2 := c2.next
  (repeat(first|refine sb ?_|refine kNo ?_|refine gOn rfl ?_|refine gOff rfl rfl ?_|refine gTup rfl ?_))
  refine st_abs (cs' := tgC (ptF w).1) rfl rfl lkH (Nat.lt_succ_self _) rfl (by rfl) fun s3 k3 c3 n3 => ?_
  have n3 : s3.next = s2.next + 1 := n3
  have c3 : Chg s2 s3 [] := (Chg.new []).fresh c3 (by simp)
  have c13 := c2.nil c3
  (repeat(first|refine sb ?_|refine kNo ?_|refine gOn rfl ?_|refine gOff rfl rfl ?_|refine gTup rfl ?_))
  intro q hq
  by_cases hp : (ptF w).2 = 0
  ·obtain rfl : q = false := by rw [hq, hp]; rfl
   generalize hpt : (ptF w).1 = t at *
   (repeat(first|refine sb ?_|refine kNo ?_|refine gOn rfl ?_|refine gOff rfl rfl ?_|refine gTup rfl ?_))
   refine ldN_is (off := 0) (new := tgC t) rfl k3 (by rfl) ?_
   (repeat(first|refine sb ?_|refine kNo ?_|refine gOn rfl ?_|refine gOff rfl rfl ?_|refine gTup rfl ?_))
   refine standsAlone_w.mono fun v s4 q => ?_
   obtain ⟨rfl, c4⟩ := q
   have k4 := c4.blk _ _ (show s2.next < s3.next by omega) (by simp) k3
   have n4 := c4.next
   by_cases hsa : t.kind = 6 ∨ t.kind = 7
   ·rw [decide_eq_true hsa]
    cases alone with
    | false =>
     (repeat(first|refine sb ?_|refine kNo ?_|refine gOn rfl ?_|refine gOff rfl rfl ?_|refine gTup rfl ?_))
     intro q hq
     obtain rfl : q = true := by rw [hq]; rfl
     (repeat(first|refine sb ?_|refine kNo ?_|refine gOn rfl ?_|refine gOff rfl rfl ?_|refine gTup rfl ?_))
     refine ⟨none, [], 5, rfl, ?_, ⟨rfl, rfl, rfl⟩, by simp [blkOf], c1.nil (c13.nil c4)⟩
     rw [← hE, hdr, tgsF, if_pos (.inr ⟨by rw [hpt]; exact hsa, rfl⟩)]
    | true =>
     (repeat(first|refine sb ?_|refine kNo ?_|refine gOn rfl ?_|refine gOff rfl rfl ?_|refine gTup rfl ?_))
     intro q hq
     obtain rfl : q = false := by rw [hq]; rfl
     (repeat(first|refine sb ?_|refine kNo ?_|refine gOn rfl ?_|refine gOff rfl rfl ?_|refine gTup rfl ?_))
     have c14 := c13.nil c4
     refine ld1_is rfl ((hT.chg (c1.nil c14) (by simp)).at_) rfl ?_
     (repeat(first|refine sb ?_|refine kNo ?_|refine gOn rfl ?_|refine gOff rfl rfl ?_|refine gTup rfl ?_))
     refine ldS_is (l := t.nm) rfl k4 rfl ?_
     (repeat(first|refine sb ?_|refine kNo ?_|refine gOn rfl ?_|refine gOff rfl rfl ?_|refine gTup rfl ?_))
     refine gen_look (z := t.nm) (hM.chg (c1.nil c14) (by simp)) rfl rfl rfl ?_
     rw [fdB_in]
     (repeat(first|refine sb ?_|refine kNo ?_|refine gOn rfl ?_|refine gOff rfl rfl ?_|refine gTup rfl ?_))
     refine ldI_is (z := t.kind) rfl k4 rfl ?_
     (repeat(first|refine sb ?_|refine kNo ?_|refine gOn rfl ?_|refine gOff rfl rfl ?_|refine gTup rfl ?_))
     intro q hq
     by_cases h5 : t.kind = 5
     ·obtain rfl : q = true := by rw [hq, h5]; rfl
      (repeat(first|refine sb ?_|refine kNo ?_|refine gOn rfl ?_|refine gOff rfl rfl ?_|refine gTup rfl ?_))
      intro q hq
      by_cases hin : t.nm ∈ ls.map (·.k)
      ·obtain rfl : q = false := by rw [hq, decide_eq_true hin]; rfl
       have hno : ¬(t.kind = 5 ∧ t.nm ∉ ls.map (·.k)) := fun q => q.2 hin
       (repeat(first|refine sb ?_|refine kNo ?_|refine gOn rfl ?_|refine gOff rfl rfl ?_|refine gTup rfl ?_))
       refine ldN_is (off := 0) (new := tgC t) rfl k4 (by rfl) ?_
       (repeat(first|refine sb ?_|refine kNo ?_|refine gOn rfl ?_|refine gOff rfl rfl ?_|refine gTup rfl ?_))
       have cm : Chg s4 { s4 with heap := (s4.next, some (.cells (tgC t) tTg false false)) :: s4.heap, next := s4.next + 1 } [] := .new []
       refine appR ((oV.chg c14 (fun _ _ q => by cases q)).chg cm (fun _ _ q => by cases q)) (tgCs_len ts) ⟨by omega, by omega⟩ rfl rfl lkH rfl rfl fun s8 o8 c8 n8 => ?_
       have n8 : s8.next = s4.next + 1 + 1 := n8
       (repeat(first|refine sb ?_|refine kNo ?_|refine gOn rfl ?_|refine gOff rfl rfl ?_|refine gTup rfl ?_))
       intro z hz
       rw [i64_id (by omega)] at hz
       (repeat(first|refine sb ?_|refine kNo ?_|refine gOn rfl ?_|refine gOff rfl rfl ?_|refine gTup rfl ?_))
       refine ⟨⟨m + 1, ts ++ [t], e, some ⟨s4.next + 1, 0, none⟩, s8⟩, ⟨by show m + 1 ≤ ws.length; omega, ?_, fun id q => by simp [blkOf] at q; have := c1.next; omega, ((c1.nil c14).nil cm).fresh c8 (fun id q => by have := hV id q; omega), ?_, by show (ts ++ [t]).length ≤ m + 1; rw [List.length_append, List.length_singleton]; omega⟩, by show ws.length - (m + 1) < ws.length - m; omega, Wk.same ⟨rfl, rfl, ?_, rfl, rfl, rfl, ?_, trivial⟩⟩
       ·show OwnR tTg s8 _ 0 (ts ++ [t]).length (tgCs (ts ++ [t]))
        rw [List.length_append, tgCs_app]
        exact o8
       ·show tgsF _ _ (ws.drop (m + 1)) (ts ++ [t]) e = _
        rw [← hE, hdr]
        conv => rhs; rw [tgsF, if_neg (show ¬((ptF w).2 ≠ 0 ∨ ((ptF w).1.kind = 6 ∨ (ptF w).1.kind = 7) ∧ true = false) from fun q => q.elim (fun q => q hp) (fun q => by cases q.2)), hpt]
        rw [if_neg hno]
       ·show some (Value.slice _ (ts.length + 1) 0) = some (.slice _ (ts ++ [t]).length 0)
        rw [List.length_append]
        rfl
       ·rw [show z = ((m + 1 : Nat) : Int) by omega]; rfl
      ·obtain rfl : q = true := by rw [hq, decide_eq_false hin]; rfl
       have hno := hin
       (repeat(first|refine sb ?_|refine kNo ?_|refine gOn rfl ?_|refine gOff rfl rfl ?_|refine gTup rfl ?_))
       refine ldN_is (off := 0) (new := tgC t) rfl k4 (by rfl) ?_
       (repeat(first|refine sb ?_|refine kNo ?_|refine gOn rfl ?_|refine gOff rfl rfl ?_|refine gTup rfl ?_))
       have cm : Chg s4 { s4 with heap := (s4.next, some (.cells (tgC t) tTg false false)) :: s4.heap, next := s4.next + 1 } [] := .new []
       refine appR ((oV.chg c14 (fun _ _ q => by cases q)).chg cm (fun _ _ q => by cases q)) (tgCs_len ts) ⟨by omega, by omega⟩ rfl rfl lkH rfl rfl fun s8 o8 c8 n8 => ?_
       have n8 : s8.next = s4.next + 1 + 1 := n8
       (repeat(first|refine sb ?_|refine kNo ?_|refine gOn rfl ?_|refine gOff rfl rfl ?_|refine gTup rfl ?_))
       intro z hz
       rw [i64_id (by omega)] at hz
       (repeat(first|refine sb ?_|refine kNo ?_|refine gOn rfl ?_|refine gOff rfl rfl ?_|refine gTup rfl ?_))
       refine ⟨⟨m + 1, ts ++ [t], 6, some ⟨s4.next + 1, 0, none⟩, s8⟩, ⟨by show m + 1 ≤ ws.length; omega, ?_, fun id q => by simp [blkOf] at q; have := c1.next; omega, ((c1.nil c14).nil cm).fresh c8 (fun id q => by have := hV id q; omega), ?_, by show (ts ++ [t]).length ≤ m + 1; rw [List.length_append, List.length_singleton]; omega⟩, by show ws.length - (m + 1) < ws.length - m; omega, Wk.same ⟨rfl, rfl, ?_, rfl, rfl, rfl, ?_, trivial⟩⟩
       ·show OwnR tTg s8 _ 0 (ts ++ [t]).length (tgCs (ts ++ [t]))
        rw [List.length_append, tgCs_app]
        exact o8
       ·show tgsF _ _ (ws.drop (m + 1)) (ts ++ [t]) 6 = _
        rw [← hE, hdr]
        conv => rhs; rw [tgsF, if_neg (show ¬((ptF w).2 ≠ 0 ∨ ((ptF w).1.kind = 6 ∨ (ptF w).1.kind = 7) ∧ true = false) from fun q => q.elim (fun q => q hp) (fun q => by cases q.2)), hpt]
        rw [if_pos ⟨h5, hno⟩]
       ·show some (Value.slice _ (ts.length + 1) 0) = some (.slice _ (ts ++ [t]).length 0)
        rw [List.length_append]
        rfl
       ·rw [show z = ((m + 1 : Nat) : Int) by omega]; rfl
     ·obtain rfl : q = false := by rw [hq]; simp [h5]
      have hno : ¬(t.kind = 5 ∧ t.nm ∉ ls.map (·.k)) := fun q => h5 q.1
      (repeat(first|refine sb ?_|refine kNo ?_|refine gOn rfl ?_|refine gOff rfl rfl ?_|refine gTup rfl ?_))
      refine ldN_is (off := 0) (new := tgC t) rfl k4 (by rfl) ?_
      (repeat(first|refine sb ?_|refine kNo ?_|refine gOn rfl ?_|refine gOff rfl rfl ?_|refine gTup rfl ?_))
      have cm : Chg s4 { s4 with heap := (s4.next, some (.cells (tgC t) tTg false false)) :: s4.heap, next := s4.next + 1 } [] := .new []
      refine appR ((oV.chg c14 (fun _ _ q => by cases q)).chg cm (fun _ _ q => by cases q)) (tgCs_len ts) ⟨by omega, by omega⟩ rfl rfl lkH rfl rfl fun s8 o8 c8 n8 => ?_
      have n8 : s8.next = s4.next + 1 + 1 := n8
      (repeat(first|refine sb ?_|refine kNo ?_|refine gOn rfl ?_|refine gOff rfl rfl ?_|refine gTup rfl ?_))
      intro z hz
      rw [i64_id (by omega)] at hz
      (repeat(first|refine sb ?_|refine kNo ?_|refine gOn rfl ?_|refine gOff rfl rfl ?_|refine gTup rfl ?_))
      refine ⟨⟨m + 1, ts ++ [t], e, some ⟨s4.next + 1, 0, none⟩, s8⟩, ⟨by show m + 1 ≤ ws.length; omega, ?_, fun id q => by simp [blkOf] at q; have := c1.next; omega, ((c1.nil c14).nil cm).fresh c8 (fun id q => by have := hV id q; omega), ?_, by show (ts ++ [t]).length ≤ m + 1; rw [List.length_append, List.length_singleton]; omega⟩, by show ws.length - (m + 1) < ws.length - m; omega, Wk.same ⟨rfl, rfl, ?_, rfl, rfl, rfl, ?_, trivial⟩⟩
      ·show OwnR tTg s8 _ 0 (ts ++ [t]).length (tgCs (ts ++ [t]))
       rw [List.length_append, tgCs_app]
       exact o8
      ·show tgsF _ _ (ws.drop (m + 1)) (ts ++ [t]) e = _
       rw [← hE, hdr]
       conv => rhs; rw [tgsF, if_neg (show ¬((ptF w).2 ≠ 0 ∨ ((ptF w).1.kind = 6 ∨ (ptF w).1.kind = 7) ∧ true = false) from fun q => q.elim (fun q => q hp) (fun q => by cases q.2)), hpt]
       rw [if_neg hno]
      ·show some (Value.slice _ (ts.length + 1) 0) = some (.slice _ (ts ++ [t]).length 0)
       rw [List.length_append]
       rfl
      ·rw [show z = ((m + 1 : Nat) : Int) by omega]; rfl
   ·rw [decide_eq_false hsa]
    (repeat(first|refine sb ?_|refine kNo ?_|refine gOn rfl ?_|refine gOff rfl rfl ?_|refine gTup rfl ?_))
    have c14 := c13.nil c4
    refine ld1_is rfl ((hT.chg (c1.nil c14) (by simp)).at_) rfl ?_
    (repeat(first|refine sb ?_|refine kNo ?_|refine gOn rfl ?_|refine gOff rfl rfl ?_|refine gTup rfl ?_))
    refine ldS_is (l := t.nm) rfl k4 rfl ?_
    (repeat(first|refine sb ?_|refine kNo ?_|refine gOn rfl ?_|refine gOff rfl rfl ?_|refine gTup rfl ?_))
    refine gen_look (z := t.nm) (hM.chg (c1.nil c14) (by simp)) rfl rfl rfl ?_
    rw [fdB_in]
    (repeat(first|refine sb ?_|refine kNo ?_|refine gOn rfl ?_|refine gOff rfl rfl ?_|refine gTup rfl ?_))
    refine ldI_is (z := t.kind) rfl k4 rfl ?_
    (repeat(first|refine sb ?_|refine kNo ?_|refine gOn rfl ?_|refine gOff rfl rfl ?_|refine gTup rfl ?_))
    intro q hq
    by_cases h5 : t.kind = 5
    ·obtain rfl : q = true := by rw [hq, h5]; rfl
     (repeat(first|refine sb ?_|refine kNo ?_|refine gOn rfl ?_|refine gOff rfl rfl ?_|refine gTup rfl ?_))
     intro q hq
     by_cases hin : t.nm ∈ ls.map (·.k)
     ·obtain rfl : q = false := by rw [hq, decide_eq_true hin]; rfl
      have hno : ¬(t.kind = 5 ∧ t.nm ∉ ls.map (·.k)) := fun q => q.2 hin
      (repeat(first|refine sb ?_|refine kNo ?_|refine gOn rfl ?_|refine gOff rfl rfl ?_|refine gTup rfl ?_))
      refine ldN_is (off := 0) (new := tgC t) rfl k4 (by rfl) ?_
      (repeat(first|refine sb ?_|refine kNo ?_|refine gOn rfl ?_|refine gOff rfl rfl ?_|refine gTup rfl ?_))
      have cm : Chg s4 { s4 with heap := (s4.next, some (.cells (tgC t) tTg false false)) :: s4.heap, next := s4.next + 1 } [] := .new []
      refine appR ((oV.chg c14 (fun _ _ q => by cases q)).chg cm (fun _ _ q => by cases q)) (tgCs_len ts) ⟨by omega, by omega⟩ rfl rfl lkH rfl rfl fun s8 o8 c8 n8 => ?_
      have n8 : s8.next = s4.next + 1 + 1 := n8
      (repeat(first|refine sb ?_|refine kNo ?_|refine gOn rfl ?_|refine gOff rfl rfl ?_|refine gTup rfl ?_))
      intro z hz
      rw [i64_id (by omega)] at hz
      (repeat(first|refine sb ?_|refine kNo ?_|refine gOn rfl ?_|refine gOff rfl rfl ?_|refine gTup rfl ?_))
      refine ⟨⟨m + 1, ts ++ [t], e, some ⟨s4.next + 1, 0, none⟩, s8⟩, ⟨by show m + 1 ≤ ws.length; omega, ?_, fun id q => by simp [blkOf] at q; have := c1.next; omega, ((c1.nil c14).nil cm).fresh c8 (fun id q => by have := hV id q; omega), ?_, by show (ts ++ [t]).length ≤ m + 1; rw [List.length_append, List.length_singleton]; omega⟩, by show ws.length - (m + 1) < ws.length - m; omega, Wk.same ⟨rfl, rfl, ?_, rfl, rfl, rfl, ?_, trivial⟩⟩
      ·show OwnR tTg s8 _ 0 (ts ++ [t]).length (tgCs (ts ++ [t]))
       rw [List.length_append, tgCs_app]
       exact o8
      ·show tgsF _ _ (ws.drop (m + 1)) (ts ++ [t]) e = _
       rw [← hE, hdr]
       conv => rhs; rw [tgsF, if_neg (show ¬((ptF w).2 ≠ 0 ∨ ((ptF w).1.kind = 6 ∨ (ptF w).1.kind = 7) ∧ alone = false) from fun q => q.elim (fun q => q hp) (fun q => hsa (by rw [hpt] at q; exact q.1))), hpt]
       rw [if_neg hno]
      ·show some (Value.slice _ (ts.length + 1) 0) = some (.slice _ (ts ++ [t]).length 0)
       rw [List.length_append]
       rfl
      ·rw [show z = ((m + 1 : Nat) : Int) by omega]; rfl
     ·obtain rfl : q = true := by rw [hq, decide_eq_false hin]; rfl
      have hno := hin
      (repeat(first|refine sb ?_|refine kNo ?_|refine gOn rfl ?_|refine gOff rfl rfl ?_|refine gTup rfl ?_))
      refine ldN_is (off := 0) (new := tgC t) rfl k4 (by rfl) ?_
      (repeat(first|refine sb ?_|refine kNo ?_|refine gOn rfl ?_|refine gOff rfl rfl ?_|refine gTup rfl ?_))
      have cm : Chg s4 { s4 with heap := (s4.next, some (.cells (tgC t) tTg false false)) :: s4.heap, next := s4.next + 1 } [] := .new []
      refine appR ((oV.chg c14 (fun _ _ q => by cases q)).chg cm (fun _ _ q => by cases q)) (tgCs_len ts) ⟨by omega, by omega⟩ rfl rfl lkH rfl rfl fun s8 o8 c8 n8 => ?_
      have n8 : s8.next = s4.next + 1 + 1 := n8
      (repeat(first|refine sb ?_|refine kNo ?_|refine gOn rfl ?_|refine gOff rfl rfl ?_|refine gTup rfl ?_))
      intro z hz
      rw [i64_id (by omega)] at hz
      (repeat(first|refine sb ?_|refine kNo ?_|refine gOn rfl ?_|refine gOff rfl rfl ?_|refine gTup rfl ?_))
      refine ⟨⟨m + 1, ts ++ [t], 6, some ⟨s4.next + 1, 0, none⟩, s8⟩, ⟨by show m + 1 ≤ ws.length; omega, ?_, fun id q => by simp [blkOf] at q; have := c1.next; omega, ((c1.nil c14).nil cm).fresh c8 (fun id q => by have := hV id q; omega), ?_, by show (ts ++ [t]).length ≤ m + 1; rw [List.length_append, List.length_singleton]; omega⟩, by show ws.length - (m + 1) < ws.length - m; omega, Wk.same ⟨rfl, rfl, ?_, rfl, rfl, rfl, ?_, trivial⟩⟩
      ·show OwnR tTg s8 _ 0 (ts ++ [t]).length (tgCs (ts ++ [t]))
       rw [List.length_append, tgCs_app]
       exact o8
      ·show tgsF _ _ (ws.drop (m + 1)) (ts ++ [t]) 6 = _
       rw [← hE, hdr]
       conv => rhs; rw [tgsF, if_neg (show ¬((ptF w).2 ≠ 0 ∨ ((ptF w).1.kind = 6 ∨ (ptF w).1.kind = 7) ∧ alone = false) from fun q => q.elim (fun q => q hp) (fun q => hsa (by rw [hpt] at q; exact q.1))), hpt]
       rw [if_pos ⟨h5, hno⟩]
      ·show some (Value.slice _ (ts.length + 1) 0) = some (.slice _ (ts ++ [t]).length 0)
       rw [List.length_append]
       rfl
      ·rw [show z = ((m + 1 : Nat) : Int) by omega]; rfl
    ·obtain rfl : q = false := by rw [hq]; simp [h5]
     have hno : ¬(t.kind = 5 ∧ t.nm ∉ ls.map (·.k)) := fun q => h5 q.1
     (repeat(first|refine sb ?_|refine kNo ?_|refine gOn rfl ?_|refine gOff rfl rfl ?_|refine gTup rfl ?_))
     refine ldN_is (off := 0) (new := tgC t) rfl k4 (by rfl) ?_
     (repeat(first|refine sb ?_|refine kNo ?_|refine gOn rfl ?_|refine gOff rfl rfl ?_|refine gTup rfl ?_))
     have cm : Chg s4 { s4 with heap := (s4.next, some (.cells (tgC t) tTg false false)) :: s4.heap, next := s4.next + 1 } [] := .new []
     refine appR ((oV.chg c14 (fun _ _ q => by cases q)).chg cm (fun _ _ q => by cases q)) (tgCs_len ts) ⟨by omega, by omega⟩ rfl rfl lkH rfl rfl fun s8 o8 c8 n8 => ?_
     have n8 : s8.next = s4.next + 1 + 1 := n8
     (repeat(first|refine sb ?_|refine kNo ?_|refine gOn rfl ?_|refine gOff rfl rfl ?_|refine gTup rfl ?_))
     intro z hz
     rw [i64_id (by omega)] at hz
     (repeat(first|refine sb ?_|refine kNo ?_|refine gOn rfl ?_|refine gOff rfl rfl ?_|refine gTup rfl ?_))
     refine ⟨⟨m + 1, ts ++ [t], e, some ⟨s4.next + 1, 0, none⟩, s8⟩, ⟨by show m + 1 ≤ ws.length; omega, ?_, fun id q => by simp [blkOf] at q; have := c1.next; omega, ((c1.nil c14).nil cm).fresh c8 (fun id q => by have := hV id q; omega), ?_, by show (ts ++ [t]).length ≤ m + 1; rw [List.length_append, List.length_singleton]; omega⟩, by show ws.length - (m + 1) < ws.length - m; omega, Wk.same ⟨rfl, rfl, ?_, rfl, rfl, rfl, ?_, trivial⟩⟩
     ·show OwnR tTg s8 _ 0 (ts ++ [t]).length (tgCs (ts ++ [t]))
      rw [List.length_append, tgCs_app]
      exact o8
     ·show tgsF _ _ (ws.drop (m + 1)) (ts ++ [t]) e = _
      rw [← hE, hdr]
      conv => rhs; rw [tgsF, if_neg (show ¬((ptF w).2 ≠ 0 ∨ ((ptF w).1.kind = 6 ∨ (ptF w).1.kind = 7) ∧ alone = false) from fun q => q.elim (fun q => q hp) (fun q => hsa (by rw [hpt] at q; exact q.1))), hpt]
      rw [if_neg hno]
     ·show some (Value.slice _ (ts.length + 1) 0) = some (.slice _ (ts ++ [t]).length 0)
      rw [List.length_append]
      rfl
     ·rw [show z = ((m + 1 : Nat) : Int) by omega]; rfl
  ·obtain rfl : q = true := by rw [hq]; simp; omega
   (repeat(first|refine sb ?_|refine kNo ?_|refine gOn rfl ?_|refine gOff rfl rfl ?_|refine gTup rfl ?_))
   refine ⟨none, [], 5, rfl, ?_, ⟨rfl, rfl, rfl⟩, by simp [blkOf], c1.nil c13⟩
   rw [← hE, hdr, tgsF, if_pos (.inl hp)]
 ·obtain rfl : q = false := by rw [hq]; simp; omega
  obtain rfl : i = ws.length := by omega
  (repeat(first|refine sb ?_|refine kNo ?_|refine gOn rfl ?_|refine gOff rfl rfl ?_|refine gTup rfl ?_))
  refine ⟨V, ts, e, rfl, ?_, oV, hV, c1⟩
  rw [← hE, List.drop_length]
  rfl
end Go.Vf.S
end
section
namespace Go.Vf.S
open Go Go.Vf Go.Proofs Go.RowKit
attribute [local irreducible] wSeq wRow wp wG
set_option linter.unusedVariables false
set_option linter.unusedSimpArgs false
set_option maxRecDepth 10000
theorem appRk14 {P : Program} {T : TL} {s : SS} {K : RR → Prop} {x y : Operand} {t t' : TypeId} {size bytes k c : Nat} {W : Option Addr} {cw n b : Nat} {cs new : List Value} {g r : Bool} (hk : 0 < k) (h : OwnR t s W cw n cs) (hsz : cs.length = n * size) (hb1 : (n + k) * bytes ≤ 140737488355328 ∧ n + k ≤ 4294967296) (hx : opd T s.gl x = some (.slice W n cw)) (hy : opd T s.gl y = some (.slice (some ⟨b, 0, none⟩) k c))
  (hb : lookH s.heap b = some (.cells new t' g r)) (hnew : new.length = k * size) (ha : all1 new = true) (hK : ∀ s' : SS, OwnR t s' (some ⟨s.next, 0, none⟩) 0 (n + k) (cs ++ new) → Chg s s' (blkOf W) → s'.next = s.next + 1 → K (.eff (.slice (some ⟨s.next, 0, none⟩) (n + k) 0) s')) : wN P (.app t size bytes x y) T s K := by
 simp only [wN, hx, hy, wSrc, hb]
 refine ⟨new, by rw [List.drop_zero, takeN_take _ _ (by omega), List.take_of_length_le (by omega)], ⟨⟨hb1.1, hb1.2, hnew, ha⟩, ?_⟩⟩
 cases W with
 | none =>
  obtain ⟨rfl, rfl, rfl⟩ := h
  refine ⟨fun q => by simp at q; omega, fun _ => ⟨rfl, fun m' hm' => ?_⟩⟩
  subst hm'
  have := hK { s with heap := (s.next, some (.cells new t true false)) :: s.heap, next := s.next + 1 } ⟨rfl, rfl, Nat.lt_succ_self _, true, by simp only [List.nil_append]; exact lkH, fun q => by cases q⟩ (.new _) rfl
  rw [Nat.zero_add] at this
  exact this
 | some q =>
  obtain ⟨b2, off, sp⟩ := q
  obtain ⟨rfl, rfl, h3, g2, h4, h5⟩ := h
  simp only [h4]
  have old : takeN (n * size) (cs.drop 0) = some cs := by
   rw [List.drop_zero, takeN_take _ _ (by omega), List.take_of_length_le (by omega)]
  cases g2 with
  | true =>
   refine ⟨fun q => by omega, fun _ => ⟨rfl, rfl, _, old, fun m' l' hm' hl' => ?_⟩⟩
   subst hm'; subst hl'
   exact hK { s with heap := (s.next, some (.cells (cs ++ new) t true false)) :: (b2, none) :: s.heap, next := s.next + 1 } ⟨rfl, rfl, Nat.lt_succ_self _, true, lkH, fun q => by cases q⟩ .new2 rfl
  | false =>
   have := h5 rfl
   refine ⟨fun q => by omega, fun _ => ⟨_, old, fun m' l' hm' hl' => ?_⟩⟩
   subst hm'; subst hl'
   exact hK { s with heap := (s.next, some (.cells (cs ++ new) t true false)) :: s.heap, next := s.next + 1 } ⟨rfl, rfl, Nat.lt_succ_self _, true, lkH, fun q => by cases q⟩ (.new _) rfl
def RowsA (n0 : Nat) (s : SS) (xs : List KvV) : Prop := ∀ x ∈ xs, TgO s x.W x.ts ∧ ∀ id ∈ blkOf x.W, n0 ≤ id
theorem RowsA.chg {n0 : Nat} {s s' : SS} {xs : List KvV} {A : List Nat} (h : RowsA n0 s xs) (c : Chg s s' A) (hA : ∀ x ∈ xs, ∀ id ∈ blkOf x.W, id ∉ A) : RowsA n0 s' xs := fun x hx => ⟨(h x hx).1.chg c (hA x hx), (h x hx).2⟩
theorem RowsA.set {n0 : Nat} {s : SS} {xs : List KvV} {y : KvV} (h : RowsA n0 s xs) (hy : TgO s y.W y.ts) (hn : ∀ id ∈ blkOf y.W, n0 ≤ id) : RowsA n0 s (setV xs y) := by
 intro x hx
 unfold setV at hx
 split at hx
 ·obtain ⟨z, hz, rfl⟩ := List.mem_map.1 hx
  split
  ·exact ⟨hy, hn⟩
  ·exact h z hz
 ·rcases List.mem_append.1 hx with hx | hx
  ·exact h x hx
  ·rw [List.mem_singleton.1 hx]; exact ⟨hy, hn⟩
theorem not_map {s : SS} {t : TypeId} {W : Option Addr} {cw n m : Nat} {cs : List Value} {es : List MapEntry} {clock : Nat} (h : OwnR t s W cw n cs) (hm : lookH s.heap m = some (.map es clock)) : m ∉ blkOf W := by
 intro q
 cases W with
 | none => simp [blkOf] at q
 | some a =>
  obtain ⟨b, off, sp⟩ := a
  obtain ⟨_, _, _, g, h4, _⟩ := h
  simp [blkOf] at q
  subst q
  rw [hm] at h4
  cases h4
theorem MapK.not {s : SS} {t : TypeId} {W : Option Addr} {cw n m : Nat} {cs : List Value} {xs : List KvV} (hm : MapK s m xs) (h : OwnR t s W cw n cs) : m ∉ blkOf W := by
 obtain ⟨es, clock, h1, _⟩ := hm.at_
 exact not_map h h1
theorem tgs_code (names : List (List UInt8)) (alone : Bool) : ∀ (ws : List (List UInt8)) (all : List Tg) (e : Nat), (e = 0 ∨ e = 6) → (tgsF names alone ws all e).2 = 0 ∨ (tgsF names alone ws all e).2 = 6 ∨ (tgsF names alone ws all e).2 = 5
 | [], all, e, h => by show e = 0 ∨ e = 6 ∨ e = 5; omega
 | w :: r, all, e, h => by
  rw [tgsF]
  split
  ·exact .inr (.inr rfl)
  ·refine tgs_code names alone r _ _ ?_
   split
   ·exact .inr rfl
   ·exact h
set_option maxHeartbeats 2000000 in
theorem keepAlias_w {s : SS} {tb a b n0 : Nat} {xs ls : List KvV} {x : EnV} (f : Fine s) (hF : FrT s) (hG : Gb s) (hT : TabP s tb a b) (hA : MapK s a xs) (hM : MapK s b ls) (hR : RowsA n0 s xs) (h0 : n0 ≤ s.next) (hW : TsR s x.W x.e.vs) (hn : x.e.vs.length ≤ 10000) (hk : x.e.k.length ≤ 1000000) (hl : ∀ w ∈ x.e.vs, w.length ≤ 1000000) (hab : a ≠ b) :
  CallW pr n_alias_Table_keepAlias [ptrV tb, .agg ⟨enC x⟩] s fun v s' => ∃ xs', v = .int .i64 ((keepA (ls.map (·.k)) (xs.map kvT) x.e).2 : Int) ∧ xs'.map kvT = (keepA (ls.map (·.k)) (xs.map kvT) x.e).1 ∧ MapK s' a xs' ∧ RowsA n0 s' xs' ∧ Chg s s' [a] := by
 refine CallW.run good ok_alias_Table_keepAlias (by simp) rfl ?_
 (try refine pSeq ?_); (repeat(first|refine sb ?_|refine kNo ?_))
 have c0 : Chg s { s with heap := (s.next, some (.cells (enC x) tEn13 false false)) :: s.heap, next := s.next + 1 } [] := .new []
 refine ldS_is (l := x.e.k) rfl lkH rfl ?_
 (repeat(first|refine sb ?_|refine kNo ?_))
 refine (mayLocal_w (hG.chg c0 (by simp)) hk).mono fun v s1 q => ?_
 obtain ⟨rfl, c1⟩ := q
 have k1 := c1.blk _ _ (Nat.lt_succ_self _) (by simp) (lkH (k := s.next) (v := some (.cells (enC x) tEn13 false false)) (r := s.heap))
 have c01 := c0.nil c1
 have n1 : s.next < s1.next := Nat.lt_of_lt_of_le (Nat.lt_succ_self _) c1.next
 have noA : ∀ s' : SS, MapK s' a xs → RowsA n0 s' xs → ∀ y ∈ xs, ∀ id ∈ blkOf y.W, id ∉ [a] := fun s' hm hr y hy id hid q => by
  obtain rfl := List.mem_singleton.1 q
  exact hm.not (hr y hy).1 hid
 (repeat(first|refine sb ?_|refine kNo ?_))
 intro q hq
 cases hloc : locF x.e.k with
 | false =>
  obtain rfl : q = true := by rw [hq, hloc]; rfl
  have hkp : keepA (ls.map (·.k)) (xs.map kvT) x.e = (xs.map kvT, 5) := by unfold keepA; rw [if_pos hloc]
  rw [hkp]
  (repeat(first|refine sb ?_|refine kNo ?_))
  exact ⟨xs, rfl, rfl, hA.chg c01 (by simp), hR.chg c01 (fun _ _ _ _ q => by cases q), c01.sub (by simp)⟩
 | true =>
  obtain rfl : q = false := by rw [hq, hloc]; rfl
  (repeat(first|refine sb ?_|refine kNo ?_))
  refine ld1_is (v := .slice x.W x.e.vs.length 0) rfl k1 rfl ?_
  (repeat(first|refine sb ?_|refine kNo ?_))
  refine ld1_is (v := .slice x.W x.e.vs.length 0) rfl k1 rfl ?_
  (repeat(first|refine sb ?_|refine kNo ?_))
  intro q hq
  obtain rfl : q = decide (x.e.vs.length = 1) := by rw [hq, Bool.eq_iff_iff]; simp; omega
  (repeat(first|refine sb ?_|refine kNo ?_))
  refine (targets_w (c01.fine f) (hF.chg c01 (by simp)) (hG.chg c01 (by simp)) (hT.chg c01 (by simp)) (hM.chg c01 (by simp)) (hW.nil c01) hn hl).mono fun v s2 q => ?_
  obtain ⟨V, ts, e, rfl, hE, oV, hV, c2⟩ := q
  have c02 := c01.nil c2
  have k2 := c2.blk _ _ n1 (by simp) k1
  have n2 := c2.next
  have hcd := tgs_code (ls.map (·.k)) (decide (x.e.vs.length = 1)) x.e.vs [] 0 (.inl rfl)
  have hkp : keepA (ls.map (·.k)) (xs.map kvT) x.e = if e = 0 ∨ e = 6 then (setK (xs.map kvT) (lwF x.e.k) ts, e) else (xs.map kvT, e) := by
   unfold keepA
   rw [if_neg (by rw [hloc]; simp), ← hE]
  rw [hkp]
  (repeat(first|refine sb ?_|refine kNo ?_))
  refine (holds_w (c := e)).mono fun v s2' q => ?_
  obtain ⟨rfl, rfl⟩ := q
  by_cases he : e = 0 ∨ e = 6
  ·rw [decide_eq_true he, if_pos he]
   (repeat(first|refine sb ?_|refine kNo ?_))
   refine ld1_is (v := .map (some a)) rfl ((hT.chg c02 (by simp)).at_) rfl ?_
   (repeat(first|refine sb ?_|refine kNo ?_))
   refine ldS_is (l := x.e.k) rfl k2 rfl ?_
   (repeat(first|refine sb ?_|refine kNo ?_))
   refine (lower_w hk).mono fun v s3 q => ?_
   obtain ⟨rfl, c3⟩ := q
   have c03 := c02.nil c3
   (repeat(first|refine sb ?_|refine kNo ?_))
   refine kAll (c3.keep (c02.fine f)) ?_
   (repeat(first|refine sb ?_|refine kNo ?_))
   refine gen_upd ⟨lwF x.e.k, ts, V⟩ (hA.chg c03 (by simp)) rfl rfl rfl rfl fun s4 m4 c4 n4 => ?_
   (repeat(first|refine sb ?_|refine kNo ?_))
   have o3 := oV.chg c3 (fun _ _ q => by cases q)
   have r3 := hR.chg c03 (fun _ _ _ _ q => by cases q)
   have m3 := hA.chg c03 (by simp)
   refine ⟨setV xs ⟨lwF x.e.k, ts, V⟩, rfl, setV_T xs _, m4, RowsA.set (r3.chg c4 (noA s3 m3 r3)) (o3.chg c4 (fun id hid q => by obtain rfl := List.mem_singleton.1 q; exact m3.not o3 hid)) (fun id hid => by have := hV id hid; have := c01.next; omega), c03.nil c4⟩
  ·rw [decide_eq_false he, if_neg he]
   (repeat(first|refine sb ?_|refine kNo ?_))
   exact ⟨xs, rfl, rfl, hA.chg c02 (by simp), hR.chg c02 (fun _ _ _ _ q => by cases q), c02.sub (by simp)⟩
end Go.Vf.S
end
section
namespace Go.Vf.S
open Go Go.Vf Go.Proofs Go.RowKit
attribute [local irreducible] wSeq wRow wp wG
set_option linter.unusedVariables false
set_option linter.unusedSimpArgs false
set_option maxRecDepth 10000
def DisA (xs : List KvV) : Prop := xs.Pairwise fun x y => ∀ id ∈ blkOf x.W, id ∉ blkOf y.W
theorem DisA.two {xs : List KvV} (h : DisA xs) (hd : (xs.map (·.k)).Nodup) {x y : KvV} (hx : x ∈ xs) (hy : y ∈ xs) (hk : x.k ≠ y.k) : ∀ id ∈ blkOf x.W, id ∉ blkOf y.W := by
 unfold DisA at h
 intro id h1 h2
 rcases List.mem_iff_getElem.1 hx with ⟨i, hi, rfl⟩
 rcases List.mem_iff_getElem.1 hy with ⟨j, hj, rfl⟩
 rcases Nat.lt_trichotomy i j with q | q | q
 ·exact List.pairwise_iff_getElem.1 h i j hi hj q id h1 h2
 ·subst q; exact hk rfl
 ·exact List.pairwise_iff_getElem.1 h j i hj hi q id h2 h1
theorem DisA.set {xs : List KvV} {y : KvV} (h : DisA xs) (hy : ∀ x ∈ xs, x.k ≠ y.k → (∀ id ∈ blkOf x.W, id ∉ blkOf y.W)) (hd : (xs.map (·.k)).Nodup) : DisA (setV xs y) := by
 unfold setV
 split
 ·rename_i hin
  unfold DisA at h ⊢
  clear hin
  induction xs with
  | nil => exact List.Pairwise.nil
  | cons x xs ih =>
   rw [List.map_cons] at hd ⊢
   rw [List.nodup_cons] at hd
   rw [List.pairwise_cons] at h ⊢
   refine ⟨fun z hz => ?_, ih h.2 (fun w hw => hy w (List.mem_cons_of_mem _ hw)) hd.2⟩
   obtain ⟨w, hw, rfl⟩ := List.mem_map.1 hz
   have hxw : x.k ≠ w.k := fun q => hd.1 (q ▸ List.mem_map_of_mem hw)
   by_cases h1 : x.k = y.k
   ·rw [if_pos h1, if_neg (fun q => hxw (h1.trans q.symm))]
    intro id a b
    exact hy w (List.mem_cons_of_mem _ hw) (fun q => hxw (h1.trans q.symm)) id b a
   ·rw [if_neg h1]
    split
    ·exact hy x (List.mem_cons_self ..) h1
    ·exact h.1 w hw
 ·rename_i hin
  unfold DisA at h ⊢
  rw [List.pairwise_append]
  refine ⟨h, by simp, fun x hx z hz => ?_⟩
  rw [List.mem_singleton.1 hz]
  exact hy x hx (fun q => hin (q ▸ List.mem_map_of_mem hx))
theorem tgs_one {names : List (List UInt8)} {k : List UInt8} {ts : List Tg} {e : Nat} (h : (ts, e) = tgsF names false [k] [] 0) (he : e = 0 ∨ e = 6) : ts = [(ptF k).1] := by
 rw [tgsF] at h
 split at h
 ·obtain ⟨_, h2⟩ := Prod.mk.inj h
  omega
 ·exact (Prod.mk.inj h).1
theorem TabP.not {s : SS} {tb a b : Nat} {W : Option Addr} {cw n : Nat} {cs : List Value} (h : TabP s tb a b) (o : OwnR tTg s W cw n cs) : tb ∉ blkOf W := by
 intro q
 cases W with
 | none => simp [blkOf] at q
 | some ad =>
  obtain ⟨b2, off, sp⟩ := ad
  obtain ⟨_, _, _, g, h4, _⟩ := o
  simp [blkOf] at q
  subst q
  rw [h.at_] at h4
  exact absurd (ABlk.cells.inj (Option.some.inj h4)).2.1 (by decide)
theorem all1_tgC (t : Tg) : all1 (tgC t) = true := rfl
set_option maxHeartbeats 2000000 in
theorem keepListed_w {s : SS} {tb a b n0 : Nat} {ls : List KvV} {x : EnV} {name : List UInt8} {r : KvV} (f : Fine s) (hF : FrT s) (hG : Gb s) (hT : TabP s tb a b) (hM : MapK s b ls) (hR : RowsA n0 s ls) (hD : DisA ls) (h0 : n0 ≤ s.next) (hr : r ∈ ls) (hrk : r.k = name) (hrn : r.ts.length ≤ 10000) (hk : x.e.k.length ≤ 1000000) :
  CallW pr n_alias_Table_keepListed [ptrV tb, str name, .agg ⟨enC x⟩] s fun v s' => ∃ ls' Z, v = .int .i64 ((keepL name (ls.map kvT) x.e).2 : Int) ∧ ls'.map kvT = (keepL name (ls.map kvT) x.e).1 ∧ MapK s' b ls' ∧ RowsA n0 s' ls' ∧ DisA ls' ∧ Chg s s' Z ∧ (∀ id ∈ Z, id = b ∨ n0 ≤ id ∧ ∃ y ∈ ls, id ∈ blkOf y.W) ∧ (∃ r' ∈ ls', r'.k = name ∧ r'.ts.length ≤ r.ts.length + 1) := by
 refine CallW.run good ok_alias_Table_keepListed (by simp) rfl ?_
 (try refine pSeq ?_); (repeat(first|refine sb ?_|refine kNo ?_))
 have c0 : Chg s { s with heap := (s.next, some (.cells (enC x) tEn13 false false)) :: s.heap, next := s.next + 1 } [] := .new []
 refine ldS_is (l := x.e.k) rfl lkH rfl ?_
 (repeat(first|refine sb ?_|refine kNo ?_))
 obtain ⟨s1, hs1⟩ : ∃ s1 : SS, s1 = { s with heap := (s.next + 1, some (.cells [str x.e.k] tS false false)) :: (s.next, some (.cells (enC x) tEn13 false false)) :: s.heap, next := s.next + 1 + 1 } := ⟨_, rfl⟩
 have c01 : Chg s s1 [] := by rw [hs1]; exact c0.nil (.new [])
 have kt : lookH s1.heap (s.next + 1) = some (.cells [str x.e.k] tS false false) := by rw [hs1]; exact lkH
 have n1 : s1.next = s.next + 2 := by rw [hs1]
 have key := targets_w (ws := [x.e.k]) (alone := false) (cw := 1) (W := some ⟨s.next + 1, 0, none⟩) (c01.fine f) (hF.chg c01 (by simp)) (hG.chg c01 (by simp)) (hT.chg c01 (by simp)) (hM.chg c01 (by simp)) (.inr ⟨s.next + 1, _, _, _, rfl, by omega, _, kt, fun i w hw => by
  cases i with
  | zero => cases hw; rfl
  | succ i => cases hw⟩) (by simp) (fun w hw => by obtain rfl := List.mem_singleton.1 hw; exact hk)
 refine ((congrArg (fun z => CallW pr n_alias_Table_targets [ptrV tb, .slice (some ⟨s.next + 1, 0, none⟩) 1 1, .bool false] z _) hs1).mp key).mono fun v s2 q => ?_
 clear key
 obtain ⟨V, ts, e, rfl, hE, oV, hV, c2⟩ := q
 have c02 := c01.nil c2
 have n2 := c2.next
 have hkeys : (ls.map kvT).map (·.1) = ls.map (·.k) := by rw [List.map_map]; rfl
 have hget : getK (ls.map kvT) name = some r.ts := by
  rw [getV_K]
  have : getV ls name = some r := by
   unfold getV
   cases h : ls.find? (fun x => decide (x.k = name)) with
   | none => exact absurd (decide_eq_true hrk) (by have := List.find?_eq_none.1 h r hr; simpa using this)
   | some y =>
    have h1 := List.mem_of_find?_eq_some h
    have h2 := List.find?_some h
    rw [decide_eq_true_eq] at h2
    have h3 := filt_one hM.nd hr
    have h4 : y ∈ ls.filter (fun y => decide (y.k = r.k)) := List.mem_filter.2 ⟨h1, by rw [decide_eq_true_eq, h2, hrk]⟩
    rw [h3] at h4
    rw [List.mem_singleton.1 h4]
  rw [this]
  rfl
 have hkp : keepL name (ls.map kvT) x.e = if e = 0 ∨ e = 6 then (setK (ls.map kvT) name (r.ts ++ ts), e) else (ls.map kvT, e) := by
  unfold keepL
  rw [hkeys, ← hE, hget]
  rfl
 rw [hkp]
 (repeat(first|refine sb ?_|refine kNo ?_))
 refine (holds_w (c := e)).mono fun v s2' q => ?_
 obtain ⟨rfl, rfl⟩ := q
 by_cases he : e = 0 ∨ e = 6
 ·rw [decide_eq_true he, if_pos he]
  have hts := tgs_one hE he
  have hfd : fdV ls name = r.v := by
   unfold fdV
   have : (getV ls name).map (·.ts) = some r.ts := by rw [← getV_K]; exact hget
   cases hg : getV ls name with
   | none => rw [hg] at this; cases this
   | some y =>
    obtain ⟨h1, h2⟩ := getV_in hg
    have h3 := filt_one hM.nd hr
    have h4 : y ∈ ls.filter (fun y => decide (y.k = r.k)) := List.mem_filter.2 ⟨h1, by rw [decide_eq_true_eq, h2, hrk]⟩
    rw [h3] at h4
    rw [List.mem_singleton.1 h4]
  have t2 := hT.chg c02 (by simp)
  have m2 := hM.chg c02 (by simp)
  have r2 := hR.chg c02 (fun _ _ _ _ q => by cases q)
  (repeat(first|refine sb ?_|refine kNo ?_))
  refine ld1_is (v := .map (some b)) rfl t2.at_ rfl ?_
  (repeat(first|refine sb ?_|refine kNo ?_))
  refine ld1_is (v := .map (some b)) rfl t2.at_ rfl ?_
  (repeat(first|refine sb ?_|refine kNo ?_))
  refine gen_look (z := name) (ok := false) m2 rfl rfl rfl ?_
  rw [hfd]
  (repeat(first|refine sb ?_|refine kNo ?_))
  obtain ⟨bv, gv, hVe, kv⟩ := oV.pos (by rw [hts]; exact Nat.one_pos)
  subst hts
  subst hVe
  refine appRk14 (k := 1) (by decide) (r2 r hr).1 (tgCs_len r.ts) ⟨by omega, by omega⟩ rfl rfl kv rfl (all1_tgC _) fun s3 o3 c3 n3 => ?_
  have n3 : s3.next = s2'.next + 1 := n3
  have or := (r2 r hr).1
  have tb3 := t2.chg c3 (t2.not or)
  refine kEach ⟨fun _ => ld1_is rfl tb3.at_ rfl rfl, trivial⟩ ?_
  (repeat(first|refine sb ?_|refine kNo ?_))
  have m3 := m2.chg c3 (m2.not or)
  refine gen_upd ⟨name, r.ts ++ [(ptF x.e.k).1], some ⟨s2'.next, 0, none⟩⟩ m3 rfl rfl rfl (by show some (Value.slice _ (r.ts.length + 1) 0) = some (.slice _ (r.ts ++ [(ptF x.e.k).1]).length 0); rw [List.length_append]; rfl) fun s4 m4 c4 n4 => ?_
  (repeat(first|refine sb ?_|refine kNo ?_))
  have n4 : s4.next = s3.next := n4
  have o3' : TgO s3 (some ⟨s2'.next, 0, none⟩) (r.ts ++ [(ptF x.e.k).1]) := by
   show OwnR tTg s3 _ 0 (r.ts ++ [(ptF x.e.k).1]).length (tgCs (r.ts ++ [(ptF x.e.k).1]))
   rw [List.length_append, tgCs_app]
   exact o3
  have low : ∀ y ∈ ls, ∀ id ∈ blkOf y.W, id < s2'.next := fun y hy id hid => (r2 y hy).1.lt id hid
  have hset : (setV ls ⟨name, r.ts ++ [(ptF x.e.k).1], some ⟨s2'.next, 0, none⟩⟩) = ls.map (fun z => if z.k = name then ⟨name, r.ts ++ [(ptF x.e.k).1], some ⟨s2'.next, 0, none⟩⟩ else z) := by
   unfold setV
   rw [if_pos (show name ∈ ls.map (·.k) from hrk ▸ List.mem_map_of_mem hr)]
  refine ⟨_, b :: blkOf r.W, rfl, setV_T ls _, m4, ?_, DisA.set hD (fun y hy _ id hid q => by simp [blkOf] at q; have := low y hy id hid; omega) hM.nd, ?_, fun id hid => ?_, ⟨name, r.ts ++ [(ptF x.e.k).1], some ⟨s2'.next, 0, none⟩⟩, ?_, rfl, by show (r.ts ++ [_]).length ≤ _; rw [List.length_append]; exact Nat.le_refl _⟩
  ·rw [hset]
   intro z hz
   obtain ⟨y, hy, rfl⟩ := List.mem_map.1 hz
   by_cases hyk : y.k = name
   ·rw [if_pos hyk]
    exact ⟨o3'.chg c4 (fun id hid q => by obtain rfl := List.mem_singleton.1 q; exact m3.not o3' hid), fun id hid => by simp [blkOf] at hid; have := c02.next; omega⟩
   ·rw [if_neg hyk]
    have oy := (r2 y hy).1.chg c3 (fun id hid q => hD.two hM.nd hy hr (by rw [hrk]; exact hyk) id hid q)
    exact ⟨oy.chg c4 (fun id hid q => by obtain rfl := List.mem_singleton.1 q; exact m3.not oy hid), (hR y hy).2⟩
  ·exact c02.nil (c3.trans' c4 (C := b :: blkOf r.W) (fun id hid _ => List.mem_cons_of_mem _ hid) (fun id hid _ => by rw [List.mem_singleton.1 hid]; exact List.mem_cons_self ..))
  ·rcases List.mem_cons.1 hid with rfl | hid
   ·exact .inl rfl
   ·exact .inr ⟨(hR r hr).2 id hid, r, hr, hid⟩
  ·rw [hset]
   exact List.mem_map.2 ⟨r, hr, by rw [if_pos hrk]⟩
 ·rw [decide_eq_false he, if_neg he]
  (repeat(first|refine sb ?_|refine kNo ?_))
  refine ⟨ls, [], rfl, rfl, hM.chg c02 (by simp), hR.chg c02 (fun _ _ _ _ q => by cases q), hD, c02, by simp, r, hr, hrk, by omega⟩
end Go.Vf.S
end
section
namespace Go.Proofs
open Go.Shelf
def Tryz.lays125_ren : Go.Shelf.Ren := ⟨fun | 125 => 77 | 128 => 117 | 129 => 118 | n => n, fun | 46 => 91 | 3 => 3 | 51 => 173 | 53 => 175 | 4 => 4 | 5 => 5 | 9 => 9 | n => n, fun | n => n⟩
theorem Tryz.lays125 : Go.Proofs.Lays.n125 Tryz.prog Tryz.lays125_ren := {
 mixed := by kernel_rfl
 f125 := Tryz.func77.trans (congrArg some (by kernel_rfl))
 f128 := Tryz.func117.trans (congrArg some (by kernel_rfl))
 f129 := Tryz.func118.trans (congrArg some (by kernel_rfl))
 t3 := Tryz.underlying3
 a3 := Tryz.isAgg3
 z3 := Tryz.sizeOf3
 v3 := Tryz.zeroValue3
 t4 := Tryz.underlying4
 a4 := Tryz.isAgg4
 z4 := Tryz.sizeOf4
 v4 := Tryz.zeroValue4
 t5 := Tryz.underlying5
 a5 := Tryz.isAgg5
 z5 := Tryz.sizeOf5
 v5 := Tryz.zeroValue5
 t9 := Tryz.underlying9
 a9 := Tryz.isAgg9
 z9 := Tryz.sizeOf9
 v9 := Tryz.zeroValue9
 t46 := Tryz.underlying91
 a46 := Tryz.isAgg91
 z46 := Tryz.sizeOf91
 v46 := Tryz.zeroValue91
 t51 := Tryz.underlying173
 a51 := Tryz.isAgg173
 z51 := Tryz.sizeOf173
 v51 := Tryz.zeroValue173
 t53 := Tryz.underlying175
 a53 := Tryz.isAgg175
 z53 := Tryz.sizeOf175
 v53 := Tryz.zeroValue175 }
end Go.Proofs
end
section
namespace Go.Vf.S
open Go Go.Vf Go.Proofs Go.RowKit
attribute [local irreducible] wSeq wRow wp wG
set_option linter.unusedVariables false
set_option linter.unusedSimpArgs false
set_option maxRecDepth 10000
theorem fl_len {α : Type} {f : α → List Value} {n : Nat} (hf : ∀ x, (f x).length = n) (R : List α) : (R.flatMap f).length = R.length * n := by
 induction R with
 | nil => simp
 | cons x R ih => rw [List.flatMap_cons, List.length_append, ih, List.length_cons, hf, Nat.succ_mul, Nat.add_comm]
theorem fl_drop {α : Type} {f : α → List Value} {n : Nat} (hf : ∀ x, (f x).length = n) (R : List α) (k : Nat) : (R.flatMap f).drop (k * n) = (R.drop k).flatMap f := by
 induction R generalizing k with
 | nil => simp
 | cons x R ih =>
  cases k with
  | zero => simp
  | succ k =>
   rw [List.drop_succ_cons, ← ih k, List.flatMap_cons, List.drop_append, Nat.succ_mul, List.drop_of_length_le (by rw [hf]; omega), List.nil_append, hf]
   congr 1
   omega
theorem fl_take {α : Type} {f : α → List Value} {n : Nat} (hf : ∀ x, (f x).length = n) {R : List α} {k : Nat} {x : α} (h : R[k]? = some x) : takeN n ((R.flatMap f).drop (k * n)) = some (f x) := by
 obtain ⟨hk, e⟩ := List.getElem?_eq_some_iff.1 h
 rw [fl_drop hf, List.drop_eq_getElem_cons hk, e, List.flatMap_cons, takeN_take _ _ (by rw [List.length_append, hf]; omega), ← hf x, List.take_left]
theorem setRow_front : ∀ (b c m : List Value), b.length = m.length → setRow (b ++ c) 0 m = some (m ++ c)
 | [], c, [], _ => by cases c <;> rfl
 | x :: b, c, y :: m, h => by
  rw [List.cons_append, List.cons_append]
  simp only [setRow, setRow_front b c m (by simpa using h)]
theorem setRow_mid : ∀ (a b c m : List Value), b.length = m.length → setRow (a ++ (b ++ c)) a.length m = some (a ++ (m ++ c))
 | [], b, c, m, h => setRow_front b c m h
 | x :: a, b, c, m, h => by
  rw [List.cons_append, List.length_cons, List.cons_append]
  simp only [setRow, setRow_mid a b c m h]
theorem fl_set {α : Type} {f : α → List Value} {n : Nat} (hf : ∀ x, (f x).length = n) (P Q : List α) (x y : α) {off : Nat} (ho : off = P.length * n) : setRow ((P ++ x :: Q).flatMap f) off (f y) = some ((P ++ y :: Q).flatMap f) := by
 rw [List.flatMap_append, List.flatMap_append, List.flatMap_cons, List.flatMap_cons, ho, ← fl_len hf P]
 exact setRow_mid _ _ _ _ (by rw [hf, hf])
abbrev tFl : TypeId := 32
def fltC (x : Flt) : List Value := [str x.inn, .int .i64 (x.line : Int), .int .i64 (x.code : Int)]
theorem fltC_len (x : Flt) : (fltC x).length = 3 := rfl
def fltCs (fs : List Flt) : List Value := fs.flatMap fltC
abbrev FlO (s : SS) (W : Option Addr) (fs : List Flt) : Prop := OwnR tFl s W 0 fs.length (fltCs fs)
theorem insR_at {P Q : List Flt} {x : Flt} (hQ : ∀ y ∈ Q, x.line < y.line) (hP : ∀ y, P.getLast? = some y → ¬x.line < y.line) : insR (P ++ Q) x = P ++ x :: Q := by
 have h1 : ∀ (l m : List Flt), (∀ y ∈ l, x.line < y.line) → (l ++ m).takeWhile (fun y => decide (x.line < y.line)) = l ++ m.takeWhile (fun y => decide (x.line < y.line)) ∧ (l ++ m).dropWhile (fun y => decide (x.line < y.line)) = m.dropWhile (fun y => decide (x.line < y.line)) := by
  intro l m h
  induction l with
  | nil => exact ⟨rfl, rfl⟩
  | cons z l ih =>
   have hz := h z (List.mem_cons_self ..)
   have := ih fun y hy => h y (List.mem_cons_of_mem _ hy)
   rw [List.cons_append, List.takeWhile_cons, if_pos (decide_eq_true hz), List.dropWhile_cons, if_pos (decide_eq_true hz), this.1, this.2]
   exact ⟨rfl, rfl⟩
 have h2 : P.reverse.takeWhile (fun y => decide (x.line < y.line)) = [] ∧ P.reverse.dropWhile (fun y => decide (x.line < y.line)) = P.reverse := by
  cases hr : P.reverse with
  | nil => exact ⟨rfl, rfl⟩
  | cons z l =>
   have hz : P.getLast? = some z := by rw [← List.head?_reverse, hr]; rfl
   have := hP z hz
   rw [List.takeWhile_cons, if_neg (by simpa using this), List.dropWhile_cons, if_neg (by simpa using this)]
   exact ⟨rfl, rfl⟩
 unfold insR
 rw [List.reverse_append, (h1 Q.reverse P.reverse (fun y hy => hQ y (List.mem_reverse.1 hy))).1, (h1 Q.reverse P.reverse (fun y hy => hQ y (List.mem_reverse.1 hy))).2, h2.1, h2.2, List.append_nil, List.reverse_reverse, List.reverse_reverse]
theorem isNaN_w {s : SS} {z : Int} : CallW pr n_cmp_isNaN_int [.int .i64 z] s fun v s' => v = .bool false ∧ s' = s := by
 refine CallW.run good ok_cmp_isNaN_int (by simp) rfl ?_
 (try refine pSeq ?_); (repeat refine sb ?_)
 intro q hq
 obtain rfl : q = false := by rw [hq]; simp
 (repeat refine sb ?_)
 exact ⟨rfl, rfl⟩
def cmpZ (x y : Nat) : Int := if x < y then -1 else if y < x then 1 else 0
theorem cmpI_w {s : SS} {x y : Nat} : CallW pr n_cmp_Compare_int [.int .i64 (x : Int), .int .i64 (y : Int)] s fun v s' => v = .int .i64 (cmpZ x y) ∧ s' = s := by
 refine CallW.run good ok_cmp_Compare_int (by simp) rfl ?_
 (try refine pSeq ?_); (repeat refine sb ?_)
 refine isNaN_w.mono fun v s q => ?_
 obtain ⟨rfl, rfl⟩ := q
 (repeat refine sb ?_)
 refine isNaN_w.mono fun v s q => ?_
 obtain ⟨rfl, rfl⟩ := q
 unfold cmpZ
 (repeat refine sb ?_)
 intro q hq
 by_cases h1 : x < y
 ·obtain rfl : q = true := by rw [hq]; simp; omega
  rw [if_pos h1]
  (repeat refine sb ?_)
  exact ⟨rfl, rfl⟩
 ·obtain rfl : q = false := by rw [hq]; simp; omega
  rw [if_neg h1]
  (repeat refine sb ?_)
  intro q hq
  by_cases h2 : y < x
  ·obtain rfl : q = true := by rw [hq]; simp; omega
   rw [if_pos h2]
   (repeat refine sb ?_)
   exact ⟨rfl, rfl⟩
  ·obtain rfl : q = false := by rw [hq]; simp; omega
   rw [if_neg h2]
   (repeat refine sb ?_)
   exact ⟨rfl, rfl⟩
abbrev fCm : Nat := n_alias_read_1
theorem cmpF_w {s : SS} {x y : Flt} : CallW pr fCm [.agg ⟨fltC x⟩, .agg ⟨fltC y⟩] s fun v s' => v = .int .i64 (cmpZ x.line y.line) ∧ Chg s s' [] := by
 refine CallW.run good ok_alias_read_1 (by simp) rfl ?_
 (try refine pSeq ?_); (repeat refine sb ?_)
 have c1 : Chg s { s with heap := (s.next + 1, some (.cells (fltC y) tFl false false)) :: (s.next, some (.cells (fltC x) tFl false false)) :: s.heap, next := s.next + 1 + 1 } [] := (Chg.new []).nil (.new [])
 refine ldI_is (z := (x.line : Int)) rfl (cs := fltC x) (lkT (by show s.next + 1 ≠ s.next; omega) lkH) rfl ?_
 (repeat refine sb ?_)
 refine ldI_is (z := (y.line : Int)) rfl lkH rfl ?_
 (repeat refine sb ?_)
 refine cmpI_w.mono fun v s2 q => ?_
 obtain ⟨rfl, rfl⟩ := q
 (repeat refine sb ?_)
 exact ⟨rfl, c1⟩
theorem gen_cmp {T : TL} {s : SS} {K : RR → Prop} {x a b : Tmp} {ts : Array TypeId} {u w : Value} (hx : look T x = some (fnV fCm)) (ha : look T a = some u) (hb : look T b = some w) (hK : K (.call fCm [u, w])) : wN pr (.gen (.call ⟨.value (.tmp x), #[.tmp a, .tmp b], ts⟩)) T s K := by
 refine ⟨.call fCm [u, w], ?_, hK⟩
 simp only [aOp, operand, operands, toTr_get, hx, ha, hb]
 exact (show callV pr (fnV fCm) [u, w] = some (.enter fCm ([] ++ [u, w] ++ [])) by kernel_rfl)
structure SoIx where
 i : Nat
 s : SS
structure SiIx where
 P : List Flt
 Q : List Flt
 s : SS
set_option maxHeartbeats 2000000 in
theorem insertion_w {s : SS} {V : Option Addr} {fs : List Flt} (f : Fine s) (h : FlO s V fs) (hn : fs.length ≤ 12) : CallW pr n_slices_insertionSortCmpFunc_alias_Fault [.slice V fs.length 0, .int .i64 0, .int .i64 (fs.length : Int), fnV fCm] s fun v s' => v = .tuple #[] ∧ FlO s' V (srtF fs) ∧ Chg s s' (blkOf V) := by
 refine CallW.run good ok_slices_insertionSortCmpFunc_alias_Fault (by simp) rfl ?_
 (try refine pSeq ?_); (repeat(first|refine sb ?_|refine kNo ?_|refine gOn rfl ?_|refine gOff rfl rfl ?_|refine gTup rfl ?_))
 intro z hz
 rw [i64_id (by omega)] at hz
 obtain rfl : z = ((1 : Nat) : Int) := by omega
 (repeat(first|refine sb ?_|refine kNo ?_|refine gOn rfl ?_|refine gOff rfl rfl ?_|refine gTup rfl ?_))
 rcases Nat.eq_zero_or_pos fs.length with hz0 | hpos
 ·have h0 : fs = [] := List.eq_nil_of_length_eq_zero hz0
  subst h0
  refine pLoop (MW.head good (fun x : Nat => x) (fun x => True) (fun x => [(2, .int .i64 0), (8, .int .i64 1)]) (fun x => s) 0 trivial (Wk.same ⟨rfl, rfl, trivial⟩) ?_)
  intro x _
  (repeat(first|refine sb ?_|refine kNo ?_|refine gOn rfl ?_|refine gOff rfl rfl ?_|refine gTup rfl ?_))
  intro q hq
  obtain rfl : q = false := by rw [hq]; rfl
  (repeat(first|refine sb ?_|refine kNo ?_|refine gOn rfl ?_|refine gOff rfl rfl ?_|refine gTup rfl ?_))
  exact ⟨rfl, h, .refl _ _⟩
 obtain ⟨b, g, hV, kb⟩ := h.pos hpos
 subst hV
 have lb := h.lt b (by simp [blkOf])
 refine pLoop (MW.head good (fun x : SoIx => fs.length - x.i) (fun x => 1 ≤ x.i ∧ x.i ≤ fs.length ∧ lookH x.s.heap b = some (.cells (fltCs (srtF (fs.take x.i) ++ fs.drop x.i)) tFl g false) ∧ Chg s x.s [b])
  (fun x => [(0, .slice (some ⟨b, 0, none⟩) fs.length 0), (1, .int .i64 0), (2, .int .i64 (fs.length : Int)), (3, fnV fCm), (8, .int .i64 (x.i : Int))]) (fun x => x.s) ⟨1, s⟩ ⟨Nat.le_refl _, hpos, ?_, .refl _ _⟩ (Wk.same ⟨rfl, rfl, rfl, rfl, rfl, trivial⟩) ?_)
 ·obtain ⟨x, r, rfl⟩ : ∃ x r, fs = x :: r := by
   cases fs with
   | nil => simp at hpos
   | cons x r => exact ⟨x, r, rfl⟩
  exact kb
 rintro ⟨i, s1⟩ ⟨h1, hi, k1, c1⟩
 dsimp only at h1 hi k1 c1 ⊢
 (repeat(first|refine sb ?_|refine kNo ?_|refine gOn rfl ?_|refine gOff rfl rfl ?_|refine gTup rfl ?_))
 intro q hq
 by_cases hlt : i < fs.length
 ·obtain rfl : q = true := by rw [hq]; simp; omega
  obtain ⟨x, hx⟩ : ∃ x, fs[i]? = some x := ⟨_, List.getElem?_eq_getElem hlt⟩
  have hdr : fs.drop i = x :: fs.drop (i + 1) := by
   rw [List.drop_eq_getElem_cons hlt, show fs[i] = x from by rw [List.getElem?_eq_getElem hlt] at hx; exact Option.some.inj hx]
  have htk : fs.take (i + 1) = fs.take i ++ [x] := take_next hx
  have hsl : (srtF (fs.take i)).length = i := by rw [(srtF_perm _).length_eq, List.length_take]; omega
  have hss : srtF (fs.take (i + 1)) = insR (srtF (fs.take i)) x := by rw [htk]; unfold srtF; rw [List.foldl_append]; rfl
  rw [hdr] at k1
  (repeat(first|refine sb ?_|refine kNo ?_|refine gOn rfl ?_|refine gOff rfl rfl ?_|refine gTup rfl ?_))
  refine pLoop (MW.head good (fun y : SiIx => y.P.length) (fun y => y.P ++ y.Q = srtF (fs.take i) ∧ (∀ z ∈ y.Q, x.line < z.line) ∧ lookH y.s.heap b = some (.cells (fltCs (y.P ++ x :: (y.Q ++ fs.drop (i + 1)))) tFl g false) ∧ Chg s y.s [b])
   (fun y => [(0, .slice (some ⟨b, 0, none⟩) fs.length 0), (1, .int .i64 0), (2, .int .i64 (fs.length : Int)), (3, fnV fCm), (8, .int .i64 (i : Int)), (9, .int .i64 (y.P.length : Int))]) (fun y => y.s) ⟨srtF (fs.take i), [], s1⟩ ⟨List.append_nil _, by simp, k1, c1⟩ (Wk.same ⟨rfl, rfl, rfl, rfl, rfl, by dsimp only; rw [hsl]; rfl, trivial⟩) ?_)
  rintro ⟨P, Q, s2⟩ ⟨hPQ, hQ, k2, c2⟩
  dsimp only at hPQ hQ k2 c2 ⊢
  have hpl : P.length ≤ i := by have := congrArg List.length hPQ; rw [List.length_append, hsl] at this; omega
  (repeat(first|refine sb ?_|refine kNo ?_|refine gOn rfl ?_|refine gOff rfl rfl ?_|refine gTup rfl ?_))
  intro q hq
  rcases List.eq_nil_or_concat P with rfl | ⟨P', y, rfl⟩
  ·obtain rfl : q = false := by rw [hq]; rfl
   (repeat(first|refine sb ?_|refine kNo ?_|refine gOn rfl ?_|refine gOff rfl rfl ?_|refine gTup rfl ?_))
   intro z hz
   rw [i64_id (by omega)] at hz
   (repeat(first|refine sb ?_|refine kNo ?_|refine gOn rfl ?_|refine gOff rfl rfl ?_|refine gTup rfl ?_))
   refine ⟨⟨i + 1, s2⟩, ⟨by show 1 ≤ i + 1; omega, by show i + 1 ≤ fs.length; omega, ?_, c2⟩, by show fs.length - (i + 1) < fs.length - i; omega, Wk.same ⟨rfl, rfl, rfl, rfl, by rw [show z = ((i + 1 : Nat) : Int) by omega]; rfl, trivial⟩⟩
   show lookH s2.heap b = some (.cells (fltCs (srtF (fs.take (i + 1)) ++ fs.drop (i + 1))) tFl g false)
   rw [hss, ← hPQ, insR_at hQ (by simp), List.append_assoc, List.cons_append]
   exact k2
  ·have hjl : (P'.concat y).length = P'.length + 1 := by simp
   have hcc : P'.concat y = P' ++ [y] := by simp
   rw [hcc] at hPQ k2 hpl
   rw [hjl] at hq
   rw [hjl]
   rw [List.length_append, List.length_singleton] at hpl
   obtain rfl : q = true := by rw [hq]; simp
   have hbl : b < s2.next := Nat.lt_of_lt_of_le lb c2.next
   have hg1 : ((P' ++ [y]) ++ x :: (Q ++ fs.drop (i + 1)))[P'.length + 1]? = some x := by
    rw [List.getElem?_append_right (by simp), List.length_append, List.length_singleton, Nat.sub_self]; rfl
   have hg2 : ((P' ++ [y]) ++ x :: (Q ++ fs.drop (i + 1)))[P'.length]? = some y := by
    rw [List.append_assoc, List.getElem?_append_right (Nat.le_refl _), Nat.sub_self]; rfl
   (repeat(first|refine sb ?_|refine kNo ?_|refine gOn rfl ?_|refine gOff rfl rfl ?_|refine gTup rfl ?_))
   refine ⟨by omega, ?_⟩
   intro m hm o ho
   obtain rfl : m = P'.length + 1 := by omega
   (repeat(first|refine sb ?_|refine kNo ?_|refine gOn rfl ?_|refine gOff rfl rfl ?_|refine gTup rfl ?_))
   refine ldN_is rfl k2 (by rw [ho, Nat.zero_add]; exact fl_take fltC_len hg1) ?_
   (repeat(first|refine sb ?_|refine kNo ?_|refine gOn rfl ?_|refine gOff rfl rfl ?_|refine gTup rfl ?_))
   intro z hz
   rw [i64_id (by omega)] at hz
   (repeat(first|refine sb ?_|refine kNo ?_|refine gOn rfl ?_|refine gOff rfl rfl ?_|refine gTup rfl ?_))
   refine ⟨by omega, ?_⟩
   intro m2 hm2 o2 ho2
   obtain rfl : m2 = P'.length := by omega
   (repeat(first|refine sb ?_|refine kNo ?_|refine gOn rfl ?_|refine gOff rfl rfl ?_|refine gTup rfl ?_))
   refine ldN_is rfl k2 (by rw [ho2, Nat.zero_add]; exact fl_take fltC_len hg2) ?_
   (repeat(first|refine sb ?_|refine kNo ?_|refine gOn rfl ?_|refine gOff rfl rfl ?_|refine gTup rfl ?_))
   refine gen_cmp rfl rfl rfl ?_
   (repeat(first|refine sb ?_|refine kNo ?_|refine gOn rfl ?_|refine gOff rfl rfl ?_|refine gTup rfl ?_))
   refine cmpF_w.mono fun v s3 q => ?_
   obtain ⟨rfl, c3⟩ := q
   (repeat(first|refine sb ?_|refine kNo ?_|refine gOn rfl ?_|refine gOff rfl rfl ?_|refine gTup rfl ?_))
   intro q2 hq2
   have k3 := c3.blk _ _ hbl (by simp) k2
   have c23 := c2.trans' c3 (C := [b]) (fun _ h _ => h) (fun _ h _ => by cases h)
   have hbl3 : b < s3.next := Nat.lt_of_lt_of_le hbl c3.next
   by_cases hxy : x.line < y.line
   ·obtain rfl : q2 = true := by rw [hq2]; unfold cmpZ; rw [if_pos hxy]; rfl
    (repeat(first|refine sb ?_|refine kNo ?_|refine gOn rfl ?_|refine gOff rfl rfl ?_|refine gTup rfl ?_))
    intro z4 hz4
    rw [i64_id (by omega)] at hz4
    (repeat(first|refine sb ?_|refine kNo ?_|refine gOn rfl ?_|refine gOff rfl rfl ?_|refine gTup rfl ?_))
    intro z5 hz5
    rw [i64_id (by omega)] at hz5
    (repeat(first|refine sb ?_|refine kNo ?_|refine gOn rfl ?_|refine gOff rfl rfl ?_|refine gTup rfl ?_))
    refine ⟨by omega, ?_⟩
    intro m4 hm4 o4 ho4
    obtain rfl : m4 = P'.length := by omega
    (repeat(first|refine sb ?_|refine kNo ?_|refine gOn rfl ?_|refine gOff rfl rfl ?_|refine gTup rfl ?_))
    refine ldN_is rfl k3 (by rw [ho4, Nat.zero_add]; exact fl_take fltC_len hg2) ?_
    (repeat(first|refine sb ?_|refine kNo ?_|refine gOn rfl ?_|refine gOff rfl rfl ?_|refine gTup rfl ?_))
    refine ⟨by omega, ?_⟩
    intro m5 hm5 o5 ho5
    obtain rfl : m5 = P'.length + 1 := by omega
    (repeat(first|refine sb ?_|refine kNo ?_|refine gOn rfl ?_|refine gOff rfl rfl ?_|refine gTup rfl ?_))
    refine ldN_is rfl k3 (by rw [ho5, Nat.zero_add]; exact fl_take fltC_len hg1) ?_
    (repeat(first|refine sb ?_|refine kNo ?_|refine gOn rfl ?_|refine gOff rfl rfl ?_|refine gTup rfl ?_))
    refine ⟨by omega, ?_⟩
    intro m6 hm6 o6 ho6
    obtain rfl : m6 = P'.length + 1 := by omega
    (repeat(first|refine sb ?_|refine kNo ?_|refine gOn rfl ?_|refine gOff rfl rfl ?_|refine gTup rfl ?_))
    refine st_abs (cs' := fltCs ((P' ++ [y]) ++ y :: (Q ++ fs.drop (i + 1)))) rfl rfl k3 hbl3 rfl (by exact fl_set fltC_len (P' ++ [y]) _ x y (by rw [ho6, List.length_append, List.length_singleton]; omega)) fun s4 k4 c4 n4 => ?_
    (repeat(first|refine sb ?_|refine kNo ?_|refine gOn rfl ?_|refine gOff rfl rfl ?_|refine gTup rfl ?_))
    refine ⟨by omega, ?_⟩
    intro m7 hm7 o7 ho7
    obtain rfl : m7 = P'.length := by omega
    have n4 : s4.next = s3.next := n4
    have k4' : lookH s4.heap b = some (.cells (fltCs (P' ++ y :: (y :: (Q ++ fs.drop (i + 1))))) tFl g false) := by
     rw [List.append_assoc] at k4
     exact k4
    (repeat(first|refine sb ?_|refine kNo ?_|refine gOn rfl ?_|refine gOff rfl rfl ?_|refine gTup rfl ?_))
    refine st_abs (cs' := fltCs (P' ++ x :: (y :: (Q ++ fs.drop (i + 1))))) rfl rfl k4' (by omega) rfl (by exact fl_set fltC_len P' _ y x (by rw [ho7, Nat.zero_add])) fun s5 k5 c5 n5 => ?_
    (repeat(first|refine sb ?_|refine kNo ?_|refine gOn rfl ?_|refine gOff rfl rfl ?_|refine gTup rfl ?_))
    intro z8 hz8
    rw [i64_id (by omega)] at hz8
    (repeat(first|refine sb ?_|refine kNo ?_|refine gOn rfl ?_|refine gOff rfl rfl ?_|refine gTup rfl ?_))
    refine ⟨⟨P', y :: Q, s5⟩, ⟨by rw [← hPQ]; simp, fun w hw => (List.mem_cons.1 hw).elim (fun e => by rw [e]; exact hxy) (hQ w), k5, (c23.trans' c4 (C := [b]) (fun _ h _ => h) (fun _ h _ => h)).trans' c5 (C := [b]) (fun _ h _ => h) (fun _ h _ => h)⟩, by show P'.length < (P'.concat y).length; rw [hjl]; omega, Wk.same ⟨rfl, rfl, rfl, rfl, rfl, by rw [show z8 = (P'.length : Int) by omega]; rfl, trivial⟩⟩
   ·obtain rfl : q2 = false := by rw [hq2]; unfold cmpZ; rw [if_neg hxy]; split <;> rfl
    (repeat(first|refine sb ?_|refine kNo ?_|refine gOn rfl ?_|refine gOff rfl rfl ?_|refine gTup rfl ?_))
    intro z hz
    rw [i64_id (by omega)] at hz
    (repeat(first|refine sb ?_|refine kNo ?_|refine gOn rfl ?_|refine gOff rfl rfl ?_|refine gTup rfl ?_))
    refine ⟨⟨i + 1, s3⟩, ⟨by show 1 ≤ i + 1; omega, by show i + 1 ≤ fs.length; omega, ?_, c23⟩, by show fs.length - (i + 1) < fs.length - i; omega, Wk.same ⟨rfl, rfl, rfl, rfl, by rw [show z = ((i + 1 : Nat) : Int) by omega]; rfl, trivial⟩⟩
    show lookH s3.heap b = some (.cells (fltCs (srtF (fs.take (i + 1)) ++ fs.drop (i + 1))) tFl g false)
    rw [hss, ← hPQ, insR_at hQ (fun w hw => by rw [List.getLast?_concat] at hw; obtain rfl := Option.some.inj hw; exact hxy), List.append_assoc, List.cons_append]
    exact k3
 ·obtain rfl : q = false := by rw [hq]; simp; omega
  obtain rfl : i = fs.length := by omega
  (repeat(first|refine sb ?_|refine kNo ?_|refine gOn rfl ?_|refine gOff rfl rfl ?_|refine gTup rfl ?_))
  refine ⟨rfl, ?_, c1⟩
  rw [List.take_length, List.drop_length, List.append_nil] at k1
  refine ⟨rfl, rfl, Nat.lt_of_lt_of_le lb c1.next, g, k1, ?_⟩
  obtain ⟨_, _, _, g2, h4, h5⟩ := h
  rw [kb] at h4
  obtain rfl := (ABlk.cells.inj (Option.some.inj h4)).2.2.1
  rw [(srtF_perm fs).length_eq]
  exact h5
theorem bitsLen_w {s : SS} {z : Nat} (hz : z ≤ 1000000) : CallW pr 77 [.int .u64 (z : Int)] s fun v s' => v = .int .i64 (Lib.bitLen (z : Int).toNat) ∧ s' = s := by
 refine CallW.kit rfl fun B w0 ρ args' w H hr => ?_
 obtain ⟨v1, rfl, q1⟩ := lrel_1 hr
 obtain rfl := int_inv q1
 refine (Any.bits_Len Tryz.lays125 (z : Int) w (by omega) (by omega)).mono fun e w' he => ?_
 obtain ⟨rfl, rfl⟩ := he
 exact ⟨rfl, .refl _ _⟩
theorem pdq_w {s : SS} {V : Option Addr} {fs : List Flt} {z : Int} (f : Fine s) (h : FlO s V fs) (hn : fs.length ≤ 12) : CallW pr n_slices_pdqsortCmpFunc_alias_Fault [.slice V fs.length 0, .int .i64 0, .int .i64 (fs.length : Int), .int .i64 z, fnV fCm] s fun v s' => v = .tuple #[] ∧ FlO s' V (srtF fs) ∧ Chg s s' (blkOf V) := by
 refine CallW.run good ok_slices_pdqsortCmpFunc_alias_Fault (by simp) rfl ?_
 (try refine pSeq ?_); (repeat(first|refine sb ?_|refine kNo ?_|refine gOn rfl ?_|refine gOff rfl rfl ?_|refine gTup rfl ?_))
 refine pLoop (MW.head good (fun x : Nat => x) (fun x => True) (fun x => [(0, .slice V fs.length 0), (1, .int .i64 0), (2, .int .i64 (fs.length : Int)), (4, fnV fCm)]) (fun x => s) 0 trivial (Wk.same ⟨rfl, rfl, rfl, rfl, trivial⟩) ?_)
 intro x _
 (repeat(first|refine sb ?_|refine kNo ?_|refine gOn rfl ?_|refine gOff rfl rfl ?_|refine gTup rfl ?_))
 intro z2 hz2
 rw [i64_id (by omega)] at hz2
 (repeat(first|refine sb ?_|refine kNo ?_|refine gOn rfl ?_|refine gOff rfl rfl ?_|refine gTup rfl ?_))
 intro q hq
 obtain rfl : q = true := by rw [hq]; simp; omega
 (repeat(first|refine sb ?_|refine kNo ?_|refine gOn rfl ?_|refine gOff rfl rfl ?_|refine gTup rfl ?_))
 refine (insertion_w f h hn).mono fun v s2 q => ?_
 obtain ⟨rfl, h2, c2⟩ := q
 (repeat(first|refine sb ?_|refine kNo ?_|refine gOn rfl ?_|refine gOff rfl rfl ?_|refine gTup rfl ?_))
 exact ⟨rfl, h2, c2⟩
theorem sort14_w {s : SS} {V : Option Addr} {fs : List Flt} (f : Fine s) (h : FlO s V fs) (hn : fs.length ≤ 12) : CallW pr n_slices_SortFunc_alias_Fault_alias_Fault [.slice V fs.length 0, fnV fCm] s fun v s' => v = .tuple #[] ∧ FlO s' V (srtF fs) ∧ Chg s s' (blkOf V) := by
 refine CallW.run good ok_slices_SortFunc_alias_Fault_alias_Fault (by simp) rfl ?_
 (try refine pSeq ?_); (repeat refine sb ?_)
 intro z hz
 rw [u64_id (by omega)] at hz
 subst hz
 (repeat refine sb ?_)
 refine (bitsLen_w (by omega)).mono fun v s q => ?_
 obtain ⟨rfl, rfl⟩ := q
 (repeat refine sb ?_)
 refine (pdq_w f h hn).mono fun v s2 q => ?_
 obtain ⟨rfl, h2, c2⟩ := q
 (repeat refine sb ?_)
 exact ⟨rfl, h2, c2⟩
end Go.Vf.S
end
section
namespace Go.Vf.S
open Go Go.Vf
set_option linter.unusedVariables false
set_option linter.unusedSimpArgs false
set_option maxRecDepth 10000
theorem vw_word : ∀ (n : Nat) (l : List UInt8), ∀ w ∈ (vwF n l).1, w.length ≤ l.length
 | 0, l, w, h => by unfold vwF at h; cases h
 | n + 1, l, w, h => by
  obtain ⟨h1, h2, _⟩ := lp_len 44 l
  rw [vwF] at h
  split at h
  ·rw [List.mem_singleton.1 h]; exact h1
  ·rcases List.mem_cons.1 h with rfl | h
   ·exact h1
   ·exact Nat.le_trans (vw_word n _ w h) h2
theorem en_sz {vals : Bool} {x : Sai} (h : (enF vals x).2 = 0) : (enF vals x).1.vs.length ≤ 16 ∧ ∀ w ∈ (enF vals x).1.vs, w.length ≤ x.t.length := by
 cases vals with
 | true =>
  rw [en_true] at h ⊢
  split at h
  ·cases h
  ·rename_i hc
   rw [if_neg hc]
   have hl := (lp_len 58 x.t).2.1
   generalize hV : vwE (vwA (lpF 58 x.t).2.1).2 (vwA (lpF 58 x.t).2.1).1 = V at *
   obtain ⟨ws, e⟩ := V
   cases e with
   | zero =>
    unfold vwE at hV
    split at hV
    ·cases hV
    ·split at hV
     ·cases hV
     ·obtain ⟨rfl, _⟩ := Prod.mk.inj hV
      exact ⟨(show (vwA (lpF 58 x.t).2.1).1.length ≤ 16 by omega), fun w hw => Nat.le_trans (vw_word _ _ w hw) hl⟩
   | succ e => exact ⟨Nat.zero_le _, fun w hw => by cases hw⟩
 | false =>
  rw [en_false] at h ⊢
  split at h
  ·cases h
  ·rename_i hc
   rw [if_neg hc]
   exact ⟨Nat.zero_le _, fun w hw => by cases hw⟩
theorem tb_from {vals : Bool} : ∀ (rows : List Sai) (es : List Ent) (fs : List (Nat × Nat)), ∀ e ∈ (tbG vals rows es fs).1, e ∈ es ∨ ∃ x ∈ rows, (enF vals x).2 = 0 ∧ e = (enF vals x).1
 | [], es, fs, e, h => .inl h
 | x :: r, es, fs, e, h => by
  rw [tbG] at h
  have up : (e ∈ es ∨ ∃ y ∈ r, (enF vals y).2 = 0 ∧ e = (enF vals y).1) → e ∈ es ∨ ∃ y ∈ x :: r, (enF vals y).2 = 0 ∧ e = (enF vals y).1 := fun q => q.imp id fun ⟨y, a, b⟩ => ⟨y, List.mem_cons_of_mem _ a, b⟩
  split at h
  ·exact up (tb_from r es _ e h)
  ·rename_i h0
   split at h
   ·exact up (tb_from r es _ e h)
   ·split at h
    ·exact up (tb_from r es _ e h)
    ·rcases tb_from r _ fs e h with q | q
     ·rcases List.mem_append.1 q with q | q
      ·exact .inl q
      ·exact .inr ⟨x, List.mem_cons_self .., by omega, List.mem_singleton.1 q⟩
     ·exact up (.inr q)
theorem tab_sz {l : List UInt8} {vals : Bool} : ∀ e ∈ (tabF l vals).1, e.k.length ≤ l.length + 1 ∧ e.vs.length ≤ 16 ∧ ∀ w ∈ e.vs, w.length ≤ l.length + 1 := by
 intro e he
 unfold tabF at he
 split at he
 ·cases he
 ·rcases tb_from _ _ _ e he with q | ⟨x, hx, h0, rfl⟩
  ·cases q
  ·have h1 := saF_len x hx
   obtain ⟨h2, h3⟩ := en_sz h0
   exact ⟨Nat.le_trans (en_key h0).2 h1, h2, fun w hw => Nat.le_trans (h3 w hw) h1⟩
theorem tb_few {vals : Bool} : ∀ (rows : List Sai) (es : List Ent) (fs : List (Nat × Nat)), es.length ≤ 64 → (tbG vals rows es fs).1.length ≤ 64
 | [], es, fs, h => h
 | x :: r, es, fs, h => by
  rw [tbG]
  split
  ·exact tb_few r es _ h
  ·split
   ·exact tb_few r es _ h
   ·split
    ·exact tb_few r es _ h
    ·exact tb_few r _ fs (by rw [List.length_append, List.length_singleton]; omega)
theorem tab_few (l : List UInt8) (vals : Bool) : (tabF l vals).1.length ≤ 64 := by
 unfold tabF
 split
 ·exact Nat.zero_le _
 ·exact tb_few _ _ _ (Nat.zero_le _)
theorem kp_more (keep : Kv → Ent → Kv × Nat) (inn : List UInt8) : ∀ (es : List Ent) (m : Kv) (fs : List Flt), fs.length ≤ (kpF keep inn es m fs).2.length
 | [], m, fs => Nat.le_refl _
 | e :: r, m, fs => by
  rw [kpF]
  refine Nat.le_trans ?_ (kp_more keep inn r _ _)
  split
  ·rw [List.length_append]; omega
  ·exact Nat.le_refl _
end Go.Vf.S
end
section
namespace Go.Vf.S
open Go Go.Vf
set_option linter.unusedVariables false
set_option linter.unusedSimpArgs false
set_option maxRecDepth 10000
structure WL (w : List UInt8) : Prop where
 all : ∀ c ∈ w, wlB c = true
 n1 : 1 ≤ w.length
 n10 : w.length ≤ 10
 hd : w.head? = some 107
theorem wr_WL (l : List UInt8) : WL (wrF l) := ⟨wr_all, (wr_len l).1, by have := (wr_len l).2; omega, rfl⟩
theorem wr_WLc (l : List UInt8) {c : UInt8} (h : wlB c = true) : WL (wrF l ++ [c]) := by
 have := wr_len l
 refine ⟨fun d hd => (List.mem_append.1 hd).elim (wr_all d) (fun q => by rw [List.mem_singleton.1 q]; exact h), by rw [List.length_append]; omega, by rw [List.length_append, List.length_singleton]; omega, rfl⟩
theorem WL.no {w : List UInt8} (h : WL w) {c : UInt8} (hc : wlB c = false) : c ∉ w := fun q => by rw [h.all c q] at hc; cases hc
theorem WL.nm {w : List UInt8} (h : WL w) : nmF w = true := by
 unfold nmF
 rw [Bool.and_eq_true, decide_eq_true_eq, List.all_eq_true]
 exact ⟨⟨h.n1, by have := h.n10; omega⟩, fun c hc => (wl_is c (h.all c hc)).1⟩
theorem WL.dot {w : List UInt8} (h : WL w) : dotF w = true := by
 have h46 : w.count 46 = 0 := List.count_eq_zero.2 (h.no (by decide))
 unfold dotF
 rw [split_last h46, List.all_cons, List.all_nil, Bool.and_true]
 unfold atomF
 rw [Bool.and_eq_true, List.all_eq_true]
 refine ⟨fun c hc => (wl_is c (h.all c hc)).2.1, ?_⟩
 cases w with
 | nil => have := h.n1; simp at this
 | cons c w => rfl
theorem WL.loc {w : List UInt8} (h : WL w) : locF w = true := by
 unfold locF
 rw [Bool.and_eq_true, decide_eq_true_eq]
 exact ⟨by have := h.n10; omega, h.dot⟩
theorem low_id {w : List UInt8} (h : ∀ c ∈ w, lowB c = c) : w.map lowB = w := by
 conv => rhs; rw [← List.map_id w]
 exact List.map_congr_left h
theorem WL.low {w : List UInt8} (h : WL w) : w.map lowB = w := low_id fun c hc => (wl_is c (h.all c hc)).2.2.1
theorem WL.ne {w : List UInt8} (h : WL w) : w ≠ [] := fun e => by have := h.n1; rw [e] at this; simp at this
theorem WL.may {w : List UInt8} (h : WL w) : mayF w farL = true := by
 unfold mayF
 exact decide_eq_true ⟨h.ne, by have := h.n10; omega, List.all_eq_true.2 fun c hc => (wl_is c (h.all c hc)).2.2.2.2.2, far_dom⟩
theorem WL.text {w : List UInt8} (h : WL w) : textF w farL = w ++ 64 :: farL := by
 unfold textF wordF
 rw [if_pos h.may, if_pos h.dot]
theorem WL.tx {w : List UInt8} (h : WL w) : w.all txB = true := List.all_eq_true.2 fun c hc => (wl_is c (h.all c hc)).2.2.2.1
theorem WL.raw {p w : List UInt8} (h : WL w) (hp : ∀ c, p.head? = some c → wsB c = false) (h44 : (44 : UInt8) ∉ p) (h34 : (34 : UInt8) ∉ p) (ht : p.all txB = true) : RawW (p ++ w) := by
 have hl : w.getLast? = some (w.getLast h.ne) := List.getLast?_eq_some_getLast h.ne
 have hm : wlB (w.getLast h.ne) = true := h.all _ (List.getLast_mem _)
 have hh := h.hd
 refine ⟨?_, fun q => (List.mem_append.1 q).elim h44 (h.no (by decide)), fun q => (List.mem_append.1 q).elim h34 (h.no (by decide)), by rw [List.all_append, ht, h.tx]; rfl⟩
 cases p with
 | nil => exact ⟨107, _, by rw [List.nil_append]; exact hh, by decide, hl, (wl_is _ hm).2.2.2.2.1⟩
 | cons x p =>
  refine ⟨x, w.getLast h.ne, rfl, hp x rfl, ?_, (wl_is _ hm).2.2.2.2.1⟩
  rw [List.getLast?_append, hl]
  rfl
structure PlL (l : List UInt8) : Prop where
 bare : bareB l
 n34 : (34 : UInt8) ∉ l
 tx : l.all txB = true
 n35 : l.head? ≠ some 35
theorem RawW.pl {l : List UInt8} (h : RawW l) (h35 : l.head? ≠ some 35) : PlL l := ⟨h.bare, h.n34, h.tx, h35⟩
theorem PlL.no10 {l : List UInt8} (h : PlL l) : (10 : UInt8) ∉ l := fun q => by have := List.all_eq_true.1 h.tx 10 q; cases this
theorem PlL.lnE {l : List UInt8} (h : PlL l) : lnE l = l := by
 unfold Go.Vf.S.lnE
 rw [if_neg]
 intro q
 have := List.all_eq_true.1 h.tx 13 (List.mem_of_getLast? q)
 cases this
theorem en_pl {l : List UInt8} (h : PlL l) (n : Nat) : enF false ⟨n, l, false⟩ = (⟨n, l, []⟩, 0) := by
 unfold enF
 rw [if_neg (by simp [h.tx]), if_pos rfl]
 rw [if_neg h.n34, bare_trB h.bare]
def txP (ls : List (List UInt8)) : List UInt8 := ls.flatMap fun l => l ++ [10]
theorem sp_pl : ∀ ls : List (List UInt8), (∀ l ∈ ls, PlL l) → splitF 10 (txP ls) = ls ++ [[]]
 | [], _ => rfl
 | l :: r, h => by
  have ih := sp_pl r fun x hx => h x (by simp [hx])
  have e : txP (l :: r) = l ++ 10 :: txP r := by unfold txP; rw [List.flatMap_cons]; simp
  rw [e, split_first (h l (by simp)).no10, ih]
  rfl
def saP : Nat → List (List UInt8) → List Sai
 | _, [] => []
 | n, l :: r => ⟨n, l, false⟩ :: saP (n + 1) r
theorem sa_pl : ∀ (ls : List (List UInt8)) (n : Nat) (cur : Option (Nat × List UInt8)), (∀ l ∈ ls, PlL l) → saG n cur (ls ++ [[]]) = flS cur ++ saP n ls
 | [], n, cur, _ => by
  show saG n cur [[]] = _
  rw [saG, if_pos (.inl rfl), saG]
  simp [saP]
 | l :: r, n, cur, h => by
  have hl := h l (by simp)
  have ih := fun cur => sa_pl r (n + 1) cur fun x hx => h x (by simp [hx])
  have hb := bare_trB hl.bare
  obtain ⟨c, d, g1, g2, _⟩ := hl.bare
  show saG n cur (l :: (r ++ [[]])) = _
  rw [saG, hl.lnE, hb, if_neg (fun q => q.elim (fun e => by rw [e] at g1; cases g1) hl.n35), if_neg (by unfold ctB; rw [g1]; simp [g2]), ih]
  rfl
def enP : Nat → List (List UInt8) → List Ent
 | _, [] => []
 | n, l :: r => ⟨n, l, []⟩ :: enP (n + 1) r
theorem tb_pl : ∀ (ls : List (List UInt8)) (n : Nat) (es : List Ent), (∀ l ∈ ls, PlL l) → es.length + ls.length ≤ 64 → (∀ l ∈ ls, ∀ e ∈ es, lwF e.k ≠ lwF l) → ls.Pairwise (fun a b => lwF a ≠ lwF b) → tbG false (saP n ls) es [] = (es ++ enP n ls, [])
 | [], n, es, _, _, _, _ => by rw [saP, tbG, enP, List.append_nil]
 | l :: r, n, es, h, hl, hn, hp => by
  rw [List.length_cons] at hl
  rw [List.pairwise_cons] at hp
  have hen := en_pl (h l (by simp)) n
  rw [saP, tbG, hen]
  dsimp only
  rw [if_neg (by simp), if_neg (by omega), if_neg (by
   show ¬hasK es l = true
   unfold hasK
   rw [Bool.not_eq_true, List.any_eq_false]
   intro e he
   rw [decide_eq_true_eq]
   exact hn l (by simp) e he), tb_pl r (n + 1) (es ++ [(⟨n, l, []⟩ : Ent)]) (fun x hx => h x (by simp [hx])) (by rw [List.length_append, List.length_singleton]; omega) (fun x hx e he => by
   rcases List.mem_append.1 he with he | he
   ·exact hn x (by simp [hx]) e he
   ·rw [List.mem_singleton.1 he]
    exact hp.1 x hx) hp.2, enP, List.append_assoc]
  rfl
theorem tab_pl {ls : List (List UInt8)} (h : ∀ l ∈ ls, PlL l) (hn : ls.length ≤ 64) (hp : ls.Pairwise fun a b => lwF a ≠ lwF b) (hl : (txP ls).length ≤ 8192) : tabF (txP ls) false = (enP 1 ls, []) := by
 unfold tabF
 rw [if_neg (by omega)]
 unfold saF
 rw [sp_pl ls h, sa_pl ls 1 none h]
 exact tb_pl ls 1 [] h (by simpa using hn) (by simp) hp
end Go.Vf.S
end

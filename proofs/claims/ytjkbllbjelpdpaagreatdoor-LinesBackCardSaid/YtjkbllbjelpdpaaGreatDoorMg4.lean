import Derived.Test.YtjkbllbjelpdpaaGreatDoorMg3
import Derived.Test.YtjkbllbjelpdpaaGreatDoorAdS
import Derived.Test.YtjkbllbjelpdpaaGreatDoorMg1
import Derived.Test.YtjkbllbjelpdpaaGreatDoorEngBl
import Derived.Test.YtjkbllbjelpdpaaGreatDoorMg2
import Derived.Test.YtjkbllbjelpdpaaGreatDoorEngBe
import Derived.Lib.Replace
import Derived.Lib.CountLaws
import Derived.Lib.Case
section
/- A text's entries and faults: Parse. -/
namespace Go.Vf.S
open Go Go.Vf Go.Proofs Go.RowKit
attribute [local irreducible] wSeq wRow wp wG
set_option linter.unusedVariables false
set_option linter.unusedSimpArgs false
set_option maxRecDepth 10000

/-! ### Keys are of ASCII -/
theorem all_lp1 {l : List UInt8} {e : UInt8} {p : UInt8 → Bool} (h : l.all p = true) : (lpF e l).1.all p = true := by
  have sub : ∀ m : List UInt8, (∀ c ∈ m, c ∈ l) → m.all p = true := fun m hm => List.all_eq_true.2 fun c hc => List.all_eq_true.1 h c (hm c hc)
  have cutm : ∀ m : List UInt8, ∀ c ∈ (cutF e m).1, c ∈ m := by
    intro m c hc
    rcases cut_two e m with ⟨_, g2⟩ | ⟨a, r, _, g2, g3⟩
    · rw [g2] at hc; exact hc
    · rw [g3] at hc; rw [g2]; exact List.mem_append.2 (.inl hc)
  have trm : ∀ c ∈ trL l, c ∈ l := fun c hc => (List.dropWhile_sublist _).subset hc
  have trr : ∀ m : List UInt8, ∀ c ∈ trR m, c ∈ m := by
    intro m c hc
    obtain ⟨q, _, h2⟩ := trR_dec m
    rw [h2]
    exact List.mem_append.2 (.inl hc)
  have qum : ∀ (b : Bool) (m w t : List UInt8), quG b m = some (w, t) → ∀ c ∈ w, c ∈ m := by
    intro b m
    induction m generalizing b with
    | nil => intro w t q; simp [quG] at q
    | cons x r ih =>
      intro w t q c hc
      have one : ∀ y : List UInt8 × List UInt8, quG false r = some y → (x :: y.1, y.2) = (w, t) → c ∈ x :: r := by
        intro y h1 h2
        cases h2
        rcases List.mem_cons.1 hc with rfl | hc
        · simp
        · exact List.mem_cons_of_mem _ (ih _ _ _ h1 c hc)
      cases b with
      | true =>
        rw [quG] at q
        obtain ⟨y, h1, h2⟩ := Option.map_eq_some_iff.1 q
        exact one y h1 h2
      | false =>
        rw [quG] at q
        split at q
        · cases q; cases hc
        · split at q
          · exact List.mem_cons_of_mem _ (ih _ _ _ q c hc)
          · obtain ⟨y, h1, h2⟩ := Option.map_eq_some_iff.1 q
            exact one y h1 h2
  refine sub _ fun c hc => ?_
  unfold lpF at hc
  split at hc
  · cases hq : quF (trL l).tail with
    | none => rw [hq] at hc; cases hc
    | some y =>
      obtain ⟨w, t⟩ := y
      rw [hq] at hc
      dsimp only at hc
      split at hc
      · exact trm c (List.mem_of_mem_tail (qum _ _ _ _ hq c hc))
      · cases hc
  · split at hc
    · cases hc
    · exact trm c (cutm _ c (trr _ c hc))
theorem tx_asc {l : List UInt8} (h : l.all txB = true) : asc l := by
  intro c hc
  have := List.all_eq_true.1 h c hc
  rcases Nat.lt_or_ge c.toNat 128 with q | q
  · exact q
  · rw [tx_hi q] at this; cases this
theorem en_key {vals : Bool} {x : Sai} (h : (enF vals x).2 = 0) : asc (enF vals x).1.k ∧ (enF vals x).1.k.length ≤ x.t.length := by
  cases vals with
  | true =>
    rw [en_true] at h ⊢
    split at h
    · cases h
    · rename_i hc
      have ht : x.t.all txB = true := by
        cases hx : x.t.all txB with
        | true => rfl
        | false => exact absurd (by simp [hx]) hc
      rw [if_neg hc]
      generalize vwE (vwA (lpF 58 x.t).2.1).2 (vwA (lpF 58 x.t).2.1).1 = V
      obtain ⟨ws, e⟩ := V
      cases e with
      | zero => exact ⟨tx_asc (all_lp1 ht), (lp_len 58 x.t).1⟩
      | succ e => exact ⟨(by intro c hc; cases hc), Nat.zero_le _⟩
  | false =>
    rw [en_false] at h ⊢
    split at h
    · cases h
    · rename_i hc
      have ht : x.t.all txB = true := by
        cases hx : x.t.all txB with
        | true => rfl
        | false => exact absurd (by simp [hx]) hc
      rw [if_neg hc]
      refine ⟨tx_asc (List.all_eq_true.2 fun c hc => List.all_eq_true.1 ht c ?_), trB_len _⟩
      obtain ⟨q, _, h2⟩ := trR_dec (trL x.t)
      exact (List.dropWhile_sublist _).subset (show c ∈ trL x.t by rw [h2]; exact List.mem_append.2 (.inl hc))
/-! ### Faults -/
def flC (x : Nat × Nat) : List Value := [.int .i64 (x.1 : Int), .int .i64 (x.2 : Int)]
def flCs (fs : List (Nat × Nat)) : List Value := fs.flatMap flC
theorem flCs_len (R : List (Nat × Nat)) : (flCs R).length = R.length * 2 := by
  unfold flCs
  induction R with
  | nil => rfl
  | cons x R ih => rw [List.flatMap_cons, List.length_append, ih, List.length_cons]; simp [flC]; omega
theorem flCs_app (R : List (Nat × Nat)) (x : Nat × Nat) : flCs (R ++ [x]) = flCs R ++ flC x := by unfold flCs; rw [List.flatMap_append]; simp
abbrev tFt13 : TypeId := 48
abbrev FsO13 (s : SS) (W : Option Addr) (fs : List (Nat × Nat)) : Prop := OwnR tFt13 s W 0 fs.length (flCs fs)
structure PaIx where
  i : Nat
  xs : List EnV
  fs : List (Nat × Nat)
  W : Option Addr
  V : Option Addr
  s : SS
theorem hasV_K (xs : List EnV) (k : List UInt8) : hasV xs k = hasK (xs.map (·.e)) k := by
  unfold hasV hasK
  rw [List.any_map]
  rfl
/-- Entries of one's own, and where their values lie. -/
structure EsA (s0 s : SS) (W : Option Addr) (xs : List EnV) : Prop where
  own : EsO s W xs
  vals : ∀ x ∈ xs, TsO s x.W x.e.vs
  newW : ∀ id ∈ blkOf W, s0.next ≤ id
  newV : ∀ x ∈ xs, ∀ id ∈ blkOf x.W, s0.next ≤ id
theorem tyNeO {s : SS} {t t' : TypeId} {W V : Option Addr} {n m : Nat} {cs cs' : List Value} (h : OwnR t s W 0 n cs) (h' : OwnR t' s V 0 m cs') (ht : t ≠ t') : ∀ id ∈ blkOf W, id ∉ blkOf V := by
  intro id h1 h2
  obtain ⟨g, k1⟩ := h.at id h1
  obtain ⟨g', k2⟩ := h'.at id h2
  exact absurd rfl (tyNe k1 k2 ht)
/-- Faults that a slice reads. -/
def FlR (s : SS) (V : Option Addr) (fs : List (Nat × Nat)) : Prop := (fs = [] ∨ ∃ b t g r, V = some ⟨b, 0, none⟩ ∧ b < s.next ∧ lookH s.heap b = some (.cells (flCs fs) t g r))
theorem FlR.chg {s s' : SS} {W : Option Addr} {fs : List (Nat × Nat)} {A : List Nat} (h : FlR s W fs) (c : Chg s s' A) (hA : ∀ id ∈ blkOf W, id ∉ A) : FlR s' W fs := by
  rcases h with h | ⟨b, t, g, r, rfl, h1, h2⟩
  · exact .inl h
  · exact .inr ⟨b, t, g, r, rfl, Nat.lt_of_lt_of_le h1 c.next, c.blk _ _ h1 (hA b (by simp [blkOf])) h2⟩
theorem fso_rd {s : SS} {W : Option Addr} {xs : List (Nat × Nat)} (h : FsO13 s W xs) : FlR s W xs := by
  cases W with
  | none => exact .inl (List.eq_nil_of_length_eq_zero h.2.1)
  | some a =>
    obtain ⟨b, off, sp⟩ := a
    obtain ⟨rfl, rfl, h3, g, h4, _⟩ := h
    exact .inr ⟨b, _, _, _, rfl, h3, h4⟩
theorem saCs_take {R : List Sai} {k : Nat} {x : Sai} (h : R[k]? = some x) : takeN 3 ((saCs R).drop (k * 3)) = some (saC x) := by
  obtain ⟨hk, e⟩ := List.getElem?_eq_some_iff.1 h
  rw [saCs_drop, List.drop_eq_getElem_cons hk, e]
  rfl
set_option maxHeartbeats 4000000 in
theorem parse13_w {s : SS} {l : List UInt8} {vals : Bool} (f : Fine s) (hl : l.length ≤ 10000) : CallW pr n_lines_Parse [str l, .bool vals] s fun v s' =>
    ∃ W V cv xs fs, v = .tuple ⟨[.slice W xs.length 0, .slice V fs.length cv]⟩ ∧ (xs.map (·.e), fs) = tabF l vals ∧ EsA s s' W xs ∧ FlR s' V fs ∧ (∀ id ∈ blkOf V, s.next ≤ id) ∧ Chg s s' [] := by
  refine CallW.run good ok_lines_Parse (by simp) rfl ?_
  (try refine pSeq ?_); (repeat refine sb ?_)
  intro n hn
  subst hn
  (repeat refine sb ?_)
  intro q hq
  by_cases hlong : 8192 < l.length
  · obtain rfl : q = true := by rw [hq]; simp; omega
    (repeat refine sb ?_)
    exact ⟨none, some ⟨s.next, 0, none⟩, 1, [], [(0, 3)], rfl, by unfold tabF; rw [if_pos hlong]; rfl, ⟨⟨rfl, rfl, rfl⟩, by simp, by simp [blkOf], by simp⟩, .inr ⟨s.next, _, _, _, rfl, Nat.lt_succ_self _, lkH⟩, by simp [blkOf], .new []⟩
  · obtain rfl : q = false := by rw [hq]; simp; omega
    have htab : tabF l vals = tbG vals (saF l) [] [] := by unfold tabF; rw [if_neg hlong]
    rw [htab]
    (repeat refine sb ?_)
    refine (rows13_w f hl).mono fun v s1 q => ?_
    obtain ⟨Wr, rfl, oR, hWr, c1⟩ := q
    have hRn := saF_many l
    have hRl := saF_len (l := l)
    generalize saF l = R at *
    have lWr := oR.lt
    (repeat refine sb ?_)
    refine pLoop (MW.head good (fun x : PaIx => R.length - x.i) (fun x => x.i ≤ R.length ∧ EsA s1 x.s x.W x.xs ∧ FsO13 x.s x.V x.fs ∧ Chg s1 x.s [] ∧ (∀ id ∈ blkOf x.V, s1.next ≤ id) ∧ tbG vals (R.drop x.i) (x.xs.map (·.e)) x.fs = tbG vals R [] [] ∧ x.xs.length ≤ 64 ∧ x.fs.length ≤ x.i ∧ (∀ y ∈ x.xs, asc y.e.k ∧ y.e.k.length ≤ 100000))
      (fun x => [(1, .bool vals), (4, .slice x.W x.xs.length 0), (5, .slice x.V x.fs.length 0), (16, .slice Wr R.length 0), (17, .int .i64 (R.length : Int)), (18, .int .i64 (x.i : Int))]) (fun x => x.s) ⟨0, [], [], none, none, s1⟩ ⟨Nat.zero_le _, ⟨⟨rfl, rfl, rfl⟩, by simp, by simp [blkOf], by simp⟩, ⟨rfl, rfl, rfl⟩, .refl _ _, by simp [blkOf], rfl, by simp, by simp, by simp⟩ (Wk.same ⟨rfl, rfl, rfl, rfl, rfl, rfl, trivial⟩) ?_)
    rintro ⟨i, xs, fs, W, V, s2⟩ ⟨hi, ⟨oW, oT, hW, hTn⟩, oV, c12, hV, hT, h64, hfi, hasc⟩
    dsimp only at hi oW oT hW hTn oV c12 hV hT h64 hfi hasc ⊢
    (repeat refine sb ?_)
    intro q hq
    by_cases hlt : i < R.length
    · obtain rfl : q = true := by rw [hq]; simp; omega
      obtain ⟨x, hx⟩ : ∃ x, R[i]? = some x := ⟨_, List.getElem?_eq_getElem hlt⟩
      have hxl := hRl x (List.mem_of_getElem? hx)
      have hdr : R.drop i = x :: R.drop (i + 1) := by
        rw [List.drop_eq_getElem_cons hlt, show R[i] = x from by rw [List.getElem?_eq_getElem hlt] at hx; exact Option.some.inj hx]
      have oR2 := oR.chg c12 (fun _ _ q => by cases q)
      obtain ⟨br, gr, rfl, kr⟩ := oR2.pos (by omega)
      (repeat refine sb ?_)
      refine ⟨by omega, ?_⟩
      intro m hm o ho
      obtain rfl : m = i := by omega
      (repeat refine sb ?_)
      refine ldN_is rfl kr (by rw [ho, Nat.zero_add]; exact saCs_take hx) ?_
      (repeat refine sb ?_)
      refine st_abs (cs' := saC x) rfl rfl lkH (Nat.lt_succ_self _) rfl rfl fun s3 e3 c3 n3 => ?_
      have n3 : s3.next = s2.next + 1 := n3
      have c3 : Chg s2 s3 [] := (Chg.new []).fresh c3 (by simp)
      (repeat refine sb ?_)
      refine ldN_is rfl e3 rfl ?_
      have f3 := (c1.nil (c12.nil c3)).fine f
      (repeat refine sb ?_)
      refine (entry13_w (x := x) f3 (by omega)).mono fun v s4 q => ?_
      obtain ⟨k, W', ws, rfl, oN, hW', c4, hE⟩ := q
      have e4 := c4.blk _ _ (show s2.next < s3.next by omega) (by simp) e3
      have n4 := c4.next
      (repeat refine sb ?_)
      refine st_abs (cs' := enC ⟨⟨x.n, k, ws⟩, W'⟩) rfl rfl lkH (Nat.lt_succ_self _) rfl rfl fun s5 e5 c5 n5 => ?_
      have n5 : s5.next = s4.next + 1 := n5
      have c5 : Chg s4 s5 [] := (Chg.new []).fresh c5 (by simp)
      have k7 := c5.blk _ _ (show s2.next < s4.next by omega) (by simp) e4
      have c25 := (c3.nil c4).nil c5
      (repeat refine sb ?_)
      intro q hq
      by_cases he0 : (enF vals x).2 = 0
      · obtain rfl : q = false := by rw [hq, he0]; rfl
        have hE := hE he0
        rw [he0]
        (repeat refine sb ?_)
        intro q hq
        by_cases hfull : xs.length = 64
        · obtain rfl : q = true := by rw [hq]; simp; omega
          have c2X := c25
          have k7X := k7
          have oWX := oW.chg c2X (fun _ _ q => by cases q)
          have oTX := fun y hy => (oT y hy).chg c2X (fun _ _ q => by cases q)
          have oVX := oV.chg c2X (fun _ _ q => by cases q)
          (repeat refine sb ?_)
          intro q hq
          obtain rfl : q = true := by rw [hq]; decide
          (repeat refine sb ?_)
          refine ldI_is (z := (x.n : Int)) rfl k7X rfl ?_
          (repeat refine sb ?_)
          have cm : Chg s5 { s5 with heap := (s5.next, some (.cells (flC (x.n, 7)) tFt13 false false)) :: s5.heap, next := s5.next + 1 } [] := .new []
          refine appR (oVX.chg cm (fun _ _ q => by cases q)) (flCs_len fs) ⟨by omega, by omega⟩ rfl rfl lkH rfl rfl fun s8 o8 c8 n8 => ?_
          have c28 := (c12.nil (c2X.nil cm)).fresh c8 (fun id q => by have := hV id q; omega)
          have cXm := cm.nil c8
          (repeat refine sb ?_)
          intro z2 hz2
          rw [i64_id (by omega)] at hz2
          (repeat refine sb ?_)
          refine ⟨⟨m + 1, xs, fs ++ [(x.n, 7)], W, some ⟨s5.next + 1, 0, none⟩, s8⟩, ⟨by show m + 1 ≤ R.length; omega, ⟨oWX.chg cXm (tyNeO oWX oVX (by decide)), fun y hy => (oTX y hy).chg cXm (tyNeO (oTX y hy) oVX (by decide)), hW, hTn⟩, ?_, c28, fun id q => by simp [blkOf] at q; have := c2X.next; have := c12.next; omega, ?_, h64, by show (fs ++ [_]).length ≤ m + 1; rw [List.length_append, List.length_singleton]; omega, hasc⟩, by show R.length - (m + 1) < R.length - m; omega, Wk.same ⟨rfl, rfl, ?_, rfl, rfl, ?_, trivial⟩⟩
          · show OwnR tFt13 s8 _ 0 (fs ++ [(x.n, 7)]).length (flCs (fs ++ [(x.n, 7)]))
            rw [List.length_append, flCs_app]
            exact o8
          · show tbG vals (R.drop (m + 1)) _ (fs ++ [(x.n, 7)]) = _
            rw [← hT, hdr]
            exact (by rw [tbG, if_neg (by rw [he0]; simp), if_pos (by rw [List.length_map]; omega)])
          · show some (Value.slice _ (fs.length + 1) 0) = some (.slice _ (fs ++ [(x.n, 7)]).length 0)
            rw [List.length_append]
            rfl
          · rw [show z2 = ((m + 1 : Nat) : Int) by omega]; rfl
        · obtain rfl : q = false := by rw [hq]; simp; omega
          (repeat refine sb ?_)
          refine ldS_is (l := k) rfl e5 rfl ?_
          have oW5 := oW.chg c25 (fun _ _ q => by cases q)
          have hk := en_key he0
          rw [hE] at hk
          (repeat refine sb ?_)
          refine (there_w ((c1.nil (c12.nil c25)).fine f) (EsO.rd oW5) (by omega) hasc hk.1).mono fun v sX q => ?_
          obtain ⟨rfl, cX⟩ := q
          have c2X := c25.nil cX
          have k7X := cX.blk _ _ (show s2.next < s5.next by omega) (by simp) k7
          have k8X := cX.blk _ _ (show s4.next < s5.next by omega) (by simp) e5
          have oWX := oW.chg c2X (fun _ _ q => by cases q)
          have oTX := fun y hy => (oT y hy).chg c2X (fun _ _ q => by cases q)
          have oVX := oV.chg c2X (fun _ _ q => by cases q)
          have oNX := oN.chg (c5.nil cX) (fun _ _ q => by cases q)
          cases hth : hasV xs k with
          | true =>
            (repeat refine sb ?_)
            intro q hq
            obtain rfl : q = true := by rw [hq]; decide
            (repeat refine sb ?_)
            refine ldI_is (z := (x.n : Int)) rfl k7X rfl ?_
            (repeat refine sb ?_)
            have cm : Chg sX { sX with heap := (sX.next, some (.cells (flC (x.n, 9)) tFt13 false false)) :: sX.heap, next := sX.next + 1 } [] := .new []
            refine appR (oVX.chg cm (fun _ _ q => by cases q)) (flCs_len fs) ⟨by omega, by omega⟩ rfl rfl lkH rfl rfl fun s8 o8 c8 n8 => ?_
            have c28 := (c12.nil (c2X.nil cm)).fresh c8 (fun id q => by have := hV id q; omega)
            have cXm := cm.nil c8
            (repeat refine sb ?_)
            intro z2 hz2
            rw [i64_id (by omega)] at hz2
            (repeat refine sb ?_)
            refine ⟨⟨m + 1, xs, fs ++ [(x.n, 9)], W, some ⟨sX.next + 1, 0, none⟩, s8⟩, ⟨by show m + 1 ≤ R.length; omega, ⟨oWX.chg cXm (tyNeO oWX oVX (by decide)), fun y hy => (oTX y hy).chg cXm (tyNeO (oTX y hy) oVX (by decide)), hW, hTn⟩, ?_, c28, fun id q => by simp [blkOf] at q; have := c2X.next; have := c12.next; omega, ?_, h64, by show (fs ++ [_]).length ≤ m + 1; rw [List.length_append, List.length_singleton]; omega, hasc⟩, by show R.length - (m + 1) < R.length - m; omega, Wk.same ⟨rfl, rfl, ?_, rfl, rfl, ?_, trivial⟩⟩
            · show OwnR tFt13 s8 _ 0 (fs ++ [(x.n, 9)]).length (flCs (fs ++ [(x.n, 9)]))
              rw [List.length_append, flCs_app]
              exact o8
            · show tbG vals (R.drop (m + 1)) _ (fs ++ [(x.n, 9)]) = _
              rw [← hT, hdr]
              exact (by rw [tbG, if_neg (by rw [he0]; simp), if_neg (by rw [List.length_map]; omega), if_pos (by rw [hE, ← hasV_K]; exact hth)])
            · show some (Value.slice _ (fs.length + 1) 0) = some (.slice _ (fs ++ [(x.n, 9)]).length 0)
              rw [List.length_append]
              rfl
            · rw [show z2 = ((m + 1 : Nat) : Int) by omega]; rfl
          | false =>
            (repeat refine sb ?_)
            intro q hq
            obtain rfl : q = false := by rw [hq]; decide
            (repeat refine sb ?_)
            refine ldN_is (off := 0) (new := enC ⟨⟨x.n, k, ws⟩, W'⟩) rfl k8X rfl ?_
            (repeat refine sb ?_)
            have cm : Chg sX { sX with heap := (sX.next, some (.cells (enC ⟨⟨x.n, k, ws⟩, W'⟩) tEn13 false false)) :: sX.heap, next := sX.next + 1 } [] := .new []
            refine appR (oWX.chg cm (fun _ _ q => by cases q)) (enCs_len xs) ⟨by omega, by omega⟩ rfl rfl lkH rfl rfl fun s8 o8 c8 n8 => ?_
            have c28 := (c12.nil (c2X.nil cm)).fresh c8 (fun id q => by have := hW id q; omega)
            have cXm := cm.nil c8
            (repeat refine sb ?_)
            intro z2 hz2
            rw [i64_id (by omega)] at hz2
            (repeat refine sb ?_)
            refine ⟨⟨m + 1, xs ++ [⟨⟨x.n, k, ws⟩, W'⟩], fs, some ⟨sX.next + 1, 0, none⟩, V, s8⟩, ⟨by show m + 1 ≤ R.length; omega, ⟨?_, ?_, fun id q => by simp [blkOf] at q; have := c2X.next; have := c12.next; omega, ?_⟩, oVX.chg cXm (tyNeO oVX oWX (by decide)), c28, hV, ?_, by show (xs ++ [_]).length ≤ 64; rw [List.length_append, List.length_singleton]; omega, by show fs.length ≤ m + 1; omega, ?_⟩, by show R.length - (m + 1) < R.length - m; omega, Wk.same ⟨rfl, ?_, rfl, rfl, rfl, ?_, trivial⟩⟩
            · show OwnR tEn13 s8 _ 0 (xs ++ [_]).length (enCs (xs ++ [_]))
              rw [List.length_append, enCs_app]
              exact o8
            · intro y hy
              rcases List.mem_append.1 hy with hy | hy
              · exact (oTX y hy).chg cXm (tyNeO (oTX y hy) oWX (by decide))
              · rw [List.mem_singleton.1 hy]
                exact oNX.chg cXm (tyNeO oNX oWX (by decide))
            · intro y hy
              rcases List.mem_append.1 hy with hy | hy
              · exact hTn y hy
              · rw [List.mem_singleton.1 hy]
                intro id q
                have := hW' id q
                have := c12.next
                have := c3.next
                omega
            · show tbG vals (R.drop (m + 1)) ((xs ++ [(⟨⟨x.n, k, ws⟩, W'⟩ : EnV)]).map (·.e)) fs = _
              rw [← hT, hdr, List.map_append, tbG, if_neg (by rw [he0]; simp), if_neg (by rw [List.length_map]; omega), if_neg (by rw [hE, ← hasV_K, hth]; simp), hE]
              rfl
            · intro y hy
              rcases List.mem_append.1 hy with hy | hy
              · exact hasc y hy
              · rw [List.mem_singleton.1 hy]
                have h1 := en_key he0
                rw [hE] at h1
                exact ⟨h1.1, Nat.le_trans h1.2 (by omega)⟩
            · show some (Value.slice _ (xs.length + 1) 0) = some (.slice _ (xs ++ [_]).length 0)
              rw [List.length_append]
              rfl
            · rw [show z2 = ((m + 1 : Nat) : Int) by omega]; rfl
      · obtain rfl : q = true := by rw [hq]; simp; omega
        have c2X := c25
        have k7X := k7
        have oWX := oW.chg c2X (fun _ _ q => by cases q)
        have oTX := fun y hy => (oT y hy).chg c2X (fun _ _ q => by cases q)
        have oVX := oV.chg c2X (fun _ _ q => by cases q)
        (repeat refine sb ?_)
        intro q hq
        obtain rfl : q = true := by rw [hq]; simp; omega
        (repeat refine sb ?_)
        refine ldI_is (z := (x.n : Int)) rfl k7X rfl ?_
        (repeat refine sb ?_)
        have cm : Chg s5 { s5 with heap := (s5.next, some (.cells (flC (x.n, (enF vals x).2)) tFt13 false false)) :: s5.heap, next := s5.next + 1 } [] := .new []
        refine appR (oVX.chg cm (fun _ _ q => by cases q)) (flCs_len fs) ⟨by omega, by omega⟩ rfl rfl lkH rfl rfl fun s8 o8 c8 n8 => ?_
        have c28 := (c12.nil (c2X.nil cm)).fresh c8 (fun id q => by have := hV id q; omega)
        have cXm := cm.nil c8
        (repeat refine sb ?_)
        intro z2 hz2
        rw [i64_id (by omega)] at hz2
        (repeat refine sb ?_)
        refine ⟨⟨m + 1, xs, fs ++ [(x.n, (enF vals x).2)], W, some ⟨s5.next + 1, 0, none⟩, s8⟩, ⟨by show m + 1 ≤ R.length; omega, ⟨oWX.chg cXm (tyNeO oWX oVX (by decide)), fun y hy => (oTX y hy).chg cXm (tyNeO (oTX y hy) oVX (by decide)), hW, hTn⟩, ?_, c28, fun id q => by simp [blkOf] at q; have := c2X.next; have := c12.next; omega, ?_, h64, by show (fs ++ [_]).length ≤ m + 1; rw [List.length_append, List.length_singleton]; omega, hasc⟩, by show R.length - (m + 1) < R.length - m; omega, Wk.same ⟨rfl, rfl, ?_, rfl, rfl, ?_, trivial⟩⟩
        · show OwnR tFt13 s8 _ 0 (fs ++ [(x.n, (enF vals x).2)]).length (flCs (fs ++ [(x.n, (enF vals x).2)]))
          rw [List.length_append, flCs_app]
          exact o8
        · show tbG vals (R.drop (m + 1)) _ (fs ++ [(x.n, (enF vals x).2)]) = _
          rw [← hT, hdr]
          exact (by rw [tbG, if_pos he0])
        · show some (Value.slice _ (fs.length + 1) 0) = some (.slice _ (fs ++ [(x.n, (enF vals x).2)]).length 0)
          rw [List.length_append]
          rfl
        · rw [show z2 = ((m + 1 : Nat) : Int) by omega]; rfl
    · obtain rfl : q = false := by rw [hq]; simp; omega
      obtain rfl : i = R.length := by omega
      rw [List.drop_length, tbG] at hT
      (repeat refine sb ?_)
      exact ⟨W, V, 0, xs, fs, rfl, hT, ⟨oW, oT, fun id q => by have := hW id q; have := c1.next; omega, fun y hy id q => by have := hTn y hy id q; have := c1.next; omega⟩, fso_rd oV, fun id q => by have := hV id q; have := c1.next; omega, c1.nil c12⟩
end Go.Vf.S
end
section
/- Where a builder's check lies in the program. -/
namespace Go.Vf.S
open Go Go.Vf Go.Proofs Go.RowKit
def ccRen : Go.Shelf.Ren := ⟨fun | 240 => 39 | 276 => 69 | n => n, fun | 0 => 0 | 4 => 4 | 9 => 9 | 20 => 20 | 37 => 23 | 70 => 49 | 72 => 51 | 164 => 126 | n => n, fun | n => n⟩
theorem layCC : Go.Proofs.Lays.n240 Tryz.prog ccRen := {
  mixed := by kernel_rfl
  f240 := Tryz.func39.trans (congrArg some (by kernel_rfl))
  f276 := Tryz.func69.trans (congrArg some (by kernel_rfl))
  t0 := Tryz.underlying0
  a0 := Tryz.isAgg0
  z0 := Tryz.sizeOf0
  v0 := Tryz.zeroValue0
  t4 := Tryz.underlying4
  a4 := Tryz.isAgg4
  z4 := Tryz.sizeOf4
  v4 := Tryz.zeroValue4
  t9 := Tryz.underlying9
  a9 := Tryz.isAgg9
  z9 := Tryz.sizeOf9
  v9 := Tryz.zeroValue9
  t20 := Tryz.underlying20
  a20 := Tryz.isAgg20
  z20 := Tryz.sizeOf20
  v20 := Tryz.zeroValue20
  t70 := Tryz.underlying49
  a70 := Tryz.isAgg49
  z70 := Tryz.sizeOf49
  v70 := Tryz.zeroValue49
  t72 := Tryz.underlying51
  a72 := Tryz.isAgg51
  z72 := Tryz.sizeOf51
  v72 := Tryz.zeroValue51
  t164 := Tryz.underlying126
  a164 := Tryz.isAgg126
  z164 := Tryz.sizeOf126
  v164 := Tryz.zeroValue126 }
theorem xCC : Go.Proofs.Builder.X72 Tryz.prog ccRen := {
  sizeBuilder := by kernel_rfl
  liesBuilder := by kernel_rfl }
end Go.Vf.S
end
section
/- A strings.Builder: its calls. -/
namespace Go.Vf.S
open Go Go.Vf Go.Proofs Go.RowKit
attribute [local irreducible] wSeq wRow wp wG
set_option linter.unusedVariables false
set_option linter.unusedSimpArgs false
set_option maxRecDepth 10000

abbrev tBl : TypeId := 51

/-- A builder in a block of its own: where its bytes lie, and which they are. -/
structure Bld (s : SS) (b : Nat) (W : Option Addr) (l : List UInt8) : Prop where
  lt : b < s.next
  cell : ∃ p, lookH s.heap b = some (.cells [p, .slice W l.length 0] tBl false false) ∧ (p = .pointer none ∨ p = .pointer (some ⟨b, 0, none⟩))
  own : Own tB s W l
  nil : l = [] → W = none

theorem Bld.off {s : SS} {b : Nat} {W : Option Addr} {l : List UInt8} (h : Bld s b W l) : ∀ id ∈ blkOf W, id ≠ b := by
  obtain ⟨p, h1, -⟩ := h.cell
  have ho := h.own
  cases W with
  | none => simp [blkOf]
  | some a =>
    obtain ⟨g, off, sp⟩ := a
    obtain ⟨-, -, -, gr, h2, -⟩ := ho
    intro id hid
    simp only [blkOf, List.mem_singleton] at hid
    subst hid
    exact tyNe h2 h1 (by decide)
theorem Bld.chg {s s' : SS} {b : Nat} {W : Option Addr} {l : List UInt8} {A : List Nat} (h : Bld s b W l) (c : Chg s s' A) (hb : b ∉ A) (hA : ∀ id ∈ blkOf W, id ∉ A) : Bld s' b W l := by
  obtain ⟨p, h1, h2⟩ := h.cell
  exact ⟨Nat.lt_of_lt_of_le h.lt c.next, ⟨p, c.blk _ _ h.lt hb h1, h2⟩, h.own.chg c hA, h.nil⟩
theorem Bld.new (s : SS) : Bld { s with heap := (s.next, some (.cells [.pointer none, .slice none 0 0] tBl false false)) :: s.heap, next := s.next + 1 } s.next none [] :=
  ⟨Nat.lt_succ_self _, ⟨_, lkH, .inl rfl⟩, rfl, fun _ => rfl⟩

theorem bytesV_get' {l : List UInt8} {j : Nat} {x : UInt8} (h : l[j]? = some x) : (bytesV l)[j]? = some (.int .u8 x.toNat) := by
  unfold bytesV
  rw [List.getElem?_map, h]
  rfl
theorem ptr_at {ρ : Ren} {b : Nat} {e : RE} {v' : Value} (h : VRel ρ (.pointer (some ⟨b, 0, none⟩)) v') (he : ρ b = some e) (h0 : e.off = 0) : v' = .pointer (some ⟨e.blk, 0, none⟩) := by
  obtain ⟨a', rfl, h1, h2, e1, h3, h4, h5⟩ := ptr_inv h
  rw [he] at h3
  cases h3
  obtain ⟨x, y, z⟩ := a'
  simp only at h2 h4 h5
  rw [h2, h4, h5, h0]

set_option maxHeartbeats 1000000 in
theorem copyCheck_w {s : SS} {b : Nat} {p v : Value} (hb : lookH s.heap b = some (.cells [p, v] tBl false false)) (hp : p = .pointer none ∨ p = .pointer (some ⟨b, 0, none⟩)) (hlt : b < s.next) :
    CallW pr 39 [.pointer (some ⟨b, 0, none⟩)] s fun u s' => u = .tuple ⟨[]⟩ ∧ lookH s'.heap b = some (.cells [.pointer (some ⟨b, 0, none⟩), v] tBl false false) ∧ Chg s s' [b] ∧ s'.next = s.next := by
  have hb' : s.st.heap.get b = some (.cells [p, v] tBl false false) := by rw [SS.get]; exact hb
  rcases hp with rfl | rfl
  · refine ⟨.tuple ⟨[]⟩, { s with heap := (b, some (.cells [.pointer (some ⟨b, 0, none⟩), v] tBl false false)) :: s.heap }, ⟨rfl, lkH, .turn hlt, rfl⟩, Nat.le_refl _, rfl, fun B w0 ρ args' w H ha hf => ?_⟩
    obtain ⟨v1, rfl, q1⟩ := lrel_1 ha
    obtain ⟨a', rfl, h1, h2, e, h3, h4, h5⟩ := ptr_inv q1
    obtain ⟨g1, rc, lo, hi, t0, g2, g3, g4, g5, g6, g7, g8⟩ := H.blk _ _ _ hb' h3
    obtain ⟨rfl, g9⟩ := g3 rfl
    obtain ⟨o0, o1, o2⟩ := g9 rfl
    have e1 := ptr_at q1 h3 o0
    rw [e1]
    simp only [List.length_cons, List.length_nil, o0, Nat.zero_add] at g6 g8 g4
    obtain ⟨v0, r0, r1⟩ := g8 0 _ rfl
    cases r1
    have hlr : 2 ≤ rc.length := by omega
    refine (cc_first layCC xCC (c := 1) (by kernel_rfl) e.blk rc.length w (by simp [World.cell?, g2, r0]) (by simp [World.shape?, g2]; rfl) hlr (by
      have := g4 0 (by omega)
      simp [World.frozen?, g2]
      omega)).mono fun x w' hx => ?_
    obtain ⟨rfl, rfl⟩ := hx
    have hsz : e.blk < w.heap.size := H.lt _ _ h3
    refine ⟨_, ρ, rfl, plain_rel rfl, ?_, .refl _ _ _⟩
    refine H.turn (b' := .cells [.pointer (some ⟨b, 0, none⟩), v] tBl false false) h3 hb' rfl rfl (fun i => ?_) rfl (by simp [World.setCell]) (fun k hk => by simp [World.setCell, Array.getElem?_modify, Ne.symm hk]) rfl rfl rfl ?_
    · rw [SS.get, SS.get]
      show lookH ((b, some _) :: s.heap) i = _
      by_cases q : i = b
      · subst q; rw [if_pos rfl]; exact lkH
      · rw [if_neg q]
        simp only [lookH, beqF (Ne.symm q), cond_false]
    · refine ⟨g1, rc.set 0 (.pointer (some ⟨e.blk, 0, none⟩)), lo, hi, tBl, ?_, fun _ => ⟨rfl, fun _ => ⟨o0, by rw [List.length_set]; exact o1, by rw [List.length_set]; exact o2⟩⟩, ?_, ?_, ?_, g7, ?_⟩
      · simp [World.setCell, Array.getElem?_modify, g2]
      · simpa [o0] using g4
      · rw [List.length_set, o0]; omega
      · simp only [List.length_cons, List.length_nil]; omega
      · intro i u hi
        rw [o0, Nat.zero_add]
        match i, hi with
        | 0, hi =>
          cases hi
          exact ⟨_, by rw [List.getElem?_set_self (by omega)], .pointer ⟨rfl, rfl, e, h3, rfl, by simp [o0]⟩⟩
        | i + 1, hi =>
          obtain ⟨v', p1, p2⟩ := g8 (i + 1) u (by simpa using hi)
          exact ⟨v', by rw [List.getElem?_set_ne (by omega)]; exact p1, p2⟩
  · refine ⟨.tuple ⟨[]⟩, s, ⟨rfl, hb, .refl _ _, rfl⟩, Nat.le_refl _, rfl, fun B w0 ρ args' w H ha hf => ?_⟩
    obtain ⟨v1, rfl, q1⟩ := lrel_1 ha
    obtain ⟨a', rfl, h1, h2, e, h3, h4, h5⟩ := ptr_inv q1
    obtain ⟨g1, rc, lo, hi, t0, g2, g3, g4, g5, g6, g7, g8⟩ := H.blk _ _ _ hb' h3
    obtain ⟨rfl, g9⟩ := g3 rfl
    obtain ⟨o0, o1, o2⟩ := g9 rfl
    have e1 := ptr_at q1 h3 o0
    rw [e1]
    obtain ⟨v0, r0, r1⟩ := g8 0 _ rfl
    have e0 := ptr_at r1 h3 o0
    rw [e0, o0] at r0
    refine (Any.Builder_copyCheck_used layCC xCC e.blk w (by simpa [World.cell?, g2] using r0)).mono fun x w' hx => ?_
    obtain ⟨rfl, rfl⟩ := hx
    exact ⟨_, ρ, rfl, plain_rel rfl, H, .refl _ _ _⟩

set_option maxHeartbeats 1000000 in
theorem bString_w {s : SS} {b : Nat} {W : Option Addr} {l : List UInt8} (h : Bld s b W l) (hl : l.length ≤ 1073741824) : CallW pr n_strings_Builder_String [.pointer (some ⟨b, 0, none⟩)] s fun v s' => v = str l ∧ Chg s s' (blkOf W) ∧ s'.next = s.next := by
  obtain ⟨p, hb, -⟩ := h.cell
  have hb' : s.st.heap.get b = some (.cells [p, .slice W l.length 0] tBl false false) := by rw [SS.get]; exact hb
  have ho := h.own
  cases W with
  | none =>
    obtain rfl : l = [] := ho
    refine ⟨_, s, ⟨rfl, .refl _ _, rfl⟩, Nat.le_refl _, rfl, fun B w0 ρ args' w H ha hf => ?_⟩
    obtain ⟨v1, rfl, q1⟩ := lrel_1 ha
    obtain ⟨a', rfl, h1, h2, e, h3, h4, h5⟩ := ptr_inv q1
    obtain ⟨g1, rc, lo, hi, t0, g2, g3, g4, g5, g6, g7, g8⟩ := H.blk _ _ _ hb' h3
    obtain ⟨rfl, g9⟩ := g3 rfl
    obtain ⟨o0, o1, o2⟩ := g9 rfl
    rw [ptr_at q1 h3 o0]
    obtain ⟨v0, r0, r1⟩ := g8 1 _ rfl
    cases r1
    rw [o0] at r0
    have c1 : w.drew.cell? ⟨e.blk, 1, none⟩ = some (.slice none 0 0) := by
      have : w.drew.heap[e.blk]? = some (.cells ⟨rc⟩ tBl (lo, hi)) := g2
      simpa [World.cell?, this] using r0
    refine (str_first Tryz.lays169 Tryz.Builder_Extra_169 e.blk w (.string .empty) w.drew none 0 0 c1 none rfl (Lib.run_unsafeString_none w.drew _ _ _ none)).mono fun x w' hx => ?_
    obtain ⟨rfl, rfl⟩ := hx
    exact ⟨_, ρ, rfl, .string _, H.drew, .refl _ _ _⟩
  | some a =>
    obtain ⟨g, off, sp⟩ := a
    obtain ⟨rfl, rfl, hg, gr, hgb, hgr⟩ := ho
    have hne : l ≠ [] := fun e => by have := h.nil e; cases this
    have hgt : gr = true := by
      cases gr with
      | true => rfl
      | false => exact absurd (hgr rfl) hne
    subst hgt
    have hpos : 0 < l.length := List.length_pos_iff.2 hne
    have hgb' : s.st.heap.get g = some (.cells (bytesV l) tB true false) := by rw [SS.get]; exact hgb
    refine ⟨_, { s with heap := (g, none) :: s.heap }, ⟨rfl, ⟨rfl, Nat.le_refl _, fun id x hid hA hx => lkT (fun e => hA (by simp [blkOf, e])) hx, fun f id hid => ?_⟩, rfl⟩, Nat.le_refl _, rfl, fun B w0 ρ args' w H ha hf => ?_⟩
    · by_cases e : g = id
      · subst e; exact lkH
      · exact lkN e (f id hid)
    obtain ⟨v1, rfl, q1⟩ := lrel_1 ha
    obtain ⟨a', rfl, h1, h2, e, h3, h4, h5⟩ := ptr_inv q1
    obtain ⟨g1, rc, lo, hi, t0, g2, g3, g4, g5, g6, g7, g8⟩ := H.blk _ _ _ hb' h3
    obtain ⟨rfl, g9⟩ := g3 rfl
    obtain ⟨o0, o1, o2⟩ := g9 rfl
    rw [ptr_at q1 h3 o0]
    obtain ⟨v0, r0, r1⟩ := g8 1 _ rfl
    obtain ⟨a2, c2, rfl, hs⟩ := slice_inv r1
    rw [o0] at r0
    obtain ⟨s1, s2, e2, s3, s4, s5⟩ := hs.resolve_right (fun q => by have := q.2.1; omega)
    obtain ⟨k1, rc2, lo2, hi2, t2, k2, k3, k4, k5, k6, k7, k8⟩ := H.blk _ _ _ hgb' s3
    obtain ⟨rfl, -⟩ := k3 rfl
    rcases s5 with ⟨s5, -⟩ | ⟨-, s6, s7, s8, s9⟩
    · rw [k1] at s5; cases s5
    have s10 : a2.off = e2.off := (s9.resolve_left (by omega)).trans (Nat.add_zero _)
    obtain ⟨x2, y2, z2⟩ := a2
    simp only at s2 s4 s10
    subst s2 s4 s10
    have c1 : w.drew.cell? ⟨e.blk, 1, none⟩ = some (.slice (some ⟨e2.blk, e2.off, none⟩) l.length c2) := by
      have : w.drew.heap[e.blk]? = some (.cells ⟨rc⟩ tBl (lo, hi)) := g2
      simpa [World.cell?, this] using r0
    have k2' : w.drew.heap[e2.blk]? = some (.cells ⟨rc2⟩ tB (lo2, hi2)) := k2
    rw [bytesV_len] at k6
    refine (str_first Tryz.lays169 Tryz.Builder_Extra_169 e.blk w (.string ⟨l.toArray⟩) (w.drew.freeze ⟨e2.blk, e2.off, none⟩ l.length) (some ⟨e2.blk, e2.off, none⟩) l.length c2 c1 (some ⟨e2.blk, e2.off, none⟩) (Lib.run_unsafeSliceData_row _ _ _ _ _ _ (by omega))
      (run_strAt Tryz.lays169.t127 Tryz.Builder_Extra_169.cellsByte e2.blk e2.off rc2.length (by simp [World.shape?, k2']; rfl) l hne (by omega) hl (fun j x hx => ?_))).mono fun x w' hx => ?_
    · have hj := lt_of_get hx
      obtain ⟨v', p1, p2⟩ := k8 j _ (bytesV_get' hx)
      rw [int_inv p2] at p1
      have ea : (⟨e2.blk, e2.off, none⟩ : Addr).add j = ⟨e2.blk, e2.off + j, none⟩ := by
        unfold Addr.add
        split
        · rename_i q; subst q; rfl
        · rfl
      rw [ea]
      simpa [World.cell?, k2'] using p1
    obtain ⟨rfl, rfl⟩ := hx
    have hfz : ∀ k, k ≠ e2.blk → (w.drew.freeze ⟨e2.blk, e2.off, none⟩ l.length).heap[k]? = w.drew.heap[k]? := fun k hk => by
      unfold World.freeze
      split
      · rfl
      · simp [Array.getElem?_modify, Ne.symm hk]
    have hfs : (w.drew.freeze ⟨e2.blk, e2.off, none⟩ l.length).heap.size = w.drew.heap.size := by
      unfold World.freeze
      split <;> simp
    refine ⟨_, ρ, rfl, .string _, H.drew.kill s3 hgb' rfl (fun i => ?_) rfl hfs hfz ?_ ?_ ?_, .refl _ _ _⟩
    · rw [SS.get, SS.get]
      show lookH ((g, none) :: s.heap) i = _
      by_cases q : i = g
      · subst q; rw [if_pos rfl]; exact lkH
      · rw [if_neg q]
        simp only [lookH, beqF (Ne.symm q), cond_false]
    all_goals (unfold World.freeze; split <;> rfl)

/-- A text's bytes behind bytes of one's own. -/
theorem app_str {P : Program} {T : TL} {s : SS} {K : RR → Prop} {x y : Operand} {e : TypeId} {base : Option Addr} {a l : List UInt8} {m : Nat} (ho : Own e s base a) (hm : m = a.length) (hx : opd T s.gl x = some (.slice base m 0)) (hy : opd T s.gl y = some (str l)) (h0 : 0 < l.length) (hb : m + l.length ≤ 1073741824)
    (h : ∀ s' : SS, Own e s' (some ⟨s.next, 0, none⟩) (a ++ l) → Chg s s' (blkOf base) → s'.next = s.next + 1 → K (.eff (.slice (some ⟨s.next, 0, none⟩) (m + l.length) 0) s')) : wN P (.app e 1 1 x y) T s K := by
  simp only [wN, hx, hy, wSrc]
  intro new hnew
  subst hnew
  exact appB_own ho hm rfl h0 (by omega) h
theorem app_str0 {P : Program} {T : TL} {s : SS} {K : RR → Prop} {x y : Operand} {e : TypeId} {base : Option Addr} {a : List UInt8} {m : Nat} (ho : Own e s base a) (hn : a = [] → base = none) (hm : m = a.length) (hx : opd T s.gl x = some (.slice base m 0)) (hy : opd T s.gl y = some (str [])) (hb : m ≤ 1073741824)
    (h : K (.val (.slice base m 0))) : wN P (.app e 1 1 x y) T s K := by
  simp only [wN, hx, hy, wSrc]
  intro new hnew
  subst hnew
  refine ⟨⟨by simp; omega, by simp; omega, rfl, rfl⟩, ?_⟩
  cases base with
  | none =>
    obtain rfl : a = [] := ho
    simp only [List.length_nil] at hm
    subst hm
    exact ⟨fun _ => ⟨rfl, h⟩, fun q => by simp at q⟩
  | some q =>
    obtain ⟨b2, off, sp⟩ := q
    obtain ⟨rfl, rfl, h3, g, h4, h5⟩ := ho
    have hg : g = true := by
      cases g with
      | true => rfl
      | false => have := hn (h5 rfl); cases this
    subst hg
    simp only [h4]
    exact ⟨fun _ => h, fun q => by simp at q⟩

theorem bWrite_w {s : SS} {b : Nat} {W : Option Addr} {l m : List UInt8} (h : Bld s b W l) (hl : l.length + m.length ≤ 1000000000) : CallW pr n_strings_Builder_WriteString [.pointer (some ⟨b, 0, none⟩), str m] s fun v s' =>
    ∃ W', v = .tuple ⟨[.int .i64 m.length, .nilIface]⟩ ∧ Bld s' b W' (l ++ m) ∧ Chg s s' (b :: blkOf W) ∧ ∀ id ∈ blkOf W', id ∈ blkOf W ∨ s.next ≤ id := by
  obtain ⟨p, hb, hp⟩ := h.cell
  refine CallW.run good ok_strings_Builder_WriteString (by simp) rfl ?_
  (try refine pSeq ?_); (repeat refine sb ?_)
  refine (copyCheck_w hb hp h.lt).mono fun v s1 q => ?_
  obtain ⟨rfl, hb1, c1, n1⟩ := q
  have own1 : Own tB s1 W l := h.own.chg c1 (fun id hid q => h.off id hid (by simpa using q))
  have lt1 : b < s1.next := by rw [n1]; exact h.lt
  (repeat refine sb ?_)
  refine ld1_is rfl hb1 rfl ?_
  (repeat refine sb ?_)
  by_cases hm : m = []
  · subst hm
    refine app_str0 own1 h.nil rfl rfl rfl (by omega) ?_
    (repeat refine sb ?_)
    refine st_abs (cs' := [.pointer (some ⟨b, 0, none⟩), .slice W l.length 0]) rfl rfl hb1 lt1 rfl rfl fun s2 e2 c2 n2 => ?_
    (repeat refine sb ?_)
    intro n hn
    (repeat refine sb ?_)
    rw [hn]
    have own2 := own1.chg c2 (fun id hid q => h.off id hid (by simpa using q))
    refine ⟨W, rfl, ⟨by rw [n2]; exact lt1, ⟨_, by rw [List.append_nil]; exact e2, .inr rfl⟩, by rw [List.append_nil]; exact own2, fun e => h.nil (by simpa using e)⟩, ?_, fun id hid => .inl hid⟩
    exact c1.trans' c2 (fun id q _ => by simp at q; simp [q]) (fun id q _ => by simp at q; simp [q])
  · have hpos : 0 < m.length := List.length_pos_iff.2 hm
    refine app_str own1 rfl rfl rfl hpos (by omega) fun s2 o2 c2 n2 => ?_
    have hb2 := c2.blk _ _ lt1 (fun q => h.off _ q rfl) hb1
    (repeat refine sb ?_)
    refine st_abs (cs' := [.pointer (some ⟨b, 0, none⟩), .slice (some ⟨s1.next, 0, none⟩) (l.length + m.length) 0]) rfl rfl hb2 (by omega) rfl rfl fun s3 e3 c3 n3 => ?_
    (repeat refine sb ?_)
    intro n hn
    (repeat refine sb ?_)
    rw [hn]
    refine ⟨some ⟨s1.next, 0, none⟩, rfl, ⟨by omega, ⟨_, by rw [List.length_append]; exact e3, .inr rfl⟩, o2.chg c3 (fun id hid q => by simp [blkOf] at hid q; omega), fun e => absurd e (by simp [hm])⟩, ?_, ?_⟩
    · refine (c1.trans' c2 (C := b :: blkOf W) (fun id q _ => by simp at q; simp [q]) (fun id q _ => by simp [q])).trans' c3 (fun id q _ => q) (fun id q _ => by simp at q; simp [q])
    · intro id hid
      simp only [blkOf, List.mem_singleton] at hid
      exact .inr (by omega)
end Go.Vf.S
end
section
/- The text that entries have: Text. -/
namespace Go.Vf.S
open Go Go.Vf Go.Proofs Go.RowKit
attribute [local irreducible] wSeq wRow wp wG
set_option linter.unusedVariables false
set_option linter.unusedSimpArgs false
set_option maxRecDepth 10000

/-- Values, as they stand behind a key. -/
def vaT : UInt8 → List (List UInt8) → List UInt8
  | _, [] => []
  | c, w :: r => c :: 32 :: qtF w ++ vaT 44 r
def enT (k : List UInt8) (vs : List (List UInt8)) : List UInt8 := qtF k ++ vaT 58 vs ++ [10]
def txE (es : List Ent) : List UInt8 := es.flatMap fun e => enT e.k e.vs
theorem vaT_snoc : ∀ (c : UInt8) (ws : List (List UInt8)) (w : List UInt8), vaT c (ws ++ [w]) = vaT c ws ++ (if ws = [] then c else 44) :: 32 :: qtF w
  | c, [], w => by simp [vaT]
  | c, v :: r, w => by
    rw [List.cons_append, vaT, vaT_snoc 44 r w, vaT]
    by_cases h : r = []
    · subst h; simp [vaT]
    · rw [if_neg h, if_neg (by simp)]; simp
theorem jn_va : ∀ (w : List UInt8) (r : List (List UInt8)), jnV [32] [] (w :: r) = 32 :: qtF w ++ vaT 44 r
  | w, [] => by show [32] ++ qtF w ++ [] = _; simp [vaT]
  | w, v :: r => by
    rw [jnV_two, jn_va v r, vaT]
    simp
theorem enT_et {k : List UInt8} {vs : List (List UInt8)} (h : vs ≠ []) : enT k vs = etL k vs ++ [10] := by
  cases vs with
  | nil => exact absurd rfl h
  | cons w r => unfold enT etL; rw [jn_va, vaT]; simp
/-- A row of texts that a slice reads. -/
def TsR (s : SS) (W : Option Addr) (ws : List (List UInt8)) : Prop := ws = [] ∨ ∃ b t g r, W = some ⟨b, 0, none⟩ ∧ b < s.next ∧ ∃ cs, lookH s.heap b = some (.cells cs t g r) ∧ ∀ (i : Nat) x, ws[i]? = some x → cs[i]? = some (str x)
theorem TsR.nil {s s' : SS} {W : Option Addr} {ws : List (List UInt8)} (h : TsR s W ws) (c : Chg s s' []) : TsR s' W ws := by
  rcases h with h | ⟨b, t, g, r, rfl, h1, cs, h2, h3⟩
  · exact .inl h
  · exact .inr ⟨b, t, g, r, rfl, Nat.lt_of_lt_of_le h1 c.next, cs, c.blk _ _ h1 (by simp) h2, h3⟩
theorem TsO.rd {s : SS} {W : Option Addr} {ws : List (List UInt8)} (h : TsO s W ws) : TsR s W ws := by
  cases W with
  | none => exact .inl (List.eq_nil_of_length_eq_zero h.2.1)
  | some a =>
    obtain ⟨b, off, sp⟩ := a
    obtain ⟨rfl, rfl, h3, g, h4, _⟩ := h
    exact .inr ⟨b, _, _, _, rfl, h3, _, h4, fun i x hx => strV_get hx⟩
/-- Entries that a slice reads, wherever it begins. -/
def EsQ (s : SS) (W : Option Addr) (xs : List EnV) : Prop := xs = [] ∨ ∃ b off t g r cs, W = some ⟨b, off, none⟩ ∧ b < s.next ∧ lookH s.heap b = some (.cells cs t g r) ∧ ∀ (i : Nat) x, xs[i]? = some x → takeN 3 (cs.drop (off + i * 3)) = some (enC x)
theorem EsQ.nil {s s' : SS} {W : Option Addr} {xs : List EnV} (h : EsQ s W xs) (c : Chg s s' []) : EsQ s' W xs := by
  rcases h with h | ⟨b, off, t, g, r, cs, rfl, h1, h2, h3⟩
  · exact .inl h
  · exact .inr ⟨b, off, t, g, r, cs, rfl, Nat.lt_of_lt_of_le h1 c.next, c.blk _ _ h1 (by simp) h2, h3⟩
theorem EsR.q {s : SS} {W : Option Addr} {xs : List EnV} (h : EsR s W xs) : EsQ s W xs := by
  rcases h with h | ⟨b, t, g, r, rfl, h1, h2⟩
  · exact .inl h
  · exact .inr ⟨b, 0, t, g, r, _, rfl, h1, h2, fun i x hx => by rw [Nat.zero_add]; exact enCs_take hx⟩
structure TxIx where
  i : Nat
  W : Option Addr
  s : SS
theorem txE_take {xs : List EnV} {i : Nat} {x : EnV} (h : xs[i]? = some x) : txE ((xs.take (i + 1)).map (·.e)) = txE ((xs.take i).map (·.e)) ++ enT x.e.k x.e.vs := by
  unfold txE
  rw [List.take_add_one, h, List.map_append, List.flatMap_append]
  simp
theorem txE_pre {xs : List EnV} {i : Nat} : (txE ((xs.take i).map (·.e))).length ≤ (txE (xs.map (·.e))).length := by
  have : txE (xs.map (·.e)) = txE ((xs.take i).map (·.e)) ++ txE ((xs.drop i).map (·.e)) := by
    unfold txE
    rw [← List.flatMap_append, ← List.map_append, List.take_append_drop]
  rw [this, List.length_append]
  omega
theorem vaT_pre (c : UInt8) (ws : List (List UInt8)) (j : Nat) : (vaT c (ws.take j)).length ≤ (vaT c ws).length := by
  induction ws generalizing c j with
  | nil => simp
  | cons w r ih =>
    cases j with
    | zero => simp [vaT]
    | succ j =>
      rw [List.take_succ_cons, vaT, vaT]
      have := ih 44 j
      simp only [List.length_append, List.length_cons]
      omega
set_option maxHeartbeats 2000000 in
theorem text13_w {s : SS} {W : Option Addr} {cw : Nat} {xs : List EnV} (f : Fine s) (hx : EsQ s W xs) (hn : xs.length ≤ 1000) (hv : ∀ x ∈ xs, TsR s x.W x.e.vs ∧ asc x.e.k ∧ x.e.k.length ≤ 100000 ∧ x.e.vs.length ≤ 1000 ∧ ∀ w ∈ x.e.vs, asc w ∧ w.length ≤ 100000) (hsz : (txE (xs.map (·.e))).length ≤ 1000000) :
    CallW pr n_lines_Text [.slice W xs.length cw] s fun v s' => v = str (txE (xs.map (·.e))) ∧ Chg s s' [] := by
  refine CallW.run good ok_lines_Text (by simp) rfl ?_
  have B0 := Bld.new s
  (try refine pSeq ?_); (repeat refine sb ?_)
  refine pLoop (MW.head good (fun x : TxIx => xs.length - x.i) (fun x => x.i ≤ xs.length ∧ Bld x.s s.next x.W (txE ((xs.take x.i).map (·.e))) ∧ Chg s x.s [] ∧ ∀ id ∈ blkOf x.W, s.next ≤ id) (fun x => [(3, ptrV s.next), (9, .slice W xs.length cw), (10, .int .i64 (xs.length : Int)), (11, .int .i64 (x.i : Int))]) (fun x => x.s) ⟨0, none, _⟩ ⟨Nat.zero_le _, B0, .new _, by simp [blkOf]⟩ (Wk.same ⟨rfl, rfl, rfl, rfl, trivial⟩) ?_)
  rintro ⟨i, B, s1⟩ ⟨hi, hB, c1, hBn⟩
  dsimp only at hi hB c1 hBn ⊢
  (repeat refine sb ?_)
  intro q hq
  by_cases hlt : i < xs.length
  · obtain rfl : q = true := by rw [hq]; simp; omega
    obtain ⟨x, hxi⟩ : ∃ x, xs[i]? = some x := ⟨_, List.getElem?_eq_getElem hlt⟩
    obtain ⟨hvT, hka, hkl, hvn, hvw⟩ := hv x (List.mem_of_getElem? hxi)
    have hx1 := hx.nil c1
    obtain ⟨b, off, tb, g, r, cs, rfl, lb, hb, hcs⟩ := hx1.resolve_left (fun e => by rw [e] at hlt; simp at hlt)
    have hpre := txE_pre (xs := xs) (i := i + 1)
    rw [txE_take hxi] at hpre
    have hen : (enT x.e.k x.e.vs).length = (qtF x.e.k).length + (vaT 58 x.e.vs).length + 1 := by unfold enT; simp; omega
    rw [List.length_append, hen] at hpre
    generalize hP : txE ((xs.take i).map (·.e)) = P at *
    (repeat refine sb ?_)
    refine ⟨by omega, ?_⟩
    intro m hm o ho
    obtain rfl : m = i := by omega
    (repeat refine sb ?_)
    refine ldN_is rfl hb (by rw [ho]; exact hcs m x hxi) ?_
    (repeat refine sb ?_)
    refine st_abs (cs' := enC x) rfl rfl lkH (Nat.lt_succ_self _) rfl rfl fun s2 e2 c2 n2 => ?_
    have n2 : s2.next = s1.next + 1 := n2
    have c2 : Chg s1 s2 [] := (Chg.new []).fresh c2 (by simp)
    have hB2 := hB.chg c2 (by simp) (fun _ _ q => by cases q)
    (repeat refine sb ?_)
    refine ldS_is (l := x.e.k) rfl e2 rfl ?_
    (repeat refine sb ?_)
    refine (quote13_w ((c1.nil c2).fine f) hkl hka).mono fun v s3 q => ?_
    obtain ⟨rfl, c3⟩ := q
    have hB3 := hB2.chg c3 (by simp) (fun _ _ q => by cases q)
    have e3 := c3.blk _ _ (show s1.next < s2.next by omega) (by simp) e2
    (repeat refine sb ?_)
    refine (bWrite_w hB3 (by omega)).mono fun v s4 q => ?_
    obtain ⟨B4, rfl, hB4, c4, hn4⟩ := q
    have lB := hB.lt
    have n3 := c3.next
    have hne : ∀ id ∈ s.next :: blkOf B, id ≠ s1.next := fun id q => by
      rcases List.mem_cons.1 q with rfl | q
      · omega
      · have := hB.own.lt id q; omega
    have e4 := c4.blk _ _ (show s1.next < s3.next by omega) (fun q => hne _ q rfl) e3
    have c14 : Chg s s4 [] := (c1.nil (c2.nil c3)).fresh c4 (fun id q => by
      rcases List.mem_cons.1 q with rfl | q
      · exact Nat.le_refl _
      · exact hBn id q)
    have hBn4 : ∀ id ∈ blkOf B4, s.next ≤ id := fun id q => by
      rcases hn4 id q with q | q
      · exact hBn id q
      · omega
    (repeat refine sb ?_)
    refine ld1_is rfl e4 rfl ?_
    (repeat refine sb ?_)
    refine pLoop (MW.head good (fun y : TxIx => x.e.vs.length - y.i) (fun y => y.i ≤ x.e.vs.length ∧ Bld y.s s.next y.W (P ++ qtF x.e.k ++ vaT 58 (x.e.vs.take y.i)) ∧ Chg s y.s [] ∧ ∀ id ∈ blkOf y.W, s.next ≤ id)
      (fun y => [(3, ptrV s.next), (6, str [if y.i = 0 then 58 else 44]), (9, .slice (some ⟨b, off, none⟩) xs.length cw), (10, .int .i64 (xs.length : Int)), (11, .int .i64 (m : Int)), (20, .slice x.W x.e.vs.length 0), (21, .int .i64 (x.e.vs.length : Int)), (22, .int .i64 (y.i : Int))]) (fun y => y.s) ⟨0, B4, s4⟩ ⟨Nat.zero_le _, by show Bld s4 s.next B4 (P ++ qtF x.e.k ++ vaT 58 []); rw [show vaT 58 [] = [] from rfl, List.append_nil]; exact hB4, c14, hBn4⟩ (Wk.same ⟨rfl, rfl, rfl, rfl, rfl, rfl, rfl, rfl, trivial⟩) ?_)
    rintro ⟨j, C, s5⟩ ⟨hj, hC, c5, hCn⟩
    dsimp only at hj hC c5 hCn ⊢
    (repeat refine sb ?_)
    intro q hq
    by_cases hjl : j < x.e.vs.length
    · obtain rfl : q = true := by rw [hq]; simp; omega
      obtain ⟨w, hw⟩ : ∃ w, x.e.vs[j]? = some w := ⟨_, List.getElem?_eq_getElem hjl⟩
      obtain ⟨hwa, hwl⟩ := hvw w (List.mem_of_getElem? hw)
      have hvT5 := hvT.nil c5
      obtain ⟨bv, tv, gv, rv, hWv, lv, cv, hbv, hcv⟩ := hvT5.resolve_left (fun e => by rw [e] at hjl; simp at hjl)
      have hst : vaT 58 (x.e.vs.take (j + 1)) = vaT 58 (x.e.vs.take j) ++ [if j = 0 then 58 else 44] ++ [32] ++ qtF w := by
        rw [List.take_add_one, hw]
        show vaT 58 (x.e.vs.take j ++ [w]) = _
        rw [vaT_snoc]
        have : (x.e.vs.take j = []) ↔ j = 0 := by
          rw [List.take_eq_nil_iff]
          constructor
          · rintro (h | h)
            · exact h
            · rw [h] at hjl; simp at hjl
          · exact .inl
        by_cases h0 : j = 0
        · rw [if_pos (this.2 h0), if_pos h0]; simp
        · rw [if_neg (fun q => h0 (this.1 q)), if_neg h0]; simp
      have hvp := vaT_pre 58 x.e.vs (j + 1)
      rw [hst] at hvp
      simp only [List.length_append, List.length_singleton] at hvp
      rw [hWv]
      (repeat refine sb ?_)
      refine ⟨by omega, ?_⟩
      intro m2 hm2 o2 ho2
      obtain rfl : m2 = j := by omega
      (repeat refine sb ?_)
      refine ldS_is (l := w) rfl hbv (by rw [ho2, Nat.zero_add, Nat.mul_one]; exact hcv m2 w hw) ?_
      (repeat refine sb ?_)
      refine ⟨by simp, ?_⟩
      intro w1 hw1
      subst hw1
      (repeat refine sb ?_)
      refine (quote13_w (c5.fine f) hwl hwa).mono fun v s6 q => ?_
      obtain ⟨rfl, c6⟩ := q
      have hC6 := hC.chg c6 (by simp) (fun _ _ q => by cases q)
      (repeat refine sb ?_)
      refine ⟨by simp only [List.length_append, List.length_singleton]; omega, ?_⟩
      intro w1 hw1
      subst hw1
      (repeat refine sb ?_)
      refine (bWrite_w hC6 (by simp only [List.length_append, List.length_singleton]; omega)).mono fun v s7 q => ?_
      obtain ⟨C7, rfl, hC7, c7, hn7⟩ := q
      have n6 := c6.next
      have n5 := c5.next
      (repeat refine sb ?_)
      intro z hz
      rw [i64_id (by omega)] at hz
      (repeat refine sb ?_)
      refine ⟨⟨m2 + 1, C7, s7⟩, ⟨by show m2 + 1 ≤ x.e.vs.length; omega, ?_, (c5.nil c6).fresh c7 (fun id q => by
        rcases List.mem_cons.1 q with rfl | q
        · exact Nat.le_refl _
        · exact hCn id q), fun id q => by
        rcases hn7 id q with q | q
        · exact hCn id q
        · omega⟩, by show x.e.vs.length - (m2 + 1) < x.e.vs.length - m2; omega, Wk.same ⟨rfl, by show look _ _ = some (str [if m2 + 1 = 0 then 58 else 44]); rw [if_neg (Nat.succ_ne_zero m2)]; rfl, rfl, rfl, rfl, rfl, rfl, ?_, trivial⟩⟩
      · show Bld s7 s.next C7 (P ++ qtF x.e.k ++ vaT 58 (x.e.vs.take (m2 + 1)))
        rw [hst]
        simpa [List.append_assoc] using hC7
      · rw [show z = ((m2 + 1 : Nat) : Int) by omega]; rfl
    · obtain rfl : q = false := by rw [hq]; simp; omega
      obtain rfl : j = x.e.vs.length := by omega
      rw [List.take_length] at hC
      (repeat refine sb ?_)
      refine (bWrite_w hC (by simp only [List.length_append, List.length_singleton]; omega)).mono fun v s7 q => ?_
      obtain ⟨C7, rfl, hC7, c7, hn7⟩ := q
      have n5 := c5.next
      (repeat refine sb ?_)
      intro z hz
      rw [i64_id (by omega)] at hz
      (repeat refine sb ?_)
      refine ⟨⟨m + 1, C7, s7⟩, ⟨by show m + 1 ≤ xs.length; omega, ?_, c5.fresh c7 (fun id q => by
        rcases List.mem_cons.1 q with rfl | q
        · exact Nat.le_refl _
        · exact hCn id q), fun id q => by
        rcases hn7 id q with q | q
        · exact hCn id q
        · omega⟩, by show xs.length - (m + 1) < xs.length - m; omega, Wk.same ⟨rfl, rfl, rfl, ?_, trivial⟩⟩
      · show Bld s7 s.next C7 (txE ((xs.take (m + 1)).map (·.e)))
        rw [txE_take hxi, hP]
        unfold enT
        simpa [List.append_assoc] using hC7
      · rw [show z = ((m + 1 : Nat) : Int) by omega]; rfl
  · obtain rfl : q = false := by rw [hq]; simp; omega
    obtain rfl : i = xs.length := by omega
    rw [List.take_length] at hB
    (repeat refine sb ?_)
    refine (bString_w hB (by omega)).mono fun v s2 q => ?_
    obtain ⟨rfl, c2, n2⟩ := q
    (repeat refine sb ?_)
    exact ⟨rfl, c1.fresh c2 hBn⟩
end Go.Vf.S
end
section
/- Rows held against one another; the document's examples: wakes. -/
namespace Go.Vf.S
open Go Go.Vf Go.Proofs Go.RowKit
attribute [local irreducible] wSeq wRow wp wG
set_option linter.unusedVariables false
set_option linter.unusedSimpArgs false
set_option maxRecDepth 10000

theorem eqT_w {s : SS} {fa fb : List (List UInt8)} {W V : Option Addr} {cw cv : Nat} (ha : TsR s W fa) (hb : TsR s V fb) (hn : fa.length ≤ 100000) (hn2 : fb.length ≤ 100000) :
    CallW pr n_slices_Equal_string_string [.slice W fa.length cw, .slice V fb.length cv] s fun v s' => v = .bool (decide (fa = fb)) ∧ s' = s := by
  refine CallW.run good ok_slices_Equal_string_string (by simp) rfl ?_
  (try refine pSeq ?_); (repeat(first|refine sb ?_|refine kNo ?_))
  intro q hq
  by_cases x1 : fa.length = fb.length
  · obtain rfl : q = false := by rw [hq]; simp; omega
    (repeat(first|refine sb ?_|refine kNo ?_))
    refine pLoop (MW.head good (fun i : Nat => fa.length - i) (fun i => i ≤ fa.length ∧ fa.take i = fb.take i) (fun i => [(0, .slice W fa.length cw), (1, .slice V fb.length cv), (12, .int .i64 fa.length), (13, .int .i64 i)]) (fun i => s) 0 ⟨Nat.zero_le _, rfl⟩ (Wk.same ⟨rfl, rfl, rfl, rfl, trivial⟩) ?_)
    intro i ⟨h1, h2⟩
    (repeat(first|refine sb ?_|refine kNo ?_))
    intro q hq
    by_cases hlt : i < fa.length
    · obtain rfl : q = true := by rw [hq]; simp; omega
      obtain ⟨f, hf⟩ : ∃ f, fa[i]? = some f := ⟨_, List.getElem?_eq_getElem hlt⟩
      obtain ⟨g, hg⟩ : ∃ f, fb[i]? = some f := ⟨_, List.getElem?_eq_getElem (by omega)⟩
      obtain ⟨b1, t1, g1, r1, rfl, l1, cs1, hb1', hcs1⟩ := ha.resolve_left (fun e => by rw [e] at hlt; simp at hlt)
      obtain ⟨b2, t2, g2, r2, rfl, l2, cs2, hb2', hcs2⟩ := hb.resolve_left (fun e => by rw [e] at x1; simp at x1; rw [x1] at hlt; simp at hlt)
      (repeat(first|refine sb ?_|refine kNo ?_))
      refine ⟨by omega, ?_⟩
      intro m hm o ho
      obtain rfl : m = i := by omega
      (repeat(first|refine sb ?_|refine kNo ?_))
      refine ldS_is (l := f) rfl hb1' (by rw [ho, Nat.zero_add, Nat.mul_one]; exact hcs1 m f hf) ?_
      (repeat(first|refine sb ?_|refine kNo ?_))
      refine ⟨by omega, ?_⟩
      intro m2 hm2 o2 ho2
      obtain rfl : m2 = m := by omega
      (repeat(first|refine sb ?_|refine kNo ?_))
      refine ldS_is (l := g) rfl hb2' (by rw [ho2, Nat.zero_add, Nat.mul_one]; exact hcs2 m2 g hg) ?_
      (repeat(first|refine sb ?_|refine kNo ?_))
      intro q hq
      by_cases he : f = g
      · obtain rfl : q = false := by rw [hq]; simp [he]
        (repeat(first|refine sb ?_|refine kNo ?_))
        intro z hz
        rw [i64_id (by omega)] at hz
        (repeat(first|refine sb ?_|refine kNo ?_))
        exact ⟨m2 + 1, ⟨by omega, by rw [take_next hf, take_next hg, h2, he]⟩, by show fa.length - (m2 + 1) < fa.length - m2; omega, Wk.same ⟨rfl, rfl, rfl, by rw [show z = ((m2 + 1 : Nat) : Int) by omega]; rfl, trivial⟩⟩
      · obtain rfl : q = true := by rw [hq]; simp [he]
        (repeat(first|refine sb ?_|refine kNo ?_))
        refine ⟨congrArg Value.bool (decide_eq_false (fun h => he ?_)).symm, rfl⟩
        rw [h, hg] at hf
        exact (Option.some.inj hf).symm
    · obtain rfl : q = false := by rw [hq]; simp; omega
      obtain rfl : i = fa.length := by omega
      (repeat(first|refine sb ?_|refine kNo ?_))
      refine ⟨congrArg Value.bool (decide_eq_true ?_).symm, rfl⟩
      rwa [List.take_length, x1, List.take_length] at h2
  · obtain rfl : q = true := by rw [hq]; simp; omega
    (repeat(first|refine sb ?_|refine kNo ?_))
    exact ⟨congrArg Value.bool (decide_eq_false (fun h => x1 (by rw [h]))).symm, rfl⟩
theorem eqT_same {s : SS} {fa : List (List UInt8)} {W V : Option Addr} {cw cv : Nat} (ha : TsR s W fa) (hb : TsR s V fa) (hn : fa.length ≤ 100000) :
    CallW pr n_slices_Equal_string_string [.slice W fa.length cw, .slice V fa.length cv] s fun v s' => v = .bool true ∧ s' = s :=
  (eqT_w ha hb hn hn).mono fun v s q => ⟨q.1.trans (congrArg Value.bool (decide_eq_true rfl)), q.2⟩
theorem flCs_take {R : List (Nat × Nat)} {k : Nat} {x : Nat × Nat} (h : R[k]? = some x) : takeN 2 ((flCs R).drop (k * 2)) = some (flC x) := by
  have hd : ∀ (R : List (Nat × Nat)) (k : Nat), (flCs R).drop (k * 2) = flCs (R.drop k) := by
    intro R
    unfold flCs
    induction R with
    | nil => intro k; simp
    | cons x R ih =>
      intro k
      cases k with
      | zero => simp
      | succ k =>
        rw [List.drop_succ_cons, ← ih k, List.flatMap_cons, List.drop_append, show (k + 1) * 2 = (flC x).length + k * 2 by simp [flC]; omega, List.drop_of_length_le (by omega), List.nil_append]
        congr 1
        omega
  obtain ⟨hk, e⟩ := List.getElem?_eq_some_iff.1 h
  rw [hd, List.drop_eq_getElem_cons hk, e]
  rfl
theorem eqF13_w {s : SS} {fa fb : List (Nat × Nat)} {W V : Option Addr} {cw cv : Nat} (ha : FlR s W fa) (hb : FlR s V fb) (hn : fa.length ≤ 100000) (hn2 : fb.length ≤ 100000) :
    CallW pr n_slices_Equal_lines_Fault_lines_Fault [.slice W fa.length cw, .slice V fb.length cv] s fun v s' => v = .bool (decide (fa = fb)) ∧ s' = s := by
  refine CallW.run good ok_slices_Equal_lines_Fault_lines_Fault (by simp) rfl ?_
  (try refine pSeq ?_); (repeat(first|refine sb ?_|refine kNo ?_))
  intro q hq
  by_cases x1 : fa.length = fb.length
  · obtain rfl : q = false := by rw [hq]; simp; omega
    (repeat(first|refine sb ?_|refine kNo ?_))
    refine pLoop (MW.head good (fun i : Nat => fa.length - i) (fun i => i ≤ fa.length ∧ fa.take i = fb.take i) (fun i => [(0, .slice W fa.length cw), (1, .slice V fb.length cv), (12, .int .i64 fa.length), (13, .int .i64 i)]) (fun i => s) 0 ⟨Nat.zero_le _, rfl⟩ (Wk.same ⟨rfl, rfl, rfl, rfl, trivial⟩) ?_)
    intro i ⟨h1, h2⟩
    (repeat(first|refine sb ?_|refine kNo ?_))
    intro q hq
    by_cases hlt : i < fa.length
    · obtain rfl : q = true := by rw [hq]; simp; omega
      obtain ⟨f, hf⟩ : ∃ f, fa[i]? = some f := ⟨_, List.getElem?_eq_getElem hlt⟩
      obtain ⟨g, hg⟩ : ∃ f, fb[i]? = some f := ⟨_, List.getElem?_eq_getElem (by omega)⟩
      obtain ⟨b1, t1, g1, r1, rfl, l1, hb1'⟩ := ha.resolve_left (fun e => by rw [e] at hlt; simp at hlt)
      obtain ⟨b2, t2, g2, r2, rfl, l2, hb2'⟩ := hb.resolve_left (fun e => by rw [e] at x1; simp at x1; rw [x1] at hlt; simp at hlt)
      obtain ⟨f1, f2⟩ := f
      obtain ⟨g1', g2'⟩ := g
      (repeat(first|refine sb ?_|refine kNo ?_))
      refine ⟨by omega, ?_⟩
      intro m hm o ho
      obtain rfl : m = i := by omega
      (repeat(first|refine sb ?_|refine kNo ?_))
      refine ldN_is rfl hb1' (by rw [ho, Nat.zero_add]; exact flCs_take hf) ?_
      (repeat(first|refine sb ?_|refine kNo ?_))
      refine ⟨by omega, ?_⟩
      intro m2 hm2 o2 ho2
      obtain rfl : m2 = m := by omega
      (repeat(first|refine sb ?_|refine kNo ?_))
      refine ldN_is rfl hb2' (by rw [ho2, Nat.zero_add]; exact flCs_take hg) ?_
      (repeat(first|refine sb ?_|refine kNo ?_))
      intro q hq
      by_cases he : f1 = g1' ∧ f2 = g2'
      · obtain ⟨rfl, rfl⟩ := he
        obtain rfl : q = false := by rw [hq]; simp
        (repeat(first|refine sb ?_|refine kNo ?_))
        intro z hz
        rw [i64_id (by omega)] at hz
        (repeat(first|refine sb ?_|refine kNo ?_))
        exact ⟨m2 + 1, ⟨by omega, by rw [take_next hf, take_next hg, h2]⟩, by show fa.length - (m2 + 1) < fa.length - m2; omega, Wk.same ⟨rfl, rfl, rfl, by rw [show z = ((m2 + 1 : Nat) : Int) by omega]; rfl, trivial⟩⟩
      · obtain rfl : q = true := by rw [hq]; simp; omega
        (repeat(first|refine sb ?_|refine kNo ?_))
        refine ⟨congrArg Value.bool (decide_eq_false (fun h => he ?_)).symm, rfl⟩
        rw [h, hg] at hf
        have := Option.some.inj hf
        exact ⟨(Prod.mk.inj this).1.symm, (Prod.mk.inj this).2.symm⟩
    · obtain rfl : q = false := by rw [hq]; simp; omega
      obtain rfl : i = fa.length := by omega
      (repeat(first|refine sb ?_|refine kNo ?_))
      refine ⟨congrArg Value.bool (decide_eq_true ?_).symm, rfl⟩
      rwa [List.take_length, x1, List.take_length] at h2
  · obtain rfl : q = true := by rw [hq]; simp; omega
    (repeat(first|refine sb ?_|refine kNo ?_))
    exact ⟨congrArg Value.bool (decide_eq_false (fun h => x1 (by rw [h]))).symm, rfl⟩
theorem eqF_same {s : SS} {fa : List (Nat × Nat)} {W V : Option Addr} {cw cv : Nat} (ha : FlR s W fa) (hb : FlR s V fa) (hn : fa.length ≤ 100000) :
    CallW pr n_slices_Equal_lines_Fault_lines_Fault [.slice W fa.length cw, .slice V fa.length cv] s fun v s' => v = .bool true ∧ s' = s :=
  (eqF13_w ha hb hn hn).mono fun v s q => ⟨q.1.trans (congrArg Value.bool (decide_eq_true rfl)), q.2⟩
theorem one_ent {xs : List EnV} {e : Ent} (h : xs.map (·.e) = [e]) : ∃ W, xs = [⟨e, W⟩] := by
  cases xs with
  | nil => cases h
  | cons x r =>
    obtain ⟨a, W⟩ := x
    rw [List.map_cons] at h
    obtain ⟨rfl, h2⟩ := List.cons.inj h
    rw [List.map_eq_nil_iff] at h2
    exact ⟨W, by rw [h2]⟩
def wk1 : List UInt8 := [97, 58, 32, 98, 44, 32, 34, 99, 44, 32, 100, 34]
def wk2 : List UInt8 := [97, 58, 32, 98, 10, 32, 44, 32, 99]
def wk3 : List UInt8 := [120, 10, 97, 58, 32, 98, 10, 65, 58, 32, 99]
theorem tab_wk1 : tabF wk1 true = ([⟨1, [97], [[98], [99, 44, 32, 100]]⟩], []) := by kernel_rfl
theorem tab_wk2 : tabF wk2 true = ([⟨1, [97], [[98], [99]]⟩], []) := by kernel_rfl
theorem tab_wk3 : tabF wk3 true = ([⟨2, [97], [[98]]⟩], [(1, 5), (3, 9)]) := by kernel_rfl
theorem FlR.none {s : SS} {V : Option Addr} : FlR s V [] := .inl rfl
/-- Entries of which there is one. -/
theorem parse_one {s : SS} {l : List UInt8} {vals : Bool} {e : Ent} {fs : List (Nat × Nat)} (f : Fine s) (hl : l.length ≤ 10000) (h : tabF l vals = ([e], fs)) : CallW pr n_lines_Parse [str l, .bool vals] s fun v s' =>
    ∃ b g V cv We, v = .tuple ⟨[.slice (some ⟨b, 0, none⟩) 1 0, .slice V fs.length cv]⟩ ∧ b < s'.next ∧ lookH s'.heap b = some (.cells (enC ⟨e, We⟩) tEn13 g false) ∧ TsR s' We e.vs ∧ FlR s' V fs ∧ (∀ id ∈ blkOf V, s.next ≤ id) ∧ Chg s s' [] := by
  refine (parse13_w (vals := vals) f hl).mono fun v s1 q => ?_
  obtain ⟨W, V, cv, xs, fs', rfl, hT, hA, hF, hV, c1⟩ := q
  rw [h] at hT
  obtain ⟨hx, rfl⟩ := Prod.mk.inj hT
  obtain ⟨We, rfl⟩ := one_ent hx
  obtain ⟨b, g, rfl, kb⟩ := hA.own.pos (by simp)
  refine ⟨b, g, V, cv, We, rfl, hA.own.2.2.1, ?_, TsO.rd (hA.vals ⟨e, We⟩ (by simp)), hF, hV, c1⟩
  rw [kb]
  rfl
set_option maxHeartbeats 1000000 in
theorem wakes13_w {s : SS} (f : Fine s) : CallW pr n_law13_wakes [] s fun v s' => v = .bool true ∧ Chg s s' [] := by
  refine CallW.run good ok_law13_wakes (by simp) rfl ?_
  (try refine pSeq ?_); (repeat(first|refine sb ?_|refine gOn rfl ?_|refine gOff rfl rfl ?_|refine gTup rfl ?_))
  refine (parse_one (l := wk1) f (by decide) tab_wk1).mono fun v s1 q => ?_
  obtain ⟨b1, g1, V1, cv1, W1, rfl, l1, k1, t1, fl1, hV1, c1⟩ := q
  (repeat(first|refine sb ?_|refine gOn rfl ?_|refine gOff rfl rfl ?_|refine gTup rfl ?_))
  refine (parse_one (l := wk2) (c1.fine f) (by decide) tab_wk2).mono fun v s2 q => ?_
  obtain ⟨b2, g2, V2, cv2, W2, rfl, l2, k2, t2, fl2, hV2, c2⟩ := q
  (repeat(first|refine sb ?_|refine gOn rfl ?_|refine gOff rfl rfl ?_|refine gTup rfl ?_))
  refine (parse_one (l := wk3) (c2.fine (c1.fine f)) (by decide) tab_wk3).mono fun v s3 q => ?_
  obtain ⟨b3, g3, V3, cv3, W3, rfl, l3, k3, t3, fl3, hV3, c3⟩ := q
  have f3 := c3.fine (c2.fine (c1.fine f))
  have k1 := c3.blk _ _ (Nat.lt_of_lt_of_le l1 c2.next) (by simp) (c2.blk _ _ l1 (by simp) k1)
  have k2 := c3.blk _ _ l2 (by simp) k2
  have t1 := (t1.nil c2).nil c3
  have t2 := t2.nil c3
  (repeat(first|refine sb ?_|refine gOn rfl ?_|refine gOff rfl rfl ?_|refine gTup rfl ?_))
  intro q hq
  obtain rfl : q = true := by rw [hq]; decide
  (repeat(first|refine sb ?_|refine gOn rfl ?_|refine gOff rfl rfl ?_|refine gTup rfl ?_))
  intro q hq
  obtain rfl : q = true := by rw [hq]; decide
  (repeat(first|refine sb ?_|refine gOn rfl ?_|refine gOff rfl rfl ?_|refine gTup rfl ?_))
  refine ⟨by decide, ?_⟩
  intro m hm o ho
  obtain rfl : m = 0 := by omega
  obtain rfl : o = 0 := by omega
  (repeat(first|refine sb ?_|refine gOn rfl ?_|refine gOff rfl rfl ?_|refine gTup rfl ?_))
  refine ldS_is (l := [97]) rfl k1 rfl ?_
  (repeat(first|refine sb ?_|refine gOn rfl ?_|refine gOff rfl rfl ?_|refine gTup rfl ?_))
  intro q hq
  obtain rfl : q = true := by rw [hq]; decide
  (repeat(first|refine sb ?_|refine gOn rfl ?_|refine gOff rfl rfl ?_|refine gTup rfl ?_))
  refine ⟨by decide, ?_⟩
  intro m hm o ho
  obtain rfl : m = 0 := by omega
  obtain rfl : o = 0 := by omega
  (repeat(first|refine sb ?_|refine gOn rfl ?_|refine gOff rfl rfl ?_|refine gTup rfl ?_))
  refine ld1_is rfl k1 rfl ?_
  (repeat(first|refine sb ?_|refine gOn rfl ?_|refine gOff rfl rfl ?_|refine gTup rfl ?_))
  have cm := Chg.new (s := s3) (b := .cells (strV [[98], [99, 44, 32, 100]]) tS false false) []
  refine (eqT_same (fa := [[98], [99, 44, 32, 100]]) (t1.nil cm) (.inr ⟨_, _, _, _, rfl, Nat.lt_succ_self _, _, lkH, fun i x hx => strV_get hx⟩) (by decide)).mono fun v s q => ?_
  obtain ⟨rfl, rfl⟩ := q
  (repeat(first|refine sb ?_|refine gOn rfl ?_|refine gOff rfl rfl ?_|refine gTup rfl ?_))
  have k2 := cm.blk _ _ (Nat.lt_of_lt_of_le l2 c3.next) (by simp) k2
  have k3 := cm.blk _ _ l3 (by simp) k3
  have t2 := t2.nil cm
  have fl3 := fl3.chg cm (fun _ _ q => by cases q)
  have c13 := (c1.nil (c2.nil c3)).nil cm
  intro q hq
  obtain rfl : q = true := by rw [hq]; decide
  (repeat(first|refine sb ?_|refine gOn rfl ?_|refine gOff rfl rfl ?_|refine gTup rfl ?_))
  intro q hq
  obtain rfl : q = true := by rw [hq]; decide
  (repeat(first|refine sb ?_|refine gOn rfl ?_|refine gOff rfl rfl ?_|refine gTup rfl ?_))
  refine ⟨by decide, ?_⟩
  intro m hm o ho
  obtain rfl : m = 0 := by omega
  obtain rfl : o = 0 := by omega
  (repeat(first|refine sb ?_|refine gOn rfl ?_|refine gOff rfl rfl ?_|refine gTup rfl ?_))
  refine ld1_is rfl k2 rfl ?_
  (repeat(first|refine sb ?_|refine gOn rfl ?_|refine gOff rfl rfl ?_|refine gTup rfl ?_))
  have cm2 := Chg.new (s := { s3 with heap := (s3.next, some (.cells (strV [[98], [99, 44, 32, 100]]) tS false false)) :: s3.heap, next := s3.next + 1 }) (b := .cells (strV [[98], [99]]) tS false false) []
  refine (eqT_same (fa := [[98], [99]]) (t2.nil cm2) (.inr ⟨_, _, _, _, rfl, Nat.lt_succ_self _, _, lkH, fun i x hx => strV_get hx⟩) (by decide)).mono fun v s q => ?_
  obtain ⟨rfl, rfl⟩ := q
  have k3 := cm2.blk _ _ (Nat.lt_of_lt_of_le l3 cm.next) (by simp) k3
  have fl3 := fl3.chg cm2 (fun _ _ q => by cases q)
  have c13 := c13.nil cm2
  (repeat(first|refine sb ?_|refine gOn rfl ?_|refine gOff rfl rfl ?_|refine gTup rfl ?_))
  intro q hq
  obtain rfl : q = true := by rw [hq]; decide
  (repeat(first|refine sb ?_|refine gOn rfl ?_|refine gOff rfl rfl ?_|refine gTup rfl ?_))
  refine ⟨by decide, ?_⟩
  intro m hm o ho
  obtain rfl : m = 0 := by omega
  obtain rfl : o = 0 := by omega
  (repeat(first|refine sb ?_|refine gOn rfl ?_|refine gOff rfl rfl ?_|refine gTup rfl ?_))
  refine ldI_is (z := 2) rfl k3 rfl ?_
  (repeat(first|refine sb ?_|refine gOn rfl ?_|refine gOff rfl rfl ?_|refine gTup rfl ?_))
  intro q hq
  obtain rfl : q = true := by rw [hq]; decide
  (repeat(first|refine sb ?_|refine gOn rfl ?_|refine gOff rfl rfl ?_|refine gTup rfl ?_))
  have cm3 := Chg.new (s := { s3 with heap := (s3.next + 1, some (.cells (strV [[98], [99]]) tS false false)) :: (s3.next, some (.cells (strV [[98], [99, 44, 32, 100]]) tS false false)) :: s3.heap, next := s3.next + 1 + 1 }) (b := .cells (flCs [(1, 5), (3, 9)]) tFt13 false false) []
  refine (eqF_same (fa := [(1, 5), (3, 9)]) (fl3.chg cm3 (fun _ _ q => by cases q)) (.inr ⟨_, _, _, _, rfl, Nat.lt_succ_self _, lkH⟩) (by decide)).mono fun v s q => ?_
  obtain ⟨rfl, rfl⟩ := q
  (repeat(first|refine sb ?_|refine gOn rfl ?_|refine gOff rfl rfl ?_|refine gTup rfl ?_))
  exact ⟨rfl, c13.nil cm3⟩
end Go.Vf.S
end
section
/- Tables as texts, pure: what the laws bring; the pieces that they put between. -/
namespace Go.Vf.S
open Go Go.Vf
set_option linter.unusedVariables false
set_option linter.unusedSimpArgs false
set_option maxRecDepth 10000

/-! ### Printable words -/
def prC (c : UInt8) : UInt8 := 32 + c % 95
def prW (l : List UInt8) : List UInt8 := l.map prC
theorem pr_tx (l : List UInt8) : (prW l).all txB = true := by
  have key : (List.range 256).all (fun n => txB (prC (UInt8.ofNat n))) = true := by decide +kernel
  refine List.all_eq_true.2 fun c hc => ?_
  obtain ⟨x, hx, rfl⟩ := List.mem_map.1 hc
  have := List.all_eq_true.1 key x.toNat (List.mem_range.2 x.toNat_lt)
  rw [show UInt8.ofNat x.toNat = x by simp] at this
  exact this
theorem pr_nat (c : UInt8) : (prC c).toNat = 32 + c.toNat % 95 := by
  have key : (List.range 256).all (fun n => decide ((prC (UInt8.ofNat n)).toNat = 32 + (UInt8.ofNat n).toNat % 95)) = true := by decide +kernel
  have := List.all_eq_true.1 key c.toNat (List.mem_range.2 c.toNat_lt)
  rw [show UInt8.ofNat c.toNat = c by simp] at this
  exact of_decide_eq_true this
theorem pr_len (l : List UInt8) : (prW l).length = l.length := List.length_map _
theorem pr_asc (l : List UInt8) : ∀ c ∈ prW l, c.toNat < 128 := by
  intro c hc
  obtain ⟨x, hx, rfl⟩ := List.mem_map.1 hc
  rw [pr_nat]
  omega

/-! ### How long -/
theorem qt_len (s : List UInt8) : (qtF s).length ≤ 2 * s.length + 2 := by
  have hf : ∀ l : List UInt8, (l.flatMap esB).length ≤ 2 * l.length := by
    intro l
    induction l with
    | nil => simp
    | cons c l ih =>
      rw [List.flatMap_cons, List.length_append, List.length_cons]
      have : (esB c).length ≤ 2 := by unfold esB; split <;> simp
      omega
  unfold qtF
  split
  · omega
  · rw [List.length_append, List.length_cons, List.length_singleton]
    have := hf s
    omega
theorem jn_size {p q : List UInt8} {m : Nat} (hm : p.length + q.length ≤ 4) : ∀ ws : List (List UInt8), (∀ w ∈ ws, w.length ≤ m) → (jnV p q ws).length ≤ ws.length * (2 * m + 7)
  | [], _ => by simp [jnV]
  | [w], h => by
    show (p ++ qtF w ++ q).length ≤ _
    have := qt_len w
    have := h w (by simp)
    rw [List.length_append, List.length_append, List.length_singleton]
    omega
  | w :: v :: r, h => by
    have ih := jn_size (p := p) (q := q) hm (v :: r) fun x hx => h x (by simp [List.mem_cons.1 hx])
    have := qt_len w
    have := h w (by simp)
    rw [jnV_two, List.length_append, List.length_append, List.length_append, List.length_cons]
    rw [List.length_cons (a := w), Nat.succ_mul]
    omega
theorem et_len {k : List UInt8} {vs : List (List UInt8)} {m : Nat} (hk : k.length ≤ m) (hv : ∀ w ∈ vs, w.length ≤ m) : (etL k vs).length ≤ (vs.length + 1) * (2 * m + 7) := by
  have h1 := qt_len k
  have h2 := jn_size (p := [32]) (q := []) (by decide) vs hv
  unfold etL
  rw [List.length_append, List.length_cons, Nat.succ_mul]
  omega

/-! ### Items one behind the other -/
theorem tx_app (a b : List Itm) : txI (a ++ b) = txI a ++ txI b := List.flatMap_append
theorem ent_app : ∀ (a b : List Itm) (n : Nat), entI n (a ++ b) = entI n a ++ entI (n + a.length) b
  | [], b, n => rfl
  | .ent k vs :: a, b, n => by
    show ⟨n, k, vs⟩ :: entI (n + 1) (a ++ b) = _
    rw [ent_app a b (n + 1), List.length_cons, show n + 1 + a.length = n + (a.length + 1) by omega]
    rfl
  | .pass l :: a, b, n => by
    show entI (n + 1) (a ++ b) = _
    rw [ent_app a b (n + 1), List.length_cons, show n + 1 + a.length = n + (a.length + 1) by omega]
    rfl
  | .bad l :: a, b, n => by
    show entI (n + 1) (a ++ b) = _
    rw [ent_app a b (n + 1), List.length_cons, show n + 1 + a.length = n + (a.length + 1) by omega]
    rfl
theorem flt_app : ∀ (a b : List Itm) (n : Nat), fltI n (a ++ b) = fltI n a ++ fltI (n + a.length) b
  | [], b, n => rfl
  | .ent k vs :: a, b, n => by
    show fltI (n + 1) (a ++ b) = _
    rw [flt_app a b (n + 1), List.length_cons, show n + 1 + a.length = n + (a.length + 1) by omega]
    rfl
  | .pass l :: a, b, n => by
    show fltI (n + 1) (a ++ b) = _
    rw [flt_app a b (n + 1), List.length_cons, show n + 1 + a.length = n + (a.length + 1) by omega]
    rfl
  | .bad l :: a, b, n => by
    show (n, 5) :: fltI (n + 1) (a ++ b) = _
    rw [flt_app a b (n + 1), List.length_cons, show n + 1 + a.length = n + (a.length + 1) by omega]
    rfl
/-- The pieces: nothing; lines that are passed over; a faulty one. -/
def pcI (j : Nat) : List Itm := if j = 0 then [] else if j = 1 then [.pass [35, 32, 97, 58, 32, 98]] else if j = 2 then [.pass []] else if j = 3 then [.pass [32, 32, 9]] else if j = 4 then [.pass [32, 35, 32, 120]] else [.bad [110, 111, 116, 104, 105, 110, 103, 32, 97, 116, 32, 97, 108, 108]]
def pcT (j : Nat) : List UInt8 := txI (pcI j)
theorem pc_ok : ∀ j, ∀ i ∈ pcI j, i.ok := by
  intro j i hi
  unfold pcI at hi
  split at hi
  · cases hi
  · split at hi
    · rw [List.mem_singleton.1 hi]; exact ⟨by decide, .inr (by decide)⟩
    · split at hi
      · rw [List.mem_singleton.1 hi]; exact ⟨by decide, .inl (by decide)⟩
      · split at hi
        · rw [List.mem_singleton.1 hi]; exact ⟨by decide, .inl (by decide)⟩
        · split at hi
          · rw [List.mem_singleton.1 hi]; exact ⟨by decide, .inr (by decide)⟩
          · rw [List.mem_singleton.1 hi]
            exact ⟨by decide, by decide, ⟨110, 108, rfl, rfl, rfl, rfl⟩, by decide, fun n => rfl⟩
theorem pc_len (j : Nat) : (pcI j).length = min j 1 ∧ (fltI 1 (pcI j)).length = (if 5 ≤ j then 1 else 0) ∧ entI 1 (pcI j) = [] := by
  unfold pcI
  split
  · rename_i h; subst h; exact ⟨rfl, rfl, rfl⟩
  · split
    · rename_i h; subst h; exact ⟨rfl, rfl, rfl⟩
    · split
      · rename_i h; subst h; exact ⟨rfl, rfl, rfl⟩
      · split
        · rename_i h; subst h; exact ⟨rfl, rfl, rfl⟩
        · split
          · rename_i h; subst h; exact ⟨rfl, rfl, rfl⟩
          · refine ⟨by show 1 = _; omega, by rw [if_pos (by omega)]; rfl, rfl⟩

/-! ### What is none -/
end Go.Vf.S
end
section
/- Texts repeated, joined, brought to printable bytes. -/
namespace Go.Vf.S
open Go Go.Vf Go.Proofs Go.RowKit
attribute [local irreducible] wSeq wRow wp wG
set_option linter.unusedVariables false
set_option linter.unusedSimpArgs false
set_option maxRecDepth 10000

theorem prW_next {l : List UInt8} {i : Nat} {c : UInt8} (h : l[i]? = some c) : (prW l).take (i + 1) ++ l.drop (i + 1) = ((prW l).take i ++ l.drop i).set i (prC c) := by
  obtain ⟨hi, e⟩ := List.getElem?_eq_some_iff.1 h
  have h1 : (prW l)[i]? = some (prC c) := by unfold prW; rw [List.getElem?_map, h]; rfl
  rw [take_next h1, List.drop_eq_getElem_cons hi, e, List.set_append_right _ _ (by rw [List.length_take, pr_len]; omega), List.length_take, pr_len, show i - min i l.length = 0 by omega, List.append_assoc]
  rfl
structure PrIx where
  i : Nat
  s : SS
theorem printed13_w {s : SS} {l : List UInt8} (hl : l.length ≤ 100000) : CallW pr n_law13_printed [str l] s fun v s' => v = str (prW l) ∧ Chg s s' [] := by
  refine CallW.run good ok_law13_printed (by simp) rfl ?_
  (try refine pSeq ?_); (repeat refine sb ?_)
  refine ⟨by omega, ?_⟩
  (repeat refine sb ?_)
  refine pLoop (MW.head good (fun x : PrIx => l.length - x.i) (fun x => x.i ≤ l.length ∧ lookH x.s.heap s.next = some (.cells (bytesV ((prW l).take x.i ++ l.drop x.i)) tB true false) ∧ s.next < x.s.next ∧ Chg s x.s []) (fun x => [(3, .slice (some ⟨s.next, 0, none⟩) l.length 0), (8, .int .i64 (l.length : Int)), (9, .int .i64 (x.i : Int))]) (fun x => x.s) ⟨0, _⟩ ⟨Nat.zero_le _, lkH, Nat.lt_succ_self _, .new _⟩ (Wk.same ⟨rfl, rfl, rfl, trivial⟩) ?_)
  rintro ⟨i, s1⟩ ⟨hi, hb, hlt, c1⟩
  dsimp only at hi hb hlt c1 ⊢
  (repeat refine sb ?_)
  intro q hq
  by_cases hl2 : i < l.length
  · obtain rfl : q = true := by rw [hq]; simp; omega
    obtain ⟨c, hc⟩ : ∃ c, l[i]? = some c := ⟨_, List.getElem?_eq_getElem hl2⟩
    have hmid : ((prW l).take i ++ l.drop i)[i]? = some c := by
      rw [List.getElem?_append_right (by rw [List.length_take, pr_len]; omega), List.length_take, pr_len, show i - min i l.length = 0 by omega, List.getElem?_drop]
      exact hc
    have c256 := c.toNat_lt
    have hnx := prW_next hc
    have hpc := pr_nat c
    (repeat refine sb ?_)
    refine ⟨by omega, ?_⟩
    intro m hm o ho
    obtain rfl : m = i := by omega
    (repeat refine sb ?_)
    refine ldI_is rfl hb (by rw [ho, Nat.mul_one, Nat.zero_add]; exact bytesV_at hmid) ?_
    (repeat refine sb ?_)
    refine ⟨by decide, ?_⟩
    intro z hz
    (repeat refine sb ?_)
    intro z2 hz2
    (repeat refine sb ?_)
    refine ⟨by omega, ?_⟩
    intro m2 hm2 o2 ho2
    obtain rfl : m2 = m := by omega
    have hz3 : z2 = ((prC c).toNat : Int) := by
      have h1 : z = ((c.toNat % 95 : Nat) : Int) := by rw [hz]; exact (Int.ofNat_tmod c.toNat 95).symm
      rw [hpc, hz2, h1, wrap_u8]
      omega
    subst hz3
    (repeat refine sb ?_)
    refine st_abs (cs' := bytesV ((prW l).take (m2 + 1) ++ l.drop (m2 + 1))) rfl rfl hb hlt rfl ?_ fun s2 e2 c2 n2 => ?_
    · rw [hnx, ho2, Nat.zero_add, Nat.mul_one]
      refine (setRow_one (by rw [bytesV_len, List.length_append, List.length_take, List.length_drop, pr_len]; omega)).trans ?_
      unfold bytesV
      rw [List.map_set]
    (repeat refine sb ?_)
    intro z hz
    rw [i64_id (by omega)] at hz
    (repeat refine sb ?_)
    exact ⟨⟨m2 + 1, s2⟩, ⟨by show m2 + 1 ≤ l.length; omega, e2, by show s.next < s2.next; omega, c1.fresh c2 (by simp)⟩, by show l.length - (m2 + 1) < l.length - m2; omega, Wk.same ⟨rfl, rfl, by rw [show z = ((m2 + 1 : Nat) : Int) by omega]; rfl, trivial⟩⟩
  · obtain rfl : q = false := by rw [hq]; simp; omega
    obtain rfl : i = l.length := by omega
    rw [List.drop_length, List.append_nil, List.take_of_length_le (by rw [pr_len]; exact Nat.le_refl _)] at hb
    (repeat refine sb ?_)
    refine toStr_is10 rfl hb (pr_len l) ?_
    (repeat refine sb ?_)
    exact ⟨rfl, c1⟩
end Go.Vf.S
end
section
/- The law LinesBack: what of the entries handed in is taken: few. -/
namespace Go.Vf.S
open Go Go.Vf Go.Proofs Go.RowKit
attribute [local irreducible] wSeq wRow wp wG
set_option linter.unusedVariables false
set_option linter.unusedSimpArgs false
set_option maxRecDepth 10000

/-- An entry as it comes: any number. -/
structure EnI where
  n : Int
  k : List UInt8
  W : Option Addr
  vs : List (List UInt8)
def eiC (x : EnI) : List Value := [.int .i64 x.n, str x.k, .slice x.W x.vs.length 0]
def eiCs (xs : List EnI) : List Value := xs.flatMap eiC
theorem eiCs_len (R : List EnI) : (eiCs R).length = R.length * 3 := by
  unfold eiCs
  induction R with
  | nil => rfl
  | cons x R ih => rw [List.flatMap_cons, List.length_append, ih, List.length_cons]; simp [eiC]; omega
theorem eiCs_app (R : List EnI) (x : EnI) : eiCs (R ++ [x]) = eiCs R ++ eiC x := by unfold eiCs; rw [List.flatMap_append]; simp
theorem eiCs_drop (R : List EnI) (k : Nat) : (eiCs R).drop (k * 3) = eiCs (R.drop k) := by
  unfold eiCs
  induction R generalizing k with
  | nil => simp
  | cons x R ih =>
    cases k with
    | zero => simp
    | succ k =>
      rw [List.drop_succ_cons, ← ih k, List.flatMap_cons, List.drop_append, show (k + 1) * 3 = (eiC x).length + k * 3 by simp [eiC]; omega, List.drop_of_length_le (by omega), List.nil_append]
      congr 1
      omega
theorem eiCs_take {R : List EnI} {k : Nat} {x : EnI} (h : R[k]? = some x) : takeN 3 ((eiCs R).drop (k * 3)) = some (eiC x) := by
  obtain ⟨hk, e⟩ := List.getElem?_eq_some_iff.1 h
  rw [eiCs_drop, List.drop_eq_getElem_cons hk, e]
  rfl
/-- Entries that a slice reads. -/
def EiQ (s : SS) (W : Option Addr) (xs : List EnI) : Prop := xs = [] ∨ ∃ b t g r cs, W = some ⟨b, 0, none⟩ ∧ b < s.next ∧ lookH s.heap b = some (.cells cs t g r) ∧ ∀ (i : Nat) x, xs[i]? = some x → takeN 3 (cs.drop (i * 3)) = some (eiC x)
/-- Values as they come. -/
def TsH (s : SS) (W : Option Addr) (vs : List (List UInt8)) : Prop := (W = none ∧ vs = []) ∨ ∃ b r, W = some ⟨b, 0, none⟩ ∧ b < s.next ∧ lookH s.heap b = some (.cells (strV vs) tS true r)
theorem TsH.nil {s s' : SS} {W : Option Addr} {ws : List (List UInt8)} (h : TsH s W ws) (c : Chg s s' []) : TsH s' W ws := by
  rcases h with h | ⟨b, r, rfl, h1, h2⟩
  · exact .inl h
  · exact .inr ⟨b, r, rfl, Nat.lt_of_lt_of_le h1 c.next, c.blk _ _ h1 (by simp) h2⟩
def fwV (vs : List (List UInt8)) : List (List UInt8) := (vs.take 5).map fun v => v.take 60
theorem fwV_len (vs : List (List UInt8)) : (fwV vs).length = min 5 vs.length := by unfold fwV; rw [List.length_map, List.length_take]
def fwE (x : EnI) : List UInt8 × List (List UInt8) := (x.k.take 60, fwV x.vs)
def kvI (x : EnI) : List UInt8 × List (List UInt8) := (x.k, x.vs)
/-- Blocks that are each one's own. -/
def Apart (ys : List EnI) : Prop := ys.Pairwise fun a b => ∀ id ∈ blkOf a.W, id ∉ blkOf b.W
structure FwIx where
  i : Nat
  ys : List EnI
  W : Option Addr
  s : SS
structure FvIx where
  j : Nat
  W : Option Addr
  s : SS
theorem fwV_take {vs : List (List UInt8)} {j : Nat} {v : List UInt8} (h : (vs.take 5)[j]? = some v) : (fwV vs).take (j + 1) = (fwV vs).take j ++ [v.take 60] := by
  unfold fwV
  rw [List.take_add_one, List.getElem?_map, h]
  rfl
theorem ts_slL {s : SS} {W : Option Addr} {vs : List (List UInt8)} (h : TsH s W vs) : (W = none → vs.length = 0) ∧ ∀ a, W = some a → a.spot = none ∧ ∃ c t r, lookH s.heap a.block = some (.cells c t true r) ∧ sizeB pr t = some 1 := by
  rcases h with ⟨h1, h2⟩ | ⟨b, r, h1, h2, h3⟩
  · exact ⟨fun _ => by rw [h2]; rfl, fun a q => by rw [h1] at q; cases q⟩
  · exact ⟨fun q => (by rw [h1] at q; cases q), fun a q => by rw [h1] at q; cases q; exact ⟨rfl, _, _, _, h3, by kernel_rfl⟩⟩
set_option maxHeartbeats 2000000 in
theorem few_w {s : SS} {M : Option Addr} {cm : Nat} {xs : List EnI} (f : Fine s) (hM : EiQ s M xs) (hv : ∀ x ∈ xs, TsH s x.W x.vs) (hn : xs.length ≤ 8) : CallW pr n_law13_few [.slice M xs.length cm] s fun v s' =>
    ∃ W ys, v = .slice W ys.length 0 ∧ OwnR tEn13 s' W 0 ys.length (eiCs ys) ∧ ys.map kvI = xs.map fwE ∧ (∀ y ∈ ys, TsO s' y.W y.vs) ∧ (∀ y ∈ ys, ∀ id ∈ blkOf y.W, s.next ≤ id) ∧ Apart ys ∧ (∀ id ∈ blkOf W, s.next ≤ id) ∧ Chg s s' [] := by
  refine CallW.run good ok_law13_few (by simp) rfl ?_
  (try refine pSeq ?_); (repeat(first|refine sb ?_|refine kNo ?_))
  refine pLoop (MW.head good (fun x : FwIx => xs.length - x.i) (fun x => x.i ≤ xs.length ∧ OwnR tEn13 x.s x.W 0 x.ys.length (eiCs x.ys) ∧ x.ys.map kvI = (xs.take x.i).map fwE ∧ (∀ y ∈ x.ys, TsO x.s y.W y.vs) ∧ (∀ y ∈ x.ys, ∀ id ∈ blkOf y.W, s.next ≤ id) ∧ Apart x.ys ∧ (∀ id ∈ blkOf x.W, s.next ≤ id) ∧ Chg s x.s [])
    (fun x => [(3, .slice x.W x.ys.length 0), (9, .slice M xs.length cm), (10, .int .i64 (xs.length : Int)), (11, .int .i64 (x.i : Int))]) (fun x => x.s) ⟨0, [], none, s⟩ ⟨Nat.zero_le _, ⟨rfl, rfl, rfl⟩, rfl, by simp, by simp, List.Pairwise.nil, by simp [blkOf], .refl _ _⟩ (Wk.same ⟨rfl, rfl, rfl, rfl, trivial⟩) ?_)
  rintro ⟨i, ys, W, s1⟩ ⟨hi, oW, hkv, hT, hTn, hA, hW, c1⟩
  dsimp only at hi oW hkv hT hTn hA hW c1 ⊢
  have hyl : ys.length = i := by
    have := congrArg List.length hkv
    rw [List.length_map, List.length_map, List.length_take] at this
    omega
  (repeat(first|refine sb ?_|refine kNo ?_))
  intro q hq
  by_cases hlt : i < xs.length
  · obtain rfl : q = true := by rw [hq]; simp; omega
    obtain ⟨x, hxi⟩ : ∃ x, xs[i]? = some x := ⟨_, List.getElem?_eq_getElem hlt⟩
    have hvx := hv x (List.mem_of_getElem? hxi)
    obtain ⟨b, t, g, r, cs, rfl, lb, hb, hcs⟩ := hM.resolve_left (fun e => by rw [e] at hlt; simp at hlt)
    have hb1 := c1.blk _ _ lb (by simp) hb
    (repeat(first|refine sb ?_|refine kNo ?_))
    refine ⟨by omega, ?_⟩
    intro m hm o ho
    obtain rfl : m = i := by omega
    (repeat(first|refine sb ?_|refine kNo ?_))
    refine ldN_is rfl hb1 (by rw [ho, Nat.zero_add]; exact hcs m x hxi) ?_
    (repeat(first|refine sb ?_|refine kNo ?_))
    refine st_abs (cs' := eiC x) rfl rfl lkH (Nat.lt_succ_self _) rfl rfl fun s2 e2 c2 n2 => ?_
    have n2 : s2.next = s1.next + 1 := n2
    have c2 : Chg s1 s2 [] := (Chg.new []).fresh c2 (by simp)
    have c12 := c1.nil c2
    (repeat(first|refine sb ?_|refine kNo ?_))
    intro q hq
    obtain rfl : q = true := by rw [hq]; simp; omega
    have hvx2 := hvx.nil c12
    obtain ⟨hs1, hs2⟩ := ts_slL hvx2
    (repeat(first|refine sb ?_|refine kNo ?_))
    refine ld1_is rfl e2 rfl ?_
    (repeat(first|refine sb ?_|refine kNo ?_))
    refine ld1_is rfl e2 rfl ?_
    (repeat(first|refine sb ?_|refine kNo ?_))
    intro z hz
    obtain rfl : z = ((min 5 x.vs.length : Nat) : Int) := by omega
    (repeat(first|refine sb ?_|refine kNo ?_))
    refine slL_front rfl rfl rfl (by omega) hs1 hs2 ?_
    (repeat(first|refine sb ?_|refine kNo ?_))
    refine pLoop (MW.head good (fun y : FvIx => min 5 x.vs.length - y.j) (fun y => y.j ≤ min 5 x.vs.length ∧ TsO y.s y.W ((fwV x.vs).take y.j) ∧ (∀ id ∈ blkOf y.W, s2.next ≤ id) ∧ Chg s2 y.s [])
      (fun y => [(3, .slice W ys.length 0), (5, ptrV s1.next), (6, .slice y.W ((fwV x.vs).take y.j).length 0), (9, .slice (some ⟨b, 0, none⟩) xs.length cm), (10, .int .i64 (xs.length : Int)), (11, .int .i64 (m : Int)), (24, .slice x.W (min 5 x.vs.length) 0), (25, .int .i64 ((min 5 x.vs.length : Nat) : Int)), (26, .int .i64 (y.j : Int))]) (fun y => y.s) ⟨0, none, s2⟩ ⟨Nat.zero_le _, ⟨rfl, rfl, rfl⟩, by simp [blkOf], .refl _ _⟩ (Wk.same ⟨rfl, rfl, rfl, rfl, rfl, rfl, rfl, rfl, rfl, trivial⟩) ?_)
    rintro ⟨j, V, s3⟩ ⟨hj, oV, hV, c3⟩
    dsimp only at hj oV hV c3 ⊢
    have hfl := fwV_len x.vs
    have hjl : ((fwV x.vs).take j).length = j := by rw [List.length_take]; omega
    (repeat(first|refine sb ?_|refine kNo ?_))
    intro q hq
    by_cases hjlt : j < min 5 x.vs.length
    · obtain rfl : q = true := by rw [hq]; simp; omega
      obtain ⟨v, hvj⟩ : ∃ v, x.vs[j]? = some v := ⟨_, List.getElem?_eq_getElem (by omega)⟩
      have hvj5 : (x.vs.take 5)[j]? = some v := by rw [List.getElem?_take, if_pos (by omega)]; exact hvj
      have hnx := fwV_take hvj5
      have hvx3 := hvx2.nil c3
      rcases hvx3 with ⟨_, h2⟩ | ⟨bv, rv, hWv, lv, hbv⟩
      · rw [h2] at hjlt; simp at hjlt
      rw [hWv]
      (repeat(first|refine sb ?_|refine kNo ?_))
      refine ⟨by omega, ?_⟩
      intro m2 hm2 o2 ho2
      obtain rfl : m2 = j := by omega
      (repeat(first|refine sb ?_|refine kNo ?_))
      refine ldS_is (l := v) rfl hbv (by rw [ho2, Nat.zero_add, Nat.mul_one]; exact strV_get hvj) ?_
      (repeat(first|refine sb ?_|refine kNo ?_))
      intro n1 hn1
      subst hn1
      (repeat(first|refine sb ?_|refine kNo ?_))
      intro z hz
      obtain rfl : z = ((min v.length 60 : Nat) : Int) := by omega
      (repeat(first|refine sb ?_|refine kNo ?_))
      refine slS_hi (min v.length 60) rfl rfl rfl (by omega) ?_
      rw [show v.take (min v.length 60) = v.take 60 by rw [Nat.min_comm, ← List.take_eq_take_min]]
      (repeat(first|refine sb ?_|refine kNo ?_))
      have c0 : Chg s3 { s3 with heap := (s3.next, some (.cells [str (v.take 60)] tS false false)) :: s3.heap, next := s3.next + 1 } [] := .new []
      refine appR (oV.chg c0 (fun _ _ q => by cases q)) (by unfold strV; rw [List.length_map, Nat.mul_one]) ⟨by omega, by omega⟩ rfl rfl lkH rfl rfl fun s4 o4 c4 n4 => ?_
      (repeat(first|refine sb ?_|refine kNo ?_))
      intro z hz
      rw [i64_id (by omega)] at hz
      (repeat(first|refine sb ?_|refine kNo ?_))
      refine ⟨⟨m2 + 1, some ⟨s3.next + 1, 0, none⟩, s4⟩, ⟨by show m2 + 1 ≤ min 5 x.vs.length; omega, ?_, fun id q => by simp [blkOf] at q; have := c3.next; omega, (c3.nil c0).fresh c4 hV⟩, by show min 5 x.vs.length - (m2 + 1) < min 5 x.vs.length - m2; omega, Wk.same ⟨rfl, rfl, ?_, rfl, rfl, rfl, rfl, rfl, by rw [show z = ((m2 + 1 : Nat) : Int) by omega]; rfl, trivial⟩⟩
      · show OwnR tS s4 _ 0 ((fwV x.vs).take (m2 + 1)).length (strV ((fwV x.vs).take (m2 + 1)))
        rw [hnx, List.length_append, show strV ((fwV x.vs).take m2 ++ [v.take 60]) = strV ((fwV x.vs).take m2) ++ [str (v.take 60)] by unfold strV; simp]
        exact o4
      · show some (Value.slice _ (((fwV x.vs).take m2).length + 1) 0) = some (.slice _ ((fwV x.vs).take (m2 + 1)).length 0)
        rw [hnx, List.length_append]
        rfl
    · obtain rfl : q = false := by rw [hq]; simp; omega
      obtain rfl : j = min 5 x.vs.length := by omega
      rw [List.take_of_length_le (by omega)] at oV ⊢
      have e3 := c3.blk _ _ (show s1.next < s2.next by omega) (by simp) e2
      (repeat(first|refine sb ?_|refine kNo ?_))
      refine ldI_is (z := x.n) rfl e3 rfl ?_
      (repeat(first|refine sb ?_|refine kNo ?_))
      refine ldS_is (l := x.k) rfl e3 rfl ?_
      (repeat(first|refine sb ?_|refine kNo ?_))
      refine ldS_is (l := x.k) rfl e3 rfl ?_
      (repeat(first|refine sb ?_|refine kNo ?_))
      intro n1 hn1
      subst hn1
      (repeat(first|refine sb ?_|refine kNo ?_))
      intro z hz
      obtain rfl : z = ((min x.k.length 60 : Nat) : Int) := by omega
      (repeat(first|refine sb ?_|refine kNo ?_))
      refine slS_hi (min x.k.length 60) rfl rfl rfl (by omega) ?_
      rw [show x.k.take (min x.k.length 60) = x.k.take 60 by rw [Nat.min_comm, ← List.take_eq_take_min]]
      (repeat(first|refine sb ?_|refine kNo ?_))
      have f3 := (c12.nil c3).fine f
      refine mkS_is rfl rfl (rNew f3.at ?_)
      obtain ⟨m0, m1, m2⟩ := new1_at f3 (.cells (eiC ⟨x.n, x.k.take 60, V, fwV x.vs⟩) tEn13 false false)
      have oW3 := (oW.chg (c2.nil c3) (fun _ _ q => by cases q)).chg m1 (fun _ _ q => by cases q)
      (repeat(first|refine sb ?_|refine kNo ?_))
      refine appR oW3 (eiCs_len ys) ⟨by omega, by omega⟩ rfl rfl m0 rfl rfl fun s5 o5 c5 n5 => ?_
      (repeat(first|refine sb ?_|refine kNo ?_))
      intro z hz
      rw [i64_id (by omega)] at hz
      (repeat(first|refine sb ?_|refine kNo ?_))
      have c123 := c2.nil (c3.nil m1)
      have oV3 := oV.chg m1 (fun _ _ q => by cases q)
      have n2' := c12.next
      have n3' := c3.next
      refine ⟨⟨m + 1, ys ++ [⟨x.n, x.k.take 60, V, fwV x.vs⟩], some ⟨s3.next + 1, 0, none⟩, s5⟩, ⟨by show m + 1 ≤ xs.length; omega, ?_, ?_, ?_, ?_, ?_, ?_, (c1.nil c123).fresh c5 hW⟩, by show xs.length - (m + 1) < xs.length - m; omega, Wk.same ⟨?_, rfl, rfl, by rw [show z = ((m + 1 : Nat) : Int) by omega]; rfl, trivial⟩⟩
      · show OwnR tEn13 s5 _ 0 (ys ++ [_]).length (eiCs (ys ++ [_]))
        rw [List.length_append, eiCs_app]
        exact o5
      · show (ys ++ [_]).map kvI = (xs.take (m + 1)).map fwE
        rw [List.map_append, hkv, show xs.take (m + 1) = xs.take m ++ [x] by rw [List.take_add_one, hxi]; rfl, List.map_append]
        rfl
      · intro y hy
        rcases List.mem_append.1 hy with hy | hy
        · exact ((hT y hy).chg c123 (fun _ _ q => by cases q)).chg c5 (tyNeO (hT y hy) oW (by decide))
        · rw [List.mem_singleton] at hy
          subst hy
          exact oV3.chg c5 (tyNeO oV3 oW3 (by decide))
      · intro y hy id q
        rcases List.mem_append.1 hy with hy | hy
        · exact hTn y hy id q
        · rw [List.mem_singleton] at hy
          subst hy
          have := hV id q
          omega
      · show (ys ++ [_]).Pairwise _
        refine List.pairwise_append.2 ⟨hA, List.pairwise_singleton _ _, fun a ha b hb id q1 q2 => ?_⟩
        rw [List.mem_singleton] at hb
        subst hb
        have h1 := (hT a ha).lt id q1
        have h2 := hV id q2
        omega
      · intro id q
        simp [blkOf] at q
        omega
      · show some (Value.slice _ (ys.length + 1) 0) = some (.slice _ (ys ++ [_]).length 0)
        rw [List.length_append]
        rfl
  · obtain rfl : q = false := by rw [hq]; simp; omega
    obtain rfl : i = xs.length := by omega
    rw [List.take_length] at hkv
    (repeat(first|refine sb ?_|refine kNo ?_))
    exact ⟨W, ys, rfl, oW, hkv, hT, hTn, hA, hW, c1⟩
end Go.Vf.S
end
section
/- The law LinesBack, pure: texts between; what is own. -/
namespace Go.Vf.S
open Go Go.Vf
set_option linter.unusedVariables false
set_option linter.unusedSimpArgs false
set_option maxRecDepth 10000

def pcB (bt : List UInt8) (k : Nat) : List Itm := match bt[k]? with
  | some c => pcI (c.toNat % 6)
  | none => []
def itP (bt : List UInt8) (es : List Ent) : Nat → List Itm
  | 0 => []
  | k + 1 => itP bt es k ++ pcB bt k ++ (match es[k]? with
    | some e => [.ent e.k e.vs]
    | none => [])
theorem itP_next {bt : List UInt8} {es : List Ent} {k : Nat} {e : Ent} (h : es[k]? = some e) : itP bt es (k + 1) = itP bt es k ++ pcB bt k ++ [.ent e.k e.vs] := by
  rw [itP, h]
structure OwnG (es : List Ent) : Prop where
  un : unlike es
  ok : ∀ e ∈ es, EntOk e.k e.vs ∧ e.k.length ≤ 60 ∧ e.vs.length ≤ 5 ∧ (∀ w ∈ e.vs, w.length ≤ 60) ∧ asc e.k ∧ ∀ w ∈ e.vs, asc w
  n8 : es.length ≤ 8
theorem pcI_none (j n : Nat) : entI n (pcI j) = [] := by
  unfold pcI
  repeat' split
  all_goals rfl
theorem pcB_none (bt : List UInt8) (k n : Nat) : entI n (pcB bt k) = [] := by
  unfold pcB
  split
  · exact pcI_none _ _
  · rfl
theorem flt_len (is : List Itm) (n m : Nat) : (fltI n is).length = (fltI m is).length := by
  induction is generalizing n m with
  | nil => rfl
  | cons x r ih =>
    cases x with
    | ent k vs => exact ih _ _
    | pass l => exact ih _ _
    | bad l => show (fltI _ r).length + 1 = (fltI _ r).length + 1; rw [ih]
theorem entP_next {bt : List UInt8} {es : List Ent} {k : Nat} {e : Ent} (h : es[k]? = some e) : entI 1 (itP bt es (k + 1)) = entI 1 (itP bt es k) ++ [⟨(itP bt es k ++ pcB bt k).length + 1, e.k, e.vs⟩] := by
  rw [itP_next h, ent_app, ent_app, pcB_none, List.append_nil, Nat.add_comm 1]
  rfl
theorem fltP_next {bt : List UInt8} {es : List Ent} {k : Nat} {e : Ent} (h : es[k]? = some e) : (fltI 1 (itP bt es (k + 1))).length = (fltI 1 (itP bt es k)).length + (fltI 1 (pcB bt k)).length := by
  rw [itP_next h, flt_app, flt_app, List.length_append, List.length_append, flt_len (pcB bt k) _ 1]
  rfl
theorem entP_kv {bt : List UInt8} {es : List Ent} : ∀ k, k ≤ es.length → (entI 1 (itP bt es k)).map (fun e => (e.k, e.vs)) = (es.take k).map fun e => (e.k, e.vs)
  | 0, _ => rfl
  | k + 1, hk => by
    have h : es[k]? = some es[k] := List.getElem?_eq_getElem (by omega)
    rw [entP_next h, List.map_append, entP_kv k (by omega), List.take_add_one, h, List.map_append]
    rfl
theorem entP_len {bt : List UInt8} {es : List Ent} {k : Nat} (hk : k ≤ es.length) : (entI 1 (itP bt es k)).length = k := by
  have := congrArg List.length (entP_kv (bt := bt) k hk)
  rw [List.length_map, List.length_map, List.length_take] at this
  omega
theorem pcT_len (j : Nat) : (pcT j).length ≤ 15 := by
  unfold pcT pcI
  repeat' split
  all_goals decide
theorem pcB_tx (bt : List UInt8) (k : Nat) : (txI (pcB bt k)).length ≤ 15 := by
  unfold pcB
  split
  · exact pcT_len _
  · decide
theorem txP_next {bt : List UInt8} {es : List Ent} {k : Nat} {e : Ent} (h : es[k]? = some e) : txI (itP bt es (k + 1)) = txI (itP bt es k) ++ txI (pcB bt k) ++ (etL e.k e.vs ++ [10]) := by
  rw [itP_next h, tx_app, tx_app]
  congr 1
  unfold txI
  simp [Itm.l]
theorem txP_len {bt : List UInt8} {es : List Ent} (g : OwnG es) : ∀ k, k ≤ es.length → (txI (itP bt es k)).length ≤ k * 778
  | 0, _ => Nat.le_refl _
  | k + 1, hk => by
    have h : es[k]? = some es[k] := List.getElem?_eq_getElem (by omega)
    obtain ⟨_, h1, h2, h3, _⟩ := g.ok es[k] (List.getElem_mem _)
    have h4 := et_len h1 h3
    have h5 : (es[k].vs.length + 1) * (2 * 60 + 7) ≤ 6 * 127 := Nat.mul_le_mul (by omega) (by omega)
    have h6 := txP_len g (bt := bt) k (by omega)
    have h7 := pcB_tx bt k
    rw [txP_next h, List.length_append, List.length_append, List.length_append, List.length_singleton]
    omega
theorem itP_ok {bt : List UInt8} {es : List Ent} (g : OwnG es) : ∀ k, k ≤ es.length → ∀ i ∈ itP bt es k, i.ok
  | 0, _, i, hi => by cases hi
  | k + 1, hk, i, hi => by
    have h : es[k]? = some es[k] := List.getElem?_eq_getElem (by omega)
    rw [itP_next h] at hi
    rcases List.mem_append.1 hi with hi | hi
    · rcases List.mem_append.1 hi with hi | hi
      · exact itP_ok g k (by omega) i hi
      · unfold pcB at hi
        split at hi
        · exact pc_ok _ i hi
        · cases hi
    · rw [List.mem_singleton] at hi
      subst hi
      exact (g.ok es[k] (List.getElem_mem _)).1
theorem tabP {bt : List UInt8} {es : List Ent} (g : OwnG es) : tabF (txI (itP bt es es.length)) true = (entI 1 (itP bt es es.length), fltI 1 (itP bt es es.length)) := by
  have h8 := g.n8
  have hl := entP_len (bt := bt) (Nat.le_refl es.length)
  have ht := txP_len g (bt := bt) es.length (Nat.le_refl _)
  refine tab_items (itP_ok g _ (Nat.le_refl _)) ?_ (by omega) (by omega)
  have hk := entP_kv (bt := bt) es.length (Nat.le_refl es.length)
  rw [List.take_length] at hk
  have := congrArg (List.map fun x : List UInt8 × List (List UInt8) => lwF x.1) hk
  rw [List.map_map, List.map_map] at this
  unfold unlike
  rw [show (entI 1 (itP bt es es.length)).map (fun z => lwF z.k) = es.map fun z => lwF z.k from this]
  exact g.un
theorem pcB_len (bt : List UInt8) (k : Nat) : (pcB bt k).length ≤ 1 ∧ (fltI 1 (pcB bt k)).length ≤ 1 := by
  unfold pcB
  split
  · rename_i c _
    obtain ⟨h1, h2, _⟩ := pc_len (c.toNat % 6)
    rw [h1, h2]
    refine ⟨by omega, ?_⟩
    split <;> omega
  · exact ⟨by decide, by decide⟩
theorem itP_len {bt : List UInt8} {es : List Ent} : ∀ k, k ≤ es.length → (itP bt es k).length ≤ 2 * k ∧ (fltI 1 (itP bt es k)).length ≤ k
  | 0, _ => ⟨Nat.le_refl _, Nat.le_refl _⟩
  | k + 1, hk => by
    have h : es[k]? = some es[k] := List.getElem?_eq_getElem (by omega)
    obtain ⟨h1, h2⟩ := itP_len (bt := bt) (es := es) k (by omega)
    obtain ⟨h3, h4⟩ := pcB_len bt k
    rw [fltP_next h, itP_next h, List.length_append, List.length_append, List.length_singleton]
    omega
/-- What is own has the lines that its text has. -/
def rowed (es : List Ent) : Prop := ∀ (i : Nat) e, es[i]? = some e → e.n = i + 1
theorem itP0_len {es : List Ent} : ∀ k, k ≤ es.length → (itP [] es k).length = k
  | 0, _ => rfl
  | k + 1, hk => by
    have h : es[k]? = some es[k] := List.getElem?_eq_getElem (by omega)
    rw [itP_next h, List.length_append, List.length_append, itP0_len k (by omega)]
    rfl
theorem entP0 {es : List Ent} (hr : rowed es) : ∀ k, k ≤ es.length → entI 1 (itP [] es k) = es.take k
  | 0, _ => rfl
  | k + 1, hk => by
    have h : es[k]? = some es[k] := List.getElem?_eq_getElem (by omega)
    rw [entP_next h, entP0 hr k (by omega), List.take_add_one, h]
    have := hr k _ h
    rw [List.length_append, itP0_len k (by omega), show (pcB [] k).length = 0 by rfl, Nat.add_zero, ← this]
    rfl
theorem fltP0 {es : List Ent} : ∀ k, k ≤ es.length → (fltI 1 (itP [] es k)).length = 0
  | 0, _ => rfl
  | k + 1, hk => by
    have h : es[k]? = some es[k] := List.getElem?_eq_getElem (by omega)
    rw [fltP_next h, fltP0 k (by omega)]
    rfl
theorem txP0 {es : List Ent} (g : OwnG es) : ∀ k, k ≤ es.length → txI (itP [] es k) = txE (es.take k)
  | 0, _ => rfl
  | k + 1, hk => by
    have h : es[k]? = some es[k] := List.getElem?_eq_getElem (by omega)
    rw [txP_next h, txP0 g k (by omega), List.take_add_one, h]
    unfold txE
    rw [List.flatMap_append, show txI (pcB [] k) = [] by rfl, List.append_nil]
    congr 1
    show _ = enT _ _ ++ []
    rw [List.append_nil, enT_et (g.ok es[k] (List.getElem_mem _)).1.v0]
theorem tab0 {es : List Ent} (g : OwnG es) (hr : rowed es) : tabF (txE es) true = (es, []) := by
  have h := tabP g (bt := [])
  rw [txP0 g _ (Nat.le_refl _), entP0 hr _ (Nat.le_refl _), List.take_length, List.eq_nil_of_length_eq_zero (fltP0 (es := es) _ (Nat.le_refl _))] at h
  exact h
theorem txE0_len {es : List Ent} (g : OwnG es) : (txE es).length ≤ 6224 := by
  have h := txP_len g (bt := []) es.length (Nat.le_refl _)
  rw [txP0 g _ (Nat.le_refl _), List.take_length] at h
  have := g.n8
  omega
/-- One more that is own. -/
theorem OwnG.more {es : List Ent} {k : List UInt8} {vs : List (List UInt8)} {n : Nat} (g : OwnG es) (h8 : es.length < 8) (hk : k.length ≤ 60) (hn : vs.length ≤ 5) (hv : ∀ w ∈ vs, w.length ≤ 60) (hk0 : k ≠ []) (hv0 : vs ≠ []) (hu : ∀ e ∈ es, lwF e.k ≠ lwF (prW k)) : OwnG (es ++ [⟨n, prW k, vs.map prW⟩]) := by
  refine ⟨?_, ?_, by rw [List.length_append, List.length_singleton]; omega⟩
  · unfold unlike
    rw [List.map_append]
    refine List.nodup_append.2 ⟨g.un, by simp, fun a ha b hb e => ?_⟩
    obtain ⟨x, hx, rfl⟩ := List.mem_map.1 ha
    rw [List.map_singleton, List.mem_singleton] at hb
    exact hu x hx (e.trans hb)
  · intro e he
    rcases List.mem_append.1 he with he | he
    · exact g.ok e he
    · rw [List.mem_singleton] at he
      subst he
      refine ⟨⟨pr_tx _, by unfold prW; simpa using hk0, ?_, by simpa using hv0, by rw [List.length_map]; omega⟩, by rw [pr_len]; exact hk, by rw [List.length_map]; exact hn, ?_, pr_asc _, ?_⟩
      · intro w hw
        obtain ⟨x, _, rfl⟩ := List.mem_map.1 hw
        exact pr_tx x
      · intro w hw
        obtain ⟨x, hx, rfl⟩ := List.mem_map.1 hw
        rw [pr_len]
        exact hv x hx
      · intro w hw
        obtain ⟨x, _, rfl⟩ := List.mem_map.1 hw
        exact pr_asc x
theorem rowed.more {es : List Ent} {k : List UInt8} {vs : List (List UInt8)} (h : rowed es) : rowed (es ++ [⟨es.length + 1, k, vs⟩]) := by
  intro i e he
  by_cases hi : i < es.length
  · rw [List.getElem?_append_left hi] at he
    exact h i e he
  · rw [List.getElem?_append_right (by omega)] at he
    obtain ⟨h1, h2⟩ := List.getElem?_eq_some_iff.1 he
    rw [List.length_singleton] at h1
    have : i - es.length = 0 := by omega
    simp only [this, List.getElem_cons_zero] at h2
    subst h2
    show es.length + 1 = i + 1
    omega
theorem enCs_set (R : List EnV) (k : Nat) (x : EnV) (n : Nat) (h : R[k]? = some x) : (enCs R).set (k * 3) (.int .i64 (n : Int)) = enCs (R.set k ⟨⟨n, x.e.k, x.e.vs⟩, x.W⟩) := by
  unfold enCs
  induction R generalizing k with
  | nil => cases h
  | cons y R ih =>
    cases k with
    | zero =>
      rw [List.getElem?_cons_zero] at h
      obtain rfl := Option.some.inj h
      rfl
    | succ k =>
      rw [List.getElem?_cons_succ] at h
      rw [List.set_cons_succ, List.flatMap_cons, List.flatMap_cons, ← ih k h, show (k + 1) * 3 = (enC y).length + k * 3 by simp [enC]; omega, List.set_append_right _ _ (by omega), Nat.add_sub_cancel_left]
end Go.Vf.S
end
section
/- Entries held against one another. -/
namespace Go.Vf.S
open Go Go.Vf Go.Proofs Go.RowKit
attribute [local irreducible] wSeq wRow wp wG
set_option linter.unusedVariables false
set_option linter.unusedSimpArgs false
set_option maxRecDepth 10000

def kvV (x : EnV) : List UInt8 × List (List UInt8) := (x.e.k, x.e.vs)
theorem like1_w {s : SS} {x y : EnV} (h : kvV x = kvV y) (hn : x.e.vs.length ≤ 100000) (tx : TsR s x.W x.e.vs) (ty : TsR s y.W y.e.vs) :
    CallW pr n_law13_LinesBack_1 [.agg ⟨enC x⟩, .agg ⟨enC y⟩] s fun v s' => v = .bool true ∧ Chg s s' [] := by
  obtain ⟨h1, h2⟩ := Prod.mk.inj h
  refine CallW.run good ok_law13_LinesBack_1 (by simp) rfl ?_
  have c0 : Chg s { s with heap := (s.next, some (.cells (enC x) tEn13 false false)) :: s.heap, next := s.next + 1 } [] := .new []
  have c1 : Chg { s with heap := (s.next, some (.cells (enC x) tEn13 false false)) :: s.heap, next := s.next + 1 } { s with heap := (s.next + 1, some (.cells (enC y) tEn13 false false)) :: (s.next, some (.cells (enC x) tEn13 false false)) :: s.heap, next := s.next + 1 + 1 } [] := .new []
  have k0 := c1.blk _ _ (Nat.lt_succ_self s.next) (by simp) lkH
  have k1 : lookH ({ s with heap := (s.next + 1, some (.cells (enC y) tEn13 false false)) :: (s.next, some (.cells (enC x) tEn13 false false)) :: s.heap, next := s.next + 1 + 1 } : SS).heap (s.next + 1) = some (.cells (enC y) tEn13 false false) := lkH
  have tx := (tx.nil c0).nil c1
  have ty := (ty.nil c0).nil c1
  rw [← h2] at ty
  have e1 : enC y = [.int .i64 (y.e.n : Int), str x.e.k, .slice y.W x.e.vs.length 0] := by unfold enC; rw [h1, h2]
  (try refine pSeq ?_); (repeat(first|refine sb ?_|refine gOn rfl ?_|refine gOff rfl rfl ?_|refine gTup rfl ?_))
  refine ldS_is (l := x.e.k) rfl k0 rfl ?_
  (repeat(first|refine sb ?_|refine gOn rfl ?_|refine gOff rfl rfl ?_|refine gTup rfl ?_))
  refine ldS_is (l := x.e.k) rfl k1 (by rw [e1]; rfl) ?_
  (repeat(first|refine sb ?_|refine gOn rfl ?_|refine gOff rfl rfl ?_|refine gTup rfl ?_))
  intro q hq
  obtain rfl : q = true := by rw [hq]; simp
  (repeat(first|refine sb ?_|refine gOn rfl ?_|refine gOff rfl rfl ?_|refine gTup rfl ?_))
  refine ld1_is rfl k0 rfl ?_
  (repeat(first|refine sb ?_|refine gOn rfl ?_|refine gOff rfl rfl ?_|refine gTup rfl ?_))
  refine ld1_is (v := .slice y.W x.e.vs.length 0) rfl k1 (by rw [e1]; rfl) ?_
  (repeat(first|refine sb ?_|refine gOn rfl ?_|refine gOff rfl rfl ?_|refine gTup rfl ?_))
  refine (eqT_same (fa := x.e.vs) tx ty hn).mono fun v s q => ?_
  obtain ⟨rfl, rfl⟩ := q
  (repeat(first|refine sb ?_|refine gOn rfl ?_|refine gOff rfl rfl ?_|refine gTup rfl ?_))
  exact ⟨rfl, c0.nil c1⟩
theorem gen_lk {T : TL} {s : SS} {K : RR → Prop} {x a b : Tmp} {ts : Array TypeId} {u v : Value} (hx : look T x = some (fnV n_law13_LinesBack_1)) (ha : look T a = some u) (hb : look T b = some v) (hK : K (.call n_law13_LinesBack_1 [u, v])) : wN pr (.gen (.call ⟨.value (.tmp x), #[.tmp a, .tmp b], ts⟩)) T s K := by
  refine ⟨.call n_law13_LinesBack_1 [u, v], ?_, hK⟩
  simp only [aOp, operand, operands, toTr_get, hx, ha, hb]
  exact (show callV pr (fnV n_law13_LinesBack_1) [u, v] = some (.enter n_law13_LinesBack_1 ([] ++ [u, v] ++ [])) by kernel_rfl)
theorem eqLk_w {s : SS} {W V : Option Addr} {xs ys : List EnV} {cw cv : Nat} (f : Fine s) (hx : EsR s W xs) (hy : EsR s V ys) (h : xs.map kvV = ys.map kvV) (hn : xs.length ≤ 100000) (tx : ∀ x ∈ xs, TsR s x.W x.e.vs ∧ x.e.vs.length ≤ 100000) (ty : ∀ x ∈ ys, TsR s x.W x.e.vs) :
    CallW pr n_slices_EqualFunc_lines_Entry_lines_Entry_lines_Entry_lines_Entry [.slice W xs.length cw, .slice V ys.length cv, fnV n_law13_LinesBack_1] s fun v s' => v = .bool true ∧ Chg s s' [] := by
  have hl : xs.length = ys.length := by have := congrArg List.length h; rwa [List.length_map, List.length_map] at this
  refine CallW.run good ok_slices_EqualFunc_lines_Entry_lines_Entry_lines_Entry_lines_Entry (by simp) rfl ?_
  (try refine pSeq ?_); (repeat refine sb ?_)
  intro q hq
  obtain rfl : q = false := by rw [hq]; simp; omega
  (repeat refine sb ?_)
  refine pLoop (MW.head good (fun x : Nat × SS => xs.length - x.1) (fun x => x.1 ≤ xs.length ∧ Chg s x.2 []) (fun x => [(1, .slice V ys.length cv), (2, fnV n_law13_LinesBack_1), (15, .slice W xs.length cw), (16, .int .i64 (xs.length : Int)), (17, .int .i64 (x.1 : Int))]) (fun x => x.2) (0, s) ⟨Nat.zero_le _, .refl _ _⟩ (Wk.same ⟨rfl, rfl, rfl, rfl, rfl, trivial⟩) ?_)
  rintro ⟨i, s1⟩ ⟨hi, c1⟩
  dsimp only at hi c1 ⊢
  (repeat refine sb ?_)
  intro q hq
  by_cases hlt : i < xs.length
  · obtain rfl : q = true := by rw [hq]; simp; omega
    obtain ⟨x, hxi⟩ : ∃ x, xs[i]? = some x := ⟨_, List.getElem?_eq_getElem hlt⟩
    obtain ⟨y, hyi⟩ : ∃ x, ys[i]? = some x := ⟨_, List.getElem?_eq_getElem (by omega)⟩
    have hxy : kvV x = kvV y := by
      have h1 : (xs.map kvV)[i]? = some (kvV x) := by rw [List.getElem?_map, hxi]; rfl
      rw [h, List.getElem?_map, hyi] at h1
      exact (Option.some.inj h1).symm
    obtain ⟨b, tb, g, r, rfl, lb, hb⟩ := hx.resolve_left (fun e => by rw [e] at hlt; simp at hlt)
    obtain ⟨b2, tb2, g2, r2, rfl, lb2, hb2⟩ := hy.resolve_left (fun e => by rw [e] at hl; simp at hl; rw [hl] at hlt; simp at hlt)
    obtain ⟨tx1, tx2⟩ := tx x (List.mem_of_getElem? hxi)
    have ty1 := ty y (List.mem_of_getElem? hyi)
    have hb1 := c1.blk _ _ lb (by simp) hb
    (repeat refine sb ?_)
    refine ⟨by omega, ?_⟩
    intro m hm2 o ho
    obtain rfl : m = i := by omega
    (repeat refine sb ?_)
    refine ldN_is rfl hb1 (by rw [ho, Nat.zero_add]; exact enCs_take hxi) ?_
    (repeat refine sb ?_)
    refine st_abs (cs' := enC x) rfl rfl lkH (Nat.lt_succ_self _) rfl rfl fun s2 e2 c2 n2 => ?_
    have n2 : s2.next = s1.next + 1 := n2
    have c2 : Chg s1 s2 [] := (Chg.new []).fresh c2 (by simp)
    have hb2' := c2.blk _ _ (Nat.lt_of_lt_of_le lb2 c1.next) (by simp) (c1.blk _ _ lb2 (by simp) hb2)
    (repeat refine sb ?_)
    refine ⟨by omega, ?_⟩
    intro m2 hm2 o2 ho2
    obtain rfl : m2 = m := by omega
    (repeat refine sb ?_)
    refine ldN_is rfl hb2' (by rw [ho2, Nat.zero_add]; exact enCs_take hyi) ?_
    (repeat refine sb ?_)
    refine st_abs (cs' := enC y) rfl rfl lkH (Nat.lt_succ_self _) rfl rfl fun s3 e3 c3 n3 => ?_
    have n3 : s3.next = s2.next + 1 := n3
    have c3 : Chg s2 s3 [] := (Chg.new []).fresh c3 (by simp)
    (repeat refine sb ?_)
    refine ldN_is rfl (c3.blk _ _ (show s1.next < s2.next by omega) (by simp) e2) rfl ?_
    (repeat refine sb ?_)
    refine ldN_is rfl e3 rfl ?_
    (repeat refine sb ?_)
    refine gen_lk rfl rfl rfl ?_
    (repeat refine sb ?_)
    have c13 := c1.nil (c2.nil c3)
    refine (like1_w hxy tx2 (tx1.nil c13) (ty1.nil c13)).mono fun v s4 q => ?_
    obtain ⟨rfl, c4⟩ := q
    (repeat refine sb ?_)
    intro q hq
    obtain rfl : q = false := by rw [hq]; rfl
    (repeat refine sb ?_)
    intro z hz
    rw [i64_id (by omega)] at hz
    (repeat refine sb ?_)
    exact ⟨(m2 + 1, s4), ⟨by show m2 + 1 ≤ xs.length; omega, c13.nil c4⟩, by show xs.length - (m2 + 1) < xs.length - m2; omega, Wk.same ⟨rfl, rfl, rfl, rfl, by rw [show z = ((m2 + 1 : Nat) : Int) by omega]; rfl, trivial⟩⟩
  · obtain rfl : q = false := by rw [hq]; simp; omega
    (repeat refine sb ?_)
    exact ⟨rfl, c1⟩
end Go.Vf.S
end
section
/- The library's case and replacements. -/
namespace Go.Vf.S
open Go Go.Vf Go.Proofs Go.RowKit
attribute [local irreducible] wSeq wRow wp wG
set_option linter.unusedVariables false
set_option linter.unusedSimpArgs false
set_option maxRecDepth 10000

theorem toLower_w {s : SS} {l : List UInt8} (hl : l.length ≤ 1000000) (ha : asc l) : CallW pr 8 [str l] s fun v s' => v = str (l.map Lib.lowerB) ∧ s' = s := by
  refine CallW.kit rfl fun B w0 ρ args' w H hr => ?_
  obtain ⟨v1, rfl, q1⟩ := lrel_1 hr
  obtain rfl := str_inv q1
  exact Any.strings_ToLower_ascii Tryz.lays159 Tryz.Builder_Extra_159 ⟨⟨l⟩⟩ w (by show l.length ≤ _; omega) (asc_at ha)
end Go.Vf.S
end
section
/- Upper case and lower case. -/
namespace Go.Vf.S
open Go Go.Vf Go.Proofs Go.RowKit
set_option linter.unusedVariables false
set_option linter.unusedSimpArgs false
set_option maxRecDepth 10000

theorem all_bytes {p : UInt8 → Bool} (h : ((List.range 256).all fun n => p (UInt8.ofNat n)) = true) (c : UInt8) : p c = true := by
  rw [List.all_eq_true] at h
  have := h c.toNat (List.mem_range.2 c.toNat_lt)
  rwa [UInt8.ofNat_toNat] at this
theorem lower_is (c : UInt8) : Lib.lowerB c = lowB c := by
  have := all_bytes (p := fun c => Lib.lowerB c == lowB c) (by decide +kernel) c
  simpa using this
theorem lower_map (l : List UInt8) : l.map Lib.lowerB = l.map lowB := by congr 1; funext c; exact lower_is c
end Go.Vf.S
end

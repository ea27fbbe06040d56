import Derived.Test.YthhcngkblihliaaDoorHdY
import Derived.Test.YthhcngkblihliaaDoorBnH
/- A text cut at each 0d 0a. -/
namespace Go.Vf.S
open Go Go.Vf Go.Proofs Go.RowKit
attribute [local irreducible] wSeq wRow wp wG
set_option linter.unusedVariables false
set_option linter.unusedSimpArgs false
set_option maxRecDepth 10000

/-- Lines with 0d 0a between them. -/
def js : List UInt8 → List (List UInt8) → List UInt8
  | a, [] => a
  | a, b :: r => a ++ 13 :: 10 :: js b r
theorem js_jn : ∀ (a : List UInt8) (r : List (List UInt8)), js a r ++ [13, 10] = jn (a :: r)
  | a, [] => rfl
  | a, b :: r => by
    rw [jn_cons, ← js_jn b r, js]
    simp
abbrev e2 : List UInt8 := [13, 10]
theorem ix2_at {t : List UInt8} : ∀ {a : List UInt8}, a.all okB = true → Lib.index (a ++ 13 :: 10 :: t) e2 = (a.length : Int)
  | [], _ => by
    rw [List.nil_append, Lib.index, if_pos (by simp [List.isPrefixOf, e2])]
    rfl
  | c :: a, h => by
    simp only [List.all_cons, Bool.and_eq_true] at h
    have hc : c ≠ 13 := fun e => by subst e; simp [okB] at h
    have hp : e2.isPrefixOf (c :: (a ++ 13 :: 10 :: t)) = false := by
      simp [List.isPrefixOf, e2]
      intro q; exact absurd q.symm hc
    rw [List.cons_append, idx_skip hp, ix2_at h.2, if_neg (by omega), List.length_cons]
    omega
theorem ix2_no : ∀ {a : List UInt8}, a.all okB = true → Lib.index a e2 = -1
  | [], _ => rfl
  | c :: a, h => by
    simp only [List.all_cons, Bool.and_eq_true] at h
    have hc : c ≠ 13 := fun e => by subst e; simp [okB] at h
    have hp : e2.isPrefixOf (c :: a) = false := by
      cases a <;> simp [List.isPrefixOf, e2] <;> (intro q; exact absurd q.symm hc)
    rw [idx_skip hp, ix2_no h.2, if_pos rfl]

theorem count2_w {s : SS} {a : List UInt8} {r : List (List UInt8)} (hM : Gx s) (hk : Okl (a :: r)) (hl : (js a r).length ≤ 1000000) (hr : r.length ≤ 1000000) : CallW pr n_strings_Count [str (js a r), str e2] s fun v s' => v = .int .i64 (r.length : Nat) ∧ s' = s := by
  refine CallW.run good ok_strings_Count (by simp) rfl ?_
  (repeat(first|refine pSeq ?_|refine pReg ?_|refine sRaw ?_|refine sCons ?_|refine sNil ?_|refine pBlock ?_|refine pSkip ?_|refine pRet ?_|refine pCond ?_|refine gNone ?_))
  intro n hn
  (repeat(first|refine pSeq ?_|refine pReg ?_|refine sRaw ?_|refine sCons ?_|refine sNil ?_|refine pBlock ?_|refine pSkip ?_|refine pRet ?_|refine pCond ?_|refine gNone ?_))
  intro q hq
  obtain rfl : q = false := by rw [hq, hn]; rfl
  (repeat(first|refine pSeq ?_|refine pReg ?_|refine sRaw ?_|refine sCons ?_|refine sNil ?_|refine pBlock ?_|refine pSkip ?_|refine pRet ?_|refine pCond ?_|refine gNone ?_))
  intro n hn
  (repeat(first|refine pSeq ?_|refine pReg ?_|refine sRaw ?_|refine sCons ?_|refine sNil ?_|refine pBlock ?_|refine pSkip ?_|refine pRet ?_|refine pCond ?_|refine gNone ?_))
  intro q hq
  obtain rfl : q = false := by rw [hq, hn]; rfl
  (repeat(first|refine pSeq ?_|refine pReg ?_|refine sRaw ?_|refine sCons ?_|refine sNil ?_|refine pBlock ?_|refine pSkip ?_|refine pRet ?_|refine pCond ?_|refine gNone ?_))
  refine pLoop (MW.head good (fun x : List UInt8 × List (List UInt8) => x.2.length) (fun x => Okl (x.1 :: x.2) ∧ (js x.1 x.2).length ≤ 1000000 ∧ x.2.length ≤ r.length)
    (fun x => [(0, str (js x.1 x.2)), (1, str e2), (5, .int .i64 (r.length - x.2.length : Nat))]) (fun x => s) (a, r) ⟨hk, hl, Nat.le_refl _⟩ (Wk.same ⟨rfl, rfl, by simp; rfl, trivial⟩) ?_)
  rintro ⟨b, t⟩ ⟨h1, h2, h3⟩
  dsimp only at h1 h2 h3 ⊢
  (repeat(first|refine pSeq ?_|refine pReg ?_|refine sRaw ?_|refine sCons ?_|refine sNil ?_|refine pBlock ?_|refine pSkip ?_|refine pRet ?_|refine pCond ?_|refine gNone ?_))
  refine (sIndex_w hM h2).mono fun v s q => ?_
  obtain ⟨rfl, rfl⟩ := q
  (repeat(first|refine pSeq ?_|refine pReg ?_|refine sRaw ?_|refine sCons ?_|refine sNil ?_|refine pBlock ?_|refine pSkip ?_|refine pRet ?_|refine pCond ?_|refine gNone ?_))
  cases t with
  | nil =>
    rw [show js b [] = b from rfl, ix2_no h1.cons.1]
    intro q hq
    obtain rfl : q = true := by rw [hq]; rfl
    (repeat(first|refine pSeq ?_|refine pReg ?_|refine sRaw ?_|refine sCons ?_|refine sNil ?_|refine pBlock ?_|refine pSkip ?_|refine pRet ?_|refine pCond ?_|refine gNone ?_))
    exact ⟨rfl, rfl⟩
  | cons c t =>
    rw [show js b (c :: t) = b ++ 13 :: 10 :: js c t from rfl] at h2 ⊢
    rw [ix2_at h1.cons.1]
    have hlen : (b ++ 13 :: 10 :: js c t).length = b.length + 2 + (js c t).length := by simp; omega
    intro q hq
    obtain rfl : q = false := by rw [hq]; exact decide_eq_false (by omega)
    (repeat(first|refine pSeq ?_|refine pReg ?_|refine sRaw ?_|refine sCons ?_|refine sNil ?_|refine pBlock ?_|refine pSkip ?_|refine pRet ?_|refine pCond ?_|refine gNone ?_))
    rw [List.length_cons] at h3
    intro z hz
    rw [i64_id (by omega)] at hz
    obtain rfl : z = ((r.length - t.length : Nat) : Int) := by rw [List.length_cons] at hz; omega
    (repeat(first|refine pSeq ?_|refine pReg ?_|refine sRaw ?_|refine sCons ?_|refine sNil ?_|refine pBlock ?_|refine pSkip ?_|refine pRet ?_|refine pCond ?_|refine gNone ?_))
    intro n hn
    (repeat(first|refine pSeq ?_|refine pReg ?_|refine sRaw ?_|refine sCons ?_|refine sNil ?_|refine pBlock ?_|refine pSkip ?_|refine pRet ?_|refine pCond ?_|refine gNone ?_))
    intro z hz
    have hn2 : n = 2 := by rw [hn]; rfl
    rw [hn2, i64_id (by omega)] at hz
    (repeat(first|refine pSeq ?_|refine pReg ?_|refine sRaw ?_|refine sCons ?_|refine sNil ?_|refine pBlock ?_|refine pSkip ?_|refine pRet ?_|refine pCond ?_|refine gNone ?_))
    refine ⟨by omega, ?_⟩
    intro m hm g hg
    obtain rfl : m = b.length + 2 := by omega
    have eg : g = js c t := by
      rw [hg, List.take_of_length_le (by rw [List.length_drop]; omega), show b ++ 13 :: 10 :: js c t = (b ++ [13, 10]) ++ js c t by simp, List.drop_left' (by simp)]
    clear hg
    subst eg
    (repeat(first|refine pSeq ?_|refine pReg ?_|refine sRaw ?_|refine sCons ?_|refine sNil ?_|refine pBlock ?_|refine pSkip ?_|refine pRet ?_|refine pCond ?_|refine gNone ?_))
    exact ⟨(c, t), ⟨h1.cons.2, by show (js c t).length ≤ 1000000; omega, by show t.length ≤ r.length; omega⟩, by show t.length < (c :: t).length; simp, Wk.same ⟨rfl, rfl, rfl, trivial⟩⟩

structure P2It where
  done : List (List UInt8)
  a : List UInt8
  r : List (List UInt8)
  s : SS
set_option maxHeartbeats 1000000 in
theorem split2_w {s : SS} {a : List UInt8} {r : List (List UInt8)} (hM : Gx s) (hk : Okl (a :: r)) (hl : (js a r).length ≤ 1000000) (hr : r.length < (js a r).length + 1) : CallW pr n_strings_genSplit [str (js a r), str e2, .int .i64 0, .int .i64 (-1)] s fun v s' => ∃ base cap, v = .slice base (a :: r).length cap ∧ StrsAt s' base (a :: r) ∧ Chg s s' [] ∧ (∀ id ∈ blkOf base, s.next ≤ id) ∧ (a :: r).length ≤ cap ∧ Full s' base := by
  refine CallW.run good ok_strings_genSplit (by simp) rfl ?_
  (repeat(first|refine pSeq ?_|refine pReg ?_|refine sCons ?_|refine sNil ?_|refine pBlock ?_|refine pSkip ?_|refine pExit ?_|refine pRet ?_|refine pCond ?_|refine gNone ?_))
  intro q hq; obtain rfl : q = false := (by rw [hq]; simp <;> omega); (repeat(first|refine pSeq ?_|refine pReg ?_|refine sCons ?_|refine sNil ?_|refine pBlock ?_|refine pSkip ?_|refine pExit ?_|refine pRet ?_|refine pCond ?_|refine gNone ?_))
  intro q hq; obtain rfl : q = false := (by rw [hq]; simp <;> omega); (repeat(first|refine pSeq ?_|refine pReg ?_|refine sCons ?_|refine sNil ?_|refine pBlock ?_|refine pSkip ?_|refine pExit ?_|refine pRet ?_|refine pCond ?_|refine gNone ?_))
  intro q hq; obtain rfl : q = true := (by rw [hq]; simp <;> omega); (repeat(first|refine pSeq ?_|refine pReg ?_|refine sCons ?_|refine sNil ?_|refine pBlock ?_|refine pSkip ?_|refine pExit ?_|refine pRet ?_|refine pCond ?_|refine gNone ?_))
  refine (count2_w hM hk hl (by omega)).mono fun v s q => ?_
  obtain ⟨rfl, rfl⟩ := q
  (repeat(first|refine pSeq ?_|refine pReg ?_|refine sCons ?_|refine sNil ?_|refine pBlock ?_|refine pSkip ?_|refine pExit ?_|refine pRet ?_|refine pCond ?_|refine gNone ?_))
  intro z hz
  rw [i64_id (by omega)] at hz
  (repeat(first|refine pSeq ?_|refine pReg ?_|refine sCons ?_|refine sNil ?_|refine pBlock ?_|refine pSkip ?_|refine pExit ?_|refine pRet ?_|refine pCond ?_|refine gNone ?_))
  intro n hn
  (repeat(first|refine pSeq ?_|refine pReg ?_|refine sCons ?_|refine sNil ?_|refine pBlock ?_|refine pSkip ?_|refine pExit ?_|refine pRet ?_|refine pCond ?_|refine gNone ?_))
  intro z2 hz2
  rw [i64_id (by omega)] at hz2
  (repeat(first|refine pSeq ?_|refine pReg ?_|refine sCons ?_|refine sNil ?_|refine pBlock ?_|refine pSkip ?_|refine pExit ?_|refine pRet ?_|refine pCond ?_|refine gNone ?_))
  intro z3 hz3
  obtain rfl : z3 = ((r.length + 1 : Nat) : Int) := by omega
  (repeat(first|refine pSeq ?_|refine pReg ?_|refine sCons ?_|refine sNil ?_|refine pBlock ?_|refine pSkip ?_|refine pExit ?_|refine pRet ?_|refine pCond ?_|refine gNone ?_))
  refine ⟨by omega, ?_⟩
  intro m k hm hk' cs hcs
  obtain rfl : m = r.length + 1 := by omega
  obtain rfl : k = r.length + 1 := by omega
  rw [repeat_str] at hcs
  subst hcs
  (repeat(first|refine pSeq ?_|refine pReg ?_|refine sCons ?_|refine sNil ?_|refine pBlock ?_|refine pSkip ?_|refine pExit ?_|refine pRet ?_|refine pCond ?_|refine gNone ?_))
  intro z4 hz4
  rw [i64_id (by omega)] at hz4
  obtain rfl : z4 = ((r.length : Nat) : Int) := by omega
  (repeat(first|refine pSeq ?_|refine pReg ?_|refine sCons ?_|refine sNil ?_|refine pBlock ?_|refine pSkip ?_|refine pExit ?_|refine pRet ?_|refine pCond ?_|refine gNone ?_))
  refine pLoop (MW.head good (fun x : P2It => x.r.length) (fun x => a :: r = x.done ++ x.a :: x.r ∧ (js x.a x.r).length ≤ (js a r).length ∧ r.length = x.done.length + x.r.length ∧ Chg s x.s [] ∧ s.next < x.s.next ∧ lookH x.s.heap s.next = some (.cells (strV x.done ++ List.replicate (x.r.length + 1) (str [])) tS false false))
    (fun x => [(0, str (js x.a x.r)), (1, str e2), (2, .int .i64 0), (3, .int .i64 (r.length : Nat)), (9, .slice (some ⟨s.next, 0, none⟩) (r.length + 1) (r.length + 1)), (10, .int .i64 x.done.length)]) (fun x => x.s) ⟨[], a, r, _⟩ ⟨rfl, Nat.le_refl _, by simp, .new _, Nat.lt_succ_self _, lkH⟩ (Wk.same ⟨rfl, rfl, rfl, rfl, rfl, rfl, trivial⟩) ?_)
  intro ⟨done, b, t, s1⟩ ⟨h1, h2, h3, c1, h4, h5⟩
  dsimp only at h1 h2 h3 c1 h4 h5 ⊢
  have hkb : Okl (b :: t) := by rw [h1] at hk; exact hk.right
  (repeat(first|refine pSeq ?_|refine pReg ?_|refine sCons ?_|refine sNil ?_|refine pBlock ?_|refine pSkip ?_|refine pExit ?_|refine pRet ?_|refine pCond ?_|refine gNone ?_))
  intro q hq
  cases t with
  | cons c t =>
    rw [List.length_cons] at h3 h5
    obtain rfl : q = true := by rw [hq]; exact decide_eq_true (by omega)
    rw [show js b (c :: t) = b ++ 13 :: 10 :: js c t from rfl] at h2 ⊢
    have hlen : (b ++ 13 :: 10 :: js c t).length = b.length + 2 + (js c t).length := by simp; omega
    (repeat(first|refine pSeq ?_|refine pReg ?_|refine sCons ?_|refine sNil ?_|refine pBlock ?_|refine pSkip ?_|refine pExit ?_|refine pRet ?_|refine pCond ?_|refine gNone ?_))
    refine (sIndex_w (hM.chg c1) (by omega)).mono fun v s1 q => ?_
    obtain ⟨rfl, rfl⟩ := q
    rw [ix2_at hkb.cons.1]
    (repeat(first|refine pSeq ?_|refine pReg ?_|refine sCons ?_|refine sNil ?_|refine pBlock ?_|refine pSkip ?_|refine pExit ?_|refine pRet ?_|refine pCond ?_|refine gNone ?_))
    intro q hq; obtain rfl : q = false := (by rw [hq]; simp <;> omega); (repeat(first|refine pSeq ?_|refine pReg ?_|refine sCons ?_|refine sNil ?_|refine pBlock ?_|refine pSkip ?_|refine pExit ?_|refine pRet ?_|refine pCond ?_|refine gNone ?_))
    intro z hz
    rw [i64_id (by omega)] at hz
    (repeat(first|refine pSeq ?_|refine pReg ?_|refine sCons ?_|refine sNil ?_|refine pBlock ?_|refine pSkip ?_|refine pExit ?_|refine pRet ?_|refine pCond ?_|refine gNone ?_))
    refine ⟨by omega, ?_⟩
    intro m hm g hg
    obtain rfl : m = b.length := by omega
    have eg : g = b := by rw [hg]; simp
    clear hg
    subst eg
    (repeat(first|refine pSeq ?_|refine pReg ?_|refine sCons ?_|refine sNil ?_|refine pBlock ?_|refine pSkip ?_|refine pExit ?_|refine pRet ?_|refine pCond ?_|refine gNone ?_))
    refine ⟨by omega, ?_⟩
    intro m hm o ho
    obtain rfl : m = done.length := by omega
    (repeat(first|refine pSeq ?_|refine pReg ?_|refine sCons ?_|refine sNil ?_|refine pBlock ?_|refine pSkip ?_|refine pExit ?_|refine pRet ?_|refine pCond ?_|refine gNone ?_))
    refine st_abs (cs' := strV (done ++ [g]) ++ List.replicate (t.length + 1) (str [])) rfl rfl h5 h4 rfl ?_ fun s2 e2' c2 n2 => ?_
    · rw [ho, Nat.zero_add, Nat.mul_one]
      show setRow _ _ [_] = _
      rw [setRow_one (by rw [List.length_append, strV_len, List.length_replicate]; omega), set_row]
    (repeat(first|refine pSeq ?_|refine pReg ?_|refine sCons ?_|refine sNil ?_|refine pBlock ?_|refine pSkip ?_|refine pExit ?_|refine pRet ?_|refine pCond ?_|refine gNone ?_))
    intro n hn
    (repeat(first|refine pSeq ?_|refine pReg ?_|refine sCons ?_|refine sNil ?_|refine pBlock ?_|refine pSkip ?_|refine pExit ?_|refine pRet ?_|refine pCond ?_|refine gNone ?_))
    intro z2 hz2
    have hn1 : n = 2 := by rw [hn]; rfl
    rw [hn1, i64_id (by omega)] at hz2
    (repeat(first|refine pSeq ?_|refine pReg ?_|refine sCons ?_|refine sNil ?_|refine pBlock ?_|refine pSkip ?_|refine pExit ?_|refine pRet ?_|refine pCond ?_|refine gNone ?_))
    refine ⟨by omega, ?_⟩
    intro m hm r2 hr2
    obtain rfl : m = g.length + 2 := by omega
    have er : r2 = js c t := by
      rw [hr2, List.take_of_length_le (by rw [List.length_drop]; omega), show g ++ 13 :: 10 :: js c t = (g ++ [13, 10]) ++ js c t by simp, List.drop_left' (by simp)]
    clear hr2
    subst er
    (repeat(first|refine pSeq ?_|refine pReg ?_|refine sCons ?_|refine sNil ?_|refine pBlock ?_|refine pSkip ?_|refine pExit ?_|refine pRet ?_|refine pCond ?_|refine gNone ?_))
    intro z3 hz3
    rw [i64_id (by omega)] at hz3
    obtain rfl : z3 = (((done ++ [g]).length : Nat) : Int) := by simp; omega
    (repeat(first|refine pSeq ?_|refine pReg ?_|refine sCons ?_|refine sNil ?_|refine pBlock ?_|refine pSkip ?_|refine pExit ?_|refine pRet ?_|refine pCond ?_|refine gNone ?_))
    refine ⟨⟨done ++ [g], c, t, s2⟩, ⟨by rw [h1]; simp, by show (js c t).length ≤ _; omega, by show r.length = (done ++ [g]).length + t.length; simp; omega, c1.fresh c2 (by simp), by show s.next < s2.next; omega, e2'⟩, by show t.length < (c :: t).length; simp, Wk.same ⟨rfl, rfl, rfl, rfl, rfl, rfl, trivial⟩⟩
  | nil =>
    rw [List.length_nil, Nat.add_zero] at h3
    obtain rfl : q = false := by rw [hq]; exact decide_eq_false (by omega)
    (repeat(first|refine pSeq ?_|refine pReg ?_|refine sCons ?_|refine sNil ?_|refine pBlock ?_|refine pSkip ?_|refine pExit ?_|refine pRet ?_|refine pCond ?_|refine gNone ?_))
    refine ⟨by omega, ?_⟩
    intro m hm o ho
    obtain rfl : m = done.length := by omega
    (repeat(first|refine pSeq ?_|refine pReg ?_|refine sCons ?_|refine sNil ?_|refine pBlock ?_|refine pSkip ?_|refine pExit ?_|refine pRet ?_|refine pCond ?_|refine gNone ?_))
    refine st_abs (cs' := strV (done ++ [b])) rfl rfl h5 h4 rfl ?_ fun s2 e2' c2 n2 => ?_
    · rw [show o = done.length by omega]
      show setRow _ _ [_] = _
      rw [setRow_one (by rw [List.length_append, strV_len, List.length_replicate]; omega)]
      exact congrArg some ((set_row done b 0).trans (by simp [strV]))
    (repeat(first|refine pSeq ?_|refine pReg ?_|refine sCons ?_|refine sNil ?_|refine pBlock ?_|refine pSkip ?_|refine pExit ?_|refine pRet ?_|refine pCond ?_|refine gNone ?_))
    intro z hz
    rw [i64_id (by omega)] at hz
    (repeat(first|refine pSeq ?_|refine pReg ?_|refine sCons ?_|refine sNil ?_|refine pBlock ?_|refine pSkip ?_|refine pExit ?_|refine pRet ?_|refine pCond ?_|refine gNone ?_))
    refine slL_pre (m := r.length + 1) rfl rfl e2' (by omega) (Nat.le_refl _) ?_
    (repeat(first|refine pSeq ?_|refine pReg ?_|refine sCons ?_|refine sNil ?_|refine pBlock ?_|refine pSkip ?_|refine pExit ?_|refine pRet ?_|refine pCond ?_|refine gNone ?_))
    refine ⟨_, _, rfl, ⟨s.next, _, _, _, _, rfl, by omega, e2', fun i x hx => ?_⟩, c1.fresh c2 (by simp), by simp [blkOf], Nat.le_refl _, ⟨_, _, rfl, e2'⟩⟩
    rw [h1] at hx
    simp only [strV, List.getElem?_map, hx]
    rfl
end Go.Vf.S

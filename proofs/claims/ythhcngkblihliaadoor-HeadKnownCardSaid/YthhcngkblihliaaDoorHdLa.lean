import Derived.Test.YthhcngkblihliaaDoorHdY
import Derived.Test.YthhcngkblihliaaDoorHdC
/- A field laid anew: where it is folded; its lines; the field. -/
namespace Go.Vf.S
open Go Go.Vf Go.Proofs Go.RowKit
attribute [local irreducible] wSeq wRow wp wG
set_option linter.unusedVariables false
set_option linter.unusedSimpArgs false
set_option maxRecDepth 10000

theorem com_iff {l : List UInt8} {i : Nat} {a b : UInt8} (h1 : 1 ≤ i) (ha : l[i - 1]? = some a) (hb : l[i]? = some b) : comB l i = (decide (a.toNat = 44) && decide (b.toNat = 32)) := by
  unfold comB
  rw [ha, hb, Bool.eq_iff_iff]
  simp only [Bool.and_eq_true, decide_eq_true_eq, beq_iff_eq, Option.some.injEq, h1, true_and]
  constructor
  · rintro ⟨rfl, rfl⟩; exact ⟨rfl, rfl⟩
  · exact fun h => ⟨UInt8.toNat_inj.1 h.1, UInt8.toNat_inj.1 h.2⟩
theorem fp_step {l : List UInt8} {i : Nat} {o : Option Nat} (h : i < l.length) (h2 : i ≤ 78 ∨ o = none) : fpF l (l.length - i) i o = fpF l (l.length - (i + 1)) (i + 1) (if comB l i = true then some i else o) := by
  rw [show l.length - i = (l.length - (i + 1)) + 1 by omega, fpF, if_pos ⟨h, h2⟩]

set_option maxHeartbeats 1000000 in
theorem foldPlace_w {s : SS} {l : List UInt8} {v : Nat} (hl : l.length ≤ 1000000) (hv : v ≤ 1000000) :
    CallW pr n_head_foldPlace [str l, .int .i64 v] s fun u s' => u = .tuple ⟨[.int .i64 ((placeF l (v + 1)).getD 0 : Nat), .bool (placeF l (v + 1)).isSome]⟩ ∧ s' = s := by
  refine CallW.run good ok_head_foldPlace (by simp) rfl ?_
  (repeat(first|refine pSeq ?_|refine pReg ?_|refine sCons ?_|refine sNil ?_|refine pBlock ?_|refine pSkip ?_|refine pExit ?_|refine pRet ?_|refine pCond ?_|refine gNone ?_|refine gOn rfl ?_|refine gOff rfl rfl ?_|refine gTup rfl ?_))
  intro z hz
  rw [i64_id (by omega)] at hz
  obtain rfl : z = ((v + 1 : Nat) : Int) := by omega
  (repeat(first|refine pSeq ?_|refine pReg ?_|refine sCons ?_|refine sNil ?_|refine pBlock ?_|refine pSkip ?_|refine pExit ?_|refine pRet ?_|refine pCond ?_|refine gNone ?_|refine gOn rfl ?_|refine gOff rfl rfl ?_|refine gTup rfl ?_))
  refine pLoop (MW.head good (fun x : Nat × Option Nat => l.length - x.1) (fun x => v + 1 ≤ x.1 ∧ x.1 ≤ 2000000 ∧ placeF l (v + 1) = fpF l (l.length - x.1) x.1 x.2)
    (fun x => [(0, str l), (4, .int .i64 (x.2.getD 0 : Nat)), (5, .bool x.2.isSome), (6, .int .i64 x.1)]) (fun x => s) (v + 1, none) ⟨Nat.le_refl _, by show v + 1 ≤ 2000000; omega, rfl⟩ (Wk.same ⟨rfl, rfl, rfl, rfl, trivial⟩) ?_)
  rintro ⟨i, o⟩ ⟨h1, h0, h2⟩
  dsimp only at h1 h0 h2 ⊢
  (repeat(first|refine pSeq ?_|refine pReg ?_|refine sCons ?_|refine sNil ?_|refine pBlock ?_|refine pSkip ?_|refine pExit ?_|refine pRet ?_|refine pCond ?_|refine gNone ?_|refine gOn rfl ?_|refine gOff rfl rfl ?_|refine gTup rfl ?_))
  intro n hn
  (repeat(first|refine pSeq ?_|refine pReg ?_|refine sCons ?_|refine sNil ?_|refine pBlock ?_|refine pSkip ?_|refine pExit ?_|refine pRet ?_|refine pCond ?_|refine gNone ?_|refine gOn rfl ?_|refine gOff rfl rfl ?_|refine gTup rfl ?_))
  intro q hq
  have h3 : (i < l.length ∧ i ≤ 78) ∨ (i < l.length ∧ 78 < i ∧ o = none) ∨ (i < l.length ∧ 78 < i ∧ o ≠ none) ∨ ¬i < l.length := by
    by_cases e1 : i < l.length
    · by_cases e2 : i ≤ 78
      · exact .inl ⟨e1, e2⟩
      · by_cases e3 : o = none
        · exact .inr (.inl ⟨e1, by omega, e3⟩)
        · exact .inr (.inr (.inl ⟨e1, by omega, e3⟩))
    · exact .inr (.inr (.inr e1))
  subst hn
  rcases h3 with ⟨g1, g2⟩ | ⟨g1, g2, g3⟩ | ⟨g1, g2, g3⟩ | g1
  rotate_left 2
  · obtain rfl : q = true := by rw [hq]; simp; omega
    (repeat(first|refine pSeq ?_|refine pReg ?_|refine sCons ?_|refine sNil ?_|refine pBlock ?_|refine pSkip ?_|refine pExit ?_|refine pRet ?_|refine pCond ?_|refine gNone ?_|refine gOn rfl ?_|refine gOff rfl rfl ?_|refine gTup rfl ?_))
    intro q hq
    obtain rfl : q = false := by rw [hq]; simp; omega
    rw [fp_stop (fun w => w.2.elim (fun x => by omega) g3)] at h2
    obtain ⟨a, rfl⟩ : ∃ a, o = some a := Option.ne_none_iff_exists'.1 g3
    (repeat(first|refine pSeq ?_|refine pReg ?_|refine sCons ?_|refine sNil ?_|refine pBlock ?_|refine pSkip ?_|refine pExit ?_|refine pRet ?_|refine pCond ?_|refine gNone ?_|refine gOn rfl ?_|refine gOff rfl rfl ?_|refine gTup rfl ?_))
    intro c hc
    obtain rfl : c = false := by rw [hc]; rfl
    (repeat(first|refine pSeq ?_|refine pReg ?_|refine sCons ?_|refine sNil ?_|refine pBlock ?_|refine pSkip ?_|refine pExit ?_|refine pRet ?_|refine pCond ?_|refine gNone ?_|refine gOn rfl ?_|refine gOff rfl rfl ?_|refine gTup rfl ?_))
    rw [h2]
    exact ⟨rfl, rfl⟩
  · obtain rfl : q = false := by rw [hq]; simp; omega
    rw [fp_stop (by omega)] at h2
    (repeat(first|refine pSeq ?_|refine pReg ?_|refine sCons ?_|refine sNil ?_|refine pBlock ?_|refine pSkip ?_|refine pExit ?_|refine pRet ?_|refine pCond ?_|refine gNone ?_|refine gOn rfl ?_|refine gOff rfl rfl ?_|refine gTup rfl ?_))
    rw [h2]
    exact ⟨rfl, rfl⟩
  obtain rfl : q = true := by rw [hq]; simp; omega
  (repeat(first|refine pSeq ?_|refine pReg ?_|refine sCons ?_|refine sNil ?_|refine pBlock ?_|refine pSkip ?_|refine pExit ?_|refine pRet ?_|refine pCond ?_|refine gNone ?_|refine gOn rfl ?_|refine gOff rfl rfl ?_|refine gTup rfl ?_))
  intro q hq
  obtain rfl : q = true := by rw [hq]; simp; omega
  have g4 : i ≤ 78 ∨ o = none := .inl g2
  clear g2
  (repeat(first|refine pSeq ?_|refine pReg ?_|refine sCons ?_|refine sNil ?_|refine pBlock ?_|refine pSkip ?_|refine pExit ?_|refine pRet ?_|refine pCond ?_|refine gNone ?_|refine gOn rfl ?_|refine gOff rfl rfl ?_|refine gTup rfl ?_))
  rotate_left
  obtain rfl : q = true := by rw [hq]; simp; omega
  (repeat(first|refine pSeq ?_|refine pReg ?_|refine sCons ?_|refine sNil ?_|refine pBlock ?_|refine pSkip ?_|refine pExit ?_|refine pRet ?_|refine pCond ?_|refine gNone ?_|refine gOn rfl ?_|refine gOff rfl rfl ?_|refine gTup rfl ?_))
  intro q hq
  obtain rfl : q = false := by rw [hq]; simp; omega
  have g4 : i ≤ 78 ∨ o = none := .inr g3
  clear g2
  (repeat(first|refine pSeq ?_|refine pReg ?_|refine sCons ?_|refine sNil ?_|refine pBlock ?_|refine pSkip ?_|refine pExit ?_|refine pRet ?_|refine pCond ?_|refine gNone ?_|refine gOn rfl ?_|refine gOff rfl rfl ?_|refine gTup rfl ?_))
  intro c hc
  obtain rfl : c = true := by rw [hc, g3]; rfl
  clear g3
  (repeat(first|refine pSeq ?_|refine pReg ?_|refine sCons ?_|refine sNil ?_|refine pBlock ?_|refine pSkip ?_|refine pExit ?_|refine pRet ?_|refine pCond ?_|refine gNone ?_|refine gOn rfl ?_|refine gOff rfl rfl ?_|refine gTup rfl ?_))
  all_goals
    obtain ⟨a, ha⟩ : ∃ a, l[i - 1]? = some a := ⟨_, List.getElem?_eq_getElem (by omega)⟩
    obtain ⟨b, hb⟩ : ∃ b, l[i]? = some b := ⟨_, List.getElem?_eq_getElem g1⟩
    have hc := com_iff (by omega) ha hb
    have hst := fp_step g1 g4
    intro z hz
    rw [i64_id (by omega)] at hz
    (repeat(first|refine pSeq ?_|refine pReg ?_|refine sCons ?_|refine sNil ?_|refine pBlock ?_|refine pSkip ?_|refine pExit ?_|refine pRet ?_|refine pCond ?_|refine gNone ?_|refine gOn rfl ?_|refine gOff rfl rfl ?_|refine gTup rfl ?_))
    refine ⟨by omega, ?_⟩
    intro m hm
    obtain rfl : m = i - 1 := by omega
    refine ⟨a, ha, ?_⟩
    (repeat(first|refine pSeq ?_|refine pReg ?_|refine sCons ?_|refine sNil ?_|refine pBlock ?_|refine pSkip ?_|refine pExit ?_|refine pRet ?_|refine pCond ?_|refine gNone ?_|refine gOn rfl ?_|refine gOff rfl rfl ?_|refine gTup rfl ?_))
    intro q hq
    by_cases ca : a.toNat = 44
    · obtain rfl : q = true := by rw [hq]; simp; omega
      (repeat(first|refine pSeq ?_|refine pReg ?_|refine sCons ?_|refine sNil ?_|refine pBlock ?_|refine pSkip ?_|refine pExit ?_|refine pRet ?_|refine pCond ?_|refine gNone ?_|refine gOn rfl ?_|refine gOff rfl rfl ?_|refine gTup rfl ?_))
      refine ⟨by omega, ?_⟩
      intro m hm
      obtain rfl : m = i := by omega
      refine ⟨b, hb, ?_⟩
      (repeat(first|refine pSeq ?_|refine pReg ?_|refine sCons ?_|refine sNil ?_|refine pBlock ?_|refine pSkip ?_|refine pExit ?_|refine pRet ?_|refine pCond ?_|refine gNone ?_|refine gOn rfl ?_|refine gOff rfl rfl ?_|refine gTup rfl ?_))
      intro q hq
      by_cases cb : b.toNat = 32
      · obtain rfl : q = true := by rw [hq]; simp; omega
        (repeat(first|refine pSeq ?_|refine pReg ?_|refine sCons ?_|refine sNil ?_|refine pBlock ?_|refine pSkip ?_|refine pExit ?_|refine pRet ?_|refine pCond ?_|refine gNone ?_|refine gOn rfl ?_|refine gOff rfl rfl ?_|refine gTup rfl ?_))
        intro z hz
        rw [i64_id (by omega)] at hz
        obtain rfl : z = ((m + 1 : Nat) : Int) := by omega
        (repeat(first|refine pSeq ?_|refine pReg ?_|refine sCons ?_|refine sNil ?_|refine pBlock ?_|refine pSkip ?_|refine pExit ?_|refine pRet ?_|refine pCond ?_|refine gNone ?_|refine gOn rfl ?_|refine gOff rfl rfl ?_|refine gTup rfl ?_))
        exact ⟨(m + 1, some m), ⟨by omega, by show m + 1 ≤ 2000000; omega, by rw [h2, hst, hc, ca, cb]; rfl⟩, by show l.length - (m + 1) < l.length - m; omega, Wk.same ⟨rfl, rfl, rfl, rfl, trivial⟩⟩
      · obtain rfl : q = false := by rw [hq]; simp; omega
        (repeat(first|refine pSeq ?_|refine pReg ?_|refine sCons ?_|refine sNil ?_|refine pBlock ?_|refine pSkip ?_|refine pExit ?_|refine pRet ?_|refine pCond ?_|refine gNone ?_|refine gOn rfl ?_|refine gOff rfl rfl ?_|refine gTup rfl ?_))
        intro z hz
        rw [i64_id (by omega)] at hz
        obtain rfl : z = ((m + 1 : Nat) : Int) := by omega
        (repeat(first|refine pSeq ?_|refine pReg ?_|refine sCons ?_|refine sNil ?_|refine pBlock ?_|refine pSkip ?_|refine pExit ?_|refine pRet ?_|refine pCond ?_|refine gNone ?_|refine gOn rfl ?_|refine gOff rfl rfl ?_|refine gTup rfl ?_))
        exact ⟨(m + 1, o), ⟨by omega, by show m + 1 ≤ 2000000; omega, by rw [h2, hst, hc, ca, decide_eq_false cb]; rfl⟩, by show l.length - (m + 1) < l.length - m; omega, Wk.same ⟨rfl, rfl, rfl, rfl, trivial⟩⟩
    · obtain rfl : q = false := by rw [hq]; simp; omega
      (repeat(first|refine pSeq ?_|refine pReg ?_|refine sCons ?_|refine sNil ?_|refine pBlock ?_|refine pSkip ?_|refine pExit ?_|refine pRet ?_|refine pCond ?_|refine gNone ?_|refine gOn rfl ?_|refine gOff rfl rfl ?_|refine gTup rfl ?_))
      intro z hz
      rw [i64_id (by omega)] at hz
      obtain rfl : z = ((i + 1 : Nat) : Int) := by omega
      (repeat(first|refine pSeq ?_|refine pReg ?_|refine sCons ?_|refine sNil ?_|refine pBlock ?_|refine pSkip ?_|refine pExit ?_|refine pRet ?_|refine pCond ?_|refine gNone ?_|refine gOn rfl ?_|refine gOff rfl rfl ?_|refine gTup rfl ?_))
      exact ⟨(i + 1, o), ⟨by omega, by show i + 1 ≤ 2000000; omega, by rw [h2, hst, hc, decide_eq_false ca]; rfl⟩, by show l.length - (i + 1) < l.length - i; omega, Wk.same ⟨rfl, rfl, rfl, rfl, trivial⟩⟩

structure FdI where
  acc : List (List UInt8)
  l : List UInt8
  v : Nat
  k : Nat
  W : Option Addr
  s : SS

theorem jn_snoc (a : List (List UInt8)) (l : List UInt8) : jn (a ++ [l]) = jn a ++ l ++ [13, 10] := by rw [jn_app, jn_one, List.append_assoc]

set_option maxHeartbeats 2000000 in
theorem fold_w {s : SS} {l : List UInt8} {v : Nat} (hl : l.length ≤ 100000) (hv : v ≤ 100000) :
    CallW pr n_head_fold [str l, .int .i64 v] s fun u s' => u = str (jn (foldF 1 l.length (v + 1) l)) ∧ Chg s s' [] := by
  refine CallW.run good ok_head_fold (by simp) rfl ?_
  obtain ⟨s1, hs1⟩ : ∃ s1 : SS, s1 = { s with heap := (s.next, some (.cells [.pointer none, .slice none 0 0] tBl false false)) :: s.heap, next := s.next + 1 } := ⟨_, rfl⟩
  have c1 : Chg s s1 [] := by rw [hs1]; exact Chg.new []
  have j1 : Bld s1 s.next none [] := by rw [hs1]; exact Bld.new s
  have n1 : s1.next = s.next + 1 := by rw [hs1]
  (repeat(first|refine pSeq ?_|refine pReg ?_|refine sCons ?_|refine sNil ?_|refine pBlock ?_|refine pSkip ?_|refine pExit ?_|refine pRet ?_|refine pCond ?_|refine gNone ?_))
  refine pLoop (MW.head good (fun x : FdI => x.k) (fun x => foldF 1 l.length (v + 1) l = x.acc ++ foldF 1 x.k (x.v + 1) x.l ∧ x.l.length ≤ x.k ∧ x.v ≤ 100000 ∧ (jn x.acc).length + 3 * x.l.length ≤ 3 * l.length ∧ Chg s x.s [] ∧ Bld x.s s.next x.W (jn x.acc) ∧ (∀ id ∈ blkOf x.W, s.next ≤ id))
    (fun x => [(0, str x.l), (1, .int .i64 x.v), (5, .pointer (some ⟨s.next, 0, none⟩))]) (fun x => x.s) ⟨[], l, v, l.length, none, s1⟩ ⟨rfl, Nat.le_refl _, hv, by simp [jn], c1, j1, by simp [blkOf]⟩ (by subst hs1; exact Wk.same ⟨rfl, rfl, rfl, trivial⟩) ?_)
  clear hs1
  rintro ⟨acc, r, w, k, V, s2⟩ ⟨i1, i2, i3, i4, i5, i6, i7⟩
  dsimp only at i1 i2 i3 i4 i5 i6 i7 ⊢
  have h3 : (∃ a, 78 < r.length ∧ placeF r (w + 1) = some a) ∨ (78 < r.length ∧ placeF r (w + 1) = none) ∨ ¬78 < r.length := by
    by_cases e : 78 < r.length
    · cases hp : placeF r (w + 1) with
      | none => exact .inr (.inl ⟨e, rfl⟩)
      | some a => exact .inl ⟨a, e, rfl⟩
    · exact .inr (.inr e)
  have hb := i6.lt
  (repeat(first|refine pSeq ?_|refine pReg ?_|refine sCons ?_|refine sNil ?_|refine pBlock ?_|refine pSkip ?_|refine pExit ?_|refine pRet ?_|refine pCond ?_|refine gNone ?_))
  intro n hn
  subst hn
  (repeat(first|refine pSeq ?_|refine pReg ?_|refine sCons ?_|refine sNil ?_|refine pBlock ?_|refine pSkip ?_|refine pExit ?_|refine pRet ?_|refine pCond ?_|refine gNone ?_))
  intro q hq
  rcases h3 with ⟨a, g1, g2⟩ | ⟨g1, g2⟩ | g1
  · obtain rfl : q = true := by rw [hq]; simp; omega
    obtain ⟨k, rfl⟩ : ∃ j, k = j + 1 := ⟨k - 1, by omega⟩
    rw [foldF, if_pos g1, g2] at i1
    dsimp only at i1
    obtain ⟨p1, p2⟩ := place_is g2
    obtain ⟨p3, p4, -⟩ := com_lt p1
    (repeat(first|refine pSeq ?_|refine pReg ?_|refine sCons ?_|refine sNil ?_|refine pBlock ?_|refine pSkip ?_|refine pExit ?_|refine pRet ?_|refine pCond ?_|refine gNone ?_))
    refine (foldPlace_w (by omega) (by omega)).mono fun u s2 q => ?_
    obtain ⟨rfl, rfl⟩ := q
    rw [g2]
    (repeat(first|refine pSeq ?_|refine pReg ?_|refine sCons ?_|refine sNil ?_|refine pBlock ?_|refine pSkip ?_|refine pExit ?_|refine pRet ?_|refine pCond ?_|refine gNone ?_))
    intro c hc
    obtain rfl : c = false := by rw [hc]; rfl
    (repeat(first|refine pSeq ?_|refine pReg ?_|refine sCons ?_|refine sNil ?_|refine pBlock ?_|refine pSkip ?_|refine pExit ?_|refine pRet ?_|refine pCond ?_|refine gNone ?_))
    refine ⟨by simp; omega, ?_⟩
    intro m hm g hg
    obtain rfl : m = a := by simp at hm; omega
    have eg : g = r.take m := by rw [hg]; simp
    clear hg
    subst eg
    (repeat(first|refine pSeq ?_|refine pReg ?_|refine sCons ?_|refine sNil ?_|refine pBlock ?_|refine pSkip ?_|refine pExit ?_|refine pRet ?_|refine pCond ?_|refine gNone ?_))
    refine (bWrite_w (m := r.take m) i6 (by simp; omega)).mono fun u s3 q => ?_
    obtain ⟨W3, rfl, b3, c3, w3⟩ := q
    (repeat(first|refine pSeq ?_|refine pReg ?_|refine sCons ?_|refine sNil ?_|refine pBlock ?_|refine pSkip ?_|refine pExit ?_|refine pRet ?_|refine pCond ?_|refine gNone ?_))
    refine (bWrite_w (m := [13, 10]) b3 (by simp; omega)).mono fun u s4 q => ?_
    obtain ⟨W4, rfl, b4, c4, w4⟩ := q
    have l3 : ∀ id ∈ blkOf W3, s.next ≤ id := fun id hid => by
      rcases w3 id hid with q | q
      · exact i7 id q
      · have := i5.next; omega
    have c23 : Chg s s3 [] := i5.fresh c3 (by
      intro id q
      rcases List.mem_cons.1 q with rfl | q
      · omega
      · exact i7 id q)
    have c24 : Chg s s4 [] := c23.fresh c4 (by
      intro id q
      rcases List.mem_cons.1 q with rfl | q
      · omega
      · exact l3 id q)
    have l4 : ∀ id ∈ blkOf W4, s.next ≤ id := fun id hid => by
      rcases w4 id hid with q | q
      · exact l3 id q
      · have := c23.next; omega
    (repeat(first|refine pSeq ?_|refine pReg ?_|refine sCons ?_|refine sNil ?_|refine pBlock ?_|refine pSkip ?_|refine pExit ?_|refine pRet ?_|refine pCond ?_|refine gNone ?_))
    refine ⟨by simp; omega, ?_⟩
    intro m2 hm2 g hg
    obtain rfl : m2 = m := by simp at hm2; omega
    have eg : g = r.drop m2 := by rw [hg, List.take_of_length_le (by simp)]
    clear hg
    subst eg
    (repeat(first|refine pSeq ?_|refine pReg ?_|refine sCons ?_|refine sNil ?_|refine pBlock ?_|refine pSkip ?_|refine pExit ?_|refine pRet ?_|refine pCond ?_|refine gNone ?_))
    rw [← jn_snoc] at b4
    refine ⟨⟨acc ++ [r.take m2], r.drop m2, 0, k, W4, s4⟩, ⟨by rw [i1]; simp, by show (r.drop m2).length ≤ k; rw [List.length_drop]; omega, Nat.zero_le _, ?_, c24, b4, l4⟩, by show k < k + 1; omega, Wk.same ⟨rfl, rfl, rfl, trivial⟩⟩
    show (jn (acc ++ [r.take m2])).length + 3 * (r.drop m2).length ≤ _
    rw [jn_snoc]
    simp only [List.length_append, List.length_take, List.length_drop, List.length_cons, List.length_nil]
    omega
  have hend : foldF 1 l.length (v + 1) l = acc ++ [r] := by
    rw [i1]
    congr 1
    cases k with
    | zero => rfl
    | succ k => rw [foldF, if_pos g1, g2]
  obtain rfl : q = true := by rw [hq]; simp; omega
  (repeat(first|refine pSeq ?_|refine pReg ?_|refine sCons ?_|refine sNil ?_|refine pBlock ?_|refine pSkip ?_|refine pExit ?_|refine pRet ?_|refine pCond ?_|refine gNone ?_))
  refine (foldPlace_w (by omega) (by omega)).mono fun u s2 q => ?_
  obtain ⟨rfl, rfl⟩ := q
  rw [g2]
  (repeat(first|refine pSeq ?_|refine pReg ?_|refine sCons ?_|refine sNil ?_|refine pBlock ?_|refine pSkip ?_|refine pExit ?_|refine pRet ?_|refine pCond ?_|refine gNone ?_))
  intro c hc
  obtain rfl : c = true := by rw [hc]; rfl
  (repeat(first|refine pSeq ?_|refine pReg ?_|refine sCons ?_|refine sNil ?_|refine pBlock ?_|refine pSkip ?_|refine pExit ?_|refine pRet ?_|refine pCond ?_|refine gNone ?_))
  rotate_left
  have hend : foldF 1 l.length (v + 1) l = acc ++ [r] := by
    rw [i1]
    congr 1
    cases k with
    | zero => rfl
    | succ k => rw [foldF, if_neg g1]
  obtain rfl : q = false := by rw [hq]; simp; omega
  (repeat(first|refine pSeq ?_|refine pReg ?_|refine sCons ?_|refine sNil ?_|refine pBlock ?_|refine pSkip ?_|refine pExit ?_|refine pRet ?_|refine pCond ?_|refine gNone ?_))
  all_goals
    rw [hend, jn_snoc]
    refine (bWrite_w (m := r) i6 (by omega)).mono fun u s3 q => ?_
    obtain ⟨W3, rfl, b3, c3, w3⟩ := q
    (repeat(first|refine pSeq ?_|refine pReg ?_|refine sCons ?_|refine sNil ?_|refine pBlock ?_|refine pSkip ?_|refine pExit ?_|refine pRet ?_|refine pCond ?_|refine gNone ?_))
    refine (bWrite_w (m := [13, 10]) b3 (by simp; omega)).mono fun u s4 q => ?_
    obtain ⟨W4, rfl, b4, c4, w4⟩ := q
    have l3 : ∀ id ∈ blkOf W3, s.next ≤ id := fun id hid => by
      rcases w3 id hid with q | q
      · exact i7 id q
      · have := i5.next; omega
    have c23 : Chg s s3 [] := i5.fresh c3 (by
      intro id q
      rcases List.mem_cons.1 q with rfl | q
      · omega
      · exact i7 id q)
    have c24 : Chg s s4 [] := c23.fresh c4 (by
      intro id q
      rcases List.mem_cons.1 q with rfl | q
      · omega
      · exact l3 id q)
    have l4 : ∀ id ∈ blkOf W4, s.next ≤ id := fun id hid => by
      rcases w4 id hid with q | q
      · exact l3 id q
      · have := c23.next; omega
    (repeat(first|refine pSeq ?_|refine pReg ?_|refine sCons ?_|refine sNil ?_|refine pBlock ?_|refine pSkip ?_|refine pExit ?_|refine pRet ?_|refine pCond ?_|refine gNone ?_))
    refine (bString_w b4 (by simp; omega)).mono fun u s5 q => ?_
    obtain ⟨rfl, c5, n5⟩ := q
    (repeat(first|refine pSeq ?_|refine pReg ?_|refine sCons ?_|refine sNil ?_|refine pBlock ?_|refine pSkip ?_|refine pExit ?_|refine pRet ?_|refine pCond ?_|refine gNone ?_))
    exact ⟨rfl, c24.fresh c5 l4⟩

/-! ### The field -/

def layF (nm v : List UInt8) : Option Fld := if isNm nm = true ∧ v.all okB = true then some ⟨nm, trimF v, jn (foldF 1 (nm ++ 58 :: 32 :: v).length (nm.length + 2 + 1) (nm ++ 58 :: 32 :: v))⟩ else none

set_option maxHeartbeats 1000000 in
theorem hlay_w {s : SS} {nm v : List UInt8} (hn : nm.length ≤ 10000) (hv : v.length ≤ 10000) :
    CallW pr n_head_Lay [str nm, str v] s fun u s' => u = .tuple ⟨[flV (fOr (layF nm v)), .int .i64 (eOr (layF nm v))]⟩ ∧ Chg s s' [] := by
  refine CallW.run good ok_head_Lay (by simp) rfl ?_
  obtain ⟨s1, hs1⟩ : ∃ s1 : SS, s1 = { s with heap := (s.next, some (.cells (flC flZ) tFl false false)) :: s.heap, next := s.next + 1 } := ⟨_, rfl⟩
  have c1 : Chg s s1 [] := by rw [hs1]; exact .new _
  have k1 : lookH s1.heap s.next = some (.cells (flC flZ) tFl false false) := by rw [hs1]; exact lkH
  have n1 : s1.next = s.next + 1 := by rw [hs1]
  (repeat(first|refine pSeq ?_|refine pReg ?_|refine sCons ?_|refine sNil ?_|refine pSkip ?_|refine pRet ?_|refine pCond ?_|refine gNone ?_|refine gOn rfl ?_|refine gOff rfl rfl ?_|refine gTup rfl ?_))
  refine (isName_w (l := nm) (by omega)).mono fun u s2 q => ?_
  obtain ⟨rfl, e2⟩ := q
  have e2 : s2 = s1 := e2.trans hs1.symm
  subst e2
  clear hs1
  have hnone : ¬(isNm nm = true ∧ v.all okB = true) → layF nm v = none := fun h => by unfold layF; rw [if_neg h]
  (repeat(first|refine pSeq ?_|refine pReg ?_|refine sCons ?_|refine sNil ?_|refine pSkip ?_|refine pRet ?_|refine pCond ?_|refine gNone ?_|refine gOn rfl ?_|refine gOff rfl rfl ?_|refine gTup rfl ?_))
  cases h1 : isNm nm with
  | false =>
    rw [hnone (by rw [h1]; simp)]
    intro q hq
    obtain rfl : q = true := by rw [hq]; rfl
    (repeat(first|refine pSeq ?_|refine pReg ?_|refine sCons ?_|refine sNil ?_|refine pSkip ?_|refine pRet ?_|refine pCond ?_|refine gNone ?_|refine gOn rfl ?_|refine gOff rfl rfl ?_|refine gTup rfl ?_))
    refine st_abs (cs' := flC flZ) rfl rfl k1 (by omega) rfl rfl fun s3 e3 c3 n3 => ?_
    (repeat(first|refine pSeq ?_|refine pReg ?_|refine sCons ?_|refine sNil ?_|refine pSkip ?_|refine pRet ?_|refine pCond ?_|refine gNone ?_|refine gOn rfl ?_|refine gOff rfl rfl ?_|refine gTup rfl ?_))
    (repeat (first | with_reducible refine sqRet ?_ | with_reducible refine bkRet ?_ | with_reducible refine hdRet ?_))
    exact ret_cell agg_Fl sz_Fl rfl e3 agg3 rfl ⟨rfl, c1.fresh c3 (by simp)⟩
  | true =>
    intro q hq
    obtain rfl : q = false := by rw [hq]; rfl
    (repeat(first|refine pSeq ?_|refine pReg ?_|refine sCons ?_|refine sNil ?_|refine pSkip ?_|refine pRet ?_|refine pCond ?_|refine gNone ?_|refine gOn rfl ?_|refine gOff rfl rfl ?_|refine gTup rfl ?_))
    refine (hrow_w (g := okB) (by omega) (callV_f ok_head_valueByte) (fun c s1 => valueByte_w)).mono fun u s2 q => ?_
    obtain ⟨rfl, rfl⟩ := q
    (repeat(first|refine pSeq ?_|refine pReg ?_|refine sCons ?_|refine sNil ?_|refine pSkip ?_|refine pRet ?_|refine pCond ?_|refine gNone ?_|refine gOn rfl ?_|refine gOff rfl rfl ?_|refine gTup rfl ?_))
    cases h2 : v.all okB with
    | false =>
      rw [hnone (by rw [h2]; simp)]
      intro q hq
      obtain rfl : q = true := by rw [hq]; rfl
      (repeat(first|refine pSeq ?_|refine pReg ?_|refine sCons ?_|refine sNil ?_|refine pSkip ?_|refine pRet ?_|refine pCond ?_|refine gNone ?_|refine gOn rfl ?_|refine gOff rfl rfl ?_|refine gTup rfl ?_))
      refine st_abs (cs' := flC flZ) rfl rfl k1 (by omega) rfl rfl fun s3 e3 c3 n3 => ?_
      (repeat(first|refine pSeq ?_|refine pReg ?_|refine sCons ?_|refine sNil ?_|refine pSkip ?_|refine pRet ?_|refine pCond ?_|refine gNone ?_|refine gOn rfl ?_|refine gOff rfl rfl ?_|refine gTup rfl ?_))
      (repeat (first | with_reducible refine sqRet ?_ | with_reducible refine bkRet ?_ | with_reducible refine hdRet ?_))
      exact ret_cell agg_Fl sz_Fl rfl e3 agg3 rfl ⟨rfl, c1.fresh c3 (by simp)⟩
    | true =>
      obtain ⟨R, hR⟩ : ∃ R, R = jn (foldF 1 (nm ++ 58 :: 32 :: v).length (nm.length + 2 + 1) (nm ++ 58 :: 32 :: v)) := ⟨_, rfl⟩
      have hsome : layF nm v = some ⟨nm, trimF v, R⟩ := by unfold layF; rw [if_pos ⟨h1, h2⟩, hR]
      rw [hsome]
      intro q hq
      obtain rfl : q = false := by rw [hq]; rfl
      (repeat(first|refine pSeq ?_|refine pReg ?_|refine sCons ?_|refine sNil ?_|refine pSkip ?_|refine pRet ?_|refine pCond ?_|refine gNone ?_|refine gOn rfl ?_|refine gOff rfl rfl ?_|refine gTup rfl ?_))
      refine ⟨by simp; omega, ?_⟩
      intro x hx
      subst hx
      (repeat(first|refine pSeq ?_|refine pReg ?_|refine sCons ?_|refine sNil ?_|refine pSkip ?_|refine pRet ?_|refine pCond ?_|refine gNone ?_|refine gOn rfl ?_|refine gOff rfl rfl ?_|refine gTup rfl ?_))
      refine (textTrim_w (l := v) (by omega)).mono fun u s3 q => ?_
      obtain ⟨rfl, c3⟩ := q
      (repeat(first|refine pSeq ?_|refine pReg ?_|refine sCons ?_|refine sNil ?_|refine pSkip ?_|refine pRet ?_|refine pCond ?_|refine gNone ?_|refine gOn rfl ?_|refine gOff rfl rfl ?_|refine gTup rfl ?_))
      refine ⟨by simp; omega, ?_⟩
      intro x hx
      have ex : x = nm ++ 58 :: 32 :: v := by rw [hx]; simp
      clear hx
      subst ex
      (repeat(first|refine pSeq ?_|refine pReg ?_|refine sCons ?_|refine sNil ?_|refine pSkip ?_|refine pRet ?_|refine pCond ?_|refine gNone ?_|refine gOn rfl ?_|refine gOff rfl rfl ?_|refine gTup rfl ?_))
      intro n hn
      (repeat(first|refine pSeq ?_|refine pReg ?_|refine sCons ?_|refine sNil ?_|refine pSkip ?_|refine pRet ?_|refine pCond ?_|refine gNone ?_|refine gOn rfl ?_|refine gOff rfl rfl ?_|refine gTup rfl ?_))
      obtain rfl : n = ((nm.length + 2 : Nat) : Int) := by rw [hn]; simp
      refine (fold_w (l := nm ++ 58 :: 32 :: v) (by simp; omega) (by omega)).mono fun u s4 q => ?_
      rw [← hR] at q
      obtain ⟨rfl, c4⟩ := q
      have c34 := c3.nil c4
      have k4 := c34.blk _ _ (by omega) (by simp) k1
      have n4 := c34.next
      (repeat(first|refine pSeq ?_|refine pReg ?_|refine sCons ?_|refine sNil ?_|refine pSkip ?_|refine pRet ?_|refine pCond ?_|refine gNone ?_|refine gOn rfl ?_|refine gOff rfl rfl ?_|refine gTup rfl ?_))
      refine st_abs (cs' := flC ⟨nm, trimF v, R⟩) rfl rfl k4 (by omega) rfl rfl fun s5 e5 c5 n5 => ?_
      (repeat(first|refine pSeq ?_|refine pReg ?_|refine sCons ?_|refine sNil ?_|refine pSkip ?_|refine pRet ?_|refine pCond ?_|refine gNone ?_|refine gOn rfl ?_|refine gOff rfl rfl ?_|refine gTup rfl ?_))
      (repeat (first | with_reducible refine sqRet ?_ | with_reducible refine bkRet ?_ | with_reducible refine hdRet ?_))
      exact ret_cell agg_Fl sz_Fl rfl e5 agg3 rfl ⟨rfl, (c1.nil c34).fresh c5 (by simp)⟩
end Go.Vf.S

import Derived.Test.YthhcngkblihliaaDoorHdY
import Derived.Test.YthhcngkblihliaaDoorBnH
/- The document's own: a field laid anew. -/
namespace Go.Vf.S
open Go Go.Vf Go.Proofs Go.RowKit
attribute [local irreducible] wSeq wRow wp wG
set_option linter.unusedVariables false
set_option linter.unusedSimpArgs false
set_option maxRecDepth 10000

/-- The place, gone through to the line's end. -/
def fpR (l : List UInt8) : Nat → Nat → Option Nat → Option Nat
  | 0, _, o => o
  | n + 1, i, o => fpR l n (i + 1) (if comB l i = true ∧ (i ≤ 78 ∨ o = none) then some i else o)
theorem fpR_stay {l : List UInt8} {o : Option Nat} (ho : o ≠ none) : ∀ (n i : Nat), 78 < i → fpR l n i o = o
  | 0, _, _ => rfl
  | n + 1, i, h => by
    rw [fpR, if_neg (fun q => q.2.elim (fun x => by omega) ho), fpR_stay ho n (i + 1) (by omega)]
theorem fp_eq {l : List UInt8} : ∀ (n i : Nat) (o : Option Nat), i + n = l.length → fpF l n i o = fpR l n i o
  | 0, _, _, _ => rfl
  | n + 1, i, o, h => by
    by_cases hc : i ≤ 78 ∨ o = none
    · rw [fpF, if_pos ⟨by omega, hc⟩, fpR, fp_eq n (i + 1) _ (by omega)]
      congr 1
      by_cases hb : comB l i = true
      · rw [if_pos hb, if_pos ⟨hb, hc⟩]
      · rw [if_neg hb, if_neg (fun q => hb q.1)]
    · rw [fp_stop (fun q => hc q.2), fpR_stay (fun e => hc (.inr e)) _ _ (by omega)]
theorem place_R (l : List UInt8) (z : Nat) : placeF l z = fpR l (l.length - z) z none := by
  unfold placeF
  rcases Nat.lt_or_ge z l.length with h | h
  · exact fp_eq _ _ _ (by omega)
  · rw [show l.length - z = 0 by omega]
    rfl
def atI : Option Nat → Int
  | none => -1
  | some a => a
theorem com_iff' {l : List UInt8} {i : Nat} {a b : UInt8} (h1 : 1 ≤ i) (ha : l[i - 1]? = some a) (hb : l[i]? = some b) : comB l i = (decide (a.toNat = 44) && decide (b.toNat = 32)) := by
  unfold comB
  rw [ha, hb, Bool.eq_iff_iff]
  simp only [Bool.and_eq_true, decide_eq_true_eq, beq_iff_eq, Option.some.injEq, h1, true_and]
  constructor
  · rintro ⟨rfl, rfl⟩; exact ⟨rfl, rfl⟩
  · exact fun h => ⟨UInt8.toNat_inj.1 h.1, UInt8.toNat_inj.1 h.2⟩

/-- The document's field. -/
def layR (nm v : List UInt8) : Option Fld := if isNm nm = true ∧ v.all okB = true then some ⟨nm, trimF v, jn (foldF 2 (nm ++ 58 :: 32 :: v).length (nm.length + 3) (nm ++ 58 :: 32 :: v))⟩ else none

structure RlI where
  acc : List (List UInt8)
  l : List UInt8
  z : Nat
  k : Nat
theorem jn_snoc' (a : List (List UInt8)) (l : List UInt8) : jn (a ++ [l]) = jn a ++ l ++ [13, 10] := by rw [jn_app, jn_one, List.append_assoc]

set_option maxHeartbeats 4000000 in
theorem rlay_w {s : SS} {nm v : List UInt8} (hn : nm.length ≤ 1000) (hv : v.length ≤ 9000) :
    CallW pr n_ref07_Lay [str nm, str v] s fun u s' => u = .tuple ⟨[flV (fOr (layR nm v)), .int .i64 (eOr (layR nm v))]⟩ ∧ Chg s s' [] := by
  refine CallW.run good ok_ref07_Lay (by simp) rfl ?_
  obtain ⟨s1, hs1⟩ : ∃ s1 : SS, s1 = { s with heap := (s.next, some (.cells (flC flZ) tRf false false)) :: s.heap, next := s.next + 1 } := ⟨_, rfl⟩
  have c1 : Chg s s1 [] := by rw [hs1]; exact .new _
  have k1 : lookH s1.heap s.next = some (.cells (flC flZ) tRf false false) := by rw [hs1]; exact lkH
  have n1 : s1.next = s.next + 1 := by rw [hs1]
  (repeat(first|refine pSeq ?_|refine pReg ?_|refine sCons ?_|refine sNil ?_|refine pBlock ?_|refine pSkip ?_|refine pExit ?_|refine pRet ?_|refine pCond ?_|refine gNone ?_|refine gOn rfl ?_|refine gOff rfl rfl ?_|refine gTup rfl ?_))
  refine (rNamed_w (l := nm) (by omega)).mono fun u s2 q => ?_
  obtain ⟨rfl, e2⟩ := q
  have e2 : s2 = s1 := e2.trans hs1.symm
  subst e2
  clear hs1
  have hnone : ¬(isNm nm = true ∧ v.all okB = true) → layR nm v = none := fun h => by unfold layR; rw [if_neg h]
  (repeat(first|refine pSeq ?_|refine pReg ?_|refine sCons ?_|refine sNil ?_|refine pBlock ?_|refine pSkip ?_|refine pExit ?_|refine pRet ?_|refine pCond ?_|refine gNone ?_|refine gOn rfl ?_|refine gOff rfl rfl ?_|refine gTup rfl ?_))
  cases h1 : isNm nm with
  | false =>
    rw [hnone (by rw [h1]; simp)]
    intro q hq
    obtain rfl : q = true := by rw [hq]; rfl
    (repeat(first|refine pSeq ?_|refine pReg ?_|refine sCons ?_|refine sNil ?_|refine pBlock ?_|refine pSkip ?_|refine pExit ?_|refine pRet ?_|refine pCond ?_|refine gNone ?_|refine gOn rfl ?_|refine gOff rfl rfl ?_|refine gTup rfl ?_))
    refine st_abs (cs' := flC flZ) rfl rfl k1 (by omega) rfl rfl fun s3 e3 c3 n3 => ?_
    (repeat(first|refine pSeq ?_|refine pReg ?_|refine sCons ?_|refine sNil ?_|refine pBlock ?_|refine pSkip ?_|refine pExit ?_|refine pRet ?_|refine pCond ?_|refine gNone ?_|refine gOn rfl ?_|refine gOff rfl rfl ?_|refine gTup rfl ?_))
    (repeat (first | with_reducible refine sqRet ?_ | with_reducible refine bkRet ?_ | with_reducible refine hdRet ?_))
    exact ret_cell agg_Rf7 sz_Rf7 rfl e3 agg3 rfl ⟨rfl, c1.fresh c3 (by simp)⟩
  | true =>
    intro q hq
    obtain rfl : q = false := by rw [hq]; rfl
    (repeat(first|refine pSeq ?_|refine pReg ?_|refine sCons ?_|refine sNil ?_|refine pBlock ?_|refine pSkip ?_|refine pExit ?_|refine pRet ?_|refine pCond ?_|refine gNone ?_|refine gOn rfl ?_|refine gOff rfl rfl ?_|refine gTup rfl ?_))
    refine pLoop (MW.head good (fun i : Nat => v.length - i) (fun i => i ≤ v.length ∧ (v.take i).all okB = true) (fun i => [(0, str nm), (1, str v), (4, .pointer (some ⟨s.next, 0, none⟩)), (5, .int .i64 0), (6, .int .i64 i)]) (fun i => s2) 0 ⟨Nat.zero_le _, rfl⟩ (Wk.same ⟨rfl, rfl, rfl, rfl, rfl, trivial⟩) ?_)
    intro i ⟨i1, i2⟩
    (repeat(first|refine pSeq ?_|refine pReg ?_|refine sCons ?_|refine sNil ?_|refine pBlock ?_|refine pSkip ?_|refine pExit ?_|refine pRet ?_|refine pCond ?_|refine gNone ?_|refine gOn rfl ?_|refine gOff rfl rfl ?_|refine gTup rfl ?_))
    intro n hnn
    subst hnn
    (repeat(first|refine pSeq ?_|refine pReg ?_|refine sCons ?_|refine sNil ?_|refine pBlock ?_|refine pSkip ?_|refine pExit ?_|refine pRet ?_|refine pCond ?_|refine gNone ?_|refine gOn rfl ?_|refine gOff rfl rfl ?_|refine gTup rfl ?_))
    intro q hq
    by_cases hlt : i < v.length
    · obtain rfl : q = true := by rw [hq]; simp; omega
      obtain ⟨c, hc⟩ : ∃ c, v[i]? = some c := ⟨_, List.getElem?_eq_getElem hlt⟩
      (repeat(first|refine pSeq ?_|refine pReg ?_|refine sCons ?_|refine sNil ?_|refine pBlock ?_|refine pSkip ?_|refine pExit ?_|refine pRet ?_|refine pCond ?_|refine gNone ?_|refine gOn rfl ?_|refine gOff rfl rfl ?_|refine gTup rfl ?_))
      refine ⟨by omega, ?_⟩
      intro m hm
      obtain rfl : m = i := by omega
      refine ⟨c, hc, ?_⟩
      (repeat(first|refine pSeq ?_|refine pReg ?_|refine sCons ?_|refine sNil ?_|refine pBlock ?_|refine pSkip ?_|refine pExit ?_|refine pRet ?_|refine pCond ?_|refine gNone ?_|refine gOn rfl ?_|refine gOff rfl rfl ?_|refine gTup rfl ?_))
      refine right_w.mono fun u s2 q => ?_
      obtain ⟨rfl, rfl⟩ := q
      (repeat(first|refine pSeq ?_|refine pReg ?_|refine sCons ?_|refine sNil ?_|refine pBlock ?_|refine pSkip ?_|refine pExit ?_|refine pRet ?_|refine pCond ?_|refine gNone ?_|refine gOn rfl ?_|refine gOff rfl rfl ?_|refine gTup rfl ?_))
      intro q hq
      by_cases ho : okB c = true
      · obtain rfl : q = false := by rw [hq, ho]; rfl
        (repeat(first|refine pSeq ?_|refine pReg ?_|refine sCons ?_|refine sNil ?_|refine pBlock ?_|refine pSkip ?_|refine pExit ?_|refine pRet ?_|refine pCond ?_|refine gNone ?_|refine gOn rfl ?_|refine gOff rfl rfl ?_|refine gTup rfl ?_))
        intro z hz
        rw [i64_id (by omega)] at hz
        obtain rfl : z = ((m + 1 : Nat) : Int) := by omega
        (repeat(first|refine pSeq ?_|refine pReg ?_|refine sCons ?_|refine sNil ?_|refine pBlock ?_|refine pSkip ?_|refine pExit ?_|refine pRet ?_|refine pCond ?_|refine gNone ?_|refine gOn rfl ?_|refine gOff rfl rfl ?_|refine gTup rfl ?_))
        exact ⟨m + 1, ⟨hlt, by rw [take_next hc]; simp [i2, ho]⟩, by show v.length - (m + 1) < v.length - m; omega, Wk.same ⟨rfl, rfl, rfl, rfl, rfl, trivial⟩⟩
      · obtain rfl : q = true := by rw [hq, Bool.eq_false_iff.2 ho]; rfl
        rw [hnone (fun q => by rw [all_no hc (Bool.eq_false_iff.2 ho)] at q; exact absurd q.2 (by simp))]
        (repeat(first|refine pSeq ?_|refine pReg ?_|refine sCons ?_|refine sNil ?_|refine pBlock ?_|refine pSkip ?_|refine pExit ?_|refine pRet ?_|refine pCond ?_|refine gNone ?_|refine gOn rfl ?_|refine gOff rfl rfl ?_|refine gTup rfl ?_))
        refine st_abs (cs' := flC flZ) rfl rfl k1 (by omega) rfl rfl fun s3 e3 c3 n3 => ?_
        (repeat(first|refine pSeq ?_|refine pReg ?_|refine sCons ?_|refine sNil ?_|refine pBlock ?_|refine pSkip ?_|refine pExit ?_|refine pRet ?_|refine pCond ?_|refine gNone ?_|refine gOn rfl ?_|refine gOff rfl rfl ?_|refine gTup rfl ?_))
        (repeat (first | with_reducible refine sqRet ?_ | with_reducible refine bkRet ?_ | with_reducible refine hdRet ?_))
        exact ret_cell agg_Rf7 sz_Rf7 rfl e3 agg3 rfl ⟨rfl, c1.fresh c3 (by simp)⟩
    · obtain rfl : q = false := by rw [hq]; simp; omega
      have h2 : v.all okB = true := by rw [← i2, List.take_of_length_le (by omega)]
      obtain ⟨L0, hL0⟩ : ∃ L0, L0 = nm ++ 58 :: 32 :: v := ⟨_, rfl⟩
      have hL0l : L0.length = nm.length + v.length + 2 := by rw [hL0]; simp; omega
      obtain ⟨g1, g2, g3, g4⟩ := lay_field (y := 2) (n := L0.length) (z := nm.length + 3) h1 h2 (by omega)
      rw [← hL0] at g1
      have hsome : layR nm v = some ⟨nm, trimF v, jn (foldF 2 L0.length (nm.length + 3) L0)⟩ := by unfold layR; rw [if_pos ⟨h1, h2⟩, ← hL0]
      rw [hsome]
      have hjl := jn_fold 2 L0.length (nm.length + 3) L0
      clear g2 g3 g4 hsome hnone
      (repeat(first|refine pSeq ?_|refine pReg ?_|refine sCons ?_|refine sNil ?_|refine pBlock ?_|refine pSkip ?_|refine pExit ?_|refine pRet ?_|refine pCond ?_|refine gNone ?_|refine gOn rfl ?_|refine gOff rfl rfl ?_|refine gTup rfl ?_))
      refine ⟨by first | omega | (simp; omega), ?_⟩
      intro x hx
      subst hx
      (repeat(first|refine pSeq ?_|refine pReg ?_|refine sCons ?_|refine sNil ?_|refine pBlock ?_|refine pSkip ?_|refine pExit ?_|refine pRet ?_|refine pCond ?_|refine gNone ?_|refine gOn rfl ?_|refine gOff rfl rfl ?_|refine gTup rfl ?_))
      refine ⟨by first | omega | (simp; omega), ?_⟩
      intro x hx
      have ex : x = L0 := by rw [hx, hL0]; simp
      clear hx
      subst ex
      (repeat(first|refine pSeq ?_|refine pReg ?_|refine sCons ?_|refine sNil ?_|refine pBlock ?_|refine pSkip ?_|refine pExit ?_|refine pRet ?_|refine pCond ?_|refine gNone ?_|refine gOn rfl ?_|refine gOff rfl rfl ?_|refine gTup rfl ?_))
      intro n hnn
      (repeat(first|refine pSeq ?_|refine pReg ?_|refine sCons ?_|refine sNil ?_|refine pBlock ?_|refine pSkip ?_|refine pExit ?_|refine pRet ?_|refine pCond ?_|refine gNone ?_|refine gOn rfl ?_|refine gOff rfl rfl ?_|refine gTup rfl ?_))
      intro z hz
      rw [i64_id (by omega)] at hz
      obtain rfl : z = ((nm.length + 3 : Nat) : Int) := by omega
      (repeat(first|refine pSeq ?_|refine pReg ?_|refine sCons ?_|refine sNil ?_|refine pBlock ?_|refine pSkip ?_|refine pExit ?_|refine pRet ?_|refine pCond ?_|refine gNone ?_|refine gOn rfl ?_|refine gOff rfl rfl ?_|refine gTup rfl ?_))
      refine pLoop (MW.head good (fun x : RlI => x.k) (fun y => foldF 2 x.length (nm.length + 3) x = y.acc ++ foldF 2 y.k y.z y.l ∧ y.l.length ≤ y.k ∧ 1 ≤ y.z ∧ y.z ≤ 100000 ∧ (jn y.acc).length + 3 * y.l.length ≤ 3 * x.length)
        (fun y => [(4, .pointer (some ⟨s.next, 0, none⟩)), (5, .int .i64 0), (7, str y.l), (8, .int .i64 y.z), (9, str (jn y.acc))]) (fun y => s2) ⟨[], x, nm.length + 3, x.length⟩ ⟨rfl, Nat.le_refl _, by show 1 ≤ nm.length + 3; omega, by show nm.length + 3 ≤ 100000; omega, by simp [jn]⟩ (Wk.same ⟨rfl, rfl, rfl, rfl, rfl, trivial⟩) ?_)
      rintro ⟨acc, r, z, k⟩ ⟨i3, i4, i5, i6, i7⟩
      dsimp only at i3 i4 i5 i6 i7 ⊢
      (repeat(first|refine pSeq ?_|refine pReg ?_|refine sCons ?_|refine sNil ?_|refine pBlock ?_|refine pSkip ?_|refine pExit ?_|refine pRet ?_|refine pCond ?_|refine gNone ?_|refine gOn rfl ?_|refine gOff rfl rfl ?_|refine gTup rfl ?_))
      intro n hnn
      subst hnn
      (repeat(first|refine pSeq ?_|refine pReg ?_|refine sCons ?_|refine sNil ?_|refine pBlock ?_|refine pSkip ?_|refine pExit ?_|refine pRet ?_|refine pCond ?_|refine gNone ?_|refine gOn rfl ?_|refine gOff rfl rfl ?_|refine gTup rfl ?_))
      intro q hq
      have h3 : (78 < r.length) ∨ ¬78 < r.length := Classical.em _
      rcases h3 with g0 | g0
      · obtain rfl : q = true := by rw [hq]; simp; omega
        (repeat(first|refine pSeq ?_|refine pReg ?_|refine sCons ?_|refine sNil ?_|refine pBlock ?_|refine pSkip ?_|refine pExit ?_|refine pRet ?_|refine pCond ?_|refine gNone ?_|refine gOn rfl ?_|refine gOff rfl rfl ?_|refine gTup rfl ?_))
        refine pLoop (MW.head good (fun x : Nat × Option Nat => r.length - x.1) (fun x => z ≤ x.1 ∧ x.1 ≤ 200000 ∧ placeF r z = fpR r (r.length - x.1) x.1 x.2)
          (fun y => [(4, .pointer (some ⟨s.next, 0, none⟩)), (5, .int .i64 0), (7, str r), (9, str (jn acc)), (10, .int .i64 (atI y.2)), (11, .int .i64 y.1)]) (fun y => s2) (z, none) ⟨Nat.le_refl _, by show z ≤ 200000; omega, place_R r z⟩ (Wk.same ⟨rfl, rfl, rfl, rfl, rfl, rfl, trivial⟩) ?_)
        rintro ⟨i, o⟩ ⟨j1, j2, j3⟩
        dsimp only at j1 j2 j3 ⊢
        (repeat(first|refine pSeq ?_|refine pReg ?_|refine sCons ?_|refine sNil ?_|refine pBlock ?_|refine pSkip ?_|refine pExit ?_|refine pRet ?_|refine pCond ?_|refine gNone ?_|refine gOn rfl ?_|refine gOff rfl rfl ?_|refine gTup rfl ?_))
        intro n hnn
        subst hnn
        (repeat(first|refine pSeq ?_|refine pReg ?_|refine sCons ?_|refine sNil ?_|refine pBlock ?_|refine pSkip ?_|refine pExit ?_|refine pRet ?_|refine pCond ?_|refine gNone ?_|refine gOn rfl ?_|refine gOff rfl rfl ?_|refine gTup rfl ?_))
        intro q hq
        by_cases hli : i < r.length
        · obtain rfl : q = true := by rw [hq]; simp; omega
          obtain ⟨a, ha⟩ : ∃ a, r[i - 1]? = some a := ⟨_, List.getElem?_eq_getElem (by omega)⟩
          obtain ⟨b, hb⟩ : ∃ b, r[i]? = some b := ⟨_, List.getElem?_eq_getElem hli⟩
          have hcom := com_iff' (by omega) ha hb
          have step : ∀ o', (if comB r i = true ∧ (i ≤ 78 ∨ o = none) then some i else o) = o' → placeF r z = fpR r (r.length - (i + 1)) (i + 1) o' := by
            intro o' e
            rw [j3, show r.length - i = (r.length - (i + 1)) + 1 by omega, fpR, e]
          (repeat(first|refine pSeq ?_|refine pReg ?_|refine sCons ?_|refine sNil ?_|refine pBlock ?_|refine pSkip ?_|refine pExit ?_|refine pRet ?_|refine pCond ?_|refine gNone ?_|refine gOn rfl ?_|refine gOff rfl rfl ?_|refine gTup rfl ?_))
          refine ⟨by omega, ?_⟩
          intro m hm
          obtain rfl : m = i := by omega
          refine ⟨b, hb, ?_⟩
          (repeat(first|refine pSeq ?_|refine pReg ?_|refine sCons ?_|refine sNil ?_|refine pBlock ?_|refine pSkip ?_|refine pExit ?_|refine pRet ?_|refine pCond ?_|refine gNone ?_|refine gOn rfl ?_|refine gOff rfl rfl ?_|refine gTup rfl ?_))
          intro q hq
          by_cases cb : b.toNat = 32
          · obtain rfl : q = true := by rw [hq]; simp; omega
            (repeat(first|refine pSeq ?_|refine pReg ?_|refine sCons ?_|refine sNil ?_|refine pBlock ?_|refine pSkip ?_|refine pExit ?_|refine pRet ?_|refine pCond ?_|refine gNone ?_|refine gOn rfl ?_|refine gOff rfl rfl ?_|refine gTup rfl ?_))
            intro z' hz'
            rw [i64_id (by omega)] at hz'
            (repeat(first|refine pSeq ?_|refine pReg ?_|refine sCons ?_|refine sNil ?_|refine pBlock ?_|refine pSkip ?_|refine pExit ?_|refine pRet ?_|refine pCond ?_|refine gNone ?_|refine gOn rfl ?_|refine gOff rfl rfl ?_|refine gTup rfl ?_))
            refine ⟨by omega, ?_⟩
            intro m2 hm2
            obtain rfl : m2 = m - 1 := by omega
            refine ⟨a, ha, ?_⟩
            (repeat(first|refine pSeq ?_|refine pReg ?_|refine sCons ?_|refine sNil ?_|refine pBlock ?_|refine pSkip ?_|refine pExit ?_|refine pRet ?_|refine pCond ?_|refine gNone ?_|refine gOn rfl ?_|refine gOff rfl rfl ?_|refine gTup rfl ?_))
            intro q hq
            by_cases ca : a.toNat = 44
            · obtain rfl : q = true := by rw [hq]; simp; omega
              rw [ca, cb] at hcom
              have hcom : comB r m = true := hcom
              (repeat(first|refine pSeq ?_|refine pReg ?_|refine sCons ?_|refine sNil ?_|refine pBlock ?_|refine pSkip ?_|refine pExit ?_|refine pRet ?_|refine pCond ?_|refine gNone ?_|refine gOn rfl ?_|refine gOff rfl rfl ?_|refine gTup rfl ?_))
              intro q hq
              by_cases h78 : m ≤ 78
              · obtain rfl : q = true := by rw [hq]; simp; omega
                (repeat(first|refine pSeq ?_|refine pReg ?_|refine sCons ?_|refine sNil ?_|refine pBlock ?_|refine pSkip ?_|refine pExit ?_|refine pRet ?_|refine pCond ?_|refine gNone ?_|refine gOn rfl ?_|refine gOff rfl rfl ?_|refine gTup rfl ?_))
                intro z2 hz2
                rw [i64_id (by omega)] at hz2
                obtain rfl : z2 = ((m + 1 : Nat) : Int) := by omega
                (repeat(first|refine pSeq ?_|refine pReg ?_|refine sCons ?_|refine sNil ?_|refine pBlock ?_|refine pSkip ?_|refine pExit ?_|refine pRet ?_|refine pCond ?_|refine gNone ?_|refine gOn rfl ?_|refine gOff rfl rfl ?_|refine gTup rfl ?_))
                exact ⟨(m + 1, some m), ⟨by show z ≤ m + 1; omega, by show m + 1 ≤ 200000; omega, step _ (if_pos ⟨hcom, .inl h78⟩)⟩, by show r.length - (m + 1) < r.length - m; omega, Wk.same ⟨rfl, rfl, rfl, rfl, rfl, rfl, trivial⟩⟩
              · obtain rfl : q = false := by rw [hq]; simp; omega
                (repeat(first|refine pSeq ?_|refine pReg ?_|refine sCons ?_|refine sNil ?_|refine pBlock ?_|refine pSkip ?_|refine pExit ?_|refine pRet ?_|refine pCond ?_|refine gNone ?_|refine gOn rfl ?_|refine gOff rfl rfl ?_|refine gTup rfl ?_))
                intro q hq
                cases o with
                | none =>
                  obtain rfl : q = true := by rw [hq]; rfl
                  (repeat(first|refine pSeq ?_|refine pReg ?_|refine sCons ?_|refine sNil ?_|refine pBlock ?_|refine pSkip ?_|refine pExit ?_|refine pRet ?_|refine pCond ?_|refine gNone ?_|refine gOn rfl ?_|refine gOff rfl rfl ?_|refine gTup rfl ?_))
                  intro z2 hz2
                  rw [i64_id (by omega)] at hz2
                  obtain rfl : z2 = ((m + 1 : Nat) : Int) := by omega
                  (repeat(first|refine pSeq ?_|refine pReg ?_|refine sCons ?_|refine sNil ?_|refine pBlock ?_|refine pSkip ?_|refine pExit ?_|refine pRet ?_|refine pCond ?_|refine gNone ?_|refine gOn rfl ?_|refine gOff rfl rfl ?_|refine gTup rfl ?_))
                  exact ⟨(m + 1, some m), ⟨by show z ≤ m + 1; omega, by show m + 1 ≤ 200000; omega, step _ (if_pos ⟨hcom, .inr rfl⟩)⟩, by show r.length - (m + 1) < r.length - m; omega, Wk.same ⟨rfl, rfl, rfl, rfl, rfl, rfl, trivial⟩⟩
                | some w =>
                  obtain rfl : q = false := by rw [hq]; exact decide_eq_false (by show ¬((w : Int) < 0); omega)
                  (repeat(first|refine pSeq ?_|refine pReg ?_|refine sCons ?_|refine sNil ?_|refine pBlock ?_|refine pSkip ?_|refine pExit ?_|refine pRet ?_|refine pCond ?_|refine gNone ?_|refine gOn rfl ?_|refine gOff rfl rfl ?_|refine gTup rfl ?_))
                  intro z2 hz2
                  rw [i64_id (by omega)] at hz2
                  obtain rfl : z2 = ((m + 1 : Nat) : Int) := by omega
                  (repeat(first|refine pSeq ?_|refine pReg ?_|refine sCons ?_|refine sNil ?_|refine pBlock ?_|refine pSkip ?_|refine pExit ?_|refine pRet ?_|refine pCond ?_|refine gNone ?_|refine gOn rfl ?_|refine gOff rfl rfl ?_|refine gTup rfl ?_))
                  exact ⟨(m + 1, some w), ⟨by show z ≤ m + 1; omega, by show m + 1 ≤ 200000; omega, step _ (if_neg (fun q => q.2.elim h78 (fun e => by cases e)))⟩, by show r.length - (m + 1) < r.length - m; omega, Wk.same ⟨rfl, rfl, rfl, rfl, rfl, rfl, trivial⟩⟩
            · obtain rfl : q = false := by rw [hq]; simp; omega
              rw [decide_eq_false ca] at hcom
              (repeat(first|refine pSeq ?_|refine pReg ?_|refine sCons ?_|refine sNil ?_|refine pBlock ?_|refine pSkip ?_|refine pExit ?_|refine pRet ?_|refine pCond ?_|refine gNone ?_|refine gOn rfl ?_|refine gOff rfl rfl ?_|refine gTup rfl ?_))
              intro z2 hz2
              rw [i64_id (by omega)] at hz2
              obtain rfl : z2 = ((m + 1 : Nat) : Int) := by omega
              (repeat(first|refine pSeq ?_|refine pReg ?_|refine sCons ?_|refine sNil ?_|refine pBlock ?_|refine pSkip ?_|refine pExit ?_|refine pRet ?_|refine pCond ?_|refine gNone ?_|refine gOn rfl ?_|refine gOff rfl rfl ?_|refine gTup rfl ?_))
              exact ⟨(m + 1, o), ⟨by show z ≤ m + 1; omega, by show m + 1 ≤ 200000; omega, step _ (if_neg (fun q => by rw [hcom] at q; exact absurd q.1 (by simp)))⟩, by show r.length - (m + 1) < r.length - m; omega, Wk.same ⟨rfl, rfl, rfl, rfl, rfl, rfl, trivial⟩⟩
          · obtain rfl : q = false := by rw [hq]; simp; omega
            rw [decide_eq_false cb, Bool.and_false] at hcom
            (repeat(first|refine pSeq ?_|refine pReg ?_|refine sCons ?_|refine sNil ?_|refine pBlock ?_|refine pSkip ?_|refine pExit ?_|refine pRet ?_|refine pCond ?_|refine gNone ?_|refine gOn rfl ?_|refine gOff rfl rfl ?_|refine gTup rfl ?_))
            intro z2 hz2
            rw [i64_id (by omega)] at hz2
            obtain rfl : z2 = ((m + 1 : Nat) : Int) := by omega
            (repeat(first|refine pSeq ?_|refine pReg ?_|refine sCons ?_|refine sNil ?_|refine pBlock ?_|refine pSkip ?_|refine pExit ?_|refine pRet ?_|refine pCond ?_|refine gNone ?_|refine gOn rfl ?_|refine gOff rfl rfl ?_|refine gTup rfl ?_))
            exact ⟨(m + 1, o), ⟨by show z ≤ m + 1; omega, by show m + 1 ≤ 200000; omega, step _ (if_neg (fun q => by rw [hcom] at q; exact absurd q.1 (by simp)))⟩, by show r.length - (m + 1) < r.length - m; omega, Wk.same ⟨rfl, rfl, rfl, rfl, rfl, rfl, trivial⟩⟩
        · obtain rfl : q = false := by rw [hq]; simp; omega
          rw [show r.length - i = 0 by omega] at j3
          have j3 : placeF r z = o := j3
          cases o with
          | none =>
            have hend : foldF 2 x.length (nm.length + 3) x = acc ++ [r] := by
              rw [i3]
              congr 1
              cases k with
              | zero => rfl
              | succ k => rw [foldF, if_pos g0, j3]
            (repeat(first|refine pSeq ?_|refine pReg ?_|refine sCons ?_|refine sNil ?_|refine pBlock ?_|refine pSkip ?_|refine pExit ?_|refine pRet ?_|refine pCond ?_|refine gNone ?_|refine gOn rfl ?_|refine gOff rfl rfl ?_|refine gTup rfl ?_))
            intro q hq
            obtain rfl : q = true := by rw [hq]; rfl
            (repeat(first|refine pSeq ?_|refine pReg ?_|refine sCons ?_|refine sNil ?_|refine pBlock ?_|refine pSkip ?_|refine pExit ?_|refine pRet ?_|refine pCond ?_|refine gNone ?_|refine gOn rfl ?_|refine gOff rfl rfl ?_|refine gTup rfl ?_))
            refine ⟨by first | omega | (simp; omega), ?_⟩
            intro y1 hy1
            subst hy1
            (repeat(first|refine pSeq ?_|refine pReg ?_|refine sCons ?_|refine sNil ?_|refine pBlock ?_|refine pSkip ?_|refine pExit ?_|refine pRet ?_|refine pCond ?_|refine gNone ?_|refine gOn rfl ?_|refine gOff rfl rfl ?_|refine gTup rfl ?_))
            refine ⟨by first | omega | (simp; omega), ?_⟩
            intro R hR
            have eR : R = jn (foldF 2 x.length (nm.length + 3) x) := by rw [hR, hend, jn_snoc']
            clear hR
            rw [← eR] at g1 hjl ⊢
            (repeat(first|refine pSeq ?_|refine pReg ?_|refine sCons ?_|refine sNil ?_|refine pBlock ?_|refine pSkip ?_|refine pExit ?_|refine pRet ?_|refine pCond ?_|refine gNone ?_|refine gOn rfl ?_|refine gOff rfl rfl ?_|refine gTup rfl ?_))
            refine (rfield_w (raw := R) (by omega)).mono fun u s3 q => ?_
            rw [g1] at q
            obtain ⟨rfl, c3⟩ := q
            have n3 := c3.next
            have k3 := c3.blk _ _ (by omega) (by simp) k1
            have c03 := c1.nil c3
            (repeat(first|refine pSeq ?_|refine pReg ?_|refine sCons ?_|refine sNil ?_|refine pBlock ?_|refine pSkip ?_|refine pExit ?_|refine pRet ?_|refine pCond ?_|refine gNone ?_|refine gOn rfl ?_|refine gOff rfl rfl ?_|refine gTup rfl ?_))
            refine st_abs (cs' := flC ⟨nm, trimF v, R⟩) rfl rfl lkH (Nat.lt_succ_self _) rfl rfl fun s4 e4 c4 n4 => ?_
            have c34 : Chg s3 s4 [] := (Chg.new []).fresh c4 (by simp)
            have e4 : lookH s4.heap s3.next = some (.cells (flC ⟨nm, trimF v, R⟩) tRf false false) := e4
            have n4 : s4.next = s3.next + 1 := n4
            have k4 := c34.blk _ _ (by omega) (by simp) k3
            (repeat(first|refine pSeq ?_|refine pReg ?_|refine sCons ?_|refine sNil ?_|refine pBlock ?_|refine pSkip ?_|refine pExit ?_|refine pRet ?_|refine pCond ?_|refine gNone ?_|refine gOn rfl ?_|refine gOff rfl rfl ?_|refine gTup rfl ?_))
            refine ldN_is rfl e4 agg3 ?_
            (repeat(first|refine pSeq ?_|refine pReg ?_|refine sCons ?_|refine sNil ?_|refine pBlock ?_|refine pSkip ?_|refine pExit ?_|refine pRet ?_|refine pCond ?_|refine gNone ?_|refine gOn rfl ?_|refine gOff rfl rfl ?_|refine gTup rfl ?_))
            refine st_abs (cs' := flC ⟨nm, trimF v, R⟩) rfl rfl k4 (show s.next < s4.next by omega) rfl rfl fun s5 e5 c5 n5 => ?_
            (repeat(first|refine pSeq ?_|refine pReg ?_|refine sCons ?_|refine sNil ?_|refine pBlock ?_|refine pSkip ?_|refine pExit ?_|refine pRet ?_|refine pCond ?_|refine gNone ?_|refine gOn rfl ?_|refine gOff rfl rfl ?_|refine gTup rfl ?_))
            (repeat (first | with_reducible refine sqRet ?_ | with_reducible refine bkRet ?_ | with_reducible refine hdRet ?_))
            exact ret_cell agg_Rf7 sz_Rf7 rfl e5 agg3 rfl ⟨rfl, (c03.nil c34).fresh c5 (by simp)⟩
          | some a =>
            obtain ⟨p1, p2⟩ := place_is j3
            obtain ⟨p3, p4, -⟩ := com_lt p1
            obtain ⟨k, rfl⟩ : ∃ j, k = j + 1 := ⟨k - 1, by omega⟩
            rw [foldF, if_pos g0, j3] at i3
            dsimp only at i3
            (repeat(first|refine pSeq ?_|refine pReg ?_|refine sCons ?_|refine sNil ?_|refine pBlock ?_|refine pSkip ?_|refine pExit ?_|refine pRet ?_|refine pCond ?_|refine gNone ?_|refine gOn rfl ?_|refine gOff rfl rfl ?_|refine gTup rfl ?_))
            intro q hq
            obtain rfl : q = false := by rw [hq]; exact decide_eq_false (by show ¬((a : Int) < 0); omega)
            (repeat(first|refine pSeq ?_|refine pReg ?_|refine sCons ?_|refine sNil ?_|refine pBlock ?_|refine pSkip ?_|refine pExit ?_|refine pRet ?_|refine pCond ?_|refine gNone ?_|refine gOn rfl ?_|refine gOff rfl rfl ?_|refine gTup rfl ?_))
            refine ⟨⟨by show (0 : Int) ≤ (a : Int); omega, by show (a : Int) ≤ _; omega⟩, ?_⟩
            intro m hm g hg
            obtain rfl : m = a := by have : (m : Int) = (a : Int) := hm; omega
            have eg : g = r.take m := by rw [hg]; simp
            clear hg
            subst eg
            (repeat(first|refine pSeq ?_|refine pReg ?_|refine sCons ?_|refine sNil ?_|refine pBlock ?_|refine pSkip ?_|refine pExit ?_|refine pRet ?_|refine pCond ?_|refine gNone ?_|refine gOn rfl ?_|refine gOff rfl rfl ?_|refine gTup rfl ?_))
            refine ⟨by first | omega | (simp; omega), ?_⟩
            intro y1 hy1
            subst hy1
            (repeat(first|refine pSeq ?_|refine pReg ?_|refine sCons ?_|refine sNil ?_|refine pBlock ?_|refine pSkip ?_|refine pExit ?_|refine pRet ?_|refine pCond ?_|refine gNone ?_|refine gOn rfl ?_|refine gOff rfl rfl ?_|refine gTup rfl ?_))
            refine ⟨by first | omega | (simp; omega), ?_⟩
            intro y2 hy2
            have ey : y2 = jn (acc ++ [r.take m]) := by rw [hy2, jn_snoc']
            clear hy2
            subst ey
            (repeat(first|refine pSeq ?_|refine pReg ?_|refine sCons ?_|refine sNil ?_|refine pBlock ?_|refine pSkip ?_|refine pExit ?_|refine pRet ?_|refine pCond ?_|refine gNone ?_|refine gOn rfl ?_|refine gOff rfl rfl ?_|refine gTup rfl ?_))
            refine ⟨⟨by show (0 : Int) ≤ (m : Int); omega, by show (m : Int) ≤ _; omega⟩, ?_⟩
            intro m2 hm2 g hg
            obtain rfl : m2 = m := by have : (m2 : Int) = (m : Int) := hm2; omega
            have eg : g = r.drop m2 := by rw [hg, List.take_of_length_le (by simp)]
            clear hg
            subst eg
            (repeat(first|refine pSeq ?_|refine pReg ?_|refine sCons ?_|refine sNil ?_|refine pBlock ?_|refine pSkip ?_|refine pExit ?_|refine pRet ?_|refine pCond ?_|refine gNone ?_|refine gOn rfl ?_|refine gOff rfl rfl ?_|refine gTup rfl ?_))
            refine ⟨⟨acc ++ [r.take m2], r.drop m2, 2, k⟩, ⟨by rw [i3]; simp, by show (r.drop m2).length ≤ k; rw [List.length_drop]; omega, by show 1 ≤ 2; omega, by show 2 ≤ 100000; omega, ?_⟩, by show k < k + 1; omega, Wk.same ⟨rfl, rfl, rfl, rfl, rfl, trivial⟩⟩
            show (jn (acc ++ [r.take m2])).length + 3 * (r.drop m2).length ≤ _
            rw [jn_snoc']
            simp only [List.length_append, List.length_take, List.length_drop, List.length_cons, List.length_nil]
            omega
      · obtain rfl : q = false := by rw [hq]; simp; omega
        have hend : foldF 2 x.length (nm.length + 3) x = acc ++ [r] := by
          rw [i3]
          congr 1
          cases k with
          | zero => rfl
          | succ k => rw [foldF, if_neg g0]
        (repeat(first|refine pSeq ?_|refine pReg ?_|refine sCons ?_|refine sNil ?_|refine pBlock ?_|refine pSkip ?_|refine pExit ?_|refine pRet ?_|refine pCond ?_|refine gNone ?_|refine gOn rfl ?_|refine gOff rfl rfl ?_|refine gTup rfl ?_))
        refine ⟨by first | omega | (simp; omega), ?_⟩
        intro y1 hy1
        subst hy1
        (repeat(first|refine pSeq ?_|refine pReg ?_|refine sCons ?_|refine sNil ?_|refine pBlock ?_|refine pSkip ?_|refine pExit ?_|refine pRet ?_|refine pCond ?_|refine gNone ?_|refine gOn rfl ?_|refine gOff rfl rfl ?_|refine gTup rfl ?_))
        refine ⟨by first | omega | (simp; omega), ?_⟩
        intro R hR
        have eR : R = jn (foldF 2 x.length (nm.length + 3) x) := by rw [hR, hend, jn_snoc']
        clear hR
        rw [← eR] at g1 hjl ⊢
        (repeat(first|refine pSeq ?_|refine pReg ?_|refine sCons ?_|refine sNil ?_|refine pBlock ?_|refine pSkip ?_|refine pExit ?_|refine pRet ?_|refine pCond ?_|refine gNone ?_|refine gOn rfl ?_|refine gOff rfl rfl ?_|refine gTup rfl ?_))
        refine (rfield_w (raw := R) (by omega)).mono fun u s3 q => ?_
        rw [g1] at q
        obtain ⟨rfl, c3⟩ := q
        have n3 := c3.next
        have k3 := c3.blk _ _ (by omega) (by simp) k1
        have c03 := c1.nil c3
        (repeat(first|refine pSeq ?_|refine pReg ?_|refine sCons ?_|refine sNil ?_|refine pBlock ?_|refine pSkip ?_|refine pExit ?_|refine pRet ?_|refine pCond ?_|refine gNone ?_|refine gOn rfl ?_|refine gOff rfl rfl ?_|refine gTup rfl ?_))
        refine st_abs (cs' := flC ⟨nm, trimF v, R⟩) rfl rfl lkH (Nat.lt_succ_self _) rfl rfl fun s4 e4 c4 n4 => ?_
        have c34 : Chg s3 s4 [] := (Chg.new []).fresh c4 (by simp)
        have e4 : lookH s4.heap s3.next = some (.cells (flC ⟨nm, trimF v, R⟩) tRf false false) := e4
        have n4 : s4.next = s3.next + 1 := n4
        have k4 := c34.blk _ _ (by omega) (by simp) k3
        (repeat(first|refine pSeq ?_|refine pReg ?_|refine sCons ?_|refine sNil ?_|refine pBlock ?_|refine pSkip ?_|refine pExit ?_|refine pRet ?_|refine pCond ?_|refine gNone ?_|refine gOn rfl ?_|refine gOff rfl rfl ?_|refine gTup rfl ?_))
        refine ldN_is rfl e4 agg3 ?_
        (repeat(first|refine pSeq ?_|refine pReg ?_|refine sCons ?_|refine sNil ?_|refine pBlock ?_|refine pSkip ?_|refine pExit ?_|refine pRet ?_|refine pCond ?_|refine gNone ?_|refine gOn rfl ?_|refine gOff rfl rfl ?_|refine gTup rfl ?_))
        refine st_abs (cs' := flC ⟨nm, trimF v, R⟩) rfl rfl k4 (show s.next < s4.next by omega) rfl rfl fun s5 e5 c5 n5 => ?_
        (repeat(first|refine pSeq ?_|refine pReg ?_|refine sCons ?_|refine sNil ?_|refine pBlock ?_|refine pSkip ?_|refine pExit ?_|refine pRet ?_|refine pCond ?_|refine gNone ?_|refine gOn rfl ?_|refine gOff rfl rfl ?_|refine gTup rfl ?_))
        (repeat (first | with_reducible refine sqRet ?_ | with_reducible refine bkRet ?_ | with_reducible refine hdRet ?_))
        exact ret_cell agg_Rf7 sz_Rf7 rfl e5 agg3 rfl ⟨rfl, (c03.nil c34).fresh c5 (by simp)⟩
end Go.Vf.S

import Derived.Test.YtphcpdopfolopaaDoorCoO
/- The document's own: letters read. -/
namespace Go.Vf.S
open Go Go.Vf Go.Proofs Go.RowKit
attribute [local irreducible] wSeq wRow wp wG
set_option linter.unusedVariables false
set_option linter.unusedSimpArgs false
set_option maxRecDepth 10000

/-- One sign = cut off, if there is one; so many times. -/
def cut1 (s : List UInt8) : List UInt8 := if s.getLast? = some 61 then s.dropLast else s
def stg : Nat → List UInt8 → List UInt8
  | 0, s => s
  | i + 1, s => cut1 (stg i s)
theorem stg_2 (s : List UInt8) : stg 2 s = cut2 s := rfl
theorem cut1_take (s : List UInt8) : ∃ e, e ≤ s.length ∧ cut1 s = s.take e := by
  unfold cut1
  split
  · exact ⟨s.length - 1, by omega, List.dropLast_eq_take⟩
  · exact ⟨s.length, Nat.le_refl _, (List.take_length).symm⟩
theorem stg_take : ∀ (i : Nat) (s : List UInt8), (stg i s).length ≤ s.length ∧ stg i s = s.take (stg i s).length
  | 0, s => ⟨Nat.le_refl _, (List.take_length).symm⟩
  | i + 1, s => by
    obtain ⟨h1, h2⟩ := stg_take i s
    obtain ⟨e, h3, h4⟩ := cut1_take (stg i s)
    have h5 : (stg (i + 1) s).length = e := by
      show (cut1 (stg i s)).length = e
      rw [h4, List.length_take]; omega
    refine ⟨by omega, ?_⟩
    rw [h5]
    show cut1 (stg i s) = _
    rw [h4]
    conv => lhs; rw [h2]
    rw [List.take_take, Nat.min_eq_left h3]

/-- As reading of the document tells it. -/
def RReadsAs (r : Option (List UInt8)) (s s' : SS) (v : Value) : Prop := match r with
  | some b => ∃ (base : Option Addr) (n : Nat), v = .tuple #[.slice base n 0, .int .i64 0] ∧ Own tB s' base b ∧ n = b.length ∧ (∀ id ∈ blkOf base, s.next ≤ id)
  | none => v = .tuple #[.slice none 0 0, .int .i64 5]

set_option maxHeartbeats 2000000 in
theorem rread_w {s : SS} {z : Nat} {l : List UInt8} (f : Fine s) (hz : 4 ≤ z ∧ z ≤ 6) (hl : l.length ≤ 1000000) :
    CallW pr n_ref11_Read [str l, .int .i64 z] s fun v s' => RReadsAs (readF z l) s s' v ∧ Chg s s' [] := by
  have h64 : 2 ^ z ≤ 64 := by rcases (show z = 4 ∨ z = 5 ∨ z = 6 by omega) with rfl | rfl | rfl <;> decide
  refine CallW.run good ok_ref11_Read (by simp) rfl ?_
  (repeat(first|refine pSeq ?_|refine pReg ?_|refine sCons ?_|refine sNil ?_|refine pBlock ?_|refine pSkip ?_|refine pExit ?_|refine pRet ?_|refine pCond ?_|refine gNone ?_|refine gOn rfl ?_|refine gOff rfl rfl ?_|refine gTup rfl ?_))
  intro n0 hn0
  subst hn0
  (repeat(first|refine pSeq ?_|refine pReg ?_|refine sCons ?_|refine sNil ?_|refine pBlock ?_|refine pSkip ?_|refine pExit ?_|refine pRet ?_|refine pCond ?_|refine gNone ?_|refine gOn rfl ?_|refine gOff rfl rfl ?_|refine gTup rfl ?_))
  intro q hq
  by_cases h6 : z = 6
  case' neg =>
    obtain rfl : q = false := by rw [hq]; simp; omega
    (repeat(first|refine pSeq ?_|refine pReg ?_|refine sCons ?_|refine sNil ?_|refine pBlock ?_|refine pSkip ?_|refine pExit ?_|refine pRet ?_|refine pCond ?_|refine gNone ?_|refine gOn rfl ?_|refine gOff rfl rfl ?_|refine gTup rfl ?_))
    obtain ⟨E, hE⟩ : ∃ E, l.length = E := ⟨_, rfl⟩
    have hEl : E ≤ l.length := by omega
    have hrd : readF z l = (plcs z (l.take E)).bind (readP z) := by rw [← hE, List.take_length]; unfold readF; rw [if_neg h6]
  rotate_left
  obtain rfl : q = true := by rw [hq, h6]; rfl
  (repeat(first|refine pSeq ?_|refine pReg ?_|refine sCons ?_|refine sNil ?_|refine pBlock ?_|refine pSkip ?_|refine pExit ?_|refine pRet ?_|refine pCond ?_|refine gNone ?_|refine gOn rfl ?_|refine gOff rfl rfl ?_|refine gTup rfl ?_))
  intro n1 hn1
  subst hn1
  (repeat(first|refine pSeq ?_|refine pReg ?_|refine sCons ?_|refine sNil ?_|refine pBlock ?_|refine pSkip ?_|refine pExit ?_|refine pRet ?_|refine pCond ?_|refine gNone ?_|refine gOn rfl ?_|refine gOff rfl rfl ?_|refine gTup rfl ?_))
  refine ⟨by decide, ?_⟩
  intro w hw
  rw [show (4 : Int) = ((4 : Nat) : Int) from rfl, tmodN] at hw
  subst hw
  (repeat(first|refine pSeq ?_|refine pReg ?_|refine sCons ?_|refine sNil ?_|refine pBlock ?_|refine pSkip ?_|refine pExit ?_|refine pRet ?_|refine pCond ?_|refine gNone ?_|refine gOn rfl ?_|refine gOff rfl rfl ?_|refine gTup rfl ?_))
  intro q hq
  by_cases h4 : l.length % 4 = 0
  case' neg =>
    obtain rfl : q = true := by rw [hq]; simp; omega
    (repeat(first|refine pSeq ?_|refine pReg ?_|refine sCons ?_|refine sNil ?_|refine pBlock ?_|refine pSkip ?_|refine pExit ?_|refine pRet ?_|refine pCond ?_|refine gNone ?_|refine gOn rfl ?_|refine gOff rfl rfl ?_|refine gTup rfl ?_))
    have e : readF z l = none := by rw [h6]; unfold readF; rw [if_pos rfl, if_neg h4]
    rw [e]
    exact ⟨rfl, .refl _ _⟩
  obtain rfl : q = false := by rw [hq]; simp; omega
  (repeat(first|refine pSeq ?_|refine pReg ?_|refine sCons ?_|refine sNil ?_|refine pBlock ?_|refine pSkip ?_|refine pExit ?_|refine pRet ?_|refine pCond ?_|refine gNone ?_|refine gOn rfl ?_|refine gOff rfl rfl ?_|refine gTup rfl ?_))
  refine pLoop (MW.head good (fun i : Nat => 2 - i) (fun i => i ≤ 2) (fun i => [(0, str l), (1, .int .i64 z), (6, .int .i64 (stg i l).length), (7, .int .i64 i)]) (fun _ => s) 0 (by decide) (Wk.same ⟨rfl, rfl, rfl, rfl, trivial⟩) ?_)
  intro i hi
  obtain ⟨g1, g2⟩ := stg_take i l
  (repeat(first|refine pSeq ?_|refine pReg ?_|refine sCons ?_|refine sNil ?_|refine pBlock ?_|refine pSkip ?_|refine pExit ?_|refine pRet ?_|refine pCond ?_|refine gNone ?_|refine gOn rfl ?_|refine gOff rfl rfl ?_|refine gTup rfl ?_))
  intro q hq
  by_cases h2 : i = 2
  case' neg =>
    obtain rfl : q = true := by rw [hq]; simp; omega
    (repeat(first|refine pSeq ?_|refine pReg ?_|refine sCons ?_|refine sNil ?_|refine pBlock ?_|refine pSkip ?_|refine pExit ?_|refine pRet ?_|refine pCond ?_|refine gNone ?_|refine gOn rfl ?_|refine gOff rfl rfl ?_|refine gTup rfl ?_))
    intro q hq
    have hcur : ∀ d, (stg i l).getLast? = some d ↔ (stg i l).length ≠ 0 ∧ l[(stg i l).length - 1]? = some d := by
      intro d
      by_cases h0 : (stg i l).length = 0
      · have : stg i l = [] := List.eq_nil_of_length_eq_zero h0
        rw [this]; simp
      · constructor
        · intro h
          refine ⟨h0, ?_⟩
          rw [List.getLast?_eq_getElem?] at h
          conv at h => lhs; rw [g2]
          rw [List.length_take, Nat.min_eq_left g1, List.getElem?_take, if_pos (by omega)] at h
          exact h
        · intro ⟨_, h⟩
          rw [List.getLast?_eq_getElem?]
          conv => lhs; rw [g2]
          rw [List.length_take, Nat.min_eq_left g1, List.getElem?_take, if_pos (by omega)]
          exact h
    have hnx : (stg (i + 1) l).length = if (stg i l).getLast? = some 61 then (stg i l).length - 1 else (stg i l).length := by
      show (cut1 (stg i l)).length = _
      unfold cut1
      split
      · rw [List.length_dropLast]
      · rfl
    obtain ⟨e, he⟩ : ∃ e, e = (stg i l).length := ⟨_, rfl⟩
    rw [← he] at hq hcur hnx g1
    by_cases h0 : e = 0
    · obtain rfl : q = false := by rw [hq, h0]; simp
      rw [if_neg (fun h => ((hcur _).1 h).1 h0)] at hnx
      (repeat(first|refine pSeq ?_|refine pReg ?_|refine sCons ?_|refine sNil ?_|refine pBlock ?_|refine pSkip ?_|refine pExit ?_|refine pRet ?_|refine pCond ?_|refine gNone ?_|refine gOn rfl ?_|refine gOff rfl rfl ?_|refine gTup rfl ?_))
      intro w hw
      rw [i64_id (by omega)] at hw
      obtain rfl : w = ((i + 1 : Nat) : Int) := by omega
      (repeat(first|refine pSeq ?_|refine pReg ?_|refine sCons ?_|refine sNil ?_|refine pBlock ?_|refine pSkip ?_|refine pExit ?_|refine pRet ?_|refine pCond ?_|refine gNone ?_|refine gOn rfl ?_|refine gOff rfl rfl ?_|refine gTup rfl ?_))
      exact ⟨i + 1, by omega, by show 2 - (i + 1) < 2 - i; omega, Wk.same ⟨rfl, rfl, by show _ = some (Value.int .i64 ((stg (i + 1) l).length : Nat)); rw [hnx, he]; rfl, rfl, trivial⟩⟩
    · obtain rfl : q = true := by rw [hq]; simp; omega
      (repeat(first|refine pSeq ?_|refine pReg ?_|refine sCons ?_|refine sNil ?_|refine pBlock ?_|refine pSkip ?_|refine pExit ?_|refine pRet ?_|refine pCond ?_|refine gNone ?_|refine gOn rfl ?_|refine gOff rfl rfl ?_|refine gTup rfl ?_))
      intro w hw
      rw [i64_id (by omega)] at hw
      obtain rfl : w = ((e - 1 : Nat) : Int) := by omega
      (repeat(first|refine pSeq ?_|refine pReg ?_|refine sCons ?_|refine sNil ?_|refine pBlock ?_|refine pSkip ?_|refine pExit ?_|refine pRet ?_|refine pCond ?_|refine gNone ?_|refine gOn rfl ?_|refine gOff rfl rfl ?_|refine gTup rfl ?_))
      obtain ⟨d, hd⟩ : ∃ d, l[e - 1]? = some d := ⟨_, List.getElem?_eq_getElem (show e - 1 < l.length by omega)⟩
      refine ⟨by omega, ?_⟩
      intro m hm
      obtain rfl : m = e - 1 := by omega
      refine ⟨d, hd, ?_⟩
      (repeat(first|refine pSeq ?_|refine pReg ?_|refine sCons ?_|refine sNil ?_|refine pBlock ?_|refine pSkip ?_|refine pExit ?_|refine pRet ?_|refine pCond ?_|refine gNone ?_|refine gOn rfl ?_|refine gOff rfl rfl ?_|refine gTup rfl ?_))
      intro q hq
      by_cases hd6 : d = 61
      · obtain rfl : q = true := by rw [hq, hd6]; rfl
        rw [if_pos ((hcur 61).2 ⟨h0, by rw [hd, hd6]⟩)] at hnx
        (repeat(first|refine pSeq ?_|refine pReg ?_|refine sCons ?_|refine sNil ?_|refine pBlock ?_|refine pSkip ?_|refine pExit ?_|refine pRet ?_|refine pCond ?_|refine gNone ?_|refine gOn rfl ?_|refine gOff rfl rfl ?_|refine gTup rfl ?_))
        intro w hw
        rw [i64_id (by omega)] at hw
        obtain rfl : w = ((e - 1 : Nat) : Int) := by omega
        (repeat(first|refine pSeq ?_|refine pReg ?_|refine sCons ?_|refine sNil ?_|refine pBlock ?_|refine pSkip ?_|refine pExit ?_|refine pRet ?_|refine pCond ?_|refine gNone ?_|refine gOn rfl ?_|refine gOff rfl rfl ?_|refine gTup rfl ?_))
        intro w hw
        rw [i64_id (by omega)] at hw
        obtain rfl : w = ((i + 1 : Nat) : Int) := by omega
        (repeat(first|refine pSeq ?_|refine pReg ?_|refine sCons ?_|refine sNil ?_|refine pBlock ?_|refine pSkip ?_|refine pExit ?_|refine pRet ?_|refine pCond ?_|refine gNone ?_|refine gOn rfl ?_|refine gOff rfl rfl ?_|refine gTup rfl ?_))
        exact ⟨i + 1, by omega, by show 2 - (i + 1) < 2 - i; omega, Wk.same ⟨rfl, rfl, by show _ = some (Value.int .i64 ((stg (i + 1) l).length : Nat)); rw [hnx]; rfl, rfl, trivial⟩⟩
      · obtain rfl : q = false := by rw [hq]; have := byte_ne11 hd6; rw [show ((61 : UInt8).toNat) = 61 from rfl] at this; simp; omega
        rw [if_neg (fun h => by have := ((hcur 61).1 h).2; rw [hd] at this; exact hd6 (Option.some.inj this))] at hnx
        (repeat(first|refine pSeq ?_|refine pReg ?_|refine sCons ?_|refine sNil ?_|refine pBlock ?_|refine pSkip ?_|refine pExit ?_|refine pRet ?_|refine pCond ?_|refine gNone ?_|refine gOn rfl ?_|refine gOff rfl rfl ?_|refine gTup rfl ?_))
        intro w hw
        rw [i64_id (by omega)] at hw
        obtain rfl : w = ((i + 1 : Nat) : Int) := by omega
        (repeat(first|refine pSeq ?_|refine pReg ?_|refine sCons ?_|refine sNil ?_|refine pBlock ?_|refine pSkip ?_|refine pExit ?_|refine pRet ?_|refine pCond ?_|refine gNone ?_|refine gOn rfl ?_|refine gOff rfl rfl ?_|refine gTup rfl ?_))
        exact ⟨i + 1, by omega, by show 2 - (i + 1) < 2 - i; omega, Wk.same ⟨rfl, rfl, by show _ = some (Value.int .i64 ((stg (i + 1) l).length : Nat)); rw [hnx, he]; rfl, rfl, trivial⟩⟩
  subst h2
  obtain rfl : q = false := by rw [hq]; rfl
  (repeat(first|refine pSeq ?_|refine pReg ?_|refine sCons ?_|refine sNil ?_|refine pBlock ?_|refine pSkip ?_|refine pExit ?_|refine pRet ?_|refine pCond ?_|refine gNone ?_|refine gOn rfl ?_|refine gOff rfl rfl ?_|refine gTup rfl ?_))
  obtain ⟨E, hE⟩ : ∃ E, (stg 2 l).length = E := ⟨_, rfl⟩
  have hEl : E ≤ l.length := by omega
  have hrd : readF z l = (plcs z (l.take E)).bind (readP z) := by
    rw [← hE, ← g2, stg_2, h6]; unfold readF; rw [if_pos rfl, if_pos h4]
  clear g1 g2 h4
  all_goals (
    have hrp : ∀ p, plcs z (l.take E) = some p → readF z l = if z * p.length % 8 < z ∧ kpt z p = 0 then some (outB z p) else none := by
      intro p hp
      rw [hrd, hp]
      exact readP_is z p
    have hTl : (l.take E).length = E := by rw [List.length_take]; omega
    have hnone : plcs z (l.take E) = none → readF z l = none := fun h => by rw [hrd, h]; rfl
    clear hrd
    refine pLoop (MW.head good (fun x : List Nat × Option Addr × SS => E - x.1.length) (fun x => plcs z ((l.take E).take x.1.length) = some x.1 ∧ x.1.length ≤ E ∧ Own tB x.2.2 x.2.1 (outB z x.1) ∧ (∀ id ∈ blkOf x.2.1, s.next ≤ id) ∧ Chg s x.2.2 [])
      (fun x => [(0, str l), (1, .int .i64 z), (6, .int .i64 E), (8, .slice x.2.1 (z * x.1.length / 8) 0), (9, .int .i64 (kpt z x.1)), (10, .int .i64 (z * x.1.length % 8 : Nat)), (11, .int .i64 x.1.length)]) (fun x => x.2.2) ([], none, s)
      ⟨rfl, Nat.zero_le _, by show Own tB s none (outB z []); rw [outB_nil]; rfl, by simp [blkOf], .refl _ _⟩ (Wk.same ⟨rfl, rfl, by subst hE; rfl, by show _ = some (Value.slice none (z * 0 / 8) 0); rw [Nat.mul_zero]; rfl, by show _ = some (Value.int .i64 (kpt z [])); rw [kpt_nil]; rfl, by show _ = some (Value.int .i64 (z * 0 % 8 : Nat)); rw [Nat.mul_zero]; rfl, rfl, trivial⟩) ?_)
    intro ⟨p, ob, s1⟩ ⟨hp, hpE, o1, i1, c1⟩
    dsimp only at hp hpE o1 i1 c1 ⊢
    (repeat(first|refine pSeq ?_|refine pReg ?_|refine sCons ?_|refine sNil ?_|refine pBlock ?_|refine pSkip ?_|refine pExit ?_|refine pRet ?_|refine pCond ?_|refine gNone ?_|refine gOn rfl ?_|refine gOff rfl rfl ?_|refine gTup rfl ?_))
    intro q hq
    by_cases hend : p.length = E
    case' pos =>
      obtain rfl : q = false := by rw [hq]; simp; omega
      rw [hend, List.take_of_length_le (by omega)] at hp
      have hq1 := hrp p hp
      (repeat(first|refine pSeq ?_|refine pReg ?_|refine sCons ?_|refine sNil ?_|refine pBlock ?_|refine pSkip ?_|refine pExit ?_|refine pRet ?_|refine pCond ?_|refine gNone ?_|refine gOn rfl ?_|refine gOff rfl rfl ?_|refine gTup rfl ?_))
      intro q hq
      by_cases hh : z * p.length % 8 < z
      case' neg =>
        obtain rfl : q = true := by rw [hq]; simp; omega
        rw [if_neg (fun h => hh h.1)] at hq1
        (repeat(first|refine pSeq ?_|refine pReg ?_|refine sCons ?_|refine sNil ?_|refine pBlock ?_|refine pSkip ?_|refine pExit ?_|refine pRet ?_|refine pCond ?_|refine gNone ?_|refine gOn rfl ?_|refine gOff rfl rfl ?_|refine gTup rfl ?_))
        rw [hq1]
        exact ⟨rfl, c1⟩
      obtain rfl : q = false := by rw [hq]; simp; omega
      (repeat(first|refine pSeq ?_|refine pReg ?_|refine sCons ?_|refine sNil ?_|refine pBlock ?_|refine pSkip ?_|refine pExit ?_|refine pRet ?_|refine pCond ?_|refine gNone ?_|refine gOn rfl ?_|refine gOff rfl rfl ?_|refine gTup rfl ?_))
      intro q hq
      by_cases h0 : kpt z p = 0
      case' neg =>
        obtain rfl : q = true := by rw [hq]; simp; omega
        rw [if_neg (fun h => h0 h.2)] at hq1
        (repeat(first|refine pSeq ?_|refine pReg ?_|refine sCons ?_|refine sNil ?_|refine pBlock ?_|refine pSkip ?_|refine pExit ?_|refine pRet ?_|refine pCond ?_|refine gNone ?_|refine gOn rfl ?_|refine gOff rfl rfl ?_|refine gTup rfl ?_))
        rw [hq1]
        exact ⟨rfl, c1⟩
      obtain rfl : q = false := by rw [hq, h0]; rfl
      rw [if_pos ⟨hh, h0⟩] at hq1
      (repeat(first|refine pSeq ?_|refine pReg ?_|refine sCons ?_|refine sNil ?_|refine pBlock ?_|refine pSkip ?_|refine pExit ?_|refine pRet ?_|refine pCond ?_|refine gNone ?_|refine gOn rfl ?_|refine gOff rfl rfl ?_|refine gTup rfl ?_))
      rw [hq1]
      exact ⟨⟨ob, _, rfl, o1, (outB_len z p).symm, i1⟩, c1⟩
    obtain rfl : q = true := by rw [hq]; simp; omega
    (repeat(first|refine pSeq ?_|refine pReg ?_|refine sCons ?_|refine sNil ?_|refine pBlock ?_|refine pSkip ?_|refine pExit ?_|refine pRet ?_|refine pCond ?_|refine gNone ?_|refine gOn rfl ?_|refine gOff rfl rfl ?_|refine gTup rfl ?_))
    obtain ⟨c, hc⟩ : ∃ c, l[p.length]? = some c := ⟨_, List.getElem?_eq_getElem (show p.length < l.length by omega)⟩
    have hct : (l.take E)[p.length]? = some c := by rw [List.getElem?_take, if_pos (by omega)]; exact hc
    refine ⟨by omega, ?_⟩
    intro m hm
    obtain rfl : m = p.length := by omega
    refine ⟨c, hc, ?_⟩
    (repeat(first|refine pSeq ?_|refine pReg ?_|refine sCons ?_|refine sNil ?_|refine pBlock ?_|refine pSkip ?_|refine pExit ?_|refine pRet ?_|refine pCond ?_|refine gNone ?_|refine gOn rfl ?_|refine gOff rfl rfl ?_|refine gTup rfl ?_))
    refine (rplace_w hz).mono fun v s' q => ?_
    obtain ⟨rfl, rfl⟩ := q
    (repeat(first|refine pSeq ?_|refine pReg ?_|refine sCons ?_|refine sNil ?_|refine pBlock ?_|refine pSkip ?_|refine pExit ?_|refine pRet ?_|refine pCond ?_|refine gNone ?_|refine gOn rfl ?_|refine gOff rfl rfl ?_|refine gTup rfl ?_))
    intro q hq
    cases hd : plcF z c with
    | none =>
      obtain rfl : q = true := by rw [hq, plcI_none hd]; simp
      (repeat(first|refine pSeq ?_|refine pReg ?_|refine sCons ?_|refine sNil ?_|refine pBlock ?_|refine pSkip ?_|refine pExit ?_|refine pRet ?_|refine pCond ?_|refine gNone ?_|refine gOn rfl ?_|refine gOff rfl rfl ?_|refine gTup rfl ?_))
      rw [hnone (plcs_none hct hd)]
      exact ⟨rfl, c1⟩
    | some d =>
    have hdl := (let_plc hz hd).1
    obtain rfl : q = false := by rw [hq, plcI_some hd]; simp
    have hpn : plcs z ((l.take E).take (p ++ [d]).length) = some (p ++ [d]) := by
      rw [List.length_append, List.length_singleton, take_next hct, plcs_snoc, hp, hd]
    rw [plcI_some hd]
    have hkp := kpt_lt z p
    have h8 : z * p.length % 8 < 8 := Nat.mod_lt _ (by decide)
    have h128 : 2 ^ (z * p.length % 8) ≤ 2 ^ 7 := Nat.pow_le_pow_right (by decide) (by omega)
    have hlo := fun h => step_lo (z := z) (p := p) hdl h
    have hhi := fun h => step_hi (z := z) (p := p) (by omega) hdl h
    have hl0 := outB_len z p
    obtain ⟨H, hH⟩ : ∃ H, H = z * p.length % 8 := ⟨_, rfl⟩
    obtain ⟨Q, hQ⟩ : ∃ Q, Q = z * p.length / 8 := ⟨_, rfl⟩
    obtain ⟨K, hK⟩ : ∃ K, K = kpt z p := ⟨_, rfl⟩
    have hQb : Q ≤ 1000000 := by
      have : z * p.length ≤ 6 * 1000000 := Nat.mul_le_mul hz.2 (by omega)
      omega
    rw [← hH, ← hK] at hlo hhi
    rw [← hH] at hkp h8 h128 ⊢
    rw [← hK] at hkp ⊢
    rw [← hQ] at hl0 ⊢
    have hlen1 : (p ++ [d]).length = p.length + 1 := by simp
    (repeat(first|refine pSeq ?_|refine pReg ?_|refine sCons ?_|refine sNil ?_|refine pBlock ?_|refine pSkip ?_|refine pExit ?_|refine pRet ?_|refine pCond ?_|refine gNone ?_|refine gOn rfl ?_|refine gOff rfl rfl ?_|refine gTup rfl ?_))
    refine pLoop (MW.head good (fun k : Nat => z - k) (fun k => k ≤ z) (fun k => [(0, str l), (1, .int .i64 z), (6, .int .i64 E), (8, .slice ob Q 0), (9, .int .i64 (K * 2 ^ k : Nat)), (10, .int .i64 H), (11, .int .i64 p.length), (12, .int .i64 d), (13, .int .i64 k)]) (fun _ => s') 0 (Nat.zero_le _) (Wk.same ⟨rfl, rfl, rfl, rfl, by show _ = some (Value.int .i64 (K * 2 ^ 0 : Nat)); rw [Nat.pow_zero, Nat.mul_one]; rfl, rfl, rfl, rfl, rfl, trivial⟩) ?_)
    intro k hk
    have hk64 : 2 ^ k ≤ 64 := Nat.le_trans (Nat.pow_le_pow_right (by decide) hk) h64
    have hX : K * 2 ^ k ≤ 128 * 64 := Nat.mul_le_mul (by omega) hk64
    (repeat(first|refine pSeq ?_|refine pReg ?_|refine sCons ?_|refine sNil ?_|refine pBlock ?_|refine pSkip ?_|refine pExit ?_|refine pRet ?_|refine pCond ?_|refine gNone ?_|refine gOn rfl ?_|refine gOff rfl rfl ?_|refine gTup rfl ?_))
    intro q hq
    by_cases hkz : k = z
    case' neg =>
      obtain rfl : q = true := by rw [hq]; simp; omega
      (repeat(first|refine pSeq ?_|refine pReg ?_|refine sCons ?_|refine sNil ?_|refine pBlock ?_|refine pSkip ?_|refine pExit ?_|refine pRet ?_|refine pCond ?_|refine gNone ?_|refine gOn rfl ?_|refine gOff rfl rfl ?_|refine gTup rfl ?_))
      intro w hw
      rw [i64_id (by omega)] at hw
      obtain rfl : w = ((K * 2 ^ (k + 1) : Nat) : Int) := by rw [Nat.pow_succ, ← Nat.mul_assoc]; omega
      (repeat(first|refine pSeq ?_|refine pReg ?_|refine sCons ?_|refine sNil ?_|refine pBlock ?_|refine pSkip ?_|refine pExit ?_|refine pRet ?_|refine pCond ?_|refine gNone ?_|refine gOn rfl ?_|refine gOff rfl rfl ?_|refine gTup rfl ?_))
      intro w hw
      rw [i64_id (by omega)] at hw
      obtain rfl : w = ((k + 1 : Nat) : Int) := by omega
      (repeat(first|refine pSeq ?_|refine pReg ?_|refine sCons ?_|refine sNil ?_|refine pBlock ?_|refine pSkip ?_|refine pExit ?_|refine pRet ?_|refine pCond ?_|refine gNone ?_|refine gOn rfl ?_|refine gOff rfl rfl ?_|refine gTup rfl ?_))
      exact ⟨k + 1, by omega, by show z - (k + 1) < z - k; omega, Wk.same ⟨rfl, rfl, rfl, rfl, rfl, rfl, rfl, rfl, rfl, trivial⟩⟩
    subst hkz
    obtain rfl : q = false := by rw [hq]; simp
    (repeat(first|refine pSeq ?_|refine pReg ?_|refine sCons ?_|refine sNil ?_|refine pBlock ?_|refine pSkip ?_|refine pExit ?_|refine pRet ?_|refine pCond ?_|refine gNone ?_|refine gOn rfl ?_|refine gOff rfl rfl ?_|refine gTup rfl ?_))
    intro w hw
    rw [i64_id (by omega)] at hw
    obtain rfl : w = ((K * 2 ^ k + d : Nat) : Int) := by omega
    (repeat(first|refine pSeq ?_|refine pReg ?_|refine sCons ?_|refine sNil ?_|refine pBlock ?_|refine pSkip ?_|refine pExit ?_|refine pRet ?_|refine pCond ?_|refine gNone ?_|refine gOn rfl ?_|refine gOff rfl rfl ?_|refine gTup rfl ?_))
    intro w hw
    rw [i64_id (by omega)] at hw
    obtain rfl : w = ((H + k : Nat) : Int) := by omega
    (repeat(first|refine pSeq ?_|refine pReg ?_|refine sCons ?_|refine sNil ?_|refine pBlock ?_|refine pSkip ?_|refine pExit ?_|refine pRet ?_|refine pCond ?_|refine gNone ?_|refine gOn rfl ?_|refine gOff rfl rfl ?_|refine gTup rfl ?_))
    intro q hq
    by_cases h9 : 8 ≤ H + k
    case' neg =>
      obtain rfl : q = false := by rw [hq]; simp; omega
      obtain ⟨g1, g2, g3, g4⟩ := hlo (by omega)
      (repeat(first|refine pSeq ?_|refine pReg ?_|refine sCons ?_|refine sNil ?_|refine pBlock ?_|refine pSkip ?_|refine pExit ?_|refine pRet ?_|refine pCond ?_|refine gNone ?_|refine gOn rfl ?_|refine gOff rfl rfl ?_|refine gTup rfl ?_))
      intro w hw
      rw [i64_id (by omega)] at hw
      obtain rfl : w = ((p.length + 1 : Nat) : Int) := by omega
      (repeat(first|refine pSeq ?_|refine pReg ?_|refine sCons ?_|refine sNil ?_|refine pBlock ?_|refine pSkip ?_|refine pExit ?_|refine pRet ?_|refine pCond ?_|refine gNone ?_|refine gOn rfl ?_|refine gOff rfl rfl ?_|refine gTup rfl ?_))
      have hl1 := outB_len k (p ++ [d])
      rw [g4, hl0] at hl1
      refine ⟨(p ++ [d], ob, s'), ⟨hpn, by show (p ++ [d]).length ≤ E; omega, by show Own tB s' ob (outB k (p ++ [d])); rw [g4]; exact o1, i1, c1⟩, by show E - (p ++ [d]).length < E - p.length; omega, Wk.same ⟨rfl, rfl, rfl, ?_, ?_, ?_, ?_, trivial⟩⟩
      · show _ = some (Value.slice ob (k * (p ++ [d]).length / 8) 0); rw [← hl1]; rfl
      · show _ = some (Value.int .i64 (kpt k (p ++ [d]) : Nat)); rw [g1]; rfl
      · show _ = some (Value.int .i64 (k * (p ++ [d]).length % 8 : Nat)); rw [hlen1, g3]; rfl
      · show _ = some (Value.int .i64 ((p ++ [d]).length : Nat)); rw [hlen1]; rfl
    obtain rfl : q = true := by rw [hq]; simp; omega
    obtain ⟨g1, g2, g3, g4, g5⟩ := hhi h9
    (repeat(first|refine pSeq ?_|refine pReg ?_|refine sCons ?_|refine sNil ?_|refine pBlock ?_|refine pSkip ?_|refine pExit ?_|refine pRet ?_|refine pCond ?_|refine gNone ?_|refine gOn rfl ?_|refine gOff rfl rfl ?_|refine gTup rfl ?_))
    intro w hw
    rw [i64_id (by omega)] at hw
    obtain rfl : w = ((H + k - 8 : Nat) : Int) := by omega
    (repeat(first|refine pSeq ?_|refine pReg ?_|refine sCons ?_|refine sNil ?_|refine pBlock ?_|refine pSkip ?_|refine pExit ?_|refine pRet ?_|refine pCond ?_|refine gNone ?_|refine gOn rfl ?_|refine gOff rfl rfl ?_|refine gTup rfl ?_))
    refine pLoop (MW.head good (fun r : Nat => H + k - 8 - r) (fun r => r ≤ H + k - 8) (fun r => [(0, str l), (1, .int .i64 k), (6, .int .i64 E), (8, .slice ob Q 0), (9, .int .i64 (K * 2 ^ k + d : Nat)), (10, .int .i64 (H + k - 8 : Nat)), (11, .int .i64 p.length), (14, .int .i64 (2 ^ r : Nat)), (15, .int .i64 r)]) (fun _ => s') 0 (Nat.zero_le _) (Wk.same ⟨rfl, rfl, rfl, rfl, rfl, rfl, rfl, rfl, rfl, trivial⟩) ?_)
    intro r hr
    have hr64 : 2 ^ r ≤ 2 ^ 6 := Nat.pow_le_pow_right (by decide) (by omega)
    have hr0 : 0 < 2 ^ r := Nat.two_pow_pos r
    (repeat(first|refine pSeq ?_|refine pReg ?_|refine sCons ?_|refine sNil ?_|refine pBlock ?_|refine pSkip ?_|refine pExit ?_|refine pRet ?_|refine pCond ?_|refine gNone ?_|refine gOn rfl ?_|refine gOff rfl rfl ?_|refine gTup rfl ?_))
    intro q hq
    by_cases hre : r = H + k - 8
    case' neg =>
      obtain rfl : q = true := by rw [hq]; simp; omega
      (repeat(first|refine pSeq ?_|refine pReg ?_|refine sCons ?_|refine sNil ?_|refine pBlock ?_|refine pSkip ?_|refine pExit ?_|refine pRet ?_|refine pCond ?_|refine gNone ?_|refine gOn rfl ?_|refine gOff rfl rfl ?_|refine gTup rfl ?_))
      intro w hw
      rw [i64_id (by omega)] at hw
      obtain rfl : w = ((2 ^ (r + 1) : Nat) : Int) := by rw [Nat.pow_succ]; omega
      (repeat(first|refine pSeq ?_|refine pReg ?_|refine sCons ?_|refine sNil ?_|refine pBlock ?_|refine pSkip ?_|refine pExit ?_|refine pRet ?_|refine pCond ?_|refine gNone ?_|refine gOn rfl ?_|refine gOff rfl rfl ?_|refine gTup rfl ?_))
      intro w hw
      rw [i64_id (by omega)] at hw
      obtain rfl : w = ((r + 1 : Nat) : Int) := by omega
      (repeat(first|refine pSeq ?_|refine pReg ?_|refine sCons ?_|refine sNil ?_|refine pBlock ?_|refine pSkip ?_|refine pExit ?_|refine pRet ?_|refine pCond ?_|refine gNone ?_|refine gOn rfl ?_|refine gOff rfl rfl ?_|refine gTup rfl ?_))
      exact ⟨r + 1, by omega, by show H + k - 8 - (r + 1) < H + k - 8 - r; omega, Wk.same ⟨rfl, rfl, rfl, rfl, rfl, rfl, rfl, rfl, rfl, trivial⟩⟩
    rw [← hre] at g1 g2 g3 g4 g5 ⊢
    obtain rfl : q = false := by rw [hq]; simp; omega
    (repeat(first|refine pSeq ?_|refine pReg ?_|refine sCons ?_|refine sNil ?_|refine pBlock ?_|refine pSkip ?_|refine pExit ?_|refine pRet ?_|refine pCond ?_|refine gNone ?_|refine gOn rfl ?_|refine gOff rfl rfl ?_|refine gTup rfl ?_))
    refine ⟨by omega, ?_⟩
    intro w hw
    rw [tdivN, i64_nat (Nat.lt_trans g4 (by decide))] at hw
    subst hw
    (repeat(first|refine pSeq ?_|refine pReg ?_|refine sCons ?_|refine sNil ?_|refine pBlock ?_|refine pSkip ?_|refine pExit ?_|refine pRet ?_|refine pCond ?_|refine gNone ?_|refine gOn rfl ?_|refine gOff rfl rfl ?_|refine gTup rfl ?_))
    intro w hw
    obtain rfl := u8_of g4 hw
    (repeat(first|refine pSeq ?_|refine pReg ?_|refine sCons ?_|refine sNil ?_|refine pBlock ?_|refine pSkip ?_|refine pExit ?_|refine pRet ?_|refine pCond ?_|refine gNone ?_|refine gOn rfl ?_|refine gOff rfl rfl ?_|refine gTup rfl ?_))
    refine app_mine1 (c := UInt8.ofNat ((K * 2 ^ k + d) / 2 ^ r)) o1 rfl hl0.symm rfl rfl (by omega) fun s3 o3 c3 nx3 => ?_
    rw [← g5] at o3
    (repeat(first|refine pSeq ?_|refine pReg ?_|refine sCons ?_|refine sNil ?_|refine pBlock ?_|refine pSkip ?_|refine pExit ?_|refine pRet ?_|refine pCond ?_|refine gNone ?_|refine gOn rfl ?_|refine gOff rfl rfl ?_|refine gTup rfl ?_))
    refine ⟨by omega, ?_⟩
    intro w hw
    rw [tmodN, ← g1] at hw
    subst hw
    (repeat(first|refine pSeq ?_|refine pReg ?_|refine sCons ?_|refine sNil ?_|refine pBlock ?_|refine pSkip ?_|refine pExit ?_|refine pRet ?_|refine pCond ?_|refine gNone ?_|refine gOn rfl ?_|refine gOff rfl rfl ?_|refine gTup rfl ?_))
    intro w hw
    rw [i64_id (by omega)] at hw
    obtain rfl : w = ((p.length + 1 : Nat) : Int) := by omega
    (repeat(first|refine pSeq ?_|refine pReg ?_|refine sCons ?_|refine sNil ?_|refine pBlock ?_|refine pSkip ?_|refine pExit ?_|refine pRet ?_|refine pCond ?_|refine gNone ?_|refine gOn rfl ?_|refine gOff rfl rfl ?_|refine gTup rfl ?_))
    have hl1 := outB_len k (p ++ [d])
    rw [g5, List.length_append, List.length_singleton, hl0] at hl1
    refine ⟨(p ++ [d], some ⟨s'.next + 1, 0, none⟩, s3), ⟨hpn, by show (p ++ [d]).length ≤ E; omega, o3, fun id hid => by simp [blkOf] at hid; have := c1.next; omega, c1.fresh c3 i1⟩, by show E - (p ++ [d]).length < E - p.length; omega, Wk.same ⟨rfl, rfl, rfl, ?_, ?_, ?_, ?_, trivial⟩⟩
    · show _ = some (Value.slice _ (k * (p ++ [d]).length / 8) 0); rw [← hl1]; rfl
    · rfl
    · show _ = some (Value.int .i64 (k * (p ++ [d]).length % 8 : Nat)); rw [hlen1, g3]; rfl
    · show _ = some (Value.int .i64 ((p ++ [d]).length : Nat)); rw [hlen1]; rfl)
end Go.Vf.S

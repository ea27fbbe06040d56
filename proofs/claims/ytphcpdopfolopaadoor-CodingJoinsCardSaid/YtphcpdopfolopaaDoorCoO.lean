import Derived.Test.YtphcpdopfolopaaDoorCoN
/- The document's own: letters told. -/
namespace Go.Vf.S
open Go Go.Vf Go.Proofs Go.RowKit
attribute [local irreducible] wSeq wRow wp wG
set_option linter.unusedVariables false
set_option linter.unusedSimpArgs false
set_option maxRecDepth 10000

theorem bitF_lt (b : List UInt8) (k : Nat) : bitF b k < 2 := Nat.mod_lt _ (by decide)
theorem bitsF_lt (b : List UInt8) (k : Nat) : ∀ i, bitsF b k i < 2 ^ i
  | 0 => by rw [bitsF]; decide
  | i + 1 => by
    have := bitsF_lt b k i
    have := bitF_lt b (k + i)
    rw [bitsF, Nat.pow_succ]
    omega
theorem bitsF_next (b : List UInt8) (k i : Nat) : bitsF b k (i + 1) = 2 * bitsF b k i + bitF b (k + i) := rfl

set_option maxHeartbeats 1000000 in
theorem rtell_w {s : SS} {z : Nat} {base : Option Addr} {n cap : Nat} {b : List UInt8} (f : Fine s) (hz : 4 ≤ z ∧ z ≤ 6) (hr : Rdb s base n b) (hl : n ≤ 1000000) :
    CallW pr n_ref11_Tell [.slice base n cap, .int .i64 z] s fun v s' => v = str (tellF z b) ∧ Chg s s' [] := by
  have hn := hr.1
  have hC : cnt z b.length ≤ 2000000 := by rw [← hn]; exact (size_le hz hl).2
  have hT : tellF z b = (tellP z b).map (letF z) ++ List.replicate (padN z (cnt z b.length)) 61 := rfl
  have hTl := tellP_len z b
  have hTk := fun j h => tell_take hz b (j := j) h
  have hcc : ∀ j, (z * j < 8 * n ↔ j < cnt z b.length) := by
    intro j
    unfold cnt
    rw [hn]
    rcases (show z = 4 ∨ z = 5 ∨ z = 6 by omega) with rfl | rfl | rfl <;> omega
  have h64 : 2 ^ z ≤ 64 := by rcases (show z = 4 ∨ z = 5 ∨ z = 6 by omega) with rfl | rfl | rfl <;> decide
  obtain ⟨C, hCC⟩ : ∃ C, C = cnt z b.length := ⟨_, rfl⟩
  rw [← hCC] at hC hT hTl hTk hcc
  generalize hP : tellP z b = P at *
  refine CallW.run good ok_ref11_Tell (by simp) rfl ?_
  (repeat(first|refine pSeq ?_|refine pReg ?_|refine sCons ?_|refine sNil ?_|refine pBlock ?_|refine pSkip ?_|refine pExit ?_|refine pRet ?_|refine pCond ?_|refine gNone ?_|refine gOn rfl ?_|refine gOff rfl rfl ?_|refine gTup rfl ?_))
  refine pLoop (MW.head good (fun x : Nat × Option Addr × SS => C - x.1) (fun x => x.1 ≤ C ∧ Own tB x.2.2 x.2.1 ((P.take x.1).map (letF z)) ∧ (∀ id ∈ blkOf x.2.1, s.next ≤ id) ∧ Chg s x.2.2 [])
    (fun x => [(0, .slice base n cap), (1, .int .i64 z), (5, .slice x.2.1 x.1 0), (6, .int .i64 (z * x.1 : Nat))]) (fun x => x.2.2) (0, none, s) ⟨Nat.zero_le _, rfl, by simp [blkOf], .refl _ _⟩ (Wk.same ⟨rfl, rfl, rfl, rfl, trivial⟩) ?_)
  intro ⟨j, ob, s1⟩ ⟨hj, o1, i1, c1⟩
  dsimp only at hj o1 i1 c1 ⊢
  have hzj : z * j ≤ 6 * 2000000 := Nat.mul_le_mul hz.2 (by omega)
  (repeat(first|refine pSeq ?_|refine pReg ?_|refine sCons ?_|refine sNil ?_|refine pBlock ?_|refine pSkip ?_|refine pExit ?_|refine pRet ?_|refine pCond ?_|refine gNone ?_|refine gOn rfl ?_|refine gOff rfl rfl ?_|refine gTup rfl ?_))
  intro w hw
  rw [i64_id (by omega)] at hw
  obtain rfl : w = ((8 * n : Nat) : Int) := by omega
  (repeat(first|refine pSeq ?_|refine pReg ?_|refine sCons ?_|refine sNil ?_|refine pBlock ?_|refine pSkip ?_|refine pExit ?_|refine pRet ?_|refine pCond ?_|refine gNone ?_|refine gOn rfl ?_|refine gOff rfl rfl ?_|refine gTup rfl ?_))
  intro q hq
  by_cases hjC : j < C
  · have hlt := (hcc j).2 hjC
    obtain ⟨t1, t2⟩ := hTk j hjC
    obtain rfl : q = true := by rw [hq]; simp; omega
    (repeat(first|refine pSeq ?_|refine pReg ?_|refine sCons ?_|refine sNil ?_|refine pBlock ?_|refine pSkip ?_|refine pExit ?_|refine pRet ?_|refine pCond ?_|refine gNone ?_|refine gOn rfl ?_|refine gOff rfl rfl ?_|refine gTup rfl ?_))
    refine pLoop (MW.head good (fun i : Nat => z - i) (fun i => i ≤ z) (fun i => [(0, .slice base n cap), (1, .int .i64 z), (5, .slice ob j 0), (6, .int .i64 (z * j : Nat)), (7, .int .i64 (bitsF b (z * j) i : Nat)), (8, .int .i64 i)]) (fun _ => s1) 0 (Nat.zero_le _) (Wk.same ⟨rfl, rfl, rfl, rfl, rfl, rfl, trivial⟩) ?_)
    intro i hi
    have hb1 := bitsF_lt b (z * j) i
    have hb2 : 2 ^ i ≤ 64 := Nat.le_trans (Nat.pow_le_pow_right (by decide) hi) h64
    have hb3 := bitF_lt b (z * j + i)
    have hb4 := bitsF_next b (z * j) i
    (repeat(first|refine pSeq ?_|refine pReg ?_|refine sCons ?_|refine sNil ?_|refine pBlock ?_|refine pSkip ?_|refine pExit ?_|refine pRet ?_|refine pCond ?_|refine gNone ?_|refine gOn rfl ?_|refine gOff rfl rfl ?_|refine gTup rfl ?_))
    intro q hq
    by_cases hiz : i = z
    · subst hiz
      obtain rfl : q = false := by rw [hq]; simp <;> omega
      (repeat(first|refine pSeq ?_|refine pReg ?_|refine sCons ?_|refine sNil ?_|refine pBlock ?_|refine pSkip ?_|refine pExit ?_|refine pRet ?_|refine pCond ?_|refine gNone ?_|refine gOn rfl ?_|refine gOff rfl rfl ?_|refine gTup rfl ?_))
      refine (rletters_w hz).mono fun v s' q => ?_
      obtain ⟨rfl, rfl⟩ := q
      (repeat(first|refine pSeq ?_|refine pReg ?_|refine sCons ?_|refine sNil ?_|refine pBlock ?_|refine pSkip ?_|refine pExit ?_|refine pRet ?_|refine pCond ?_|refine gNone ?_|refine gOn rfl ?_|refine gOff rfl rfl ?_|refine gTup rfl ?_))
      refine ⟨by rw [lets_len hz]; omega, ?_⟩
      intro m hm
      obtain rfl : m = bitsF b (i * j) i := by omega
      refine ⟨letF i (bitsF b (i * j) i), let_get hz t2, ?_⟩
      (repeat(first|refine pSeq ?_|refine pReg ?_|refine sCons ?_|refine sNil ?_|refine pBlock ?_|refine pSkip ?_|refine pExit ?_|refine pRet ?_|refine pCond ?_|refine gNone ?_|refine gOn rfl ?_|refine gOff rfl rfl ?_|refine gTup rfl ?_))
      refine app_mine1 (c := letF i (bitsF b (i * j) i)) o1 rfl (by rw [List.length_map, List.length_take, hTl]; omega) rfl rfl (by omega) fun s2 o2 c2 nx2 => ?_
      (repeat(first|refine pSeq ?_|refine pReg ?_|refine sCons ?_|refine sNil ?_|refine pBlock ?_|refine pSkip ?_|refine pExit ?_|refine pRet ?_|refine pCond ?_|refine gNone ?_|refine gOn rfl ?_|refine gOff rfl rfl ?_|refine gTup rfl ?_))
      intro w hw
      rw [i64_id (by omega)] at hw
      obtain rfl : w = ((i * (j + 1) : Nat) : Int) := by rw [Nat.mul_succ]; omega
      (repeat(first|refine pSeq ?_|refine pReg ?_|refine sCons ?_|refine sNil ?_|refine pBlock ?_|refine pSkip ?_|refine pExit ?_|refine pRet ?_|refine pCond ?_|refine gNone ?_|refine gOn rfl ?_|refine gOff rfl rfl ?_|refine gTup rfl ?_))
      refine ⟨(j + 1, some ⟨s'.next + 1, 0, none⟩, s2), ⟨by show j + 1 ≤ C; omega, ?_, fun id hid => by simp [blkOf] at hid; have := c1.next; omega, c1.fresh c2 i1⟩, by show C - (j + 1) < C - j; omega, Wk.same ⟨rfl, rfl, rfl, rfl, trivial⟩⟩
      show Own tB s2 _ ((P.take (j + 1)).map (letF i))
      rw [t1, List.map_append]
      exact o2
    · obtain rfl : q = true := by rw [hq]; simp <;> omega
      (repeat(first|refine pSeq ?_|refine pReg ?_|refine sCons ?_|refine sNil ?_|refine pBlock ?_|refine pSkip ?_|refine pExit ?_|refine pRet ?_|refine pCond ?_|refine gNone ?_|refine gOn rfl ?_|refine gOff rfl rfl ?_|refine gTup rfl ?_))
      intro w hw
      rw [i64_id (by omega)] at hw
      obtain rfl : w = ((2 * bitsF b (z * j) i : Nat) : Int) := by omega
      (repeat(first|refine pSeq ?_|refine pReg ?_|refine sCons ?_|refine sNil ?_|refine pBlock ?_|refine pSkip ?_|refine pExit ?_|refine pRet ?_|refine pCond ?_|refine gNone ?_|refine gOn rfl ?_|refine gOff rfl rfl ?_|refine gTup rfl ?_))
      intro w hw
      rw [i64_id (by omega)] at hw
      obtain rfl : w = ((z * j + i : Nat) : Int) := by omega
      (repeat(first|refine pSeq ?_|refine pReg ?_|refine sCons ?_|refine sNil ?_|refine pBlock ?_|refine pSkip ?_|refine pExit ?_|refine pRet ?_|refine pCond ?_|refine gNone ?_|refine gOn rfl ?_|refine gOff rfl rfl ?_|refine gTup rfl ?_))
      refine (rbit_w (hr.chg c1 (by simp)) hl (by omega)).mono fun v s' q => ?_
      obtain ⟨rfl, rfl⟩ := q
      (repeat(first|refine pSeq ?_|refine pReg ?_|refine sCons ?_|refine sNil ?_|refine pBlock ?_|refine pSkip ?_|refine pExit ?_|refine pRet ?_|refine pCond ?_|refine gNone ?_|refine gOn rfl ?_|refine gOff rfl rfl ?_|refine gTup rfl ?_))
      intro w hw
      rw [i64_id (by omega)] at hw
      obtain rfl : w = ((bitsF b (z * j) (i + 1) : Nat) : Int) := by omega
      (repeat(first|refine pSeq ?_|refine pReg ?_|refine sCons ?_|refine sNil ?_|refine pBlock ?_|refine pSkip ?_|refine pExit ?_|refine pRet ?_|refine pCond ?_|refine gNone ?_|refine gOn rfl ?_|refine gOff rfl rfl ?_|refine gTup rfl ?_))
      intro w hw
      rw [i64_id (by omega)] at hw
      obtain rfl : w = ((i + 1 : Nat) : Int) := by omega
      (repeat(first|refine pSeq ?_|refine pReg ?_|refine sCons ?_|refine sNil ?_|refine pBlock ?_|refine pSkip ?_|refine pExit ?_|refine pRet ?_|refine pCond ?_|refine gNone ?_|refine gOn rfl ?_|refine gOff rfl rfl ?_|refine gTup rfl ?_))
      exact ⟨i + 1, by omega, by show z - (i + 1) < z - i; omega, Wk.same ⟨rfl, rfl, rfl, rfl, rfl, rfl, trivial⟩⟩
  obtain rfl : j = C := by omega
  have hnl : ¬ (z * j < 8 * n) := fun h => absurd ((hcc j).1 h) (by omega)
  obtain rfl : q = false := by rw [hq]; simp; omega
  rw [List.take_of_length_le (by omega)] at o1
  have hYl : (P.map (letF z)).length = j := by rw [List.length_map, hTl]
  generalize hY : P.map (letF z) = Y at *
  clear hTk hcc hnl hq hzj
  (repeat(first|refine pSeq ?_|refine pReg ?_|refine sCons ?_|refine sNil ?_|refine pBlock ?_|refine pSkip ?_|refine pExit ?_|refine pRet ?_|refine pCond ?_|refine gNone ?_|refine gOn rfl ?_|refine gOff rfl rfl ?_|refine gTup rfl ?_))
  refine pLoop (MW.head good (fun x : Nat × Option Addr × SS => padN z j - x.1) (fun x => x.1 ≤ padN z j ∧ Own tB x.2.2 x.2.1 (Y ++ List.replicate x.1 61) ∧ (∀ id ∈ blkOf x.2.1, s.next ≤ id) ∧ Chg s x.2.2 [])
    (fun x => [(1, .int .i64 z), (5, .slice x.2.1 (j + x.1) 0)]) (fun x => x.2.2) (0, ob, s1) ⟨Nat.zero_le _, by rw [List.replicate_zero, List.append_nil]; exact o1, i1, c1⟩ (Wk.same ⟨rfl, rfl, trivial⟩) ?_)
  clear o1 i1 c1
  intro ⟨k, oc, s2⟩ ⟨hk, o2, i2, c2⟩
  dsimp only at hk o2 i2 c2 ⊢
  have hlk : (Y ++ List.replicate k 61).length = j + k := by rw [List.length_append, List.length_replicate, hYl]
  have hpad : padN z j = if z = 6 then (4 - j % 4) % 4 else 0 := rfl
  (repeat(first|refine pSeq ?_|refine pReg ?_|refine sCons ?_|refine sNil ?_|refine pBlock ?_|refine pSkip ?_|refine pExit ?_|refine pRet ?_|refine pCond ?_|refine gNone ?_|refine gOn rfl ?_|refine gOff rfl rfl ?_|refine gTup rfl ?_))
  intro q hq
  by_cases h6 : z = 6
  · subst h6
    rw [if_pos rfl] at hpad
    obtain rfl : q = true := by rw [hq]; rfl
    (repeat(first|refine pSeq ?_|refine pReg ?_|refine sCons ?_|refine sNil ?_|refine pBlock ?_|refine pSkip ?_|refine pExit ?_|refine pRet ?_|refine pCond ?_|refine gNone ?_|refine gOn rfl ?_|refine gOff rfl rfl ?_|refine gTup rfl ?_))
    refine ⟨by decide, ?_⟩
    intro w hw
    rw [show (4 : Int) = ((4 : Nat) : Int) from rfl, tmodN] at hw
    subst hw
    (repeat(first|refine pSeq ?_|refine pReg ?_|refine sCons ?_|refine sNil ?_|refine pBlock ?_|refine pSkip ?_|refine pExit ?_|refine pRet ?_|refine pCond ?_|refine gNone ?_|refine gOn rfl ?_|refine gOff rfl rfl ?_|refine gTup rfl ?_))
    intro q hq
    by_cases hend : k = padN 6 j
    · obtain rfl : q = false := by rw [hq]; simp; omega
      (repeat(first|refine pSeq ?_|refine pReg ?_|refine sCons ?_|refine sNil ?_|refine pBlock ?_|refine pSkip ?_|refine pExit ?_|refine pRet ?_|refine pCond ?_|refine gNone ?_|refine gOn rfl ?_|refine gOff rfl rfl ?_|refine gTup rfl ?_))
      refine toStr_Rdb rfl (hlk ▸ o2.rdb) ?_
      (repeat(first|refine pSeq ?_|refine pReg ?_|refine sCons ?_|refine sNil ?_|refine pBlock ?_|refine pSkip ?_|refine pExit ?_|refine pRet ?_|refine pCond ?_|refine gNone ?_|refine gOn rfl ?_|refine gOff rfl rfl ?_|refine gTup rfl ?_))
      exact ⟨by rw [hT, hend]; rfl, c2⟩
    · obtain rfl : q = true := by rw [hq]; simp; omega
      (repeat(first|refine pSeq ?_|refine pReg ?_|refine sCons ?_|refine sNil ?_|refine pBlock ?_|refine pSkip ?_|refine pExit ?_|refine pRet ?_|refine pCond ?_|refine gNone ?_|refine gOn rfl ?_|refine gOff rfl rfl ?_|refine gTup rfl ?_))
      refine app_mine1 (c := 61) o2 rfl hlk.symm rfl rfl (by omega) fun s3 o3 c3 nx3 => ?_
      (repeat(first|refine pSeq ?_|refine pReg ?_|refine sCons ?_|refine sNil ?_|refine pBlock ?_|refine pSkip ?_|refine pExit ?_|refine pRet ?_|refine pCond ?_|refine gNone ?_|refine gOn rfl ?_|refine gOff rfl rfl ?_|refine gTup rfl ?_))
      refine ⟨(k + 1, some ⟨s2.next + 1, 0, none⟩, s3), ⟨by show k + 1 ≤ _; omega, ?_, fun id hid => by simp [blkOf] at hid; have := c2.next; omega, c2.fresh c3 i2⟩, by show padN 6 j - (k + 1) < padN 6 j - k; omega, Wk.same ⟨rfl, rfl, trivial⟩⟩
      show Own tB s3 _ (Y ++ List.replicate (k + 1) 61)
      rw [List.replicate_succ', ← List.append_assoc]
      exact o3
  · rw [if_neg h6] at hpad
    obtain rfl : k = 0 := by omega
    obtain rfl : q = false := by rw [hq]; simp; omega
    (repeat(first|refine pSeq ?_|refine pReg ?_|refine sCons ?_|refine sNil ?_|refine pBlock ?_|refine pSkip ?_|refine pExit ?_|refine pRet ?_|refine pCond ?_|refine gNone ?_|refine gOn rfl ?_|refine gOff rfl rfl ?_|refine gTup rfl ?_))
    refine toStr_Rdb rfl (hlk ▸ o2.rdb) ?_
    (repeat(first|refine pSeq ?_|refine pReg ?_|refine sCons ?_|refine sNil ?_|refine pBlock ?_|refine pSkip ?_|refine pExit ?_|refine pRet ?_|refine pCond ?_|refine gNone ?_|refine gOn rfl ?_|refine gOff rfl rfl ?_|refine gTup rfl ?_))
    exact ⟨by rw [hT, hpad]; rfl, c2⟩
end Go.Vf.S

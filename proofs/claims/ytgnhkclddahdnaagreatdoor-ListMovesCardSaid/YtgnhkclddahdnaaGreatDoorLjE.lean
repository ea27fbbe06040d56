import Derived.Test.YtgnhkclddahdnaaGreatDoorLjD
import Derived.Test.YtgnhkclddahdnaaGreatDoorBnM
/- Lists of addresses: what is put in the addresses' places: the program, the document. -/
namespace Go.Vf.S
open Go Go.Vf Go.Proofs Go.RowKit
attribute [local irreducible] wSeq wRow wp wG
attribute [local irreducible] parseF domF sameF textF mayF
set_option linter.unusedVariables false
set_option linter.unusedSimpArgs false
set_option maxRecDepth 10000

theorem any_may {ys : List AA} : (ys.any fun x => !mayA x) = !ys.all mayA := by
  induction ys with
  | nil => rfl
  | cons y ys ih => rw [List.any_cons, List.all_cons, ih, Bool.not_and]
theorem find_cap (l : List UInt8) : (findF l).1.length ≤ 64 := by
  unfold findF
  split
  · simp
  · split
    · simp
    · split
      · simp
      · rename_i h
        exact Nat.not_lt.1 h

set_option maxHeartbeats 2000000 in
theorem put_w {s : SS} {A : Option Addr} {ca : Nat} {l : List UInt8} {ys : List AA} (hG : Gb s) (hF : Fine s) (hl : l.length ≤ 900000) (hR : AdRd s A ys) (hy : ys.length ≤ 1000) (hb : ∀ a ∈ ys, a.1.length ≤ 1000 ∧ a.2.length ≤ 1000) :
    CallW pr n_list_Put [str l, .slice A ys.length ca] s fun v s' => v = .tuple ⟨[str (putF l ys).1, .int .i64 (putF l ys).2]⟩ ∧ Chg s s' [] := by
  refine CallW.run good ok_list_Put (by simp) rfl ?_
  have hO := find_ord l
  have h64 := find_cap l
  have eP : putF l ys = if (findF l).2 = 5 then ([], 5) else if ys.all mayA = false then ([], 1) else if (findF l).2 ≠ 0 then ([], (findF l).2) else if ys.length ≠ (findF l).1.length then ([], 1) else (outF l 0 (findF l).1 ys, 0) := rfl
  (try refine pSeq ?_); (repeat refine sb ?_)
  refine (find_w hF hG hl).mono fun v s1 q => ?_
  obtain ⟨W1, cw1, rfl, o1, c1, -⟩ := q
  generalize findF l = Q at *
  obtain ⟨xs, e⟩ := Q
  dsimp only at o1 eP hO h64 ⊢
  (repeat refine sb ?_)
  intro q hq
  by_cases h5 : e = 5
  · obtain rfl : q = true := by rw [hq, h5]; rfl
    rw [if_pos h5] at eP
    (repeat refine sb ?_)
    exact ⟨by rw [eP, h5]; rfl, c1⟩
  · obtain rfl : q = false := by rw [hq]; simp; omega
    rw [if_neg h5] at eP
    (repeat refine sb ?_)
    refine (contA_w (g := fun x => !mayA x) (hR.chg c1) (by omega) (fun x => by kernel_rfl) (fun x hx s1 => put1_w (by have := hb x hx; omega) (by have := hb x hx; omega))).mono fun v s2 q => ?_
    obtain ⟨rfl, c2⟩ := q
    rw [any_may]
    have c02 := c1.nil c2
    cases hm : ys.all mayA with
    | false =>
      rw [hm, if_pos rfl] at eP
      (repeat refine sb ?_)
      exact ⟨by rw [eP]; rfl, c02⟩
    | true =>
      rw [hm, if_neg (by simp)] at eP
      (repeat refine sb ?_)
      intro q hq
      by_cases h0 : e = 0
      · obtain rfl : q = false := by rw [hq, h0]; rfl
        rw [if_neg (by simpa using h0)] at eP
        (repeat refine sb ?_)
        intro q hq
        by_cases hn : ys.length = xs.length
        · obtain rfl : q = false := by rw [hq, hn]; simp
          rw [if_neg (by simpa using hn)] at eP
          (repeat refine sb ?_)
          refine (lput_w (hG.chg c02 (by simp)) (c02.fine hF) hl (o1.chg c2 (by simp)) (hR.chg c02) hO hn hy hb).mono fun v s3 q => ?_
          obtain ⟨rfl, c3⟩ := q
          (repeat refine sb ?_)
          exact ⟨by rw [eP]; rfl, c02.nil c3⟩
        · obtain rfl : q = true := by rw [hq]; simp; omega
          rw [if_pos hn] at eP
          (repeat refine sb ?_)
          exact ⟨by rw [eP]; rfl, c02⟩
      · obtain rfl : q = true := by rw [hq]; simp; omega
        rw [if_pos h0] at eP
        (repeat refine sb ?_)
        exact ⟨by rw [eP]; rfl, c02⟩

structure RPutI where
  i : Nat
  p : Nat
  w : List UInt8
  s : SS

end Go.Vf.S

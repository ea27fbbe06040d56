import Derived.Test.YtgnhkclddahdnaaGreatDoorBnL
/- Lists of addresses: the chapter's rows. -/
namespace Go.Vf.S
open Go Go.Vf
attribute [local irreducible] wSeq wRow wp wG
set_option linter.unusedVariables false
set_option linter.unusedSimpArgs false
set_option maxRecDepth 10000

theorem sps_drop : ∀ (xs : List Spt) (i : Nat), (spsC xs).drop (i * 4) = spsC (xs.drop i)
  | xs, 0 => by simp
  | [], i + 1 => by simp [spsC]
  | x :: xs, i + 1 => by
    have ih := sps_drop xs i
    rw [List.drop_succ_cons, ← ih, show (i + 1) * 4 = 4 + i * 4 by omega, ← List.drop_drop]
    rfl
theorem sps_take {xs : List Spt} {i : Nat} {x : Spt} (h : xs[i]? = some x) : takeN 4 ((spsC xs).drop (i * 4)) = some (spC x) := by
  rw [sps_drop, drop_next h]
  show takeN 4 (spC x ++ spsC _) = _
  rw [takeN_take _ _ (by rw [List.length_append]; show 4 ≤ 4 + _; omega)]
  exact congrArg some (List.take_left' (l₁ := spC x) rfl)
theorem sps_two {xs : List Spt} {i : Nat} {x : Spt} (h : xs[i]? = some x) : takeN 2 ((spsC xs).drop (i * 4 + 2)) = some [str x.a, str x.d] := by
  rw [← List.drop_drop, sps_drop, drop_next h]
  show takeN 2 ((spC x ++ spsC _).drop 2) = _
  show takeN 2 ([str x.a, str x.d] ++ spsC _) = _
  rw [takeN_take _ _ (by rw [List.length_append]; show 2 ≤ 2 + _; omega)]
  exact congrArg some (List.take_left' (l₁ := [str x.a, str x.d]) rfl)

theorem list1 : findF [65, 110, 110, 32, 60, 97, 110, 110, 64, 120, 46, 111, 114, 103, 62, 44, 32, 98, 111, 98, 64, 121, 46, 111, 114, 103, 32, 40, 66, 111, 98, 41] = ([⟨5, 14, [97, 110, 110], [120, 46, 111, 114, 103]⟩, ⟨17, 26, [98, 111, 98], [121, 46, 111, 114, 103]⟩], 0) := by kernel_rfl
theorem list2 : findF [116, 101, 97, 109, 58, 32, 97, 64, 120, 44, 32, 34, 66, 34, 32, 60, 64, 114, 58, 98, 64, 121, 62, 59, 44] = ([⟨6, 9, [97], [120]⟩, ⟨19, 22, [98], [121]⟩], 0) := by kernel_rfl
theorem list3 : findF [65, 110, 110, 59, 32, 97, 32, 64, 98] = ([], 5) := by kernel_rfl

set_option maxHeartbeats 2000000 in
theorem ltells_w {s : SS} (hG : Gb s) (hF : Fine s) : CallW pr n_law08_tells [] s fun v s' => v = .bool true ∧ Chg s s' [] := by
  refine CallW.run good ok_law08_tells (by simp) rfl ?_
  (try refine pSeq ?_); (repeat(first|refine sb ?_|refine gOn rfl ?_|refine gOff rfl rfl ?_|refine gTup rfl ?_))
  refine (find_w hF hG (by simp)).mono fun v s1 q => ?_
  obtain ⟨W1, cw1, rfl, o1, c1, -⟩ := q
  rw [list1] at o1
  rw [list1]
  (repeat(first|refine sb ?_|refine gOn rfl ?_|refine gOff rfl rfl ?_|refine gTup rfl ?_))
  refine (find_w (c1.fine hF) (hG.chg c1 (by simp)) (by simp)).mono fun v s2 q => ?_
  obtain ⟨W2, cw2, rfl, o2, c2, -⟩ := q
  rw [list2] at o2
  rw [list2]
  replace o1 := o1.chg c2 (by simp)
  (repeat(first|refine sb ?_|refine gOn rfl ?_|refine gOff rfl rfl ?_|refine gTup rfl ?_))
  refine (find_w ((c1.nil c2).fine hF) (hG.chg (c1.nil c2) (by simp)) (by simp)).mono fun v s3 q => ?_
  obtain ⟨W3, cw3, rfl, o3, c3, -⟩ := q
  rw [list3]
  replace o1 := o1.chg c3 (by simp)
  replace o2 := o2.chg c3 (by simp)
  obtain ⟨b1, g1, rfl, k1⟩ := o1.pos (by decide)
  obtain ⟨b2, g2, rfl, k2⟩ := o2.pos (by decide)
  have c13 := (c1.nil c2).nil c3
  (repeat(first|refine sb ?_|refine gOn rfl ?_|refine gOff rfl rfl ?_|refine gTup rfl ?_))
  intro q hq; obtain rfl : q = true := (by rw [hq]; simp <;> omega); (repeat(first|refine sb ?_|refine gOn rfl ?_|refine gOff rfl rfl ?_|refine gTup rfl ?_))
  intro q hq; obtain rfl : q = true := (by rw [hq]; simp <;> omega); (repeat(first|refine sb ?_|refine gOn rfl ?_|refine gOff rfl rfl ?_|refine gTup rfl ?_))
  refine ⟨by simp, ?_⟩
  intro m hm o ho
  obtain rfl : m = 0 := by omega
  (repeat(first|refine sb ?_|refine gOn rfl ?_|refine gOff rfl rfl ?_|refine gTup rfl ?_))
  refine ldN_is rfl k1 (by rw [ho]; exact sps_take (i := 0) rfl) ?_
  (repeat(first|refine sb ?_|refine gOn rfl ?_|refine gOff rfl rfl ?_|refine gTup rfl ?_))
  intro q hq; obtain rfl : q = true := (by rw [hq]; simp <;> omega); (repeat(first|refine sb ?_|refine gOn rfl ?_|refine gOff rfl rfl ?_|refine gTup rfl ?_))
  refine ⟨by simp, ?_⟩
  intro m hm o ho
  obtain rfl : m = 1 := by omega
  (repeat(first|refine sb ?_|refine gOn rfl ?_|refine gOff rfl rfl ?_|refine gTup rfl ?_))
  refine ldI_is rfl k1 (by rw [ho]; rfl) ?_
  (repeat(first|refine sb ?_|refine gOn rfl ?_|refine gOff rfl rfl ?_|refine gTup rfl ?_))
  intro q hq; obtain rfl : q = true := (by rw [hq]; simp <;> omega); (repeat(first|refine sb ?_|refine gOn rfl ?_|refine gOff rfl rfl ?_|refine gTup rfl ?_))
  refine ⟨by simp, ?_⟩
  intro m hm o ho
  obtain rfl : m = 1 := by omega
  (repeat(first|refine sb ?_|refine gOn rfl ?_|refine gOff rfl rfl ?_|refine gTup rfl ?_))
  refine ldI_is rfl k1 (by rw [ho]; rfl) ?_
  (repeat(first|refine sb ?_|refine gOn rfl ?_|refine gOff rfl rfl ?_|refine gTup rfl ?_))
  intro q hq; obtain rfl : q = true := (by rw [hq]; simp <;> omega); (repeat(first|refine sb ?_|refine gOn rfl ?_|refine gOff rfl rfl ?_|refine gTup rfl ?_))
  intro q hq; obtain rfl : q = true := (by rw [hq]; simp <;> omega); (repeat(first|refine sb ?_|refine gOn rfl ?_|refine gOff rfl rfl ?_|refine gTup rfl ?_))
  intro q hq; obtain rfl : q = true := (by rw [hq]; simp <;> omega); (repeat(first|refine sb ?_|refine gOn rfl ?_|refine gOff rfl rfl ?_|refine gTup rfl ?_))
  refine ⟨by simp, ?_⟩
  intro m hm o ho
  obtain rfl : m = 1 := by omega
  (repeat(first|refine sb ?_|refine gOn rfl ?_|refine gOff rfl rfl ?_|refine gTup rfl ?_))
  refine ldN_is rfl k2 (by rw [ho]; exact sps_two (i := 1) rfl) ?_
  (repeat(first|refine sb ?_|refine gOn rfl ?_|refine gOff rfl rfl ?_|refine gTup rfl ?_))
  intro q hq; obtain rfl : q = true := (by rw [hq]; simp <;> omega); (repeat(first|refine sb ?_|refine gOn rfl ?_|refine gOff rfl rfl ?_|refine gTup rfl ?_))
  intro q hq; obtain rfl : q = true := (by rw [hq]; simp <;> omega); (repeat(first|refine sb ?_|refine gOn rfl ?_|refine gOff rfl rfl ?_|refine gTup rfl ?_))
  exact ⟨rfl, c13⟩
end Go.Vf.S

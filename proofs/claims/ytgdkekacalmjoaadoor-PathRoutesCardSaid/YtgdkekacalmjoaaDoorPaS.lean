import Derived.Test.YtgdkekacalmjoaaDoorBnC
import Derived.Lib.MapLaws
import Derived.Lib.Join
import Derived.KernelRfl
/- Paths: routes of many domains; letters brought to letters. -/
namespace Go.Vf.S
open Go Go.Vf
set_option linter.unusedVariables false
set_option linter.unusedSimpArgs false
set_option maxRecDepth 10000

/-! Letters -/
def azB (c : UInt8) : Bool := decide (97 ≤ c.toNat ∧ c.toNat ≤ 122)
def az (x : Int) : Int := if x < 97 ∨ 122 < x then 120 else x
theorem az_range (x : Int) : 97 ≤ az x ∧ az x ≤ 122 := by
  unfold az
  split <;> omega
theorem map_az : ∀ (n : Nat) (l : List UInt8), l.length ≤ n → (Lib.mapD az l).all azB = true ∧ (Lib.mapD az l).length ≤ l.length
  | 0, l, h => by
    have : l = [] := List.eq_nil_of_length_eq_zero (by omega)
    subst this
    exact ⟨rfl, Nat.le_refl _⟩
  | n + 1, l, h => by
    by_cases hl : l = []
    · subst hl; exact ⟨rfl, Nat.le_refl _⟩
    · have h0 : 0 < l.length := List.length_pos_iff.2 hl
      have hw := Lib.decodeL_width l
      obtain ⟨h1, h2⟩ := map_az n (l.drop (Lib.decodeL l).2) (by simp; omega)
      rw [Lib.mapD_step az l hl]
      generalize (Lib.decodeL l).1 = x
      generalize (Lib.decodeL l).2 = w at hw h1 h2 ⊢
      have hx := az_range x
      generalize az x = y at hx ⊢
      rw [if_pos (by omega)]
      have e1 : Lib.encodeRune y = [y.toNat.toUInt8] := by
        unfold Lib.encodeRune
        rw [Lib.encodeRuneZ_one (by omega) (by omega)]
        rfl
      have e2 : y.toNat.toUInt8.toNat = y.toNat := by
        rw [Nat.toUInt8_eq, UInt8.toNat_ofNat']
        omega
      rw [e1]
      refine ⟨?_, ?_⟩
      · rw [List.all_append, h1]
        simp only [List.all_cons, List.all_nil, Bool.and_true, azB, e2, decide_eq_true_eq]
        omega
      · simp only [List.length_append, List.length_cons, List.length_nil, List.length_drop] at h2 ⊢
        omega

/-! Routes -/
def dm (k : Nat) : List UInt8 := UInt8.ofNat (97 + k) :: [46, 101, 120, 97, 109, 112, 108, 101]
def rt (k : Nat) : List UInt8 := 64 :: dm k
def rts (n : Nat) : List (List UInt8) := (List.range n).map rt
def dms (n : Nat) : List (List UInt8) := (List.range n).map dm
def rtJ (n : Nat) : List UInt8 := Lib.join (rts n) [44]
def rtL (n : Nat) : List UInt8 := if 0 < n then rtJ n ++ [58] else []
theorem rt_one : ∀ n, n < 13 → (58 : UInt8) ∉ rtJ n ∧ (rtJ n).length ≤ 131 ∧ (0 < n → (rtJ n).take 1 = [64]) := by decide +kernel
theorem rt_two1 : goR [] 0 (splitF 44 (rtJ 1)) = some (dms 1, 0) := by kernel_rfl
theorem rt_two2 : goR [] 0 (splitF 44 (rtJ 2)) = some (dms 2, 0) := by kernel_rfl
theorem rt_two3 : goR [] 0 (splitF 44 (rtJ 3)) = some (dms 3, 0) := by kernel_rfl
theorem rt_two4 : goR [] 0 (splitF 44 (rtJ 4)) = some (dms 4, 0) := by kernel_rfl
theorem rt_two5 : goR [] 0 (splitF 44 (rtJ 5)) = some (dms 5, 0) := by kernel_rfl
theorem rt_two6 : goR [] 0 (splitF 44 (rtJ 6)) = some (dms 6, 0) := by kernel_rfl
theorem rt_two7 : goR [] 0 (splitF 44 (rtJ 7)) = some (dms 7, 0) := by kernel_rfl
theorem rt_two8 : goR [] 0 (splitF 44 (rtJ 8)) = some (dms 8, 0) := by kernel_rfl
theorem rt_two9 : goR [] 0 (splitF 44 (rtJ 9)) = some (dms 9, 3) := by kernel_rfl
theorem rt_two10 : goR [] 0 (splitF 44 (rtJ 10)) = some (dms 10, 3) := by kernel_rfl
theorem rt_two11 : goR [] 0 (splitF 44 (rtJ 11)) = some (dms 11, 3) := by kernel_rfl
theorem rt_two12 : goR [] 0 (splitF 44 (rtJ 12)) = some (dms 12, 3) := by kernel_rfl
theorem rt_two (n : Nat) (hn : n < 13) (h0 : 0 < n) : goR [] 0 (splitF 44 (rtJ n)) = some (dms n, if 8 < n then 3 else 0) := by
  have : n = 1 ∨ n = 2 ∨ n = 3 ∨ n = 4 ∨ n = 5 ∨ n = 6 ∨ n = 7 ∨ n = 8 ∨ n = 9 ∨ n = 10 ∨ n = 11 ∨ n = 12 := by omega
  rcases this with rfl | rfl | rfl | rfl | rfl | rfl | rfl | rfl | rfl | rfl | rfl | rfl
  · exact rt_two1
  · exact rt_two2
  · exact rt_two3
  · exact rt_two4
  · exact rt_two5
  · exact rt_two6
  · exact rt_two7
  · exact rt_two8
  · exact rt_two9
  · exact rt_two10
  · exact rt_two11
  · exact rt_two12
theorem rt_len (n : Nat) : (rts n).length = n ∧ (dms n).length = n := by simp [rts, dms]
theorem rt_at {n k : Nat} (h : k < n) : (rts n)[k]? = some (rt k) ∧ (dms n)[k]? = some (dm k) := by simp [rts, dms, h]

theorem path_known2 {more A ins rest : List UInt8} {ds : List (List UInt8)} {w : Nat} (h1 : routeF more = (ds, A, w)) (hw : w ≠ 5) (h3 : insideP A = ins ∧ restP A = rest ∧ shutP A = true) :
    pathF (60 :: more) = if errP ((60 :: more).length - rest.length) w (madeF ds ins).2 = 0 then ((madeF ds ins).1, rest, 0) else (ptZ, [], errP ((60 :: more).length - rest.length) w (madeF ds ins).2) := by
  have ha : atL (60 :: more) = more := by unfold atL; rw [if_pos (by rfl)]; rfl
  unfold pathF
  rw [ha, h1]
  simp only [h3.1, h3.2.1, h3.2.2]
  rw [if_neg (by simp [hw])]
theorem made_any {a d : List UInt8} {ds : List (List UInt8)} (h : mayF a d = true) : madeF ds (textF a d) = (⟨false, false, ds, a, d⟩, 0) := by
  have hm : (64 : UInt8) ∈ textF a d := by rw [text_is h]; simp
  unfold madeF
  rw [if_neg (by rintro ⟨-, q⟩; rw [q] at hm; cases hm), if_neg ?_, parse_text h]
  rintro ⟨-, q⟩
  have h2 : (64 : UInt8) ∈ (textF a d).map lowB := List.mem_map.2 ⟨64, hm, by decide⟩
  rw [q] at h2
  revert h2
  decide

def farL : List UInt8 := [102, 97, 114, 46, 110, 101, 116]
def tailL : List UInt8 := [116, 97, 105, 108]
theorem az_in (c : UInt8) (h : azB c = true) : letB c = true ∧ plainB c = true ∧ c ≠ 46 := by
  have := all_bytes (p := fun c => !azB c || (letB c && plainB c && (c != 46))) (by decide +kernel) c
  rw [h] at this
  simpa [and_assoc] using this
theorem u_may {loc : List UInt8} (h : loc.all azB = true) (hl : loc.length ≤ 10) : mayF (117 :: loc) farL = true ∧ textF (117 :: loc) farL = (117 :: loc) ++ 64 :: farL := by
  have ha : (117 :: loc).all azB = true := by rw [List.all_cons, h]; decide
  have hd : dotF (117 :: loc) = true := by
    have h46 : (117 :: loc).count 46 = 0 := List.count_eq_zero.2 fun q => (az_in _ ((List.all_eq_true.1 ha) _ q)).2.2 rfl
    unfold dotF
    rw [split_last h46]
    have : (117 :: loc).all letB = true := List.all_eq_true.2 fun c hc => (az_in c ((List.all_eq_true.1 ha) c hc)).1
    simp only [List.all_cons, List.all_nil, Bool.and_true, atomF, this]
    rfl
  have hm : mayF (117 :: loc) farL = true := by
    unfold mayF
    refine decide_eq_true ⟨by simp, by simp; omega, dot_plain hd, by decide +kernel⟩
  exact ⟨hm, by rw [text_is hm]; unfold wordF; rw [if_pos hd]⟩

theorem path_route {n : Nat} {loc : List UInt8} (hn : n < 13) (h : loc.all azB = true) (hl : loc.length ≤ 10) :
    pathF (60 :: (rtL n ++ ((117 :: loc) ++ 64 :: (farL ++ 62 :: tailL)))) = if 8 < n then (ptZ, [], 3) else (⟨false, false, dms n, 117 :: loc, farL⟩, tailL, 0) := by
  obtain ⟨hm, ht⟩ := u_may h hl
  have hA : (117 :: loc) ++ 64 :: (farL ++ 62 :: tailL) = textF (117 :: loc) farL ++ 62 :: tailL := by rw [ht]; simp
  have hlen : ((117 :: loc) ++ 64 :: (farL ++ 62 :: tailL)).length = loc.length + 14 := by simp [farL, tailL]
  obtain ⟨r1, r2, r3⟩ := rt_one n hn
  have hr : routeF (rtL n ++ ((117 :: loc) ++ 64 :: (farL ++ 62 :: tailL))) = (dms n, (117 :: loc) ++ 64 :: (farL ++ 62 :: tailL), if 8 < n then 3 else 0) ∧ (rtL n).length ≤ 132 := by
    unfold rtL
    by_cases h0 : 0 < n
    · rw [if_pos h0]
      have h64 : ((rtJ n ++ [58]) ++ ((117 :: loc) ++ 64 :: (farL ++ 62 :: tailL))).take 1 = [64] := by
        have := r3 h0
        match hJ : rtJ n, this with
        | x :: J, this => simpa using this
      have hc : cutF 58 ((rtJ n ++ [58]) ++ ((117 :: loc) ++ 64 :: (farL ++ 62 :: tailL))) = (rtJ n, (117 :: loc) ++ 64 :: (farL ++ 62 :: tailL), true) := by
        rw [List.append_assoc, List.singleton_append]
        exact cut_is r1
      refine ⟨?_, by simp; omega⟩
      unfold routeF
      rw [if_neg (by rw [h64]; simp), hc, if_neg (by simp), rt_two n hn h0]
    · obtain rfl : n = 0 := by omega
      rw [if_neg (by omega), List.nil_append, route_no (by simp)]
      exact ⟨rfl, by simp⟩
  have h3 := word_inside hm tailL
  rw [← hA] at h3
  rw [path_known2 hr.1 (by split <;> simp) h3, made_any hm]
  have hlong : ¬ 256 < (60 :: (rtL n ++ ((117 :: loc) ++ 64 :: (farL ++ 62 :: tailL)))).length - tailL.length := by
    rw [List.length_cons, List.length_append, hlen]
    have := hr.2
    omega
  generalize (60 :: (rtL n ++ ((117 :: loc) ++ 64 :: (farL ++ 62 :: tailL)))).length - tailL.length = N at hlong ⊢
  dsimp only
  by_cases h8 : 8 < n
  · have e3 : errP N (if 8 < n then 3 else 0) 0 = 3 := by unfold errP; rw [if_pos h8, if_pos ⟨rfl, .inr rfl⟩]
    rw [e3, if_pos h8, if_neg (by decide)]
  · have e3 : errP N (if 8 < n then 3 else 0) 0 = 0 := by unfold errP; rw [if_neg h8, if_neg (by rintro ⟨-, q | q⟩ <;> omega)]
    rw [e3, if_neg h8, if_pos rfl]
theorem route_text {n : Nat} {loc : List UInt8} (h : loc.all azB = true) (hl : loc.length ≤ 10) : textP ⟨false, false, dms n, 117 :: loc, farL⟩ = [60, 117] ++ loc ++ [64, 102, 97, 114, 46, 110, 101, 116, 62] := by
  obtain ⟨hm, ht⟩ := u_may h hl
  unfold textP
  rw [if_neg (by simp), if_neg (by simp), if_neg (by simp [hm])]
  show 60 :: (textF (117 :: loc) farL ++ [62]) = _
  rw [ht]
  simp [farL]
end Go.Vf.S

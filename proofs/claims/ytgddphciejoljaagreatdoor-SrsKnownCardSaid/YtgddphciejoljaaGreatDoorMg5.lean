import Derived.Test.YtgddphciejoljaaGreatDoorMg4
import Derived.Test.YtgddphciejoljaaGreatDoorFnK12
import Derived.Test.YtgddphciejoljaaGreatDoorAdS
import Derived.Test.YtgddphciejoljaaGreatDoorMg2
import Derived.Test.YtgddphciejoljaaGreatDoorEngMl
import Derived.Test.YtgddphciejoljaaGreatDoorEngMb
import Derived.Test.YtgddphciejoljaaGreatDoorEngBf
import Derived.Test.YtgddphciejoljaaGreatDoorEngBe
import Derived.Test.YtgddphciejoljaaGreatDoorMg1
import Derived.Shelf.Vars
import Derived.Handed
import Derived.Lib.LaidU8
import Derived.Lib.SmallJoins
section
/- SrsKnown: the map of local parts, and what is told of each; the rest; the law from any state in which the tables lie. -/
namespace Go.Vf.S
open Go Go.Vf Go.Proofs
attribute [local irreducible] wSeq wRow wp wG hmac tellF pstF tagF agF mayF domF cmayF nsF oursF isF fwdF revF firstF
set_option linter.unusedVariables false
set_option linter.unusedSimpArgs false
set_option maxRecDepth 10000

/-- Two texts, one behind the other. -/
theorem step_add12 {o : Oper} {t : TypeId} {x y : Operand} {p : TypeId} {T : TL} {s : SS} {a b : List UInt8} (hop : o.op = .binOp .add t x y p) (hx : operand (toTr T) s.st x = some (str a)) (hy : operand (toTr T) s.st y = some (str b)) (hl : Nat.ble (a.length + b.length) 1152921504606846976 = true) : StepX pr o T s (str (a ++ b)) s := by
  refine StepX.of_fin good ⟨fun _ _ _ => none, no_caller, ?_⟩
  rw [hop]
  simp only [aOp, hx, hy, binV, strBin, hl, cond_true, Option.map_some, fin]
/-- What lies in a slot. -/
theorem step_move12 {o : Oper} {x : Nat} {T : TL} {s : SS} {v : Value} (hop : o.op = .move (.tmp x)) (hx : look T x = some v) : StepX pr o T s v s := by
  refine StepX.of_fin good ⟨fun _ _ _ => none, no_caller, ?_⟩
  rw [hop]
  simp only [aOp, operand, toTr_get, hx, Option.map_some, fin]
/-- A function that lies in a slot, called: it turns nothing. -/
theorem step_callv {o : Oper} {f : FuncId} {x : Nat} {az : Array Operand} {ats : Array TypeId} {T : TL} {s : SS} {vs : List Value} {v : Value} (hop : o.op = .call { callee := .value (.tmp x), args := az, argTypes := ats }) (hx : operand (toTr T) s.st (.tmp x) = some (.func (.func f) #[] #[])) (hv : operands (toTr T) s.st az.toList = some vs)
    (hf : (match pr.funcs[f]? with | some fn => fn.body.isSome | none => false) = true) (h : CallW pr f vs s fun u s' => u = v ∧ s' = s) : StepX pr o T s v s := by
  obtain ⟨u, s1, ⟨rfl, rfl⟩, hc⟩ := h
  refine StepX.of_fin good (call_ok hc ?_)
  rw [hop]
  simp only [aOp, hx, hv, callV]
  cases hx : pr.funcs[f]? with
  | none => rw [hx] at hf; cases hf
  | some fn =>
    rw [hx] at hf
    simp only at hf
    simp [hf]
theorem opAt12 {ops : Array Oper} {i : Nat} {o : Oper} {p : Op} (ho : ops[i]? = some o) (h : (ops[i]?).map Oper.op = some p) : o.op = p := by
  rw [ho] at h; exact Option.some.inj h
theorem slotAt12 {ops : Array Oper} {i j : Nat} {o : Oper} {Dp : List (Nat × Nat × Value)} {T : TL} {s : SS} {t : Nat} {v : Value} (ho : ops[i]? = some o) (hd : ∀ e ∈ o.after.toList, Region.binds .any e = true → ∀ t' v', look Dp e.on = some (t', v') → look T t' = some v')
    (hon : (ops[i]?).map (fun o => onE o j) = some true) (hl : look Dp j = some (t, v)) : operand (toTr T) s.st (.tmp t) = some v := by
  rw [ho] at hon
  have hon := Option.some.inj hon
  unfold onE at hon
  obtain ⟨e, he, h⟩ := List.any_eq_true.1 hon
  simp only [Bool.and_eq_true, Nat.beq_eq] at h
  simp only [operand, toTr_get]
  exact hd e he h.1 t v (h.2 ▸ hl)

def zK : LitD := { mt := 45, tm := 67, t2 := 117, t3 := 118, i0 := 0, im := 69, ir := 70, I := [1, 2, 3, 6, 10, 14, 18, 22, 26, 30, 34, 38, 42, 46, 50, 54, 59, 64, 68], Dp := [(4, 68, str T1), (5, 69, str ([83, 82, 83, 48, 61] ++ T1)), (7, 70, str T1), (8, 71, str ([83, 82, 83, 48, 61] ++ T1)), (9, 72, str (([83, 82, 83, 48, 61] ++ T1) ++ [61, 65, 65])), (11, 73, str T1), (12, 74, str ([83, 82, 83, 48, 61] ++ T1)), (13, 75, str (([83, 82, 83, 48, 61] ++ T1) ++ [61, 65, 65, 61])), (15, 76, str T1), (16, 77, str ([83, 82, 83, 48, 61] ++ T1)), (17, 78, str (([83, 82, 83, 48, 61] ++ T1) ++ [61, 65, 65, 61, 97, 46, 101, 120, 97, 109, 112, 108, 101])), (19, 79, str T1), (20, 80, str ([83, 82, 83, 48, 61] ++ T1)), (21, 81, str (([83, 82, 83, 48, 61] ++ T1) ++ [61, 65, 65, 61, 97, 46, 101, 120, 97, 109, 112, 108, 101, 61])), (23, 82, str T1), (24, 83, str ([83, 82, 83, 48, 61] ++ T1)), (25, 84, str (([83, 82, 83, 48, 61] ++ T1) ++ [61, 65, 49, 61, 97, 46, 101, 120, 97, 109, 112, 108, 101, 61, 97, 110, 110])), (27, 85, str T1), (28, 86, str ([83, 82, 83, 48, 61] ++ T1)), (29, 87, str (([83, 82, 83, 48, 61] ++ T1) ++ [61, 65, 65, 61, 61, 97, 110, 110])), (31, 88, str T1), (32, 89, str ([83, 82, 83, 48, 61] ++ T1)), (33, 90, str (([83, 82, 83, 48, 61] ++ T1) ++ [61, 65, 65, 61, 97, 46, 46, 98, 61, 97, 110, 110])), (35, 91, str T1), (36, 92, str ([83, 82, 83, 48, 61] ++ T1)), (37, 93, str (([83, 82, 83, 48, 61] ++ T1) ++ [61, 65, 65, 61, 97, 46, 101, 120, 97, 109, 112, 108, 101, 61, 97, 110, 110])), (39, 94, str T1), (40, 95, str ([83, 82, 83, 48, 61] ++ T1)), (41, 96, str (([83, 82, 83, 48, 61] ++ T1) ++ [61, 65, 65, 61, 97, 46, 101, 120, 97, 109, 112, 108, 101, 61, 65, 78, 78])), (43, 97, str T1), (44, 98, str ([83, 82, 83, 48, 61] ++ T1)), (45, 99, str (([83, 82, 83, 48, 61] ++ T1) ++ [61, 65, 66, 61, 97, 46, 101, 120, 97, 109, 112, 108, 101, 61, 97, 110, 110])), (47, 100, str T1), (48, 101, str ([115, 114, 115, 48, 61] ++ T1)), (49, 102, str (([115, 114, 115, 48, 61] ++ T1) ++ [61, 97, 97, 61, 65, 46, 101, 120, 97, 109, 112, 108, 101, 61, 97, 110, 110])), (51, 103, str T1), (52, 104, str ([83, 82, 83, 49, 61] ++ T1)), (53, 105, str (([83, 82, 83, 49, 61] ++ T1) ++ [61, 102, 97, 114, 46, 110, 101, 116, 61])), (55, 106, fnV n_law12_SrsKnown_1), (56, 107, str T2), (57, 108, str ([83, 82, 83, 49, 61] ++ T2)), (58, 109, str (([83, 82, 83, 49, 61] ++ T2) ++ [61, 102, 97, 114, 46, 110, 101, 116, 61, 120])), (60, 110, fnV n_law12_SrsKnown_1), (61, 111, str T3), (62, 112, str ([83, 82, 83, 49, 61] ++ T3)), (63, 113, str (([83, 82, 83, 49, 61] ++ T3) ++ [61, 102, 97, 114, 46, 110, 101, 116, 61, 61, 120, 61, 121])), (65, 114, str T1), (66, 115, str ([83, 82, 83, 49, 61] ++ T1)), (67, 116, str (([83, 82, 83, 49, 61] ++ T1) ++ [61, 102, 97, 114, 46, 110, 101, 116]))] }
theorem zK_ok : zK.ok 210 ops_K12_O9 = true := by kernel_rfl
theorem um_e12 : pr.underlying 45 = some (.map 9 30) := by kernel_rfl
/-- The slots that lie there ahead. -/
abbrev sK (c : Nat) : TL := [(0, .bool false), (1, ptR c), (2, fnV n_law12_SrsKnown_1), (3, str T1), (4, fnV n_law12_SrsKnown_2)]
set_option maxHeartbeats 1000000 in
theorem pureK {c : Nat} : PureOkA pr ops_K12_O9 zK (sK c) Gk := by
  intro i o t v ho hl T s hs hT hd
  have t2 : look T 2 = some (fnV n_law12_SrsKnown_1) := (hT 2 (by decide)).trans rfl
  have t3 : look T 3 = some (str T1) := (hT 3 (by decide)).trans rfl
  have hm := look_mem hl
  simp only [zK, List.mem_cons, List.not_mem_nil, or_false, Prod.mk.injEq] at hm
  rcases hm with ⟨rfl, rfl, rfl⟩ | ⟨rfl, rfl, rfl⟩ | ⟨rfl, rfl, rfl⟩ | ⟨rfl, rfl, rfl⟩ | ⟨rfl, rfl, rfl⟩ | ⟨rfl, rfl, rfl⟩ | ⟨rfl, rfl, rfl⟩ | ⟨rfl, rfl, rfl⟩ | ⟨rfl, rfl, rfl⟩ | ⟨rfl, rfl, rfl⟩ | ⟨rfl, rfl, rfl⟩ | ⟨rfl, rfl, rfl⟩ | ⟨rfl, rfl, rfl⟩ | ⟨rfl, rfl, rfl⟩ | ⟨rfl, rfl, rfl⟩ | ⟨rfl, rfl, rfl⟩ | ⟨rfl, rfl, rfl⟩ | ⟨rfl, rfl, rfl⟩ | ⟨rfl, rfl, rfl⟩ | ⟨rfl, rfl, rfl⟩ | ⟨rfl, rfl, rfl⟩ | ⟨rfl, rfl, rfl⟩ | ⟨rfl, rfl, rfl⟩ | ⟨rfl, rfl, rfl⟩ | ⟨rfl, rfl, rfl⟩ | ⟨rfl, rfl, rfl⟩ | ⟨rfl, rfl, rfl⟩ | ⟨rfl, rfl, rfl⟩ | ⟨rfl, rfl, rfl⟩ | ⟨rfl, rfl, rfl⟩ | ⟨rfl, rfl, rfl⟩ | ⟨rfl, rfl, rfl⟩ | ⟨rfl, rfl, rfl⟩ | ⟨rfl, rfl, rfl⟩ | ⟨rfl, rfl, rfl⟩ | ⟨rfl, rfl, rfl⟩ | ⟨rfl, rfl, rfl⟩ | ⟨rfl, rfl, rfl⟩ | ⟨rfl, rfl, rfl⟩ | ⟨rfl, rfl, rfl⟩ | ⟨rfl, rfl, rfl⟩ | ⟨rfl, rfl, rfl⟩ | ⟨rfl, rfl, rfl⟩ | ⟨rfl, rfl, rfl⟩ | ⟨rfl, rfl, rfl⟩ | ⟨rfl, rfl, rfl⟩ | ⟨rfl, rfl, rfl⟩ | ⟨rfl, rfl, rfl⟩ | ⟨rfl, rfl, rfl⟩
  · exact step_move12 (opAt12 (p := .move (.tmp 3)) ho (by kernel_rfl)) t3
  · exact step_add12 (opAt12 (p := .binOp .add 9 (.const (str [83, 82, 83, 48, 61])) (.tmp 68) 9) ho (by kernel_rfl)) rfl (slotAt12 ho hd (by kernel_rfl) (j := 4) rfl) (by kernel_rfl)
  · exact step_move12 (opAt12 (p := .move (.tmp 3)) ho (by kernel_rfl)) t3
  · exact step_add12 (opAt12 (p := .binOp .add 9 (.const (str [83, 82, 83, 48, 61])) (.tmp 70) 9) ho (by kernel_rfl)) rfl (slotAt12 ho hd (by kernel_rfl) (j := 7) rfl) (by kernel_rfl)
  · exact step_add12 (opAt12 (p := .binOp .add 9 (.tmp 71) (.const (str [61, 65, 65])) 9) ho (by kernel_rfl)) (slotAt12 ho hd (by kernel_rfl) (j := 8) rfl) rfl (by kernel_rfl)
  · exact step_move12 (opAt12 (p := .move (.tmp 3)) ho (by kernel_rfl)) t3
  · exact step_add12 (opAt12 (p := .binOp .add 9 (.const (str [83, 82, 83, 48, 61])) (.tmp 73) 9) ho (by kernel_rfl)) rfl (slotAt12 ho hd (by kernel_rfl) (j := 11) rfl) (by kernel_rfl)
  · exact step_add12 (opAt12 (p := .binOp .add 9 (.tmp 74) (.const (str [61, 65, 65, 61])) 9) ho (by kernel_rfl)) (slotAt12 ho hd (by kernel_rfl) (j := 12) rfl) rfl (by kernel_rfl)
  · exact step_move12 (opAt12 (p := .move (.tmp 3)) ho (by kernel_rfl)) t3
  · exact step_add12 (opAt12 (p := .binOp .add 9 (.const (str [83, 82, 83, 48, 61])) (.tmp 76) 9) ho (by kernel_rfl)) rfl (slotAt12 ho hd (by kernel_rfl) (j := 15) rfl) (by kernel_rfl)
  · exact step_add12 (opAt12 (p := .binOp .add 9 (.tmp 77) (.const (str [61, 65, 65, 61, 97, 46, 101, 120, 97, 109, 112, 108, 101])) 9) ho (by kernel_rfl)) (slotAt12 ho hd (by kernel_rfl) (j := 16) rfl) rfl (by kernel_rfl)
  · exact step_move12 (opAt12 (p := .move (.tmp 3)) ho (by kernel_rfl)) t3
  · exact step_add12 (opAt12 (p := .binOp .add 9 (.const (str [83, 82, 83, 48, 61])) (.tmp 79) 9) ho (by kernel_rfl)) rfl (slotAt12 ho hd (by kernel_rfl) (j := 19) rfl) (by kernel_rfl)
  · exact step_add12 (opAt12 (p := .binOp .add 9 (.tmp 80) (.const (str [61, 65, 65, 61, 97, 46, 101, 120, 97, 109, 112, 108, 101, 61])) 9) ho (by kernel_rfl)) (slotAt12 ho hd (by kernel_rfl) (j := 20) rfl) rfl (by kernel_rfl)
  · exact step_move12 (opAt12 (p := .move (.tmp 3)) ho (by kernel_rfl)) t3
  · exact step_add12 (opAt12 (p := .binOp .add 9 (.const (str [83, 82, 83, 48, 61])) (.tmp 82) 9) ho (by kernel_rfl)) rfl (slotAt12 ho hd (by kernel_rfl) (j := 23) rfl) (by kernel_rfl)
  · exact step_add12 (opAt12 (p := .binOp .add 9 (.tmp 83) (.const (str [61, 65, 49, 61, 97, 46, 101, 120, 97, 109, 112, 108, 101, 61, 97, 110, 110])) 9) ho (by kernel_rfl)) (slotAt12 ho hd (by kernel_rfl) (j := 24) rfl) rfl (by kernel_rfl)
  · exact step_move12 (opAt12 (p := .move (.tmp 3)) ho (by kernel_rfl)) t3
  · exact step_add12 (opAt12 (p := .binOp .add 9 (.const (str [83, 82, 83, 48, 61])) (.tmp 85) 9) ho (by kernel_rfl)) rfl (slotAt12 ho hd (by kernel_rfl) (j := 27) rfl) (by kernel_rfl)
  · exact step_add12 (opAt12 (p := .binOp .add 9 (.tmp 86) (.const (str [61, 65, 65, 61, 61, 97, 110, 110])) 9) ho (by kernel_rfl)) (slotAt12 ho hd (by kernel_rfl) (j := 28) rfl) rfl (by kernel_rfl)
  · exact step_move12 (opAt12 (p := .move (.tmp 3)) ho (by kernel_rfl)) t3
  · exact step_add12 (opAt12 (p := .binOp .add 9 (.const (str [83, 82, 83, 48, 61])) (.tmp 88) 9) ho (by kernel_rfl)) rfl (slotAt12 ho hd (by kernel_rfl) (j := 31) rfl) (by kernel_rfl)
  · exact step_add12 (opAt12 (p := .binOp .add 9 (.tmp 89) (.const (str [61, 65, 65, 61, 97, 46, 46, 98, 61, 97, 110, 110])) 9) ho (by kernel_rfl)) (slotAt12 ho hd (by kernel_rfl) (j := 32) rfl) rfl (by kernel_rfl)
  · exact step_move12 (opAt12 (p := .move (.tmp 3)) ho (by kernel_rfl)) t3
  · exact step_add12 (opAt12 (p := .binOp .add 9 (.const (str [83, 82, 83, 48, 61])) (.tmp 91) 9) ho (by kernel_rfl)) rfl (slotAt12 ho hd (by kernel_rfl) (j := 35) rfl) (by kernel_rfl)
  · exact step_add12 (opAt12 (p := .binOp .add 9 (.tmp 92) (.const (str [61, 65, 65, 61, 97, 46, 101, 120, 97, 109, 112, 108, 101, 61, 97, 110, 110])) 9) ho (by kernel_rfl)) (slotAt12 ho hd (by kernel_rfl) (j := 36) rfl) rfl (by kernel_rfl)
  · exact step_move12 (opAt12 (p := .move (.tmp 3)) ho (by kernel_rfl)) t3
  · exact step_add12 (opAt12 (p := .binOp .add 9 (.const (str [83, 82, 83, 48, 61])) (.tmp 94) 9) ho (by kernel_rfl)) rfl (slotAt12 ho hd (by kernel_rfl) (j := 39) rfl) (by kernel_rfl)
  · exact step_add12 (opAt12 (p := .binOp .add 9 (.tmp 95) (.const (str [61, 65, 65, 61, 97, 46, 101, 120, 97, 109, 112, 108, 101, 61, 65, 78, 78])) 9) ho (by kernel_rfl)) (slotAt12 ho hd (by kernel_rfl) (j := 40) rfl) rfl (by kernel_rfl)
  · exact step_move12 (opAt12 (p := .move (.tmp 3)) ho (by kernel_rfl)) t3
  · exact step_add12 (opAt12 (p := .binOp .add 9 (.const (str [83, 82, 83, 48, 61])) (.tmp 97) 9) ho (by kernel_rfl)) rfl (slotAt12 ho hd (by kernel_rfl) (j := 43) rfl) (by kernel_rfl)
  · exact step_add12 (opAt12 (p := .binOp .add 9 (.tmp 98) (.const (str [61, 65, 66, 61, 97, 46, 101, 120, 97, 109, 112, 108, 101, 61, 97, 110, 110])) 9) ho (by kernel_rfl)) (slotAt12 ho hd (by kernel_rfl) (j := 44) rfl) rfl (by kernel_rfl)
  · exact step_move12 (opAt12 (p := .move (.tmp 3)) ho (by kernel_rfl)) t3
  · exact step_add12 (opAt12 (p := .binOp .add 9 (.const (str [115, 114, 115, 48, 61])) (.tmp 100) 9) ho (by kernel_rfl)) rfl (slotAt12 ho hd (by kernel_rfl) (j := 47) rfl) (by kernel_rfl)
  · exact step_add12 (opAt12 (p := .binOp .add 9 (.tmp 101) (.const (str [61, 97, 97, 61, 65, 46, 101, 120, 97, 109, 112, 108, 101, 61, 97, 110, 110])) 9) ho (by kernel_rfl)) (slotAt12 ho hd (by kernel_rfl) (j := 48) rfl) rfl (by kernel_rfl)
  · exact step_move12 (opAt12 (p := .move (.tmp 3)) ho (by kernel_rfl)) t3
  · exact step_add12 (opAt12 (p := .binOp .add 9 (.const (str [83, 82, 83, 49, 61])) (.tmp 103) 9) ho (by kernel_rfl)) rfl (slotAt12 ho hd (by kernel_rfl) (j := 51) rfl) (by kernel_rfl)
  · exact step_add12 (opAt12 (p := .binOp .add 9 (.tmp 104) (.const (str [61, 102, 97, 114, 46, 110, 101, 116, 61])) 9) ho (by kernel_rfl)) (slotAt12 ho hd (by kernel_rfl) (j := 52) rfl) rfl (by kernel_rfl)
  · exact step_move12 (opAt12 (p := .move (.tmp 2)) ho (by kernel_rfl)) t2
  · exact step_callv (opAt12 (p := .call { callee := .value (.tmp 106), args := #[.const (str [102, 97, 114, 46, 110, 101, 116, 120])], argTypes := #[9] }) ho (by kernel_rfl)) (slotAt12 ho hd (by kernel_rfl) (j := 55) rfl) rfl (by kernel_rfl) ((tagk_w (l := [102, 97, 114, 46, 110, 101, 116, 120]) hs (by decide)).mono fun u s' q => ⟨q.1.trans (by rw [tg2]), q.2⟩)
  · exact step_add12 (opAt12 (p := .binOp .add 9 (.const (str [83, 82, 83, 49, 61])) (.tmp 107) 9) ho (by kernel_rfl)) rfl (slotAt12 ho hd (by kernel_rfl) (j := 56) rfl) (by kernel_rfl)
  · exact step_add12 (opAt12 (p := .binOp .add 9 (.tmp 108) (.const (str [61, 102, 97, 114, 46, 110, 101, 116, 61, 120])) 9) ho (by kernel_rfl)) (slotAt12 ho hd (by kernel_rfl) (j := 57) rfl) rfl (by kernel_rfl)
  · exact step_move12 (opAt12 (p := .move (.tmp 2)) ho (by kernel_rfl)) t2
  · exact step_callv (opAt12 (p := .call { callee := .value (.tmp 110), args := #[.const (str [102, 97, 114, 46, 110, 101, 116, 61, 120, 61, 121])], argTypes := #[9] }) ho (by kernel_rfl)) (slotAt12 ho hd (by kernel_rfl) (j := 60) rfl) rfl (by kernel_rfl) ((tagk_w (l := [102, 97, 114, 46, 110, 101, 116, 61, 120, 61, 121]) hs (by decide)).mono fun u s' q => ⟨q.1.trans (by rw [tg3]), q.2⟩)
  · exact step_add12 (opAt12 (p := .binOp .add 9 (.const (str [83, 82, 83, 49, 61])) (.tmp 111) 9) ho (by kernel_rfl)) rfl (slotAt12 ho hd (by kernel_rfl) (j := 61) rfl) (by kernel_rfl)
  · exact step_add12 (opAt12 (p := .binOp .add 9 (.tmp 112) (.const (str [61, 102, 97, 114, 46, 110, 101, 116, 61, 61, 120, 61, 121])) 9) ho (by kernel_rfl)) (slotAt12 ho hd (by kernel_rfl) (j := 62) rfl) rfl (by kernel_rfl)
  · exact step_move12 (opAt12 (p := .move (.tmp 3)) ho (by kernel_rfl)) t3
  · exact step_add12 (opAt12 (p := .binOp .add 9 (.const (str [83, 82, 83, 49, 61])) (.tmp 114) 9) ho (by kernel_rfl)) rfl (slotAt12 ho hd (by kernel_rfl) (j := 65) rfl) (by kernel_rfl)
  · exact step_add12 (opAt12 (p := .binOp .add 9 (.tmp 115) (.const (str [61, 102, 97, 114, 46, 110, 101, 116])) 9) ho (by kernel_rfl)) (slotAt12 ho hd (by kernel_rfl) (j := 66) rfl) rfl (by kernel_rfl)
theorem gkL {s : SS} {kv : Nat → Value × Value} (h : Gk s) : ∀ x, Gk (litS kv s x)
  | .a => h
  | .b π => ⟨h.g, Nat.lt_succ_of_lt h.n, lkT (Nat.ne_of_gt h.n) h.b⟩
  | .c π => ⟨h.g, Nat.lt_succ_of_lt (Nat.lt_succ_of_lt h.n), lkT (Nat.ne_of_gt (Nat.lt_succ_of_lt h.n)) (lkT (Nat.ne_of_gt h.n) h.b)⟩
noncomputable def okK (j : Nat) : Bool := match zK.kv ops_K12_O9 j with
  | (.string b, .int .i64 v) => Nat.ble b.data.toList.length 1000 && decide (((revN cK b.data.toList bEx 0).2.2 : Int) = v)
  | _ => false
theorem allK : zK.I.all okK = true := by kernel_rfl
theorem isK {j : Nat} (h : j ∈ zK.I) : ∃ l, zK.kv ops_K12_O9 j = (str l, .int .i64 ((revF cK l bEx 0).2.2 : Nat)) ∧ l.length ≤ 1000 := by
  have := List.all_eq_true.1 allK j h
  unfold okK at this
  split at this
  · rename_i b v hb
    simp only [Bool.and_eq_true, Nat.ble_eq, decide_eq_true_eq] at this
    exact ⟨b.data.toList, by rw [hb, rev_N, ← this.2], this.1⟩
  · cases this

/-! ### The loop -/
theorem gen_v12 {T : TL} {s : SS} {K : RR → Prop} {x a : Tmp} {ts : Array TypeId} {g : Nat} {u fv : Value} (hx : look T x = some fv) (ha : look T a = some u) (hc : callV pr fv [u] = some (.enter g [u])) (hK : K (.call g [u])) : wN pr (.gen (.call ⟨.value (.tmp x), #[.tmp a], ts⟩)) T s K := by
  refine ⟨.call g [u], ?_, hK⟩
  simp only [aOp, operand, operands, toTr_get, hx, ha]
  exact hc
theorem gen_vc {T : TL} {s : SS} {K : RR → Prop} {x : Tmp} {ts : Array TypeId} {g : Nat} {u fv : Value} (hp : plainV u = true) (hx : look T x = some fv) (hc : callV pr fv [u] = some (.enter g [u])) (hK : K (.call g [u])) : wN pr (.gen (.call ⟨.value (.tmp x), #[.const u], ts⟩)) T s K := by
  refine ⟨.call g [u], ?_, hK⟩
  simp only [aOp, operand, operands, toTr_get, hx, hp, cond_true]
  exact hc
theorem ent_is12 {kv : Nat → Value × Value} {I π : List Nat} {e : MapEntry} (hπ : π.Perm I) (h : e ∈ mkE kv π 0) : ∃ j ∈ I, e.key = (kv j).1 ∧ e.val = (kv j).2 ∧ e.born < π.length := by
  obtain ⟨⟨j, hj, h1, h2⟩, h3, h4⟩ := mkE_mem h
  exact ⟨j, (hπ.mem_iff).1 hj, h1, h2, by omega⟩
/-- The coder in its block. -/
structure KSt (s : SS) (c b : Nat) : Prop where
  l : c < s.next
  k : lookH s.heap c = some (.cells [str keyK, .slice (some ⟨b, 0, none⟩) 2 2] tCo false false)
  r : RowC s b [bEx, cEx]
theorem KSt.chg {s s' : SS} {c b : Nat} (h : KSt s c b) (d : Chg s s' []) : KSt s' c b := ⟨Nat.lt_of_lt_of_le h.l d.next, d.blk _ _ h.l (by simp) h.k, h.r.chg d (by simp)⟩
theorem KSt.dom {s : SS} {c b : Nat} (h : KSt s c b) : DomAt s (some ⟨b, 0, none⟩) 2 [bEx, cEx] := .inr ⟨b, rfl, rfl, h.r⟩
theorem small_K : SmallD [bEx, cEx] := ⟨by decide, fun d hd => by
  simp only [List.mem_cons, List.not_mem_nil, or_false] at hd
  rcases hd with rfl | rfl <;> decide⟩
def lgK (kv : Nat → Value × Value) (s : SS) (π : List Nat) (c : Nat) : MapL := ⟨litS kv s (.b π), s.next + 1, s.next, π.length, mkE kv π 0, [(118, .pointer (some ⟨s.next + 1, 0, none⟩)), (0, .bool false), (1, ptR c), (4, fnV n_law12_SrsKnown_2)]⟩
section
variable {kv : Nat → Value × Value} {s : SS} {π : List Nat} {c : Nat}
theorem lgK_fine (hF : Fine s) : Fine (lgK kv s π c).sb := fun id hid => by
  have hid' : s.next + 1 ≤ id := hid
  exact lkN (show s.next ≠ id by omega) (hF id (by omega))
theorem lgK_chg : Chg s (lgK kv s π c).sb [] := .new _
theorem lgK_map : lookH (lgK kv s π c).sb.heap (lgK kv s π c).m = some (.map (lgK kv s π c).es (lgK kv s π c).since) := lkH
theorem lgK_end {nt k N : Nat} (hF : Fine s) (hN : s.next ≤ N) : Wk pr nt k (lgK kv s π c).TH ((lgK kv s π c).fin N) [(0, .bool false), (1, ptR c)] (s.upto N) :=
  Wk.less ⟨rfl, rfl, trivial⟩ (fun id v hv => by
    have hne : s.next ≠ id := fun e => by
      have := hF id (by omega)
      rw [show lookH s.heap id = some v from hv] at this
      cases this
    exact lkT hne hv) (Nat.le_refl _) rfl
end
set_option maxHeartbeats 4000000 in
theorem loopK_w {s : SS} {c b : Nat} (hG : Gk s) (hF : Fine s) (hK : KSt s c b) {k : Nat} {π : List Nat} (hπ : π.Perm zK.I) : W pr 210 k code_K12_B9 ((zK.D s.next).map (·.2) ++ sK c) (litS (zK.kv ops_K12_O9) s (.c π)) fun ex' T3 s3 => ex' = .normal ∧ Wk pr 210 k T3 s3 [(0, .bool false), (1, ptR c)] (s.upto s3.next) := by
  refine comp_ok good ok_K12_B9 (Box.out (p := wp pr 210 k _ _ _ _) ?_)
  refine pBlock ?_
  refine pLoop (MW.maps good (id0 := 0) (g := lgK (zK.kv ops_K12_O9) s π c) rfl (Wk.same ⟨rfl, rfl, rfl, rfl, trivial⟩) rfl lgK_map (show s.next + 1 ≠ s.next by omega) (fun e he => by obtain ⟨j, _, _, _, h⟩ := ent_is12 hπ he; exact h) ?_ ?_ ?_)
  · intro n seen hn e he hs
    have hn' : s.next + 1 < n := hn
    obtain ⟨j, hj, hk, hv, hb⟩ := ent_is12 hπ he
    obtain ⟨l, hl1, hl⟩ := isK hj
    rw [hl1] at hk hv
    simp only at hk hv
    rw [hk, hv]
    (try (first|refine pSeq ?_|refine pReg ?_)); (repeat(first|refine sb ?_|refine kNo ?_|refine gOn rfl ?_|refine gOff rfl rfl ?_|refine gTup rfl ?_))
    refine entry_W (e := e) (m := s.next) (es := mkE (zK.kv ops_K12_O9) π 0) (clock := π.length) (since := π.length) (seen := seen) (id := s.next + 1) rfl rfl lkH (lkT (show s.next + 1 ≠ s.next by omega) lgK_map) he mkE_born ?_
    rw [hk, hv]
    have c0 : Chg s ((lgK (zK.kv ops_K12_O9) s π c).at n (seen ++ [e.born])) [] := lgK_chg.nil (MapL.at_chg _ (lgK_fine hF) rfl hn')
    have f0 := c0.fine hF
    have hK0 := hK.chg c0
    (repeat(first|refine sb ?_|refine kNo ?_|refine gOn rfl ?_|refine gOff rfl rfl ?_|refine gTup rfl ?_))
    refine ldN_is rfl hK0.k rfl ?_
    (repeat(first|refine sb ?_|refine kNo ?_|refine gOn rfl ?_|refine gOff rfl rfl ?_|refine gTup rfl ?_))
    refine alloc_12 (rNew f0.at ?_)
    obtain ⟨m0, m1, m2⟩ := new1_at f0 (.cells (adC2 [] []) tAd false false)
    (repeat(first|refine sb ?_|refine kNo ?_|refine gOn rfl ?_|refine gOff rfl rfl ?_|refine gTup rfl ?_))
    refine gen_v12 rfl rfl (callV_cs ok_law12_SrsKnown_2 [] _) ?_
    refine (atc_w (l := l) m2).mono fun v s1 q => ?_
    obtain ⟨rfl, c1⟩ := q
    have f1 := c1.fine m2
    have n1 := c1.next
    replace m0 := c1.blk _ _ (Nat.lt_succ_self _) (by simp) m0
    refine kAll (c1.keep m2) ?_
    (repeat(first|refine sb ?_|refine kNo ?_|refine gOn rfl ?_|refine gOff rfl rfl ?_|refine gTup rfl ?_))
    have c01 := (c0.nil m1).nil c1
    refine (reverse_w (sec := keyK) (ds := [bEx, cEx]) (a := l) (d := bEx) (day := 0) (hG.nil c01) f1 (hK.chg c01).dom (by decide) small_K (by omega) (by decide) (by decide)).mono fun v s2 q => ?_
    obtain ⟨rfl, c2⟩ := q
    generalize hR : revF ⟨keyK, [bEx, cEx]⟩ l bEx 0 = R at *
    obtain ⟨R1, R2, ri⟩ := R
    replace m0 := c2.blk _ _ n1 (by simp) m0
    have n2 := c2.next
    refine kAll (c2.keep f1) ?_
    (repeat(first|refine sb ?_|refine kNo ?_|refine gOn rfl ?_|refine gOff rfl rfl ?_|refine gTup rfl ?_))
    refine st_abs (cs' := adC2 R1 R2) rfl rfl m0 (Nat.lt_of_lt_of_le n1 n2) rfl rfl fun s3 e3 c3 n3 => ?_
    have c4 := ((m1.nil c1).nil c2).fresh c3 (by simp)
    refine kNo ?_
    (repeat(first|refine sb ?_|refine kNo ?_|refine gOn rfl ?_|refine gOff rfl rfl ?_|refine gTup rfl ?_))
    intro q hq
    obtain rfl : q = false := by rw [hq]; simp
    (repeat(first|refine sb ?_|refine kNo ?_|refine gOn rfl ?_|refine gOff rfl rfl ?_|refine gTup rfl ?_))
    exact ⟨rfl, MapL.back ⟨rfl, rfl, rfl, rfl, trivial⟩ (lgK_fine hF) rfl hn' c4⟩
  · intro n seen hn
    (repeat(first|refine sb ?_|refine kNo ?_|refine gOn rfl ?_|refine gOff rfl rfl ?_|refine gTup rfl ?_))
    exact ⟨rfl, MapL.over ⟨rfl, rfl, rfl, rfl, trivial⟩ (lgK_fine hF) rfl⟩
  intro N hN
  have hN' : s.next + 1 + 1 ≤ N := hN
  (repeat(first|refine sb ?_|refine kNo ?_|refine gOn rfl ?_|refine gOff rfl rfl ?_|refine gTup rfl ?_))
  exact ⟨rfl, lgK_end hF (by omega)⟩

/-! ### What is left -/
/-- The coders that may not be. -/
structure Bad (s : SS) (v : List Value) : Prop where
  out : ∃ (sec : List UInt8) (ds : List (List UInt8)) (W : Option Addr) (cw : Nat), v = [str sec, .slice W ds.length cw] ∧ DomAt s W cw ds ∧ sec.length ≤ 1000 ∧ SmallD ds ∧ cmayF ⟨sec, ds⟩ = false
theorem Bad.chg {s s' : SS} {v : List Value} (h : Bad s v) (c : Chg s s' []) : Bad s' v := by
  obtain ⟨sec, ds, W, cw, h1, h2, h3, h4, h5⟩ := h.out
  exact ⟨⟨sec, ds, W, cw, h1, h2.chg c (by simp), h3, h4, h5⟩⟩
abbrev sl1 (b n : Nat) : Value := .slice (some ⟨b, 0, none⟩) n n
def badV (n : Nat) : List Value := [str [], .slice none 0 0, str [107], .slice none 0 0, str [], sl1 n 1, str (Lib.repeatL [107] 65), sl1 (n + 1) 1, str [107], sl1 (n + 2) 1, str [107], sl1 (n + 3) 9]
theorem small_r {n : Nat} (h : n ≤ 1000) : SmallD (List.replicate n []) := ⟨by rw [List.length_replicate]; exact h, fun d hd => by rw [(List.mem_replicate.1 hd).2]; simp⟩
theorem bad_at {s : SS} {n : Nat} (r0 : RowC s n [bEx]) (r1 : RowC s (n + 1) [bEx]) (r2 : RowC s (n + 2) [[45]]) (r3 : RowC s (n + 3) (List.replicate 9 [])) : ∀ i, i < 6 → ∃ v, takeN 2 ((badV n).drop (i * 2)) = some v ∧ Bad s v := by
  obtain ⟨⟨w0, w1, w2⟩, w3, w4, w5⟩ := k_wrong
  intro i hi
  rcases (show i = 0 ∨ i = 1 ∨ i = 2 ∨ i = 3 ∨ i = 4 ∨ i = 5 by omega) with rfl | rfl | rfl | rfl | rfl | rfl
  · exact ⟨_, rfl, ⟨_, [], none, 0, rfl, .inl ⟨rfl, rfl, rfl⟩, by decide, ⟨by decide, fun d hd => by simp at hd⟩, w0⟩⟩
  · exact ⟨_, rfl, ⟨_, [], none, 0, rfl, .inl ⟨rfl, rfl, rfl⟩, by decide, ⟨by decide, fun d hd => by simp at hd⟩, w1⟩⟩
  · exact ⟨_, rfl, ⟨_, [bEx], _, 1, rfl, dom_1 r0, by decide, small_1 (by decide), w2⟩⟩
  · exact ⟨_, rfl, ⟨_, [bEx], _, 1, rfl, dom_1 r1, by decide +kernel, small_1 (by decide), w3⟩⟩
  · exact ⟨_, rfl, ⟨_, [[45]], _, 1, rfl, dom_1 r2, by decide, small_1 (by decide), w4⟩⟩
  · exact ⟨_, rfl, ⟨_, List.replicate 9 [], _, 9, rfl, .inr ⟨_, rfl, rfl, r3⟩, by decide, small_r (by decide), w5⟩⟩
set_option maxHeartbeats 4000000 in
theorem ktail12_w {s : SS} {c b : Nat} (hG : Gk s) (hF : Fine s) (hK : KSt s c b) {k : Nat} : W pr 210 k code_K12_TL [(0, .bool false), (1, ptR c)] s (runQ pr [.tmp 0] fun v s' => v = .bool true) := by
  refine comp_ok good ok_K12_TL (Box.out (p := wp pr 210 k _ _ _ _) ?_)
  have hX : (Lib.repeatL [120] 45).length = 45 := by decide +kernel
  (try (first|refine pSeq ?_|refine pReg ?_)); (repeat(first|refine sb ?_|refine kNo ?_|refine gOn rfl ?_|refine gOff rfl rfl ?_|refine gTup rfl ?_))
  refine (srepeat_w (l := [120]) (n := 45) (by decide) (by decide)).mono fun v s q => ?_
  obtain ⟨rfl, rfl⟩ := q
  (repeat(first|refine sb ?_|refine kNo ?_|refine gOn rfl ?_|refine gOff rfl rfl ?_|refine gTup rfl ?_))
  refine ldN_is rfl hK.k rfl ?_
  (repeat(first|refine sb ?_|refine kNo ?_|refine gOn rfl ?_|refine gOff rfl rfl ?_|refine gTup rfl ?_))
  refine (forward_w (sec := keyK) (ds := [bEx, cEx]) (a := Lib.repeatL [120] 45) (d := aEx) (day := 0) hG hF hK.dom (by decide) small_K (by rw [hX]; decide) (by decide) (by decide)).mono fun v s1 q => ?_
  obtain ⟨rfl, c1⟩ := q
  rw [kf3]
  have f1 := c1.fine hF
  obtain ⟨k0, k1, k2⟩ := new1_at f1 (.cells (adC2 [] []) tAd false false)
  (repeat(first|refine sb ?_|refine kNo ?_|refine gOn rfl ?_|refine gOff rfl rfl ?_|refine gTup rfl ?_))
  refine st_abs (cs' := adC2 (Lib.repeatL [120] 45) aEx) rfl rfl k0 (Nat.lt_succ_self _) rfl rfl fun s2 e14 c2 n2 => ?_
  replace n2 : s2.next = s1.next + 1 := n2
  replace c2 : Chg s s2 [] := c1.nil (k1.fresh c2 (by simp))
  have f2 := c2.fine hF
  have hK2 := hK.chg c2
  clear k0 k1 k2
  (repeat(first|refine sb ?_|refine kNo ?_|refine gOn rfl ?_|refine gOff rfl rfl ?_|refine gTup rfl ?_))
  refine ldN_is rfl hK2.k rfl ?_
  (repeat(first|refine sb ?_|refine kNo ?_|refine gOn rfl ?_|refine gOff rfl rfl ?_|refine gTup rfl ?_))
  refine (forward_w (sec := keyK) (ds := [bEx, cEx]) (a := [83, 82, 83, 49, 61, 110, 111, 116, 104, 105, 110, 103]) (d := [102, 97, 114, 46, 110, 101, 116]) (day := 0) (hG.nil c2) f2 hK2.dom (by decide) small_K (by decide) (by decide) (by decide)).mono fun v s3 q => ?_
  obtain ⟨rfl, c3⟩ := q
  rw [kf4]
  have f3 := c3.fine f2
  have n3 := c3.next
  replace e14 := c3.blk _ _ (show s1.next < s2.next by omega) (by simp) e14
  obtain ⟨k0, k1, k2⟩ := new1_at f3 (.cells (adC2 [] []) tAd false false)
  (repeat(first|refine sb ?_|refine kNo ?_|refine gOn rfl ?_|refine gOff rfl rfl ?_|refine gTup rfl ?_))
  refine st_abs (cs' := adC2 kF4 bEx) rfl rfl k0 (Nat.lt_succ_self _) rfl rfl fun s4 e16 c4 n4 => ?_
  replace n4 : s4.next = s3.next + 1 := n4
  replace c4 : Chg s3 s4 [] := k1.fresh c4 (by simp)
  replace e14 := c4.blk _ _ (show s1.next < s3.next by omega) (by simp) e14
  replace c4 : Chg s s4 [] := c2.nil (c3.nil c4)
  have f4 := c4.fine hF
  have hK4 := hK.chg c4
  clear k0 k1 k2
  (repeat(first|refine sb ?_|refine kNo ?_|refine gOn rfl ?_|refine gOff rfl rfl ?_|refine gTup rfl ?_))
  refine mkS_is rfl rfl (rNew f4.at ?_)
  obtain ⟨_, _, f5⟩ := new1_at f4 (.cells (strV [bEx]) tS false false)
  (repeat(first|refine sb ?_|refine kNo ?_|refine gOn rfl ?_|refine gOff rfl rfl ?_|refine gTup rfl ?_))
  refine mkS_is rfl rfl (rNew f5.at ?_)
  obtain ⟨_, _, _, f6⟩ := new2_at f4 (.cells (strV [bEx]) tS false false) (.cells (strV [bEx]) tS false false)
  (repeat(first|refine sb ?_|refine kNo ?_|refine gOn rfl ?_|refine gOff rfl rfl ?_|refine gTup rfl ?_))
  refine mkS_is rfl rfl (rNew f6.at ?_)
  obtain ⟨_, _, _, _, f7⟩ := new3_at f4 (.cells (strV [bEx]) tS false false) (.cells (strV [bEx]) tS false false) (.cells (strV [[45]]) tS false false)
  (repeat(first|refine sb ?_|refine kNo ?_|refine gOn rfl ?_|refine gOff rfl rfl ?_|refine gTup rfl ?_))
  refine ⟨⟨by decide, by decide, by decide, by decide⟩, ?_⟩
  intro m n hm hn cs hcs
  obtain rfl : m = 9 := by omega
  obtain rfl : n = 9 := by omega
  obtain rfl : cs = strV (List.replicate 9 []) := by rw [hcs, repeat_str]; rfl
  clear hcs hm hn
  refine rNew f7.at ?_
  obtain ⟨r0, r1, r2, r3, c8, f8⟩ := new4_at f4 (.cells (strV [bEx]) tS false false) (.cells (strV [bEx]) tS false false) (.cells (strV [[45]]) tS false false) (.cells (strV (List.replicate 9 [])) tS false false)
  (repeat(first|refine sb ?_|refine kNo ?_|refine gOn rfl ?_|refine gOff rfl rfl ?_|refine gTup rfl ?_))
  refine (srepeat_w (l := [107]) (n := 65) (by decide) (by decide)).mono fun v s8 q => ?_
  obtain ⟨rfl, rfl⟩ := q
  refine kAll .refl ?_
  (repeat(first|refine sb ?_|refine kNo ?_|refine gOn rfl ?_|refine gOff rfl rfl ?_|refine gTup rfl ?_))
  refine mkS_is rfl rfl (rNew f8.at ?_)
  obtain ⟨m0, m1, m2⟩ := new1_at f8 (.cells (badV s4.next) tCo false false)
  have q0 : RowC _ s4.next [bEx] := RowC.chg ⟨show s4.next < s4.next + 1 + 1 + 1 + 1 by omega, r0⟩ m1 (by simp)
  have q1 : RowC _ (s4.next + 1) [bEx] := RowC.chg ⟨show s4.next + 1 < s4.next + 1 + 1 + 1 + 1 by omega, r1⟩ m1 (by simp)
  have q2 : RowC _ (s4.next + 2) [[45]] := RowC.chg ⟨show s4.next + 2 < s4.next + 1 + 1 + 1 + 1 by omega, r2⟩ m1 (by simp)
  have q3 : RowC _ (s4.next + 3) (List.replicate 9 []) := RowC.chg ⟨show s4.next + 3 < s4.next + 1 + 1 + 1 + 1 by omega, r3⟩ m1 (by simp)
  have hbad := bad_at q0 q1 q2 q3
  (repeat(first|refine sb ?_|refine kNo ?_|refine gOn rfl ?_|refine gOff rfl rfl ?_|refine gTup rfl ?_))
  have c9 := c8.nil m1
  have e14b := c9.blk _ _ (show s1.next < s4.next by omega) (by simp) e14
  have e16b := c9.blk _ _ (show s3.next < s4.next by omega) (by simp) e16
  refine pLoop (MW.head good (fun x : Nat × SS => 6 - x.1) (fun x => x.1 ≤ 6 ∧ Chg s x.2 [] ∧ (s4.next + 1 + 1 + 1 + 1 < x.2.next ∧ lookH x.2.heap (s4.next + 1 + 1 + 1 + 1) = some (.cells (badV s4.next) tCo false false)) ∧ (∀ i, i < 6 → ∃ v, takeN 2 ((badV s4.next).drop (i * 2)) = some v ∧ Bad x.2 v) ∧ lookH x.2.heap s1.next = some (.cells (adC2 (Lib.repeatL [120] 45) aEx) tAd false false) ∧ lookH x.2.heap s3.next = some (.cells (adC2 kF4 bEx) tAd false false))
    (fun x => [(1, ptR c), (13, str (Lib.repeatL [120] 45)), (14, ptR s1.next), (15, .int .i64 (3 : Nat)), (16, ptR s3.next), (17, .int .i64 (0 : Nat)), (172, .slice (some ⟨s4.next + 1 + 1 + 1 + 1, 0, none⟩) 6 6), (173, .int .i64 (6 : Nat)), (174, .int .i64 x.1)]) (fun x => x.2) (0, _) ⟨Nat.zero_le _, c4.nil c9, ⟨Nat.lt_succ_self _, m0⟩, hbad, e14b, e16b⟩ (Wk.same ⟨rfl, rfl, rfl, rfl, rfl, rfl, rfl, rfl, rfl, trivial⟩) ?_)
  clear hbad e14b e16b q0 q1 q2 q3 m0 m1 m2 r0 r1 r2 r3 c8 f8 c9
  rintro ⟨i, t1⟩ ⟨hi, d1, ⟨hl1, hb1⟩, hbad, x14, x16⟩
  dsimp only at hi d1 hl1 hb1 hbad x14 x16 ⊢
  have g1 := d1.fine hF
  have hK1 := hK.chg d1
  (repeat(first|refine sb ?_|refine kNo ?_|refine gOn rfl ?_|refine gOff rfl rfl ?_|refine gTup rfl ?_))
  intro q hq
  by_cases h6 : i < 6
  case pos =>
    obtain rfl : q = true := by rw [hq]; exact decide_eq_true (by omega)
    obtain ⟨v, hv1, hv2⟩ := hbad i h6
    obtain ⟨sec, ds, W, cw, rfl, hv4, hv5, hv6, hv7⟩ := hv2.out
    (repeat(first|refine sb ?_|refine kNo ?_|refine gOn rfl ?_|refine gOff rfl rfl ?_|refine gTup rfl ?_))
    refine ⟨by omega, ?_⟩
    intro m hm o ho
    obtain rfl : m = i := by omega
    (repeat(first|refine sb ?_|refine kNo ?_|refine gOn rfl ?_|refine gOff rfl rfl ?_|refine gTup rfl ?_))
    refine ldN_is rfl hb1 (by rw [ho, Nat.zero_add]; exact hv1) ?_
    obtain ⟨k0, k1, k2⟩ := new1_at g1 (.cells [str [], .slice none 0 0] tCo false false)
    (repeat(first|refine sb ?_|refine kNo ?_|refine gOn rfl ?_|refine gOff rfl rfl ?_|refine gTup rfl ?_))
    refine st_abs (cs' := [str sec, .slice W ds.length cw]) rfl rfl k0 (Nat.lt_succ_self _) rfl rfl fun t2 y2 d2 m2 => ?_
    replace d2 : Chg t1 t2 [] := k1.fresh d2 (by simp)
    have g2 := d2.fine g1
    (repeat(first|refine sb ?_|refine kNo ?_|refine gOn rfl ?_|refine gOff rfl rfl ?_|refine gTup rfl ?_))
    refine ldN_is rfl y2 rfl ?_
    (repeat(first|refine sb ?_|refine kNo ?_|refine gOn rfl ?_|refine gOff rfl rfl ?_|refine gTup rfl ?_))
    refine (cmay_w g2 (hv4.chg d2 (by simp)) hv5 hv6).mono fun v t3 q => ?_
    obtain ⟨rfl, d3⟩ := q
    rw [hv7]
    have d13 := d2.nil d3
    (repeat(first|refine sb ?_|refine kNo ?_|refine gOn rfl ?_|refine gOff rfl rfl ?_|refine gTup rfl ?_))
    intro z hz
    rw [i64_id (by omega)] at hz
    obtain rfl : z = ((m + 1 : Nat) : Int) := by omega
    (repeat(first|refine sb ?_|refine kNo ?_|refine gOn rfl ?_|refine gOff rfl rfl ?_|refine gTup rfl ?_))
    exact ⟨(m + 1, t3), ⟨by show m + 1 ≤ 6; omega, d1.nil d13, ⟨Nat.lt_of_lt_of_le hl1 d13.next, d13.blk _ _ hl1 (by simp) hb1⟩, fun j hj => by obtain ⟨u, u1, u2⟩ := hbad j hj; exact ⟨u, u1, u2.chg d13⟩, d13.blk _ _ (show s1.next < t1.next by omega) (by simp) x14, d13.blk _ _ (show s3.next < t1.next by omega) (by simp) x16⟩, by show 6 - (m + 1) < 6 - m; omega, Wk.same ⟨rfl, rfl, rfl, rfl, rfl, rfl, rfl, rfl, rfl, trivial⟩⟩
  obtain rfl : q = false := by rw [hq]; exact decide_eq_false (by omega)
  (repeat(first|refine sb ?_|refine kNo ?_|refine gOn rfl ?_|refine gOff rfl rfl ?_|refine gTup rfl ?_))
  intro q hq
  obtain rfl : q = true := by rw [hq]; rfl
  (repeat(first|refine sb ?_|refine kNo ?_|refine gOn rfl ?_|refine gOff rfl rfl ?_|refine gTup rfl ?_))
  refine ldS_is rfl x14 rfl ?_
  (repeat(first|refine sb ?_|refine kNo ?_|refine gOn rfl ?_|refine gOff rfl rfl ?_|refine gTup rfl ?_))
  intro q hq
  obtain rfl : q = true := by rw [hq]; exact decide_eq_true rfl
  (repeat(first|refine sb ?_|refine kNo ?_|refine gOn rfl ?_|refine gOff rfl rfl ?_|refine gTup rfl ?_))
  intro q hq
  obtain rfl : q = true := by rw [hq]; rfl
  (repeat(first|refine sb ?_|refine kNo ?_|refine gOn rfl ?_|refine gOff rfl rfl ?_|refine gTup rfl ?_))
  refine ldS_is rfl x16 rfl ?_
  (repeat(first|refine sb ?_|refine kNo ?_|refine gOn rfl ?_|refine gOff rfl rfl ?_|refine gTup rfl ?_))
  refine (hasSuffix_w (a := kF4) (b := [61, 65, 65, 61, 102, 97, 114, 46, 110, 101, 116, 61, 83, 82, 83, 49, 61, 110, 111, 116, 104, 105, 110, 103]) (by decide)).mono fun v t1 q => ?_
  obtain ⟨rfl, rfl⟩ := q
  rw [show decide ([61, 65, 65, 61, 102, 97, 114, 46, 110, 101, 116, 61, 83, 82, 83, 49, 61, 110, 111, 116, 104, 105, 110, 103] <:+ kF4) = true by decide]
  (repeat(first|refine sb ?_|refine kNo ?_|refine gOn rfl ?_|refine gOff rfl rfl ?_|refine gTup rfl ?_))
  refine ldN_is rfl hK1.k rfl ?_
  (repeat(first|refine sb ?_|refine kNo ?_|refine gOn rfl ?_|refine gOff rfl rfl ?_|refine gTup rfl ?_))
  refine (ours_w (sec := keyK) (ds := [bEx, cEx]) (a := []) (d := [67, 46, 69, 120, 97, 109, 112, 108, 101]) g1 hK1.dom (by decide) (by decide)).mono fun v t2 q => ?_
  obtain ⟨rfl, d2⟩ := q
  rw [k_ours]
  have g2 := d2.fine g1
  have hK2 := hK1.chg d2
  (repeat(first|refine sb ?_|refine kNo ?_|refine gOn rfl ?_|refine gOff rfl rfl ?_|refine gTup rfl ?_))
  refine ldN_is rfl hK2.k rfl ?_
  (repeat(first|refine sb ?_|refine kNo ?_|refine gOn rfl ?_|refine gOff rfl rfl ?_|refine gTup rfl ?_))
  refine (cmay_w (sec := keyK) (ds := [bEx, cEx]) g2 hK2.dom (by decide) small_K).mono fun v t3 q => ?_
  obtain ⟨rfl, d3⟩ := q
  rw [k_may]
  (repeat(first|refine sb ?_|refine kNo ?_|refine gOn rfl ?_|refine gOff rfl rfl ?_|refine gTup rfl ?_))
  refine (tells12_w (hG.nil ((d1.nil d2).nil d3)) (d3.fine g2)).mono fun v t4 q => ?_
  obtain ⟨rfl, _⟩ := q
  (repeat(first|refine sb ?_|refine kNo ?_|refine gOn rfl ?_|refine gOff rfl rfl ?_|refine gTup rfl ?_))
  rfl
end Go.Vf.S
end
section
/- The law SrsKnown, from any state in which the kinds lie. -/
namespace Go.Vf.S
open Go Go.Vf Go.Proofs
attribute [local irreducible] wSeq wRow wp wG hmac tellF pstF tagF agF mayF domF cmayF nsF oursF isF fwdF revF firstF
set_option linter.unusedVariables false
set_option linter.unusedSimpArgs false
set_option maxRecDepth 10000

set_option maxHeartbeats 4000000 in
theorem lsknown_w {s : SS} (hG : Gk s) (hF : Fine s) : CallW pr n_law12_SrsKnown [] s fun v s' => v = .bool true := by
  refine CallW.pieces (nt := 210) (res := [.tmp 0]) (c := .seq code_K12_R0 (.seq code_K12_R1 (.seq code_K12_R2 (.seq code_K12_R3 (.seq code_K12_R4 (.seq code_K12_R5 (.seq code_K12_R6 (.seq code_K12_R7 (.seq (.seq (.region 9 ops_K12_O9 true) code_K12_B9) code_K12_TL))))))))) (by kernel_rfl) (by kernel_rfl) (by kernel_rfl) (by kernel_rfl) (by simp) ?_
  refine W.seq (comp_ok good ok_K12_R0 (Box.out (p := wp pr 210 s.next _ _ _ _) ?_))
  (try (first|refine pSeq ?_|refine pReg ?_)); (repeat(first|refine sb ?_|refine kNo ?_|refine gOn rfl ?_|refine gOff rfl rfl ?_|refine gTup rfl ?_))
  refine W.seq (comp_ok good ok_K12_R1 (Box.out (p := wp pr 210 s.next _ _ _ _) ?_))
  obtain ⟨h0, h1, c0, f0⟩ := new2_at hF (.cells (strV [bEx, cEx]) tS false false) (.cells [str [], .slice none 0 0] tCo false false)
  (try (first|refine pSeq ?_|refine pReg ?_)); (repeat(first|refine sb ?_|refine kNo ?_|refine gOn rfl ?_|refine gOff rfl rfl ?_|refine gTup rfl ?_))
  refine st_abs (cs' := [str keyK, .slice (some ⟨s.next, 0, none⟩) 2 2]) rfl rfl h1 (show s.next + 1 < s.next + 1 + 1 by omega) rfl rfl fun s1 e1 c1 n1 => ?_
  replace h0 := c1.blk _ _ (show s.next < s.next + 1 + 1 by omega) (by simp) h0
  replace n1 : s1.next = s.next + 1 + 1 := n1
  replace c1 : Chg s s1 [] := c0.fresh c1 (by simp)
  have f1 := c1.fine hF
  have hK : KSt s1 (s.next + 1) s.next := ⟨by omega, e1, ⟨by omega, h0⟩⟩
  clear h0 h1 c0 f0 e1
  (repeat(first|refine sb ?_|refine kNo ?_|refine gOn rfl ?_|refine gOff rfl rfl ?_|refine gTup rfl ?_))
  refine W.seq (comp_ok good ok_K12_R2 (Box.out (p := wp pr 210 s.next _ _ _ _) ?_))
  (try (first|refine pSeq ?_|refine pReg ?_)); (repeat(first|refine sb ?_|refine kNo ?_|refine gOn rfl ?_|refine gOff rfl rfl ?_|refine gTup rfl ?_))
  refine W.seq (comp_ok good ok_K12_R3 (Box.out (p := wp pr 210 s.next _ _ _ _) ?_))
  (try (first|refine pSeq ?_|refine pReg ?_)); (repeat(first|refine sb ?_|refine kNo ?_|refine gOn rfl ?_|refine gOff rfl rfl ?_|refine gTup rfl ?_))
  refine gen_vc rfl rfl (callV_cs ok_law12_SrsKnown_1 [] _) ?_
  refine (tagk_w (l := [97, 97, 97, 46, 101, 120, 97, 109, 112, 108, 101, 97, 110, 110]) (hG.nil c1) (by decide)).mono fun v s1 q => ?_
  obtain ⟨rfl, rfl⟩ := q
  rw [tg1]
  (repeat(first|refine sb ?_|refine kNo ?_|refine gOn rfl ?_|refine gOff rfl rfl ?_|refine gTup rfl ?_))
  refine W.seq (comp_ok good ok_K12_R4 (Box.out (p := wp pr 210 s.next _ _ _ _) ?_))
  (try (first|refine pSeq ?_|refine pReg ?_)); (repeat(first|refine sb ?_|refine kNo ?_|refine gOn rfl ?_|refine gOff rfl rfl ?_|refine gTup rfl ?_))
  refine W.seq (comp_ok good ok_K12_R5 (Box.out (p := wp pr 210 s.next _ _ _ _) ?_))
  (try (first|refine pSeq ?_|refine pReg ?_)); (repeat(first|refine sb ?_|refine kNo ?_|refine gOn rfl ?_|refine gOff rfl rfl ?_|refine gTup rfl ?_))
  refine ldN_is rfl hK.k rfl ?_
  (repeat(first|refine sb ?_|refine kNo ?_|refine gOn rfl ?_|refine gOff rfl rfl ?_|refine gTup rfl ?_))
  refine (forward_w (sec := keyK) (ds := [bEx, cEx]) (a := [65, 110, 110]) (d := [65, 46, 101, 120, 97, 109, 112, 108, 101]) (day := 0) (hG.nil c1) f1 hK.dom (by decide) small_K (by decide) (by decide) (by decide)).mono fun v s2 q => ?_
  obtain ⟨rfl, c2⟩ := q
  rw [kf1]
  have f2 := c2.fine f1
  have n2 := c2.next
  obtain ⟨k0, k1, k2⟩ := new1_at f2 (.cells (adC2 [] []) tAd false false)
  (repeat(first|refine sb ?_|refine kNo ?_|refine gOn rfl ?_|refine gOff rfl rfl ?_|refine gTup rfl ?_))
  refine st_abs (cs' := adC2 kF1 bEx) rfl rfl k0 (Nat.lt_succ_self _) rfl rfl fun s3 e5 c3 n3 => ?_
  replace n3 : s3.next = s2.next + 1 := n3
  replace c3 : Chg s1 s3 [] := c2.nil (k1.fresh c3 (by simp))
  have f3 := c3.fine f1
  replace hK := hK.chg c3
  replace c3 := c1.nil c3
  clear c2 f2 k0 k1 k2
  (repeat(first|refine sb ?_|refine kNo ?_|refine gOn rfl ?_|refine gOff rfl rfl ?_|refine gTup rfl ?_))
  refine W.seq (comp_ok good ok_K12_R6 (Box.out (p := wp pr 210 s.next _ _ _ _) ?_))
  (try (first|refine pSeq ?_|refine pReg ?_)); (repeat(first|refine sb ?_|refine kNo ?_|refine gOn rfl ?_|refine gOff rfl rfl ?_|refine gTup rfl ?_))
  refine ldN_is rfl hK.k rfl ?_
  (repeat(first|refine sb ?_|refine kNo ?_|refine gOn rfl ?_|refine gOff rfl rfl ?_|refine gTup rfl ?_))
  refine (forward_w (sec := keyK) (ds := [bEx, cEx]) (a := [115, 114, 115, 48, 61, 120]) (d := [70, 97, 114, 46, 110, 101, 116]) (day := 9) (hG.nil c3) f3 hK.dom (by decide) small_K (by decide) (by decide) (by decide)).mono fun v s4 q => ?_
  obtain ⟨rfl, c4⟩ := q
  rw [kf2]
  have f4 := c4.fine f3
  have n4 := c4.next
  obtain ⟨k0, k1, k2⟩ := new1_at f4 (.cells (adC2 [] []) tAd false false)
  (repeat(first|refine sb ?_|refine kNo ?_|refine gOn rfl ?_|refine gOff rfl rfl ?_|refine gTup rfl ?_))
  refine st_abs (cs' := adC2 kF2 bEx) rfl rfl k0 (Nat.lt_succ_self _) rfl rfl fun s5 e7 c5 n5 => ?_
  replace n5 : s5.next = s4.next + 1 := n5
  replace c5 : Chg s3 s5 [] := c4.nil (k1.fresh c5 (by simp))
  replace e5 := c5.blk _ _ (show s2.next < s3.next by omega) (by simp) e5
  replace hK := hK.chg c5
  replace c5 := c3.nil c5
  have f5 := c5.fine hF
  clear c4 f4 k0 k1 k2
  (repeat(first|refine sb ?_|refine kNo ?_|refine gOn rfl ?_|refine gOff rfl rfl ?_|refine gTup rfl ?_))
  refine W.seq (comp_ok good ok_K12_R7 (Box.out (p := wp pr 210 s.next _ _ _ _) ?_))
  (try (first|refine pSeq ?_|refine pReg ?_)); (repeat(first|refine sb ?_|refine kNo ?_|refine gOn rfl ?_|refine gOff rfl rfl ?_|refine gTup rfl ?_))
  intro n hn
  (repeat(first|refine sb ?_|refine kNo ?_|refine gOn rfl ?_|refine gOff rfl rfl ?_|refine gTup rfl ?_))
  intro q hq
  obtain rfl : q = false := by rw [hq, hn]; rfl
  (repeat(first|refine sb ?_|refine kNo ?_|refine gOn rfl ?_|refine gOff rfl rfl ?_|refine gTup rfl ?_))
  intro q hq
  obtain rfl : q = false := by rw [hq]; rfl
  (repeat(first|refine sb ?_|refine kNo ?_|refine gOn rfl ?_|refine gOff rfl rfl ?_|refine gTup rfl ?_))
  refine ldN_is rfl e5 rfl ?_
  (repeat(first|refine sb ?_|refine kNo ?_|refine gOn rfl ?_|refine gOff rfl rfl ?_|refine gTup rfl ?_))
  refine ⟨by decide, ?_⟩
  intro w hw
  subst hw
  (repeat(first|refine sb ?_|refine kNo ?_|refine gOn rfl ?_|refine gOff rfl rfl ?_|refine gTup rfl ?_))
  refine ⟨by decide, ?_⟩
  intro w hw
  subst hw
  (repeat(first|refine sb ?_|refine kNo ?_|refine gOn rfl ?_|refine gOff rfl rfl ?_|refine gTup rfl ?_))
  refine gen_v12 rfl rfl (callV_cs ok_law12_SrsKnown_2 [] _) ?_
  refine (atc_w (l := kF1) f5).mono fun v s6 q => ?_
  obtain ⟨rfl, c6⟩ := q
  have f6 := c6.fine f5
  replace e7 := c6.blk _ _ (show s4.next < s5.next by omega) (by simp) e7
  replace hK := hK.chg c6
  have n6 := c6.next
  refine kAll (c6.keep f5) ?_
  replace c6 := c5.nil c6
  (repeat(first|refine sb ?_|refine kNo ?_|refine gOn rfl ?_|refine gOff rfl rfl ?_|refine gTup rfl ?_))
  intro q hq
  obtain rfl : q = false := by rw [hq]; simp
  (repeat(first|refine sb ?_|refine kNo ?_|refine gOn rfl ?_|refine gOff rfl rfl ?_|refine gTup rfl ?_))
  intro q hq
  obtain rfl : q = false := by rw [hq]; rfl
  (repeat(first|refine sb ?_|refine kNo ?_|refine gOn rfl ?_|refine gOff rfl rfl ?_|refine gTup rfl ?_))
  refine ldN_is rfl e7 rfl ?_
  (repeat(first|refine sb ?_|refine kNo ?_|refine gOn rfl ?_|refine gOff rfl rfl ?_|refine gTup rfl ?_))
  refine gen_vc rfl rfl (callV_cs ok_law12_SrsKnown_1 [] _) ?_
  refine (tagk_w (l := [102, 97, 114, 46, 110, 101, 116, 61, 120]) (hG.nil c6) (by decide)).mono fun v s6 q => ?_
  obtain ⟨rfl, rfl⟩ := q
  rw [tg4]
  refine kAll .refl ?_
  (repeat(first|refine sb ?_|refine kNo ?_|refine gOn rfl ?_|refine gOff rfl rfl ?_|refine gTup rfl ?_))
  refine ⟨by decide, ?_⟩
  intro w hw
  subst hw
  (repeat(first|refine sb ?_|refine kNo ?_|refine gOn rfl ?_|refine gOff rfl rfl ?_|refine gTup rfl ?_))
  refine ⟨by decide, ?_⟩
  intro w hw
  subst hw
  (repeat(first|refine sb ?_|refine kNo ?_|refine gOn rfl ?_|refine gOff rfl rfl ?_|refine gTup rfl ?_))
  refine gen_v12 rfl rfl (callV_cs ok_law12_SrsKnown_2 [] _) ?_
  refine (atc_w (l := kF2) f6).mono fun v s7 q => ?_
  obtain ⟨rfl, c7⟩ := q
  replace hK := hK.chg c7
  refine kAll (c7.keep f6) ?_
  replace c7 := c6.nil c7
  have f7 := c7.fine hF
  (repeat(first|refine sb ?_|refine kNo ?_|refine gOn rfl ?_|refine gOff rfl rfl ?_|refine gTup rfl ?_))
  intro q hq
  obtain rfl : q = false := by rw [hq]; simp
  (repeat(first|refine sb ?_|refine kNo ?_|refine gOn rfl ?_|refine gOff rfl rfl ?_|refine gTup rfl ?_))
  refine W.weak (k := s.next) (T' := sK (s.next + 1)) (s' := s7) (Wk.same ⟨rfl, rfl, rfl, rfl, rfl, trivial⟩) ?_
  have hG7 := hG.nil c7
  refine W.seq (k := s.next) (W.litA (z := zK) (g := s7) (T' := [(0, .bool false), (1, ptR (s.next + 1))]) (ex := .normal) good (by kernel_rfl) zK_ok um_e12 un_S (gkL hG7) pureK rfl (fun π hπ => loopK_w hG7 f7 hK hπ) fun n hn => ?_)
  have g1 : Gk (s7.upto n) := ⟨hG7.g, Nat.lt_of_lt_of_le hG7.n hn, hG7.b⟩
  have g2 : Fine (s7.upto n) := fun id hid => f7 id (Nat.le_trans hn hid)
  have g3 : KSt (s7.upto n) (s.next + 1) s.next := ⟨Nat.lt_of_lt_of_le hK.l hn, hK.k, ⟨Nat.lt_of_lt_of_le hK.r.1 hn, hK.r.2⟩⟩
  exact ktail12_w g1 g2 g3
end Go.Vf.S
end
section
/- Starts that know some of their blocks. -/
namespace Go.Vf.S
open Go Go.Vf Go.Proofs Go.Proofs.YtgddphciejoljaaGreatDoor Go.RowKit Go.ChangeShapes
set_option linter.unusedVariables false
set_option linter.unusedSimpArgs false

def renO (bs : List (RE × Option ABlk)) : Ren := fun id => bs[id]?.map Prod.fst
def heapO : Nat → List (RE × Option ABlk) → List (Nat × Option ABlk)
  | _, [] => []
  | n, (_, b) :: r => (n, b) :: heapO (n + 1) r
theorem heapO_look : ∀ (l : List (RE × Option ABlk)) (n id : Nat), lookH (heapO n l) id = if n ≤ id then (l[id - n]?.map Prod.snd).join else none
  | [], n, id => by simp [heapO, lookH]
  | (e, b) :: r, n, id => by
    simp only [heapO, lookH]
    rcases beq_cases n id with ⟨h, hb⟩ | ⟨h, hb⟩
    · subst h; simp
    · rw [hb, cond_false, heapO_look r (n + 1) id]
      by_cases h1 : n + 1 ≤ id
      · rw [if_pos h1, if_pos (by omega), show id - n = (id - (n + 1)) + 1 from by omega, List.getElem?_cons_succ]
      · rw [if_neg h1, if_neg (by omega)]
def startO (bs : List (RE × Option ABlk)) (gl : Nat) : SS := ⟨heapO 0 bs, bs.length, gl⟩
theorem startO_rel {P : Program} {W : World} {bs : List (RE × Option ABlk)} {gl : Nat} (h : ∀ (i : Nat) e b, bs[i]? = some (e, some b) → BRel P (renO bs) W e b ∧ b.ro = true) (hl : ∀ (i : Nat) e b, bs[i]? = some (e, b) → e.blk < W.heap.size)
    (hg : ∀ g, g < gl → ∃ e b, bs[g]? = some (e, b) ∧ e.blk = g ∧ e.off = 0) : HRel P W.heap.size W (renO bs) (startO bs gl).st W ∧ FreeFrom (renO bs) (startO bs gl).next := by
  have get : ∀ id b e, (startO bs gl).st.heap.get id = some b → renO bs id = some e → bs[id]? = some (e, some b) := by
    intro id b e hb he
    rw [SS.get] at hb
    simp only [startO, heapO_look, Nat.zero_le, if_true, Nat.sub_zero] at hb
    simp only [renO] at he
    cases hx : bs[id]? with
    | none => rw [hx] at hb; cases hb
    | some x =>
      rw [hx] at hb he
      obtain ⟨e', b'⟩ := x
      cases he
      simp only [Option.map_some, Option.join_some] at hb
      subst hb
      rfl
  refine ⟨⟨.refl _ _, Nat.le_refl _, .refl _, ?_, ?_, ?_, ?_, ?_⟩, ?_⟩
  · intro id b e hb he; exact (h _ _ _ (get _ _ _ hb he)).1
  · intro id b e hb he hr; rw [(h _ _ _ (get _ _ _ hb he)).2] at hr; cases hr
  · intro i j b b' e e' _ hb _ he hr; rw [(h _ _ _ (get _ _ _ hb he)).2] at hr; cases hr
  · intro id e he
    simp only [renO] at he
    cases hx : bs[id]? with
    | none => rw [hx] at he; cases he
    | some x =>
      rw [hx] at he
      obtain ⟨e', b'⟩ := x
      cases he
      exact hl _ _ _ hx
  · intro g hlt
    obtain ⟨e, b, h1, h2, h3⟩ := hg g hlt
    exact ⟨e, by simp [renO, h1], h2, h3⟩
  · intro id hid
    simp only [renO]
    rw [List.getElem?_eq_none (by exact hid)]; rfl
theorem startO_fine (bs : List (RE × Option ABlk)) (gl : Nat) : Fine (startO bs gl) := fun id hid => by
  show lookH (heapO 0 bs) id = none
  rw [heapO_look, List.getElem?_eq_none (by simpa [startO] using hid)]
  rfl

end Go.Vf.S
end
section
/- A start that knows the library's own number, and blocks more. -/
namespace Go.Vf.S
open Go Go.Vf Go.Proofs Go.Proofs.YtgddphciejoljaaGreatDoor Go.RowKit Go.ChangeShapes
set_option linter.unusedVariables false
set_option linter.unusedSimpArgs false

abbrev gMax : Nat := 2
theorem max_good {W : World} (h : W.ShapedOpen pr) : ∃ m, GoodB pr W ⟨gMax, 0, 1, 1, false⟩ (.cells [.int .i64 m] 3 false true) := by
  have h0 : ((begin pr (fun _ _ => 0) default).world.heap[gMax]?).bind Obj.row? = some (#[.int .i64 0], 3) := by kernel_rfl
  have hg : gMax < pr.globals.size := by decide +kernel
  obtain ⟨m, hm⟩ := cell_of_shapedOpen_int h hg h0 rfl (by kernel_rfl) (by kernel_rfl) Tryz.underlying3
  obtain ⟨cs, hh, hs, _⟩ := h.1 gMax _ 3 hg h0
  have hcs : cs = #[.int .i64 m] := by
    have h1 : cs.size = 1 := hs
    have h2 : cs[0]? = some (.int .i64 m) := by simpa [World.cell?, hh] using hm
    apply Array.ext'
    have h3 : cs.toList.length = 1 := by simpa using h1
    match hl : cs.toList, h3 with
    | [v], _ =>
      have : cs.toList[0]? = some (.int .i64 m) := by simpa using h2
      rw [hl] at this
      simpa using this
  subst hcs
  refine ⟨m, fun ρ => ⟨rfl, [.int .i64 m], 0, 0, 3, hh, (fun z => by cases z), (fun i _ hh => by omega), Nat.le_refl _, Nat.le_refl _, (by kernel_rfl), fun i v hi => ⟨v, by simpa using hi, plain1_rel ?_⟩⟩, rfl, (Array.getElem?_eq_some_iff.1 hh).1⟩
  match i, hi with
  | 0, hi => cases hi; rfl
  | i + 1, hi => simp at hi


end Go.Vf.S
end
section
/- A start that knows the kinds' table, the library's tables of runes and its own number, and blocks more. -/
namespace Go.Vf.S
open Go Go.Vf Go.Proofs Go.Proofs.YtgddphciejoljaaGreatDoor Go.RowKit Go.ChangeShapes
set_option linter.unusedVariables false
set_option linter.unusedSimpArgs false
set_option maxRecDepth 10000

theorem tabs_laidC {W : World} (h : laidMetH pr laidC W) : Lib.Utf8Tabs gFi gAc W := by
  rw [MakeChecks.laidMetH_plain _ _ _ (by kernel_rfl)] at h
  have e1 : Rows.laid_unicode_utf8_first = Lib.firstData := by kernel_rfl
  have e2 : (Rows.laid_unicode_utf8_acceptRanges : DataW Unit) = Lib.acceptData := by kernel_rfl
  exact utf8Tabs_of_reads (ρ := Tryz.lays230_ren) { Tryz.lays230 with } ⟨by kernel_rfl, by kernel_rfl, by kernel_rfl, by kernel_rfl, by kernel_rfl, by kernel_rfl, by kernel_rfl⟩
    (e1 ▸ Lib.laidMet.reads h (by simp [laidC])) (e2 ▸ Lib.laidMet.reads h (by simp [laidC]))
theorem tab_good {W : World} (hsh : W.ShapedOpen pr) {g n : Nat} (hg : g < pr.globals.size) (h0 : (((begin pr (fun _ _ => 0) default).world.heap[g]?).bind Obj.row?).isSome = true) {vs : List Value} (hp : vs.all plain1 = true) (hn : vs.length = n) (hpos : 0 < n) (h : ∀ c v, vs[c]? = some v → W.cell? ⟨g, c, none⟩ = some v) : GoodB pr W ⟨g, 0, n, 1, false⟩ (.cells vs tU8 false true) := by
  obtain ⟨⟨zero, t⟩, hz⟩ := Option.isSome_iff_exists.1 h0
  obtain ⟨⟨rc⟩, hb, _, _⟩ := hsh.1 g zero t hg hz
  have cell : ∀ c v, vs[c]? = some v → rc[c]? = some v := fun c v hv => by
    have := h c v hv
    rw [cell_at hb] at this
    exact this
  have hroom : n ≤ rc.length := by
    have := cell (n - 1) _ (List.getElem?_eq_getElem (by omega))
    have := (List.getElem?_eq_some_iff.1 this).1
    omega
  exact ⟨fun ρ => ⟨rfl, rc, 0, 0, t, hb, (fun z => by cases z), (fun i hi' hc2 => by omega), by simpa using hroom, by show vs.length ≤ n; omega, (by kernel_rfl), fun i v hv => ⟨v, by simpa using cell i v hv, plain1_rel (List.all_eq_true.1 hp v (List.mem_of_getElem? hv))⟩⟩, rfl, (Array.getElem?_eq_some_iff.1 hb).1⟩

theorem fi_good {W : World} (hsh : W.ShapedOpen pr) (h : Lib.Utf8Tabs gFi gAc W) : GoodB pr W ⟨gFi, 0, 256, 1, false⟩ (.cells fiV tU8 false true) :=
  tab_good hsh (by decide +kernel) (by kernel_rfl) (by simp [fiV, plain1]) (by simp [fiV]) (by omega) fun c v hv => by
    have hc : c < 256 := by
      have := (List.getElem?_eq_some_iff.1 hv).1
      simpa [fiV] using this
    rw [fi_get hc] at hv
    cases hv
    exact h.1 c hc
theorem ac_good {W : World} (hsh : W.ShapedOpen pr) (h : Lib.Utf8Tabs gFi gAc W) : GoodB pr W ⟨gAc, 0, 32, 1, false⟩ (.cells acV tU8 false true) :=
  tab_good hsh (by decide +kernel) (by kernel_rfl) (by simp [acV, plain1]) (by simp [acV]) (by omega) fun c v hv => by
    have hc : c < 32 := by
      have := (List.getElem?_eq_some_iff.1 hv).1
      simpa [acV] using this
    rw [ac_get hc] at hv
    cases hv
    have := h.2 (c / 2) (by omega)
    by_cases q : c % 2 = 0
    · rw [if_pos q]
      have e : 2 * (c / 2) = c := by omega
      rw [e] at this
      exact this.1
    · rw [if_neg q]
      have e : 2 * (c / 2) + 1 = c := by omega
      rw [e] at this
      exact this.2


abbrev gTopR : Nat := max (max gK gMax) (max gFi gAc) + 1
abbrev mxE (m : Int) : ABlk := .cells [.int .i64 m] 3 false true
structure TabsR (W : World) (m : Int) : Prop where
  k : GoodB pr W kE kB
  f : GoodB pr W ⟨gFi, 0, 256, 1, false⟩ (.cells fiV tU8 false true)
  a : GoodB pr W ⟨gAc, 0, 32, 1, false⟩ (.cells acV tU8 false true)
  x : GoodB pr W ⟨gMax, 0, 1, 1, false⟩ (mxE m)
def rAt (m : Int) (i : Nat) : RE × Option ABlk := if i = gK then (kE, some kB) else if i = gFi then (⟨gFi, 0, 256, 1, false⟩, some (.cells fiV tU8 false true)) else if i = gAc then (⟨gAc, 0, 32, 1, false⟩, some (.cells acV tU8 false true)) else if i = gMax then (⟨gMax, 0, 1, 1, false⟩, some (mxE m)) else (⟨i, 0, 0, 1, false⟩, none)
def bsR (m : Int) : List (RE × Option ABlk) := (List.range gTopR).map (rAt m)
def startR (m : Int) : SS := startO (bsR m) gTopR
theorem bsR_len (m : Int) : (bsR m).length = gTopR := by simp [bsR]
theorem bsR_at {m : Int} {i : Nat} (h : i < gTopR) : (bsR m)[i]? = some (rAt m i) := by
  unfold bsR
  rw [List.getElem?_map, List.getElem?_range h]
  rfl
theorem rAt_is (m : Int) (i : Nat) : (rAt m i).1.blk = i ∧ (rAt m i).1.off = 0 ∧ (rAt m i = (kE, some kB) ∨ rAt m i = (⟨gFi, 0, 256, 1, false⟩, some (.cells fiV tU8 false true)) ∨ rAt m i = (⟨gAc, 0, 32, 1, false⟩, some (.cells acV tU8 false true)) ∨ rAt m i = (⟨gMax, 0, 1, 1, false⟩, some (mxE m)) ∨ rAt m i = (⟨i, 0, 0, 1, false⟩, none)) := by
  unfold rAt
  by_cases h1 : i = gK
  · rw [if_pos h1]; exact ⟨h1.symm, rfl, .inl rfl⟩
  · rw [if_neg h1]
    by_cases h2 : i = gFi
    · rw [if_pos h2]; exact ⟨h2.symm, rfl, .inr (.inl rfl)⟩
    · rw [if_neg h2]
      by_cases h3 : i = gAc
      · rw [if_pos h3]; exact ⟨h3.symm, rfl, .inr (.inr (.inl rfl))⟩
      · rw [if_neg h3]
        by_cases h4 : i = gMax
        · rw [if_pos h4]; exact ⟨h4.symm, rfl, .inr (.inr (.inr (.inl rfl)))⟩
        · rw [if_neg h4]; exact ⟨rfl, rfl, .inr (.inr (.inr (.inr rfl)))⟩
theorem startR_rel {W : World} {m : Int} (g : TabsR W m) : HRel pr W.heap.size W (renO (bsR m)) (startR m).st W ∧ FreeFrom (renO (bsR m)) (startR m).next := by
  have k0 : gK < W.heap.size := g.k.2.2
  have k1 : gFi < W.heap.size := g.f.2.2
  have k2 : gAc < W.heap.size := g.a.2.2
  have k3 : gMax < W.heap.size := g.x.2.2
  have all : ∀ i x, (bsR m)[i]? = some x → i < gTopR ∧ x = rAt m i := fun i x h => by
    have hi : i < gTopR := by rw [← bsR_len m]; exact (List.getElem?_eq_some_iff.1 h).1
    rw [bsR_at hi] at h
    exact ⟨hi, (Option.some.inj h).symm⟩
  refine startO_rel (fun i e b h => ?_) (fun i e b h => ?_) (fun g hg => ?_)
  · obtain ⟨_, q⟩ := all i _ h
    rcases (rAt_is m i).2.2 with z | z | z | z | z <;> rw [z] at q <;> cases q
    · exact ⟨g.k.1 _, g.k.2.1⟩
    · exact ⟨g.f.1 _, g.f.2.1⟩
    · exact ⟨g.a.1 _, g.a.2.1⟩
    · exact ⟨g.x.1 _, g.x.2.1⟩
  · obtain ⟨hi, q⟩ := all i _ h
    have hb := (rAt_is m i).1
    rw [← q] at hb
    have hb : e.blk = i := hb
    have ht : gTopR ≤ W.heap.size := by show max (max gK gMax) (max gFi gAc) + 1 ≤ _; omega
    omega
  · exact ⟨_, _, bsR_at hg, (rAt_is m g).1, (rAt_is m g).2.1⟩
theorem startR_look {m : Int} {i : Nat} (h : i < gTopR) : lookH (startR m).heap i = (rAt m i).2 := by
  show lookH (heapO 0 (bsR m)) i = _
  rw [heapO_look, if_pos (Nat.zero_le _), Nat.sub_zero, bsR_at h]
  rfl
theorem startR_next (m : Int) : (startR m).next = gTopR := bsR_len m
theorem startR_Gk (m : Int) : Gk (startR m) := ⟨(by show gK < gTopR; decide), (by rw [startR_next]; decide), (by rw [startR_look (by decide)]; rfl)⟩
theorem startR_fine (m : Int) : Fine (startR m) := startO_fine _ _
theorem tabsRC {W : World} (h : laidMetH pr laidC W) (hsh : W.ShapedOpen pr) : ∃ m, TabsR W m := by
  obtain ⟨m, hm⟩ := max_good hsh
  exact ⟨m, tabsC h, fi_good hsh (tabs_laidC h), ac_good hsh (tabs_laidC h), hm⟩
end Go.Vf.S
end

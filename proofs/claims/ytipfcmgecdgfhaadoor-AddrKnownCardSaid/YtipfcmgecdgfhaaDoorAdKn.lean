import Derived.Test.YtipfcmgecdgfhaaDoorAdSr
import Derived.Test.YtipfcmgecdgfhaaDoorAdI
import Derived.Test.YtipfcmgecdgfhaaDoorAdJ
import Derived.Test.YtipfcmgecdgfhaaDoorAdO
import Derived.Test.YtipfcmgecdgfhaaDoorFnK05
import Derived.Test.YtipfcmgecdgfhaaDoorEngMl
/- The chapter's examples, domains and what is none, lengths: the law. -/
namespace Go.Vf.S
open Go Go.Vf Go.Proofs
attribute [local irreducible] wSeq wRow wp wG
set_option linter.unusedVariables false
set_option linter.unusedSimpArgs false
set_option maxRecDepth 10000

theorem repeat_w {s : SS} {l : List UInt8} {n : Nat} (hn : n ≤ 1000) (hl : l.length ≤ 1000) : CallW pr 30 [str l, .int .i64 n] s fun v s' => v = str (Lib.repeatL l n) ∧ s' = s := by
  refine CallW.kit rfl fun B w0 ρ args' w H hr => ?_
  obtain ⟨v1, v2, rfl, q1, q2⟩ := lrel_2 hr
  obtain rfl := str_inv q1
  obtain rfl := int_inv q2
  exact Any.strings_Repeat Tryd.lays105 Tryd.Builder_Extra_105 ⟨⟨l⟩⟩ n w (by omega) (by
    show l.length * n ≤ _
    have : l.length * n ≤ 1000 * 1000 := Nat.mul_le_mul hl hn
    omega)

/-- A call of a function that turns nothing. -/
theorem step_call {o : Oper} {f : FuncId} {az : Array Operand} {ats : Array TypeId} {T : TL} {s : SS} {vs : List Value} {v : Value} (hop : o.op = .call { callee := .value (.func f), args := az, argTypes := ats }) (hv : operands (toTr T) s.st az.toList = some vs)
    (hf : (match pr.funcs[f]? with | some fn => fn.body.isSome | none => false) = true) (h : CallW pr f vs s fun u s' => u = v ∧ s' = s) : StepX pr o T s v s := by
  obtain ⟨u, s1, ⟨rfl, rfl⟩, hc⟩ := h
  refine StepX.of_fin good (call_ok hc ?_)
  rw [hop]
  simp only [aOp, operand, hv, callV]
  cases hx : pr.funcs[f]? with
  | none => rw [hx] at hf; cases hf
  | some fn =>
    rw [hx] at hf
    simp only at hf
    simp [hf]

/-- Two texts, one behind the other. -/
theorem step_add {o : Oper} {t : TypeId} {x y : Operand} {p : TypeId} {T : TL} {s : SS} {a b : List UInt8} (hop : o.op = .binOp .add t x y p) (hx : operand (toTr T) s.st x = some (str a)) (hy : operand (toTr T) s.st y = some (str b)) (hl : Nat.ble (a.length + b.length) 4294967296 = true) : StepX pr o T s (str (a ++ b)) s := by
  refine StepX.of_fin good ⟨fun _ _ _ => none, no_caller, ?_⟩
  rw [hop]
  simp only [aOp, hx, hy, binV, strBin, hl, cond_true, Option.map_some, fin]

theorem opAt {ops : Array Oper} {i : Nat} {o : Oper} {p : Op} (ho : ops[i]? = some o) (h : (ops[i]?).map Oper.op = some p) : o.op = p := by
  rw [ho] at h; exact Option.some.inj h
theorem slotAt {ops : Array Oper} {i j : Nat} {o : Oper} {Dp : List (Nat × Nat × Value)} {T : TL} {s : SS} {t : Nat} {v : Value} (ho : ops[i]? = some o) (hd : ∀ e ∈ o.after.toList, Region.binds .any e = true → ∀ t' v', look Dp e.on = some (t', v') → look T t' = some v')
    (hon : (ops[i]?).map (fun o => onE o j) = some true) (hl : look Dp j = some (t, v)) : operand (toTr T) s.st (.tmp t) = some v := by
  rw [ho] at hon
  have hon := Option.some.inj hon
  unfold onE at hon
  obtain ⟨e, he, h⟩ := List.any_eq_true.1 hon
  simp only [Bool.and_eq_true, Nat.beq_eq] at h
  simp only [operand, toTr_get]
  exact hd e he h.1 t v (h.2 ▸ hl)

def z1 : LitD := { mt := 49, tm := 9, t2 := 16, t3 := 17, i0 := 0, im := 36, ir := 37, I := [1, 2, 3, 4, 5, 6, 7, 8, 9, 10, 11, 12, 13, 14, 15, 16, 17, 18, 19, 20, 21, 22, 23, 24, 25, 27, 29, 32, 35], Dp := [(26, 10, str (Lib.repeatL [97] 63)), (28, 11, str (Lib.repeatL [97] 64)), (30, 12, str (Lib.repeatL [97, 46] 127)), (31, 13, str (Lib.repeatL [97, 46] 127 ++ [97])), (33, 14, str (Lib.repeatL [97, 46] 128)), (34, 15, str (Lib.repeatL [97, 46] 128 ++ [97]))] }
theorem z1_ok : z1.ok 117 ops_K05_O1 = true := by kernel_rfl
theorem um1 : pr.underlying z1.mt = some (.map 9 4) := by kernel_rfl
theorem pure1 {gl : Nat} : PureOk pr ops_K05_O1 z1.Dp gl := by
  intro i o t v ho hl T s hg hd
  have hm := look_mem hl
  simp only [z1, List.mem_cons, List.not_mem_nil, or_false, Prod.mk.injEq] at hm
  rcases hm with ⟨rfl, rfl, rfl⟩ | ⟨rfl, rfl, rfl⟩ | ⟨rfl, rfl, rfl⟩ | ⟨rfl, rfl, rfl⟩ | ⟨rfl, rfl, rfl⟩ | ⟨rfl, rfl, rfl⟩
  · exact step_call (opAt (p := .call { callee := .value (.func 30), args := #[.const (str [97]), .const (.int .i64 63)], argTypes := #[9, 3] }) ho (by kernel_rfl)) rfl (by kernel_rfl) (repeat_w (by decide) (by decide))
  · exact step_call (opAt (p := .call { callee := .value (.func 30), args := #[.const (str [97]), .const (.int .i64 64)], argTypes := #[9, 3] }) ho (by kernel_rfl)) rfl (by kernel_rfl) (repeat_w (by decide) (by decide))
  · exact step_call (opAt (p := .call { callee := .value (.func 30), args := #[.const (str [97, 46]), .const (.int .i64 127)], argTypes := #[9, 3] }) ho (by kernel_rfl)) rfl (by kernel_rfl) (repeat_w (by decide) (by decide))
  · exact step_add (opAt (p := .binOp .add 9 (.tmp 12) (.const (str [97])) 9) ho (by kernel_rfl)) (slotAt ho hd (by kernel_rfl) (j := 30) rfl) rfl (by kernel_rfl)
  · exact step_call (opAt (p := .call { callee := .value (.func 30), args := #[.const (str [97, 46]), .const (.int .i64 128)], argTypes := #[9, 3] }) ho (by kernel_rfl)) rfl (by kernel_rfl) (repeat_w (by decide) (by decide))
  · exact step_add (opAt (p := .binOp .add 9 (.tmp 14) (.const (str [97])) 9) ho (by kernel_rfl)) (slotAt ho hd (by kernel_rfl) (j := 33) rfl) rfl (by kernel_rfl)
def z2 : LitD := { mt := 50, tm := 27, t2 := 39, t3 := 40, i0 := 0, im := 34, ir := 35, I := [1, 2, 3, 4, 5, 6, 7, 8, 9, 10, 11, 12, 13, 14, 15, 16, 17, 20, 23, 26, 30, 33], Dp := [(18, 28, str (Lib.repeatL [120] 64)), (19, 29, str (Lib.repeatL [120] 64 ++ [64, 98])), (21, 30, str (Lib.repeatL [120] 65)), (22, 31, str (Lib.repeatL [120] 65 ++ [64, 98])), (24, 32, str (Lib.repeatL [98] 64)), (25, 33, str ([97, 64] ++ Lib.repeatL [98] 64)), (27, 34, str (Lib.repeatL [120, 32] 32)), (28, 35, str ([34] ++ Lib.repeatL [120, 32] 32)), (29, 36, str (([34] ++ Lib.repeatL [120, 32] 32) ++ [34, 64, 98])), (31, 37, str (Lib.repeatL [120] 65)), (32, 38, str (Lib.repeatL [120] 65 ++ [64, 98, 95]))] }
theorem z2_ok : z2.ok 117 ops_K05_O2 = true := by kernel_rfl
theorem um2 : pr.underlying z2.mt = some (.map 9 24) := by kernel_rfl
theorem pure2 {gl : Nat} : PureOk pr ops_K05_O2 z2.Dp gl := by
  intro i o t v ho hl T s hg hd
  have hm := look_mem hl
  simp only [z2, List.mem_cons, List.not_mem_nil, or_false, Prod.mk.injEq] at hm
  rcases hm with ⟨rfl, rfl, rfl⟩ | ⟨rfl, rfl, rfl⟩ | ⟨rfl, rfl, rfl⟩ | ⟨rfl, rfl, rfl⟩ | ⟨rfl, rfl, rfl⟩ | ⟨rfl, rfl, rfl⟩ | ⟨rfl, rfl, rfl⟩ | ⟨rfl, rfl, rfl⟩ | ⟨rfl, rfl, rfl⟩ | ⟨rfl, rfl, rfl⟩ | ⟨rfl, rfl, rfl⟩
  · exact step_call (opAt (p := .call { callee := .value (.func 30), args := #[.const (str [120]), .const (.int .i64 64)], argTypes := #[9, 3] }) ho (by kernel_rfl)) rfl (by kernel_rfl) (repeat_w (by decide) (by decide))
  · exact step_add (opAt (p := .binOp .add 9 (.tmp 28) (.const (str [64, 98])) 9) ho (by kernel_rfl)) (slotAt ho hd (by kernel_rfl) (j := 18) rfl) rfl (by kernel_rfl)
  · exact step_call (opAt (p := .call { callee := .value (.func 30), args := #[.const (str [120]), .const (.int .i64 65)], argTypes := #[9, 3] }) ho (by kernel_rfl)) rfl (by kernel_rfl) (repeat_w (by decide) (by decide))
  · exact step_add (opAt (p := .binOp .add 9 (.tmp 30) (.const (str [64, 98])) 9) ho (by kernel_rfl)) (slotAt ho hd (by kernel_rfl) (j := 21) rfl) rfl (by kernel_rfl)
  · exact step_call (opAt (p := .call { callee := .value (.func 30), args := #[.const (str [98]), .const (.int .i64 64)], argTypes := #[9, 3] }) ho (by kernel_rfl)) rfl (by kernel_rfl) (repeat_w (by decide) (by decide))
  · exact step_add (opAt (p := .binOp .add 9 (.const (str [97, 64])) (.tmp 32) 9) ho (by kernel_rfl)) rfl (slotAt ho hd (by kernel_rfl) (j := 24) rfl) (by kernel_rfl)
  · exact step_call (opAt (p := .call { callee := .value (.func 30), args := #[.const (str [120, 32]), .const (.int .i64 32)], argTypes := #[9, 3] }) ho (by kernel_rfl)) rfl (by kernel_rfl) (repeat_w (by decide) (by decide))
  · exact step_add (opAt (p := .binOp .add 9 (.const (str [34])) (.tmp 34) 9) ho (by kernel_rfl)) rfl (slotAt ho hd (by kernel_rfl) (j := 27) rfl) (by kernel_rfl)
  · exact step_add (opAt (p := .binOp .add 9 (.tmp 35) (.const (str [34, 64, 98])) 9) ho (by kernel_rfl)) (slotAt ho hd (by kernel_rfl) (j := 28) rfl) rfl (by kernel_rfl)
  · exact step_call (opAt (p := .call { callee := .value (.func 30), args := #[.const (str [120]), .const (.int .i64 65)], argTypes := #[9, 3] }) ho (by kernel_rfl)) rfl (by kernel_rfl) (repeat_w (by decide) (by decide))
  · exact step_add (opAt (p := .binOp .add 9 (.tmp 37) (.const (str [64, 98, 95])) 9) ho (by kernel_rfl)) (slotAt ho hd (by kernel_rfl) (j := 31) rfl) rfl (by kernel_rfl)

noncomputable def okA (j : Nat) : Bool := match z1.kv ops_K05_O1 j with
  | (.string b, .bool v) => Nat.ble b.data.toList.length 1000000 && (decide (domF b.data.toList = 0) == v)
  | _ => false
theorem allA : z1.I.all okA = true := by kernel_rfl
theorem isA {j : Nat} (h : j ∈ z1.I) : ∃ l, z1.kv ops_K05_O1 j = (str l, .bool (decide (domF l = 0))) ∧ l.length ≤ 1000000 := by
  have := List.all_eq_true.1 allA j h
  unfold okA at this
  split at this
  · rename_i b v hb
    simp only [Bool.and_eq_true, Nat.ble_eq, beq_iff_eq] at this
    exact ⟨b.data.toList, by rw [hb, this.2], this.1⟩
  · cases this
noncomputable def okB (j : Nat) : Bool := match z2.kv ops_K05_O2 j with
  | (.string b, .int .i64 v) => Nat.ble b.data.toList.length 1000000 && decide (((parseF b.data.toList).2.2 : Int) = v)
  | _ => false
theorem allB : z2.I.all okB = true := by kernel_rfl
theorem isB {j : Nat} (h : j ∈ z2.I) : ∃ l, z2.kv ops_K05_O2 j = (str l, .int .i64 ((parseF l).2.2 : Nat)) ∧ l.length ≤ 1000000 := by
  have := List.all_eq_true.1 allB j h
  unfold okB at this
  split at this
  · rename_i b v hb
    simp only [Bool.and_eq_true, Nat.ble_eq, decide_eq_true_eq] at this
    exact ⟨b.data.toList, by rw [hb, ← this.2], this.1⟩
  · cases this

/-- An entry of a literal. -/
theorem ent_is {kv : Nat → Value × Value} {I π : List Nat} {e : MapEntry} (hπ : π.Perm I) (h : e ∈ mkE kv π 0) : ∃ j ∈ I, e.key = (kv j).1 ∧ e.val = (kv j).2 ∧ e.born < π.length := by
  obtain ⟨⟨j, hj, h1, h2⟩, h3, h4⟩ := mkE_mem h
  exact ⟨j, (hπ.mem_iff).1 hj, h1, h2, by omega⟩

/-- The ground that a literal's loop stands on. -/
def lg (kv : Nat → Value × Value) (s : SS) (π : List Nat) (pt : Nat) (b : Bool) : MapL := ⟨litS kv s (.b π), s.next + 1, s.next, π.length, mkE kv π 0, [(pt, .pointer (some ⟨s.next + 1, 0, none⟩)), (0, .bool b)]⟩
theorem lg_fine {kv : Nat → Value × Value} {s : SS} {π : List Nat} {pt : Nat} {b : Bool} (hF : Fine s) : Fine (lg kv s π pt b).sb := fun id hid => by
  have hid' : s.next + 1 ≤ id := hid
  exact lkN (show s.next ≠ id by omega) (hF id (by omega))
theorem lg_chg {kv : Nat → Value × Value} {s : SS} {π : List Nat} {pt : Nat} {b : Bool} : Chg s (lg kv s π pt b).sb [] := .new _
theorem lg_map {kv : Nat → Value × Value} {s : SS} {π : List Nat} {pt : Nat} {b : Bool} : lookH (lg kv s π pt b).sb.heap (lg kv s π pt b).m = some (.map (lg kv s π pt b).es (lg kv s π pt b).since) := lkH
theorem lg_end {kv : Nat → Value × Value} {s : SS} {π : List Nat} {pt : Nat} {b : Bool} {nt k N : Nat} (hpt : pt ≠ 0) (hF : Fine s) (hN : s.next ≤ N) : Wk pr nt k (lg kv s π pt b).TH ((lg kv s π pt b).fin N) [(0, .bool b)] (s.upto N) :=
  Wk.less ⟨by show look [(pt, _), (0, Value.bool b)] 0 = _; simp only [look, beqF hpt]; rfl, trivial⟩ (fun id v hv => by
    have hne : s.next ≠ id := fun e => by
      have := hF id (by omega)
      rw [show lookH s.heap id = some v from hv] at this
      cases this
    exact lkT hne hv) (Nat.le_refl _) rfl

set_option maxHeartbeats 4000000 in
theorem loopA_w {s : SS} (hG : Gb s) (hF : Fine s) {k : Nat} {π : List Nat} (hπ : π.Perm z1.I) : W pr 117 k code_K05_B1 ((z1.D s.next).map (·.2) ++ [(0, .bool false)]) (litS (z1.kv ops_K05_O1) s (.c π)) fun ex' T3 s3 => ex' = .normal ∧ Wk pr 117 k T3 s3 [(0, .bool false)] (s.upto s3.next) := by
  refine comp_ok good ok_K05_B1 (Box.out (p := wp pr 117 k _ _ _ _) ?_)
  refine pBlock ?_
  refine pLoop (MW.maps good (id0 := 0) (g := lg (z1.kv ops_K05_O1) s π 17 false) rfl (Wk.same ⟨rfl, rfl, trivial⟩) rfl lg_map (show s.next + 1 ≠ s.next by omega) (fun e he => by obtain ⟨j, _, _, _, h⟩ := ent_is hπ he; exact h) ?_ ?_ ?_)
  · intro n seen hn e he hs
    have hn' : s.next + 1 < n := hn
    obtain ⟨j, hj, hk, hv, hb⟩ := ent_is hπ he
    obtain ⟨l, hl1, hl⟩ := isA hj
    rw [hl1] at hk hv
    simp only at hk hv
    rw [hk, hv]
    (repeat(first|refine pSeq ?_|refine pReg ?_|refine sRaw ?_|refine sCons ?_|refine sNil ?_|refine pBlock ?_|refine pSkip ?_|refine pExit ?_|refine pRet ?_|refine pCond ?_|refine gNone ?_))
    refine entry_W (e := e) (m := s.next) (es := mkE (z1.kv ops_K05_O1) π 0) (clock := π.length) (since := π.length) (seen := seen) (id := s.next + 1) rfl rfl lkH (lkT (show s.next + 1 ≠ s.next by omega) lg_map) he mkE_born ?_
    rw [hk, hv]
    (repeat(first|refine pSeq ?_|refine pReg ?_|refine sRaw ?_|refine sCons ?_|refine sNil ?_|refine pBlock ?_|refine pSkip ?_|refine pExit ?_|refine pRet ?_|refine pCond ?_|refine gNone ?_))
    have c0 : Chg s ((lg (z1.kv ops_K05_O1) s π 17 false).at n (seen ++ [e.born])) [] := lg_chg.nil (MapL.at_chg _ (lg_fine hF) rfl hn')
    refine (mayDomain_w hl).mono fun v s3 q => ?_
    obtain ⟨rfl, c3⟩ := q
    (repeat(first|refine pSeq ?_|refine pReg ?_|refine sRaw ?_|refine sCons ?_|refine sNil ?_|refine pBlock ?_|refine pSkip ?_|refine pExit ?_|refine pRet ?_|refine pCond ?_|refine gNone ?_))
    intro q hq
    obtain rfl : q = false := by rw [hq]; simp
    (repeat(first|refine pSeq ?_|refine pReg ?_|refine sRaw ?_|refine sCons ?_|refine sNil ?_|refine pBlock ?_|refine pSkip ?_|refine pExit ?_|refine pRet ?_|refine pCond ?_|refine gNone ?_))
    exact ⟨rfl, MapL.back ⟨rfl, rfl, trivial⟩ (lg_fine hF) rfl hn' c3⟩
  · intro n seen hn
    (repeat(first|refine pSeq ?_|refine pReg ?_|refine sRaw ?_|refine sCons ?_|refine sNil ?_|refine pBlock ?_|refine pSkip ?_|refine pExit ?_|refine pRet ?_|refine pCond ?_|refine gNone ?_))
    exact ⟨rfl, MapL.over ⟨rfl, rfl, trivial⟩ (lg_fine hF) rfl⟩
  intro N hN
  have hN' : s.next + 1 + 1 ≤ N := hN
  (repeat(first|refine pSeq ?_|refine pReg ?_|refine sRaw ?_|refine sCons ?_|refine sNil ?_|refine pBlock ?_|refine pSkip ?_|refine pExit ?_|refine pRet ?_|refine pCond ?_|refine gNone ?_))
  exact ⟨rfl, lg_end (by decide) hF (by omega)⟩

set_option maxHeartbeats 4000000 in
theorem loopB_w {s : SS} (hG : Gb s) (hF : Fine s) {k : Nat} {π : List Nat} (hπ : π.Perm z2.I) : W pr 117 k code_K05_B2 ((z2.D s.next).map (·.2) ++ [(0, .bool false)]) (litS (z2.kv ops_K05_O2) s (.c π)) fun ex' T3 s3 => ex' = .normal ∧ Wk pr 117 k T3 s3 [(0, .bool false)] (s.upto s3.next) := by
  refine comp_ok good ok_K05_B2 (Box.out (p := wp pr 117 k _ _ _ _) ?_)
  refine pBlock ?_
  refine pLoop (MW.maps good (id0 := 2) (g := lg (z2.kv ops_K05_O2) s π 40 false) rfl (Wk.same ⟨rfl, rfl, trivial⟩) rfl lg_map (show s.next + 1 ≠ s.next by omega) (fun e he => by obtain ⟨j, _, _, _, h⟩ := ent_is hπ he; exact h) ?_ ?_ ?_)
  · intro n seen hn e he hs
    have hn' : s.next + 1 < n := hn
    obtain ⟨j, hj, hk, hv, hb⟩ := ent_is hπ he
    obtain ⟨l, hl1, hl⟩ := isB hj
    rw [hl1] at hk hv
    simp only at hk hv
    rw [hk, hv]
    (repeat(first|refine pSeq ?_|refine pReg ?_|refine sRaw ?_|refine sCons ?_|refine sNil ?_|refine pBlock ?_|refine pSkip ?_|refine pExit ?_|refine pRet ?_|refine pCond ?_|refine gNone ?_))
    refine entry_W (e := e) (m := s.next) (es := mkE (z2.kv ops_K05_O2) π 0) (clock := π.length) (since := π.length) (seen := seen) (id := s.next + 1) rfl rfl lkH (lkT (show s.next + 1 ≠ s.next by omega) lg_map) he mkE_born ?_
    rw [hk, hv]
    (repeat(first|refine pSeq ?_|refine pReg ?_|refine sRaw ?_|refine sCons ?_|refine sNil ?_|refine pBlock ?_|refine pSkip ?_|refine pExit ?_|refine pRet ?_|refine pCond ?_|refine gNone ?_))
    have c0 : Chg s ((lg (z2.kv ops_K05_O2) s π 40 false).at n (seen ++ [e.born])) [] := lg_chg.nil (MapL.at_chg _ (lg_fine hF) rfl hn')
    refine (parse_w (hG.chg c0 (by simp)) hl).mono fun v s3 q => ?_
    obtain ⟨rfl, c3⟩ := q
    (repeat(first|refine pSeq ?_|refine pReg ?_|refine sRaw ?_|refine sCons ?_|refine sNil ?_|refine pBlock ?_|refine pSkip ?_|refine pExit ?_|refine pRet ?_|refine pCond ?_|refine gNone ?_))
    refine st_abs (cs' := [str (parseF l).1, str (parseF l).2.1]) rfl rfl lkH (Nat.lt_succ_self _) rfl rfl fun s4 e4 c4 n4 => ?_
    have c5 : Chg ((lg (z2.kv ops_K05_O2) s π 40 false).at n (seen ++ [e.born])) s4 [] := c3.nil ((Chg.new []).fresh c4 (by simp))
    (repeat(first|refine pSeq ?_|refine pReg ?_|refine sRaw ?_|refine sCons ?_|refine sNil ?_|refine pBlock ?_|refine pSkip ?_|refine pExit ?_|refine pRet ?_|refine pCond ?_|refine gNone ?_))
    intro q hq
    obtain rfl : q = false := by rw [hq]; simp
    (repeat(first|refine pSeq ?_|refine pReg ?_|refine sRaw ?_|refine sCons ?_|refine sNil ?_|refine pBlock ?_|refine pSkip ?_|refine pExit ?_|refine pRet ?_|refine pCond ?_|refine gNone ?_))
    exact ⟨rfl, MapL.back ⟨rfl, rfl, trivial⟩ (lg_fine hF) rfl hn' c5⟩
  · intro n seen hn
    (repeat(first|refine pSeq ?_|refine pReg ?_|refine sRaw ?_|refine sCons ?_|refine sNil ?_|refine pBlock ?_|refine pSkip ?_|refine pExit ?_|refine pRet ?_|refine pCond ?_|refine gNone ?_))
    exact ⟨rfl, MapL.over ⟨rfl, rfl, trivial⟩ (lg_fine hF) rfl⟩
  intro N hN
  have hN' : s.next + 1 + 1 ≤ N := hN
  (repeat(first|refine pSeq ?_|refine pReg ?_|refine sRaw ?_|refine sCons ?_|refine sNil ?_|refine pBlock ?_|refine pSkip ?_|refine pExit ?_|refine pRet ?_|refine pCond ?_|refine gNone ?_))
  exact ⟨rfl, lg_end (by decide) hF (by omega)⟩

set_option maxHeartbeats 4000000 in
theorem tail_w {s : SS} (hG : Gb s) (hF : Fine s) {k : Nat} : W pr 117 k code_K05_TL [(0, .bool false)] s (runQ pr [.tmp 0] fun v s' => v = .bool true) := by
  refine comp_ok good ok_K05_TL (Box.out (p := wp pr 117 k _ _ _ _) ?_)
  (repeat(first|refine pSeq ?_|refine pReg ?_|refine sCons ?_|refine sNil ?_|refine pRet ?_|refine gNone ?_|refine gOn rfl ?_|refine gOff rfl rfl ?_|refine gTup rfl ?_))
  refine (parse_w (l := [34, 97, 46, 98, 34, 64, 99]) hG (by decide)).mono fun v s1 q => ?_
  obtain ⟨rfl, c1⟩ := q
  rw [show parseF [34, 97, 46, 98, 34, 64, 99] = ([97, 46, 98], [99], 0) by decide +kernel]
  (repeat(first|refine pSeq ?_|refine pReg ?_|refine sCons ?_|refine sNil ?_|refine pRet ?_|refine gNone ?_|refine gOn rfl ?_|refine gOff rfl rfl ?_|refine gTup rfl ?_))
  refine st_abs (cs' := [str [97, 46, 98], str [99]]) rfl rfl lkH (Nat.lt_succ_self _) rfl rfl fun s2 e2 c2 n2 => ?_
  have e0 : Chg s s2 [] := c1.nil ((Chg.new []).fresh c2 (by simp))
  (repeat(first|refine pSeq ?_|refine pReg ?_|refine sCons ?_|refine sNil ?_|refine pRet ?_|refine gNone ?_|refine gOn rfl ?_|refine gOff rfl rfl ?_|refine gTup rfl ?_))
  intro q hq
  obtain rfl : q = true := by rw [hq]; rfl
  (repeat(first|refine pSeq ?_|refine pReg ?_|refine sCons ?_|refine sNil ?_|refine pRet ?_|refine gNone ?_|refine gOn rfl ?_|refine gOff rfl rfl ?_|refine gTup rfl ?_))
  refine ldN_is rfl e2 agg2 ?_
  (repeat(first|refine pSeq ?_|refine pReg ?_|refine sCons ?_|refine sNil ?_|refine pRet ?_|refine gNone ?_|refine gOn rfl ?_|refine gOff rfl rfl ?_|refine gTup rfl ?_))
  refine (text_w (a := [97, 46, 98]) (d := [99]) (hG.chg e0 (by simp)) (by decide) (by decide)).mono fun v w1 q => ?_
  obtain ⟨rfl, d1⟩ := q
  have e1 := (e0).nil d1
  rw [show textF [97, 46, 98] [99] = [97, 46, 98, 64, 99] by decide +kernel]
  (repeat(first|refine pSeq ?_|refine pReg ?_|refine sCons ?_|refine sNil ?_|refine pRet ?_|refine gNone ?_|refine gOn rfl ?_|refine gOff rfl rfl ?_|refine gTup rfl ?_))
  intro q hq
  obtain rfl : q = true := by rw [hq]; rfl
  (repeat(first|refine pSeq ?_|refine pReg ?_|refine sCons ?_|refine sNil ?_|refine pRet ?_|refine gNone ?_|refine gOn rfl ?_|refine gOff rfl rfl ?_|refine gTup rfl ?_))
  refine (text_w (a := [97, 92]) (d := [98]) (hG.chg e1 (by simp)) (by decide) (by decide)).mono fun v w2 q => ?_
  obtain ⟨rfl, d2⟩ := q
  have e2 := (e1).nil d2
  rw [show textF [97, 92] [98] = [34, 97, 92, 92, 34, 64, 98] by decide +kernel]
  (repeat(first|refine pSeq ?_|refine pReg ?_|refine sCons ?_|refine sNil ?_|refine pRet ?_|refine gNone ?_|refine gOn rfl ?_|refine gOff rfl rfl ?_|refine gTup rfl ?_))
  intro q hq
  obtain rfl : q = true := by rw [hq]; rfl
  (repeat(first|refine pSeq ?_|refine pReg ?_|refine sCons ?_|refine sNil ?_|refine pRet ?_|refine gNone ?_|refine gOn rfl ?_|refine gOff rfl rfl ?_|refine gTup rfl ?_))
  refine (text_w (a := [97]) (d := [98, 95]) (hG.chg e2 (by simp)) (by decide) (by decide)).mono fun v w3 q => ?_
  obtain ⟨rfl, d3⟩ := q
  have e3 := (e2).nil d3
  rw [show textF [97] [98, 95] = [] by decide +kernel]
  (repeat(first|refine pSeq ?_|refine pReg ?_|refine sCons ?_|refine sNil ?_|refine pRet ?_|refine gNone ?_|refine gOn rfl ?_|refine gOff rfl rfl ?_|refine gTup rfl ?_))
  intro q hq
  obtain rfl : q = true := by rw [hq]; rfl
  (repeat(first|refine pSeq ?_|refine pReg ?_|refine sCons ?_|refine sNil ?_|refine pRet ?_|refine gNone ?_|refine gOn rfl ?_|refine gOff rfl rfl ?_|refine gTup rfl ?_))
  refine (text_w (a := []) (d := [98]) (hG.chg e3 (by simp)) (by decide) (by decide)).mono fun v w4 q => ?_
  obtain ⟨rfl, d4⟩ := q
  have e4 := (e3).nil d4
  rw [show textF [] [98] = [] by decide +kernel]
  (repeat(first|refine pSeq ?_|refine pReg ?_|refine sCons ?_|refine sNil ?_|refine pRet ?_|refine gNone ?_|refine gOn rfl ?_|refine gOff rfl rfl ?_|refine gTup rfl ?_))
  intro q hq
  obtain rfl : q = true := by rw [hq]; rfl
  (repeat(first|refine pSeq ?_|refine pReg ?_|refine sCons ?_|refine sNil ?_|refine pRet ?_|refine gNone ?_|refine gOn rfl ?_|refine gOff rfl rfl ?_|refine gTup rfl ?_))
  refine (may_w (a := [127]) (d := [98]) (by decide) (by decide)).mono fun v w5 q => ?_
  obtain ⟨rfl, d5⟩ := q
  have e5 := (e4).nil d5
  rw [show mayF [127] [98] = false by decide +kernel]
  (repeat(first|refine pSeq ?_|refine pReg ?_|refine sCons ?_|refine sNil ?_|refine pRet ?_|refine gNone ?_|refine gOn rfl ?_|refine gOff rfl rfl ?_|refine gTup rfl ?_))
  intro q hq
  obtain rfl : q = true := by rw [hq]; rfl
  (repeat(first|refine pSeq ?_|refine pReg ?_|refine sCons ?_|refine sNil ?_|refine pRet ?_|refine gNone ?_|refine gOn rfl ?_|refine gOff rfl rfl ?_|refine gTup rfl ?_))
  refine (acompare_w (a := [122]) (d := [65]) (b := [97]) (e := [98]) (e5.fine hF) (by decide) (by decide) (by decide) (by decide)).mono fun v w6 q => ?_
  obtain ⟨rfl, d6⟩ := q
  have e6 := (e5).nil d6
  rw [show compF2 (nF [122] [65]) (nF [97] [98]) = -1 by decide +kernel]
  (repeat(first|refine pSeq ?_|refine pReg ?_|refine sCons ?_|refine sNil ?_|refine pRet ?_|refine gNone ?_|refine gOn rfl ?_|refine gOff rfl rfl ?_|refine gTup rfl ?_))
  intro q hq
  obtain rfl : q = true := by rw [hq]; rfl
  (repeat(first|refine pSeq ?_|refine pReg ?_|refine sCons ?_|refine sNil ?_|refine pRet ?_|refine gNone ?_|refine gOn rfl ?_|refine gOff rfl rfl ?_|refine gTup rfl ?_))
  refine (acompare_w (a := [90]) (d := [98]) (b := [97]) (e := [66]) (e6.fine hF) (by decide) (by decide) (by decide) (by decide)).mono fun v w7 q => ?_
  obtain ⟨rfl, d7⟩ := q
  have e7 := (e6).nil d7
  rw [show compF2 (nF [90] [98]) (nF [97] [66]) = -1 by decide +kernel]
  (repeat(first|refine pSeq ?_|refine pReg ?_|refine sCons ?_|refine sNil ?_|refine pRet ?_|refine gNone ?_|refine gOn rfl ?_|refine gOff rfl rfl ?_|refine gTup rfl ?_))
  intro q hq
  obtain rfl : q = true := by rw [hq]; rfl
  (repeat(first|refine pSeq ?_|refine pReg ?_|refine sCons ?_|refine sNil ?_|refine pRet ?_|refine gNone ?_|refine gOn rfl ?_|refine gOff rfl rfl ?_|refine gTup rfl ?_))
  refine (asame_w (a := [65]) (d := [98]) (b := [97]) (e := [98]) (by decide) (by decide) (by decide) (by decide)).mono fun v w8 q => ?_
  obtain ⟨rfl, d8⟩ := q
  have e8 := (e7).nil d8
  rw [show sameF [65] [98] [97] [98] = false by decide +kernel]
  (repeat(first|refine pSeq ?_|refine pReg ?_|refine sCons ?_|refine sNil ?_|refine pRet ?_|refine gNone ?_|refine gOn rfl ?_|refine gOff rfl rfl ?_|refine gTup rfl ?_))
  intro q hq
  obtain rfl : q = true := by rw [hq]; rfl
  (repeat(first|refine pSeq ?_|refine pReg ?_|refine sCons ?_|refine sNil ?_|refine pRet ?_|refine gNone ?_|refine gOn rfl ?_|refine gOff rfl rfl ?_|refine gTup rfl ?_))
  refine (below_w (dm := [46, 98]) (ov := [98]) (by decide) (by decide)).mono fun v w9 q => ?_
  obtain ⟨rfl, d9⟩ := q
  have e9 := (e8).nil d9
  rw [show belowF [46, 98] [98] = false by decide +kernel]
  (repeat(first|refine pSeq ?_|refine pReg ?_|refine sCons ?_|refine sNil ?_|refine pRet ?_|refine gNone ?_|refine gOn rfl ?_|refine gOff rfl rfl ?_|refine gTup rfl ?_))
  intro q hq
  obtain rfl : q = true := by rw [hq]; rfl
  (repeat(first|refine pSeq ?_|refine pReg ?_|refine sCons ?_|refine sNil ?_|refine pRet ?_|refine gNone ?_|refine gOn rfl ?_|refine gOff rfl rfl ?_|refine gTup rfl ?_))
  refine (below_w (dm := [97, 46, 98]) (ov := [66]) (by decide) (by decide)).mono fun v w10 q => ?_
  obtain ⟨rfl, d10⟩ := q
  have e10 := (e9).nil d10
  rw [show belowF [97, 46, 98] [66] = true by decide +kernel]
  (repeat(first|refine pSeq ?_|refine pReg ?_|refine sCons ?_|refine sNil ?_|refine pRet ?_|refine gNone ?_|refine gOn rfl ?_|refine gOff rfl rfl ?_|refine gTup rfl ?_))
  refine (below_w (dm := []) (ov := []) (by decide) (by decide)).mono fun v w11 q => ?_
  obtain ⟨rfl, d11⟩ := q
  have e11 := (e10).nil d11
  rw [show belowF [] [] = false by decide +kernel]
  (repeat(first|refine pSeq ?_|refine pReg ?_|refine sCons ?_|refine sNil ?_|refine pRet ?_|refine gNone ?_|refine gOn rfl ?_|refine gOff rfl rfl ?_|refine gTup rfl ?_))
  intro q hq
  obtain rfl : q = true := by rw [hq]; rfl
  (repeat(first|refine pSeq ?_|refine pReg ?_|refine sCons ?_|refine sNil ?_|refine pRet ?_|refine gNone ?_|refine gOn rfl ?_|refine gOff rfl rfl ?_|refine gTup rfl ?_))
  refine (awakes_w (hG.chg e11 (by simp))).mono fun v w12 q => ?_
  obtain ⟨rfl, d12⟩ := q
  have e12 := (e11).nil d12
  (repeat(first|refine pSeq ?_|refine pReg ?_|refine sCons ?_|refine sNil ?_|refine pRet ?_|refine gNone ?_|refine gOn rfl ?_|refine gOff rfl rfl ?_|refine gTup rfl ?_))
  rfl

set_option maxHeartbeats 4000000 in
theorem known_w {s : SS} (hG : Gb s) (hF : Fine s) : CallW pr n_law05_AddrKnown [] s fun v s' => v = .bool true := by
  refine CallW.pieces (nt := 117) (res := [.tmp 0]) (c := .seq code_K05_R0 (.seq (.seq (.region 1 ops_K05_O1 true) code_K05_B1) (.seq (.seq (.region 6 ops_K05_O2 true) code_K05_B2) code_K05_TL))) (by kernel_rfl) (by kernel_rfl) (by kernel_rfl) (by kernel_rfl) (by simp) ?_
  refine W.seq (comp_ok good ok_K05_R0 (Box.out (p := wp pr 117 s.next _ _ _ _) ?_))
  (repeat(first|refine pReg ?_|refine sCons ?_|refine sNil ?_|refine gNone ?_))
  show W pr 117 s.next (.seq (.seq (.region 1 ops_K05_O1 true) code_K05_B1) (.seq (.seq (.region 6 ops_K05_O2 true) code_K05_B2) code_K05_TL)) [(0, .bool false)] s (runQ pr [.tmp 0] fun v s' => v = .bool true)
  refine W.seq (k := s.next) (W.lit (z := z1) (g := s) (T' := [(0, .bool false)]) (ex := .normal) good (by kernel_rfl) z1_ok um1 un_S pure1 rfl (fun π hπ => loopA_w hG hF hπ) fun n hn => ?_)
  have g1 : Gb (s.upto n) := ⟨hG.1, Nat.lt_of_lt_of_le hG.2.1 hn, hG.2.2⟩
  have f1 : Fine (s.upto n) := fun id hid => hF id (Nat.le_trans hn hid)
  show W pr 117 s.next (.seq (.seq (.region 6 ops_K05_O2 true) code_K05_B2) code_K05_TL) [(0, .bool false)] (s.upto n) (runQ pr [.tmp 0] fun v s' => v = .bool true)
  refine W.seq (k := s.next) (W.lit (z := z2) (g := s.upto n) (T' := [(0, .bool false)]) (ex := .normal) good (by kernel_rfl) z2_ok um2 un_S pure2 rfl (fun π hπ => loopB_w g1 f1 hπ) fun m hm => ?_)
  have g2 : Gb ((s.upto n).upto m) := ⟨g1.1, Nat.lt_of_lt_of_le g1.2.1 hm, g1.2.2⟩
  have f2 : Fine ((s.upto n).upto m) := fun id hid => f1 id (Nat.le_trans hm hid)
  exact tail_w g2 f2
end Go.Vf.S

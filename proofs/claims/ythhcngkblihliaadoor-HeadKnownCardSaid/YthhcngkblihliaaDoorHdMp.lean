import Derived.Test.YthhcngkblihliaaDoorBnI
import Derived.Test.YthhcngkblihliaaDoorHdMo
import Derived.Test.YthhcngkblihliaaDoorBnH
import Derived.Test.YthhcngkblihliaaDoorShK
import Derived.Test.YthhcngkblihliaaDoorFnK07
import Derived.Test.YthhcngkblihliaaDoorEngMl
import Derived.Test.YthhcngkblihliaaDoorEngBe
/- Texts, and what is told of each: the law HeadKnown's first part, from any state. -/
namespace Go.Vf.S
open Go Go.Vf Go.Proofs Go.RowKit
attribute [local irreducible] wSeq wRow wp wG
set_option linter.unusedVariables false
set_option linter.unusedSimpArgs false
set_option maxRecDepth 10000

theorem lrel_k {ρ : Go.Vf.Ren} {a b : Value} {args' : List Value} (h : LRel ρ [a, b] args') : ∃ v1 v2, args' = [v1, v2] ∧ VRel ρ a v1 ∧ VRel ρ b v2 := by
  obtain ⟨h1, h2⟩ := h
  match args', h1 with
  | [v1, v2], _ => exact ⟨v1, v2, rfl, h2 0 _ _ rfl rfl, h2 1 _ _ rfl rfl⟩
theorem repeat_w {s : SS} {l : List UInt8} {n : Nat} (hn : n ≤ 10000) (hl : l.length ≤ 1000) : CallW pr 29 [str l, .int .i64 n] s fun v s' => v = str (Lib.repeatL l n) ∧ s' = s := by
  refine CallW.kit rfl fun B w0 ρ args' w H hr => ?_
  obtain ⟨v1, v2, rfl, q1, q2⟩ := lrel_k hr
  obtain rfl := str_inv q1
  obtain rfl := int_inv q2
  exact Any.strings_Repeat Tryd.lays105 Tryd.Builder_Extra_105 ⟨⟨l⟩⟩ n w (by omega) (by
    show l.length * n ≤ _
    have : l.length * n ≤ 1000 * 10000 := Nat.mul_le_mul hl hn
    omega)
/-- A call of a function that turns nothing. -/
theorem step_call {o : Oper} {f : FuncId} {az : Array Operand} {ats : Array TypeId} {T : TL} {s : SS} {vs : List Value} {v : Value} (hop : o.op = .call { callee := .value (.func f), args := az, argTypes := ats }) (hv : operands (toTr T) s.st az.toList = some vs)
    (hf : (match pr.funcs[f]? with | some fn => fn.body.isSome | none => false) = true) (h : CallW pr f vs s fun u s' => u = v ∧ s' = s) : StepX pr o T s v s := by
  obtain ⟨u, s1, ⟨rfl, rfl⟩, hc⟩ := h
  refine StepX.of_fin good (call_ok hc ?_)
  rw [hop]
  simp only [aOp, operand, hv, callV]
  cases hx : pr.funcs[f]? with
  | none => rw [hx] at hf; cases hf
  | some fn =>
    rw [hx] at hf
    simp only at hf
    simp [hf]
/-- Two texts, one behind the other. -/
theorem step_add {o : Oper} {t : TypeId} {x y : Operand} {p : TypeId} {T : TL} {s : SS} {a b : List UInt8} (hop : o.op = .binOp .add t x y p) (hx : operand (toTr T) s.st x = some (str a)) (hy : operand (toTr T) s.st y = some (str b)) (hl : Nat.ble (a.length + b.length) 4294967296 = true) : StepX pr o T s (str (a ++ b)) s := by
  refine StepX.of_fin good ⟨fun _ _ _ => none, no_caller, ?_⟩
  rw [hop]
  simp only [aOp, hx, hy, binV, strBin, hl, cond_true, Option.map_some, fin]
theorem opAt {ops : Array Oper} {i : Nat} {o : Oper} {p : Op} (ho : ops[i]? = some o) (h : (ops[i]?).map Oper.op = some p) : o.op = p := by
  rw [ho] at h; exact Option.some.inj h
theorem slotAt {ops : Array Oper} {i j : Nat} {o : Oper} {Dp : List (Nat × Nat × Value)} {T : TL} {s : SS} {t : Nat} {v : Value} (ho : ops[i]? = some o) (hd : ∀ e ∈ o.after.toList, Region.binds .any e = true → ∀ t' v', look Dp e.on = some (t', v') → look T t' = some v')
    (hon : (ops[i]?).map (fun o => onE o j) = some true) (hl : look Dp j = some (t, v)) : operand (toTr T) s.st (.tmp t) = some v := by
  rw [ho] at hon
  have hon := Option.some.inj hon
  unfold onE at hon
  obtain ⟨e, he, h⟩ := List.any_eq_true.1 hon
  simp only [Bool.and_eq_true, Nat.beq_eq] at h
  simp only [operand, toTr_get]
  exact hd e he h.1 t v (h.2 ▸ hl)

/-! ### The two long texts: one that is a message, and one byte more -/

def bigA : List UInt8 := Lib.repeatL [120] 8187
def bigB : List UInt8 := Lib.repeatL [120] 8188
theorem bigA_len : bigA.length = 8187 := Lib.repeatL_length [120] 8187
theorem bigB_len : bigB.length = 8188 := Lib.repeatL_length [120] 8188
theorem rep_ok : ∀ n : Nat, (Lib.repeatL [120] n).all okB = true
  | 0 => rfl
  | n + 1 => by
    rw [Lib.repeatL, List.all_append, rep_ok n]
    rfl
def txA : List UInt8 := ([97, 58, 32] ++ bigA) ++ [13, 10]
def txB : List UInt8 := ([97, 58, 32] ++ bigB) ++ [13, 10]
theorem mes_a (t : List UInt8) (ht : (13 : UInt8) ∉ t) : ∃ m, mesF [97 :: 58 :: 32 :: t] = some m := by
  have hf : fieldF (jn [97 :: 58 :: 32 :: t]) = some ⟨[97], trimF (noE (32 :: t ++ [13, 10])), jn [97 :: 58 :: 32 :: t]⟩ := by
    have hc : cutF 58 (jn [97 :: 58 :: 32 :: t]) = ([97], 32 :: t ++ [13, 10], true) := by
      rw [jn_one]
      exact cut_at (f := [97]) (by decide)
    unfold fieldF
    rw [hc]
    rfl
  have hh : hdr [97 :: 58 :: 32 :: t] = [97 :: 58 :: 32 :: t] := rfl
  have h1 : fieldsF 1 [97 :: 58 :: 32 :: t] = some [⟨[97], trimF (noE (32 :: t ++ [13, 10])), jn [97 :: 58 :: 32 :: t]⟩] := by
    rw [fieldsF, show grp (97 :: 58 :: 32 :: t) [] = [97 :: 58 :: 32 :: t] from rfl, hf]
    rfl
  exact ⟨⟨[⟨[97], trimF (noE (32 :: t ++ [13, 10])), jn [97 :: 58 :: 32 :: t]⟩], bdy [97 :: 58 :: 32 :: t], early [97 :: 58 :: 32 :: t]⟩, by unfold mesF; rw [hh, List.length_singleton, h1]⟩
theorem pars_A : (parsF txA).2 = 0 := by
  have e : txA = jn [97 :: 58 :: 32 :: bigA] := rfl
  have hk : Okl [97 :: 58 :: 32 :: bigA] := Okl.mk (by
    rw [List.all_cons, List.all_cons, List.all_cons, show bigA.all okB = true from rep_ok 8187]
    rfl) Okl.nil
  have hl : ¬8192 < (jn [97 :: 58 :: 32 :: bigA]).length := by
    rw [jn_one, List.length_append, List.length_cons, List.length_cons, List.length_cons, bigA_len]
    simp
  obtain ⟨m, hm⟩ := mes_a bigA (ok_13 (rep_ok 8187))
  rw [e, pars_jn hl hk, hm]
theorem pars_B : (parsF txB).2 = 3 := by
  rw [pars_long]
  unfold txB
  simp only [List.length_append, bigB_len, List.length_cons, List.length_nil]
  omega

def z1 : LitD := { mt := 67, tm := 28, t2 := 35, t3 := 36, i0 := 0, im := 30, ir := 31, I := [1, 2, 3, 4, 5, 6, 7, 8, 9, 10, 11, 12, 13, 14, 15, 16, 17, 18, 19, 20, 21, 25, 29], Dp := [(22, 29, str bigA), (23, 30, str ([97, 58, 32] ++ bigA)), (24, 31, str txA), (26, 32, str bigB), (27, 33, str ([97, 58, 32] ++ bigB)), (28, 34, str txB)] }
theorem z1_ok : z1.ok 236 ops_K07_O1 = true := by kernel_rfl
theorem um_er : pr.underlying 67 = some (.map 9 34) := by kernel_rfl
theorem ble_len {a b n : Nat} (h : a + b = n) (hn : n ≤ 4294967296) : Nat.ble (a + b) 4294967296 = true := Nat.ble_eq_true_of_le (by omega)
theorem pure1 {gl : Nat} : PureOk pr ops_K07_O1 z1.Dp gl := by
  intro i o t v ho hl T s hg hd
  have hm := look_mem hl
  simp only [z1, List.mem_cons, List.not_mem_nil, or_false, Prod.mk.injEq] at hm
  rcases hm with ⟨rfl, rfl, rfl⟩ | ⟨rfl, rfl, rfl⟩ | ⟨rfl, rfl, rfl⟩ | ⟨rfl, rfl, rfl⟩ | ⟨rfl, rfl, rfl⟩ | ⟨rfl, rfl, rfl⟩
  · exact step_call (opAt (p := .call { callee := .value (.func 29), args := #[.const (str [120]), .const (.int .i64 8187)], argTypes := #[9, 3] }) ho (by kernel_rfl)) rfl (by kernel_rfl) (repeat_w (by decide) (by decide))
  · exact step_add (a := [97, 58, 32]) (b := bigA) (opAt (p := .binOp .add 9 (.const (str [97, 58, 32])) (.tmp 29) 9) ho (by kernel_rfl)) rfl (slotAt ho hd (by kernel_rfl) (j := 22) rfl) (by rw [bigA_len]; rfl)
  · exact step_add (a := [97, 58, 32] ++ bigA) (b := [13, 10]) (opAt (p := .binOp .add 9 (.tmp 30) (.const (str [13, 10])) 9) ho (by kernel_rfl)) (slotAt ho hd (by kernel_rfl) (j := 23) rfl) rfl (by rw [List.length_append, bigA_len]; rfl)
  · exact step_call (opAt (p := .call { callee := .value (.func 29), args := #[.const (str [120]), .const (.int .i64 8188)], argTypes := #[9, 3] }) ho (by kernel_rfl)) rfl (by kernel_rfl) (repeat_w (by decide) (by decide))
  · exact step_add (a := [97, 58, 32]) (b := bigB) (opAt (p := .binOp .add 9 (.const (str [97, 58, 32])) (.tmp 32) 9) ho (by kernel_rfl)) rfl (slotAt ho hd (by kernel_rfl) (j := 26) rfl) (by rw [bigB_len]; rfl)
  · exact step_add (a := [97, 58, 32] ++ bigB) (b := [13, 10]) (opAt (p := .binOp .add 9 (.tmp 33) (.const (str [13, 10])) 9) ho (by kernel_rfl)) (slotAt ho hd (by kernel_rfl) (j := 27) rfl) rfl (by rw [List.length_append, bigB_len]; rfl)

noncomputable def okA (j : Nat) : Bool := match z1.kv ops_K07_O1 j with
  | (.string b, .int .i64 v) => Nat.ble b.data.toList.length 100 && decide (((parsD b.data.toList).2 : Int) = v)
  | _ => false
theorem allA : (List.range' 1 21).all okA = true := by kernel_rfl
theorem isA {j : Nat} (h : j ∈ z1.I) : ∃ l, z1.kv ops_K07_O1 j = (str l, .int .i64 ((parsF l).2 : Nat)) ∧ l.length ≤ 10000 := by
  by_cases h1 : j = 25
  · subst h1
    refine ⟨txA, ?_, ?_⟩
    · rw [pars_A]; kernel_rfl
    · unfold txA
      simp only [List.length_append, bigA_len, List.length_cons, List.length_nil]
      omega
  by_cases h2 : j = 29
  · subst h2
    refine ⟨txB, ?_, ?_⟩
    · rw [pars_B]; kernel_rfl
    · unfold txB
      simp only [List.length_append, bigB_len, List.length_cons, List.length_nil]
      omega
  have hj : j ∈ List.range' 1 21 := by
    simp only [z1, List.mem_cons, List.not_mem_nil, or_false] at h
    rw [List.mem_range'_1]
    omega
  have := List.all_eq_true.1 allA j hj
  unfold okA at this
  split at this
  · rename_i b v hb
    simp only [Bool.and_eq_true, Nat.ble_eq, decide_eq_true_eq] at this
    exact ⟨b.data.toList, by rw [hb, pars_D, ← this.2], by omega⟩
  · cases this

/-- An entry of a literal. -/
theorem ent_is {kv : Nat → Value × Value} {I π : List Nat} {e : MapEntry} (hπ : π.Perm I) (h : e ∈ mkE kv π 0) : ∃ j ∈ I, e.key = (kv j).1 ∧ e.val = (kv j).2 ∧ e.born < π.length := by
  obtain ⟨⟨j, hj, h1, h2⟩, h3, h4⟩ := mkE_mem h
  exact ⟨j, (hπ.mem_iff).1 hj, h1, h2, by omega⟩

/-- The ground that a literal's loop stands on. -/
def lg (kv : Nat → Value × Value) (s : SS) (π : List Nat) (pt : Nat) (b : Bool) : MapL := ⟨litS kv s (.b π), s.next + 1, s.next, π.length, mkE kv π 0, [(pt, .pointer (some ⟨s.next + 1, 0, none⟩)), (0, .bool b)]⟩
theorem lg_fine {kv : Nat → Value × Value} {s : SS} {π : List Nat} {pt : Nat} {b : Bool} (hF : Fine s) : Fine (lg kv s π pt b).sb := fun id hid => by
  have hid' : s.next + 1 ≤ id := hid
  exact lkN (show s.next ≠ id by omega) (hF id (by omega))
theorem lg_chg {kv : Nat → Value × Value} {s : SS} {π : List Nat} {pt : Nat} {b : Bool} : Chg s (lg kv s π pt b).sb [] := .new _
theorem lg_map {kv : Nat → Value × Value} {s : SS} {π : List Nat} {pt : Nat} {b : Bool} : lookH (lg kv s π pt b).sb.heap (lg kv s π pt b).m = some (.map (lg kv s π pt b).es (lg kv s π pt b).since) := lkH
theorem lg_end {kv : Nat → Value × Value} {s : SS} {π : List Nat} {pt : Nat} {b : Bool} {nt k N : Nat} (hpt : pt ≠ 0) (hF : Fine s) (hN : s.next ≤ N) : Wk pr nt k (lg kv s π pt b).TH ((lg kv s π pt b).fin N) [(0, .bool b)] (s.upto N) :=
  Wk.less ⟨by show look [(pt, _), (0, Value.bool b)] 0 = _; simp only [look, beqF hpt]; rfl, trivial⟩ (fun id v hv => by
    have hne : s.next ≠ id := fun e => by
      have := hF id (by omega)
      rw [show lookH s.heap id = some v from hv] at this
      cases this
    exact lkT hne hv) (Nat.le_refl _) rfl

set_option maxHeartbeats 4000000 in
theorem loopA_w {s : SS} (hG : Gx s) (hF : Fine s) {k : Nat} {π : List Nat} (hπ : π.Perm z1.I) : W pr 236 k code_K07_B1 ((z1.D s.next).map (·.2) ++ [(0, .bool false)]) (litS (z1.kv ops_K07_O1) s (.c π)) fun ex' T3 s3 => ex' = .normal ∧ Wk pr 236 k T3 s3 [(0, .bool false)] (s.upto s3.next) := by
  refine comp_ok good ok_K07_B1 (Box.out (p := wp pr 236 k _ _ _ _) ?_)
  refine pBlock ?_
  refine pLoop (MW.maps good (id0 := 0) (g := lg (z1.kv ops_K07_O1) s π 36 false) rfl (Wk.same ⟨rfl, rfl, trivial⟩) rfl lg_map (show s.next + 1 ≠ s.next by omega) (fun e he => by obtain ⟨j, _, _, _, h⟩ := ent_is hπ he; exact h) ?_ ?_ ?_)
  · intro n seen hn e he hs
    have hn' : s.next + 1 < n := hn
    obtain ⟨j, hj, hk, hv, hb⟩ := ent_is hπ he
    obtain ⟨l, hl1, hl⟩ := isA hj
    rw [hl1] at hk hv
    simp only at hk hv
    rw [hk, hv]
    (repeat(first|refine pSeq ?_|refine pReg ?_|refine sRaw ?_|refine sCons ?_|refine sNil ?_|refine pBlock ?_|refine pSkip ?_|refine pExit ?_|refine pRet ?_|refine pCond ?_|refine gNone ?_))
    refine entry_W (e := e) (m := s.next) (es := mkE (z1.kv ops_K07_O1) π 0) (clock := π.length) (since := π.length) (seen := seen) (id := s.next + 1) rfl rfl lkH (lkT (show s.next + 1 ≠ s.next by omega) lg_map) he mkE_born ?_
    rw [hk, hv]
    (repeat(first|refine pSeq ?_|refine pReg ?_|refine sRaw ?_|refine sCons ?_|refine sNil ?_|refine pBlock ?_|refine pSkip ?_|refine pExit ?_|refine pRet ?_|refine pCond ?_|refine gNone ?_))
    have c0 : Chg s ((lg (z1.kv ops_K07_O1) s π 36 false).at n (seen ++ [e.born])) [] := lg_chg.nil (MapL.at_chg _ (lg_fine hF) rfl hn')
    refine (hparse_w (l := l) (hG.chg c0) (by omega)).mono fun v s3 q => ?_
    obtain ⟨W', cw', rfl, -, c3, -⟩ := q
    (repeat(first|refine pSeq ?_|refine pReg ?_|refine sRaw ?_|refine sCons ?_|refine sNil ?_|refine pBlock ?_|refine pSkip ?_|refine pExit ?_|refine pRet ?_|refine pCond ?_|refine gNone ?_))
    refine st_abs (cs' := msC (parsF l).1 W' cw') rfl rfl lkH (Nat.lt_succ_self _) rfl rfl fun s4 e4 c4 n4 => ?_
    have c5 : Chg ((lg (z1.kv ops_K07_O1) s π 36 false).at n (seen ++ [e.born])) s4 [] := c3.nil ((Chg.new []).fresh c4 (by simp))
    (repeat(first|refine pSeq ?_|refine pReg ?_|refine sRaw ?_|refine sCons ?_|refine sNil ?_|refine pBlock ?_|refine pSkip ?_|refine pExit ?_|refine pRet ?_|refine pCond ?_|refine gNone ?_))
    intro q hq
    obtain rfl : q = false := by rw [hq]; simp
    (repeat(first|refine pSeq ?_|refine pReg ?_|refine sRaw ?_|refine sCons ?_|refine sNil ?_|refine pBlock ?_|refine pSkip ?_|refine pExit ?_|refine pRet ?_|refine pCond ?_|refine gNone ?_))
    exact ⟨rfl, MapL.back ⟨rfl, rfl, trivial⟩ (lg_fine hF) rfl hn' c5⟩
  · intro n seen hn
    (repeat(first|refine pSeq ?_|refine pReg ?_|refine sRaw ?_|refine sCons ?_|refine sNil ?_|refine pBlock ?_|refine pSkip ?_|refine pExit ?_|refine pRet ?_|refine pCond ?_|refine gNone ?_))
    exact ⟨rfl, MapL.over ⟨rfl, rfl, trivial⟩ (lg_fine hF) rfl⟩
  intro N hN
  have hN' : s.next + 1 + 1 ≤ N := hN
  (repeat(first|refine pSeq ?_|refine pReg ?_|refine sRaw ?_|refine sCons ?_|refine sNil ?_|refine pBlock ?_|refine pSkip ?_|refine pExit ?_|refine pRet ?_|refine pCond ?_|refine gNone ?_))
  exact ⟨rfl, lg_end (by decide) hF (by omega)⟩

/-! ### One message more -/

def kM : Msg := ⟨[⟨[65], [49], [65, 58, 32, 49, 13, 10]⟩, ⟨[98], [50, 32, 9, 51], [98, 32, 58, 32, 50, 32, 13, 10, 9, 51, 13, 10]⟩, ⟨[97], [52], [97, 58, 52, 13, 10]⟩], [13, 10], false⟩
theorem ex_k : parsF [65, 58, 32, 49, 13, 10, 98, 32, 58, 32, 50, 32, 13, 10, 9, 51, 13, 10, 97, 58, 52, 13, 10, 13, 10, 13, 10] = (kM, 0) := by
  rw [pars_D]
  kernel_rfl
theorem find_a : findF kM.fs [97] = [[49], [52]] := by kernel_rfl
theorem find_b : (findF kM.fs [66]).length = 1 := by kernel_rfl
theorem find_c : (findF kM.fs [99]).length = 0 := by kernel_rfl
theorem str_new {s : SS} {t : TypeId} {a b : List UInt8} {g : Bool} {r : Bool} : StR { s with heap := (s.next, some (.cells [str a, str b] t g r)) :: s.heap, next := s.next + 1 } (some ⟨s.next, 0, none⟩) [a, b] :=
  ⟨rfl, rfl, Nat.lt_succ_self _, _, _, _, _, lkH, fun i x hx => by
    match i, hx with
    | 0, hx => cases hx; rfl
    | 1, hx => cases hx; rfl⟩

set_option maxHeartbeats 4000000 in
theorem kmes_w {s : SS} (hG : Gx s) (hF : Fine s) {k : Nat} {R : AExit → TL → SS → Prop}
    (hR : ∀ s' b p cw, Chg s s' [] → lookH s'.heap p = some (.cells (msC kM (some ⟨b, 0, none⟩) cw) tMs false false) → p < s'.next → FsO s' (some ⟨b, 0, none⟩) cw kM.fs → W pr 236 k code_K07_TL [(0, .bool false), (5, .pointer (some ⟨p, 0, none⟩))] s' R) :
    W pr 236 k (.seq code_K07_R7 (.seq code_K07_R8 code_K07_TL)) [(0, .bool false)] s R := by
  refine W.seq (comp_ok good ok_K07_R7 (Box.out (p := wp pr 236 k _ _ _ _) ?_))
  (repeat(first|refine pSeq ?_|refine pReg ?_|refine sCons ?_|refine sNil ?_|refine pSkip ?_|refine pRet ?_|refine pCond ?_|refine gNone ?_|refine gOn rfl ?_|refine gOff rfl rfl ?_|refine gTup rfl ?_))
  refine (hparse_w hG (by simp)).mono fun v s1 q => ?_
  obtain ⟨W0, cw, rfl, o1, c1, h1⟩ := q
  rw [ex_k]
  rw [ex_k] at o1
  obtain ⟨b, g, rfl, hb⟩ := OwnR.pos o1 (by decide)
  have hlt := o1.lt b (by simp [blkOf])
  (repeat(first|refine pSeq ?_|refine pReg ?_|refine sCons ?_|refine sNil ?_|refine pSkip ?_|refine pRet ?_|refine pCond ?_|refine gNone ?_|refine gOn rfl ?_|refine gOff rfl rfl ?_|refine gTup rfl ?_))
  refine st_abs (cs' := msC kM (some ⟨b, 0, none⟩) cw) rfl rfl lkH (Nat.lt_succ_self _) rfl rfl fun s2 e2 c2 n2 => ?_
  have c12 : Chg s1 s2 [] := (Chg.new []).fresh c2 (by simp)
  have e2 : lookH s2.heap s1.next = some (.cells (msC kM (some ⟨b, 0, none⟩) cw) tMs false false) := e2
  have n2 : s2.next = s1.next + 1 := n2
  have o2 := o1.chg c12 (by simp)
  have hb2 := c12.blk _ _ hlt (by simp) hb
  have c02 := c1.nil c12
  generalize s1.next = p at *
  (repeat(first|refine pSeq ?_|refine pReg ?_|refine sCons ?_|refine sNil ?_|refine pSkip ?_|refine pRet ?_|refine pCond ?_|refine gNone ?_|refine gOn rfl ?_|refine gOff rfl rfl ?_|refine gTup rfl ?_))
  refine W.seq (comp_ok good ok_K07_R8 (Box.out (p := wp pr 236 k _ _ _ _) ?_))
  (repeat(first|refine pSeq ?_|refine pReg ?_|refine sCons ?_|refine sNil ?_|refine pSkip ?_|refine pRet ?_|refine pCond ?_|refine gNone ?_|refine gOn rfl ?_|refine gOff rfl rfl ?_|refine gTup rfl ?_))
  intro q hq
  obtain rfl : q = false := by rw [hq]; rfl
  (repeat(first|refine pSeq ?_|refine pReg ?_|refine sCons ?_|refine sNil ?_|refine pSkip ?_|refine pRet ?_|refine pCond ?_|refine gNone ?_|refine gOn rfl ?_|refine gOff rfl rfl ?_|refine gTup rfl ?_))
  refine ld1_is rfl e2 rfl ?_
  (repeat(first|refine pSeq ?_|refine pReg ?_|refine sCons ?_|refine sNil ?_|refine pSkip ?_|refine pRet ?_|refine pCond ?_|refine gNone ?_|refine gOn rfl ?_|refine gOff rfl rfl ?_|refine gTup rfl ?_))
  intro q hq
  obtain rfl : q = false := by rw [hq]; rfl
  (repeat(first|refine pSeq ?_|refine pReg ?_|refine sCons ?_|refine sNil ?_|refine pSkip ?_|refine pRet ?_|refine pCond ?_|refine gNone ?_|refine gOn rfl ?_|refine gOff rfl rfl ?_|refine gTup rfl ?_))
  refine ld1_is rfl e2 rfl ?_
  (repeat(first|refine pSeq ?_|refine pReg ?_|refine sCons ?_|refine sNil ?_|refine pSkip ?_|refine pRet ?_|refine pCond ?_|refine gNone ?_|refine gOn rfl ?_|refine gOff rfl rfl ?_|refine gTup rfl ?_))
  refine ⟨by decide, ?_⟩
  intro m hm o ho
  obtain rfl : m = 1 := by omega
  (repeat(first|refine pSeq ?_|refine pReg ?_|refine sCons ?_|refine sNil ?_|refine pSkip ?_|refine pRet ?_|refine pCond ?_|refine gNone ?_|refine gOn rfl ?_|refine gOff rfl rfl ?_|refine gTup rfl ?_))
  refine ldS_is (l := [98]) rfl hb2 (by rw [ho]; rfl) ?_
  (repeat(first|refine pSeq ?_|refine pReg ?_|refine sCons ?_|refine sNil ?_|refine pSkip ?_|refine pRet ?_|refine pCond ?_|refine gNone ?_|refine gOn rfl ?_|refine gOff rfl rfl ?_|refine gTup rfl ?_))
  intro q hq
  obtain rfl : q = false := by rw [hq]; rfl
  (repeat(first|refine pSeq ?_|refine pReg ?_|refine sCons ?_|refine sNil ?_|refine pSkip ?_|refine pRet ?_|refine pCond ?_|refine gNone ?_|refine gOn rfl ?_|refine gOff rfl rfl ?_|refine gTup rfl ?_))
  refine ld1_is rfl e2 rfl ?_
  (repeat(first|refine pSeq ?_|refine pReg ?_|refine sCons ?_|refine sNil ?_|refine pSkip ?_|refine pRet ?_|refine pCond ?_|refine gNone ?_|refine gOn rfl ?_|refine gOff rfl rfl ?_|refine gTup rfl ?_))
  refine ⟨by decide, ?_⟩
  intro m hm o2' ho2
  obtain rfl : m = 1 := by omega
  (repeat(first|refine pSeq ?_|refine pReg ?_|refine sCons ?_|refine sNil ?_|refine pSkip ?_|refine pRet ?_|refine pCond ?_|refine gNone ?_|refine gOn rfl ?_|refine gOff rfl rfl ?_|refine gTup rfl ?_))
  refine ldS_is (l := [50, 32, 9, 51]) rfl hb2 (by rw [ho2]; rfl) ?_
  (repeat(first|refine pSeq ?_|refine pReg ?_|refine sCons ?_|refine sNil ?_|refine pSkip ?_|refine pRet ?_|refine pCond ?_|refine gNone ?_|refine gOn rfl ?_|refine gOff rfl rfl ?_|refine gTup rfl ?_))
  intro q hq
  obtain rfl : q = false := by rw [hq]; rfl
  (repeat(first|refine pSeq ?_|refine pReg ?_|refine sCons ?_|refine sNil ?_|refine pSkip ?_|refine pRet ?_|refine pCond ?_|refine gNone ?_|refine gOn rfl ?_|refine gOff rfl rfl ?_|refine gTup rfl ?_))
  refine ldS_is (l := [13, 10]) rfl e2 rfl ?_
  (repeat(first|refine pSeq ?_|refine pReg ?_|refine sCons ?_|refine sNil ?_|refine pSkip ?_|refine pRet ?_|refine pCond ?_|refine gNone ?_|refine gOn rfl ?_|refine gOff rfl rfl ?_|refine gTup rfl ?_))
  intro q hq
  obtain rfl : q = false := by rw [hq]; rfl
  (repeat(first|refine pSeq ?_|refine pReg ?_|refine sCons ?_|refine sNil ?_|refine pSkip ?_|refine pRet ?_|refine pCond ?_|refine gNone ?_|refine gOn rfl ?_|refine gOff rfl rfl ?_|refine gTup rfl ?_))
  refine ldN_is (new := msC kM (some ⟨b, 0, none⟩) cw) rfl e2 agm3 ?_
  (repeat(first|refine pSeq ?_|refine pReg ?_|refine sCons ?_|refine sNil ?_|refine pSkip ?_|refine pRet ?_|refine pCond ?_|refine gNone ?_|refine gOn rfl ?_|refine gOff rfl rfl ?_|refine gTup rfl ?_))
  refine (hfind_w (nm := [97]) (rd_of o2) (by decide) (by decide) (by decide) (o2.lt)).mono fun v s3 q => ?_
  obtain ⟨V, cv, rfl, p3, c3, -⟩ := q
  rw [find_a] at p3 ⊢
  have c03 := c02.nil c3
  (repeat(first|refine pSeq ?_|refine pReg ?_|refine sCons ?_|refine sNil ?_|refine pSkip ?_|refine pRet ?_|refine pCond ?_|refine gNone ?_|refine gOn rfl ?_|refine gOff rfl rfl ?_|refine gTup rfl ?_))
  refine (eqS_w (fa := [[49], [52]]) (fb := [[49], [52]]) (st_of (p3.chg (Chg.new []) (by simp))) str_new (by decide) (by decide)).mono fun v s4 q => ?_
  obtain ⟨rfl, hs4⟩ := q
  have c34 : Chg s3 s4 [] := by rw [hs4]; exact Chg.new []
  clear hs4
  have c24 := c3.nil c34
  have c04 := c02.nil c24
  have e4 := c24.blk _ _ (by omega) (by simp) e2
  have o4 := o2.chg c24 (by simp)
  (repeat(first|refine pSeq ?_|refine pReg ?_|refine sCons ?_|refine sNil ?_|refine pSkip ?_|refine pRet ?_|refine pCond ?_|refine gNone ?_|refine gOn rfl ?_|refine gOff rfl rfl ?_|refine gTup rfl ?_))
  intro q hq
  obtain rfl : q = false := by rw [hq]; rfl
  (repeat(first|refine pSeq ?_|refine pReg ?_|refine sCons ?_|refine sNil ?_|refine pSkip ?_|refine pRet ?_|refine pCond ?_|refine gNone ?_|refine gOn rfl ?_|refine gOff rfl rfl ?_|refine gTup rfl ?_))
  refine ldN_is (new := msC kM (some ⟨b, 0, none⟩) cw) rfl e4 agm3 ?_
  (repeat(first|refine pSeq ?_|refine pReg ?_|refine sCons ?_|refine sNil ?_|refine pSkip ?_|refine pRet ?_|refine pCond ?_|refine gNone ?_|refine gOn rfl ?_|refine gOff rfl rfl ?_|refine gTup rfl ?_))
  refine (count7_w (nm := [66]) (rd_of o4) (by decide) (by decide) (by decide) (o4.lt)).mono fun v s5 q => ?_
  obtain ⟨rfl, c45⟩ := q
  have c05 := c04.nil c45
  have c25 := c24.nil c45
  have e5 := c25.blk _ _ (by omega) (by simp) e2
  have o5 := o2.chg c25 (by simp)
  (repeat(first|refine pSeq ?_|refine pReg ?_|refine sCons ?_|refine sNil ?_|refine pSkip ?_|refine pRet ?_|refine pCond ?_|refine gNone ?_|refine gOn rfl ?_|refine gOff rfl rfl ?_|refine gTup rfl ?_))
  intro q hq
  obtain rfl : q = false := by rw [hq, find_b]; rfl
  (repeat(first|refine pSeq ?_|refine pReg ?_|refine sCons ?_|refine sNil ?_|refine pSkip ?_|refine pRet ?_|refine pCond ?_|refine gNone ?_|refine gOn rfl ?_|refine gOff rfl rfl ?_|refine gTup rfl ?_))
  refine ldN_is (new := msC kM (some ⟨b, 0, none⟩) cw) rfl e5 agm3 ?_
  (repeat(first|refine pSeq ?_|refine pReg ?_|refine sCons ?_|refine sNil ?_|refine pSkip ?_|refine pRet ?_|refine pCond ?_|refine gNone ?_|refine gOn rfl ?_|refine gOff rfl rfl ?_|refine gTup rfl ?_))
  refine (count7_w (nm := [99]) (rd_of o5) (by decide) (by decide) (by decide) (o5.lt)).mono fun v s6 q => ?_
  obtain ⟨rfl, c56⟩ := q
  have c06 := c05.nil c56
  have c26 := c25.nil c56
  have e6 := c26.blk _ _ (by omega) (by simp) e2
  have o6 := o2.chg c26 (by simp)
  (repeat(first|refine pSeq ?_|refine pReg ?_|refine sCons ?_|refine sNil ?_|refine pSkip ?_|refine pRet ?_|refine pCond ?_|refine gNone ?_|refine gOn rfl ?_|refine gOff rfl rfl ?_|refine gTup rfl ?_))
  intro q hq
  obtain rfl : q = false := by rw [hq, find_c]; rfl
  (repeat(first|refine pSeq ?_|refine pReg ?_|refine sCons ?_|refine sNil ?_|refine pSkip ?_|refine pRet ?_|refine pCond ?_|refine gNone ?_|refine gOn rfl ?_|refine gOff rfl rfl ?_|refine gTup rfl ?_))
  have n26 := c26.next
  exact W.weak (k := k) (T' := [(0, .bool false), (5, .pointer (some ⟨p, 0, none⟩))]) (Wk.same ⟨rfl, rfl, trivial⟩) (hR _ b p cw c06 e6 (by omega) o6)
end Go.Vf.S

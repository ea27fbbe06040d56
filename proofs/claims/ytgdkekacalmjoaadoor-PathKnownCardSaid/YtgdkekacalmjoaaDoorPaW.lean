import Derived.Test.YtgdkekacalmjoaaDoorPaK
import Derived.Test.YtgdkekacalmjoaaDoorPaL
import Derived.Test.YtgdkekacalmjoaaDoorShK
import Derived.Test.YtgdkekacalmjoaaDoorFnK07
import Derived.Test.YtgdkekacalmjoaaDoorEngMl
import Derived.Test.YtgdkekacalmjoaaDoorEngBe
/- Paths: the chapter's rows, what is wrong, one by one: what the law PathKnown says, from any state. -/
namespace Go.Vf.S
open Go Go.Vf Go.Proofs
attribute [local irreducible] wSeq wRow wp wG
set_option linter.unusedVariables false
set_option linter.unusedSimpArgs false
set_option maxRecDepth 10000

theorem lrel_k {ρ : Go.Vf.Ren} {a b : Value} {args' : List Value} (h : LRel ρ [a, b] args') : ∃ v1 v2, args' = [v1, v2] ∧ VRel ρ a v1 ∧ VRel ρ b v2 := by
  obtain ⟨h1, h2⟩ := h
  match args', h1 with
  | [v1, v2], _ => exact ⟨v1, v2, rfl, h2 0 _ _ rfl rfl, h2 1 _ _ rfl rfl⟩
theorem repeat_w {s : SS} {l : List UInt8} {n : Nat} (hn : n ≤ 1000) (hl : l.length ≤ 1000) : CallW pr 24 [str l, .int .i64 n] s fun v s' => v = str (Lib.repeatL l n) ∧ s' = s := by
  refine CallW.kit rfl fun B w0 ρ args' w H hr => ?_
  obtain ⟨v1, v2, rfl, q1, q2⟩ := lrel_k hr
  obtain rfl := str_inv q1
  obtain rfl := int_inv q2
  exact Any.strings_Repeat Tryd.lays105 Tryd.Builder_Extra_105 ⟨⟨l⟩⟩ n w (by omega) (by
    show l.length * n ≤ _
    have : l.length * n ≤ 1000 * 1000 := Nat.mul_le_mul hl hn
    omega)

/-- Two texts, one behind the other. -/
theorem step_add {o : Oper} {t : TypeId} {x y : Operand} {p : TypeId} {T : TL} {s : SS} {a b : List UInt8} (hop : o.op = .binOp .add t x y p) (hx : operand (toTr T) s.st x = some (str a)) (hy : operand (toTr T) s.st y = some (str b)) (hl : Nat.ble (a.length + b.length) 4294967296 = true) : StepX pr o T s (str (a ++ b)) s := by
  refine StepX.of_fin good ⟨fun _ _ _ => none, no_caller, ?_⟩
  rw [hop]
  simp only [aOp, hx, hy, binV, strBin, hl, cond_true, Option.map_some, fin]
/-- What lies in a slot. -/
theorem step_move {o : Oper} {x : Nat} {T : TL} {s : SS} {v : Value} (hop : o.op = .move (.tmp x)) (hx : look T x = some v) : StepX pr o T s v s := by
  refine StepX.of_fin good ⟨fun _ _ _ => none, no_caller, ?_⟩
  rw [hop]
  simp only [aOp, operand, toTr_get, hx, Option.map_some, fin]
/-- A text without its first two bytes. -/
theorem step_two {o : Oper} {t : TypeId} {x : Operand} {T : TL} {s : SS} {v w : Value} (hop : o.op = .slice t x (some (.const (.int .i64 2))) none none) (hx : operand (toTr T) s.st x = some v) (hs : sliceV pr s.st t v (some (.int .i64 2)) none none = some w) : StepX pr o T s w s := by
  refine StepX.of_fin good ⟨fun _ _ _ => none, no_caller, ?_⟩
  rw [hop]
  have h2 : opt (toTr T) s.st (some (.const (.int .i64 2))) = some (some (.int .i64 2)) := rfl
  have h3 : opt (toTr T) s.st none = some none := rfl
  simp only [aOp, hx, h2, h3, hs, Option.map_some, fin]

theorem opAt {ops : Array Oper} {i : Nat} {o : Oper} {p : Op} (ho : ops[i]? = some o) (h : (ops[i]?).map Oper.op = some p) : o.op = p := by
  rw [ho] at h; exact Option.some.inj h
theorem slotAt {ops : Array Oper} {i j : Nat} {o : Oper} {Dp : List (Nat × Nat × Value)} {T : TL} {s : SS} {t : Nat} {v : Value} (ho : ops[i]? = some o) (hd : ∀ e ∈ o.after.toList, Region.binds .any e = true → ∀ t' v', look Dp e.on = some (t', v') → look T t' = some v')
    (hon : (ops[i]?).map (fun o => onE o j) = some true) (hl : look Dp j = some (t, v)) : operand (toTr T) s.st (.tmp t) = some v := by
  rw [ho] at hon
  have hon := Option.some.inj hon
  unfold onE at hon
  obtain ⟨e, he, h⟩ := List.any_eq_true.1 hon
  simp only [Bool.and_eq_true, Nat.beq_eq] at h
  simp only [operand, toTr_get]
  exact hd e he h.1 t v (h.2 ▸ hl)

def longL : List UInt8 := Lib.repeatL [120] 63
def far0 : List UInt8 := ((((((([60, 97, 64] ++ longL) ++ [46]) ++ longL) ++ [46]) ++ longL) ++ [46]) ++ Lib.repeatL [120] 58) ++ [62]
def z1 : LitD := { mt := 62, tm := 32, t2 := 46, t3 := 47, i0 := 0, im := 39, ir := 40, I := [1, 2, 3, 4, 5, 6, 7, 8, 9, 10, 11, 12, 13, 14, 15, 16, 17, 18, 19, 20, 24, 26, 30, 34, 38], Dp := [(21, 33, str (longL)), (22, 34, str ([60] ++ longL)), (23, 35, str (([60] ++ longL) ++ [120, 120, 64, 98, 62])), (25, 36, str (far0)), (27, 37, str (far0)), (28, 38, str (far0.drop 2)), (29, 39, str ([60, 97, 97, 97] ++ far0.drop 2)), (31, 40, str (far0)), (32, 41, str (far0.drop 2)), (33, 42, str ([60, 97, 97, 97, 97] ++ far0.drop 2)), (35, 43, str (longL)), (36, 44, str ([60, 64] ++ longL)), (37, 45, str (([60, 64] ++ longL) ++ [120, 58, 97, 64, 98, 62]))] }
theorem z1_ok : z1.ok 119 ops_K07_O1 = true := by kernel_rfl
theorem um_er : pr.underlying 62 = some (.map 9 36) := by kernel_rfl
theorem pure1 {gl : Nat} : PureOkT pr ops_K07_O1 z1 [(0, .bool false), (1, str longL), (2, str far0)] gl := by
  intro i o t v ho hl T s hg hT hd
  have t1 : look T 1 = some (str longL) := (hT 1 (by decide)).trans rfl
  have t2 : look T 2 = some (str far0) := (hT 2 (by decide)).trans rfl
  have hm := look_mem hl
  simp only [z1, List.mem_cons, List.not_mem_nil, or_false, Prod.mk.injEq] at hm
  rcases hm with ⟨rfl, rfl, rfl⟩ | ⟨rfl, rfl, rfl⟩ | ⟨rfl, rfl, rfl⟩ | ⟨rfl, rfl, rfl⟩ | ⟨rfl, rfl, rfl⟩ | ⟨rfl, rfl, rfl⟩ | ⟨rfl, rfl, rfl⟩ | ⟨rfl, rfl, rfl⟩ | ⟨rfl, rfl, rfl⟩ | ⟨rfl, rfl, rfl⟩ | ⟨rfl, rfl, rfl⟩ | ⟨rfl, rfl, rfl⟩ | ⟨rfl, rfl, rfl⟩
  · exact step_move (opAt (p := .move (.tmp 1)) ho (by kernel_rfl)) t1
  · exact step_add (opAt (p := .binOp .add 9 (.const (str [60])) (.tmp 33) 9) ho (by kernel_rfl)) rfl (slotAt ho hd (by kernel_rfl) (j := 21) rfl) (by kernel_rfl)
  · exact step_add (opAt (p := .binOp .add 9 (.tmp 34) (.const (str [120, 120, 64, 98, 62])) 9) ho (by kernel_rfl)) (slotAt ho hd (by kernel_rfl) (j := 22) rfl) rfl (by kernel_rfl)
  · exact step_move (opAt (p := .move (.tmp 2)) ho (by kernel_rfl)) t2
  · exact step_move (opAt (p := .move (.tmp 2)) ho (by kernel_rfl)) t2
  · exact step_two (opAt (p := .slice 9 (.tmp 37) (some (.const (.int .i64 2))) none none) ho (by kernel_rfl)) (slotAt ho hd (by kernel_rfl) (j := 27) rfl) (by kernel_rfl)
  · exact step_add (opAt (p := .binOp .add 9 (.const (str [60, 97, 97, 97])) (.tmp 38) 9) ho (by kernel_rfl)) rfl (slotAt ho hd (by kernel_rfl) (j := 28) rfl) (by kernel_rfl)
  · exact step_move (opAt (p := .move (.tmp 2)) ho (by kernel_rfl)) t2
  · exact step_two (opAt (p := .slice 9 (.tmp 40) (some (.const (.int .i64 2))) none none) ho (by kernel_rfl)) (slotAt ho hd (by kernel_rfl) (j := 31) rfl) (by kernel_rfl)
  · exact step_add (opAt (p := .binOp .add 9 (.const (str [60, 97, 97, 97, 97])) (.tmp 41) 9) ho (by kernel_rfl)) rfl (slotAt ho hd (by kernel_rfl) (j := 32) rfl) (by kernel_rfl)
  · exact step_move (opAt (p := .move (.tmp 1)) ho (by kernel_rfl)) t1
  · exact step_add (opAt (p := .binOp .add 9 (.const (str [60, 64])) (.tmp 43) 9) ho (by kernel_rfl)) rfl (slotAt ho hd (by kernel_rfl) (j := 35) rfl) (by kernel_rfl)
  · exact step_add (opAt (p := .binOp .add 9 (.tmp 44) (.const (str [120, 58, 97, 64, 98, 62])) 9) ho (by kernel_rfl)) (slotAt ho hd (by kernel_rfl) (j := 36) rfl) rfl (by kernel_rfl)

noncomputable def okA (j : Nat) : Bool := match z1.kv ops_K07_O1 j with
  | (.string b, .int .i64 v) => Nat.ble b.data.toList.length 700000 && decide (((pathF b.data.toList).2.2 : Int) = v)
  | _ => false
theorem allA : z1.I.all okA = true := by kernel_rfl
theorem isA {j : Nat} (h : j ∈ z1.I) : ∃ l, z1.kv ops_K07_O1 j = (str l, .int .i64 ((pathF l).2.2 : Nat)) ∧ l.length ≤ 700000 := by
  have := List.all_eq_true.1 allA j h
  unfold okA at this
  split at this
  · rename_i b v hb
    simp only [Bool.and_eq_true, Nat.ble_eq, decide_eq_true_eq] at this
    exact ⟨b.data.toList, by rw [hb, ← this.2], this.1⟩
  · cases this

/-- An entry of a literal. -/
theorem ent_is {kv : Nat → Value × Value} {I π : List Nat} {e : MapEntry} (hπ : π.Perm I) (h : e ∈ mkE kv π 0) : ∃ j ∈ I, e.key = (kv j).1 ∧ e.val = (kv j).2 ∧ e.born < π.length := by
  obtain ⟨⟨j, hj, h1, h2⟩, h3, h4⟩ := mkE_mem h
  exact ⟨j, (hπ.mem_iff).1 hj, h1, h2, by omega⟩

/-- The ground that a literal's loop stands on. -/
def lg (kv : Nat → Value × Value) (s : SS) (π : List Nat) (pt : Nat) (b : Bool) : MapL := ⟨litS kv s (.b π), s.next + 1, s.next, π.length, mkE kv π 0, [(pt, .pointer (some ⟨s.next + 1, 0, none⟩)), (0, .bool b)]⟩
theorem lg_fine {kv : Nat → Value × Value} {s : SS} {π : List Nat} {pt : Nat} {b : Bool} (hF : Fine s) : Fine (lg kv s π pt b).sb := fun id hid => by
  have hid' : s.next + 1 ≤ id := hid
  exact lkN (show s.next ≠ id by omega) (hF id (by omega))
theorem lg_chg {kv : Nat → Value × Value} {s : SS} {π : List Nat} {pt : Nat} {b : Bool} : Chg s (lg kv s π pt b).sb [] := .new _
theorem lg_map {kv : Nat → Value × Value} {s : SS} {π : List Nat} {pt : Nat} {b : Bool} : lookH (lg kv s π pt b).sb.heap (lg kv s π pt b).m = some (.map (lg kv s π pt b).es (lg kv s π pt b).since) := lkH
theorem lg_end {kv : Nat → Value × Value} {s : SS} {π : List Nat} {pt : Nat} {b : Bool} {nt k N : Nat} (hpt : pt ≠ 0) (hF : Fine s) (hN : s.next ≤ N) : Wk pr nt k (lg kv s π pt b).TH ((lg kv s π pt b).fin N) [(0, .bool b)] (s.upto N) :=
  Wk.less ⟨by show look [(pt, _), (0, Value.bool b)] 0 = _; simp only [look, beqF hpt]; rfl, trivial⟩ (fun id v hv => by
    have hne : s.next ≠ id := fun e => by
      have := hF id (by omega)
      rw [show lookH s.heap id = some v from hv] at this
      cases this
    exact lkT hne hv) (Nat.le_refl _) rfl

set_option maxHeartbeats 4000000 in
theorem loopA_w {s : SS} (hG : Gb s) (hF : Fine s) {k : Nat} {π : List Nat} (hπ : π.Perm z1.I) : W pr 119 k code_K07_B1 ((z1.D s.next).map (·.2) ++ [(0, .bool false), (1, str longL), (2, str far0)]) (litS (z1.kv ops_K07_O1) s (.c π)) fun ex' T3 s3 => ex' = .normal ∧ Wk pr 119 k T3 s3 [(0, .bool false)] (s.upto s3.next) := by
  refine comp_ok good ok_K07_B1 (Box.out (p := wp pr 119 k _ _ _ _) ?_)
  refine pBlock ?_
  refine pLoop (MW.maps good (id0 := 0) (g := lg (z1.kv ops_K07_O1) s π 47 false) rfl (Wk.same ⟨rfl, rfl, trivial⟩) rfl lg_map (show s.next + 1 ≠ s.next by omega) (fun e he => by obtain ⟨j, _, _, _, h⟩ := ent_is hπ he; exact h) ?_ ?_ ?_)
  · intro n seen hn e he hs
    have hn' : s.next + 1 < n := hn
    obtain ⟨j, hj, hk, hv, hb⟩ := ent_is hπ he
    obtain ⟨l, hl1, hl⟩ := isA hj
    rw [hl1] at hk hv
    simp only at hk hv
    rw [hk, hv]
    (repeat(first|refine pSeq ?_|refine pReg ?_|refine sRaw ?_|refine sCons ?_|refine sNil ?_|refine pBlock ?_|refine pSkip ?_|refine pExit ?_|refine pRet ?_|refine pCond ?_|refine gNone ?_))
    refine entry_W (e := e) (m := s.next) (es := mkE (z1.kv ops_K07_O1) π 0) (clock := π.length) (since := π.length) (seen := seen) (id := s.next + 1) rfl rfl lkH (lkT (show s.next + 1 ≠ s.next by omega) lg_map) he mkE_born ?_
    rw [hk, hv]
    (repeat(first|refine pSeq ?_|refine pReg ?_|refine sRaw ?_|refine sCons ?_|refine sNil ?_|refine pBlock ?_|refine pSkip ?_|refine pExit ?_|refine pRet ?_|refine pCond ?_|refine gNone ?_))
    have c0 : Chg s ((lg (z1.kv ops_K07_O1) s π 47 false).at n (seen ++ [e.born])) [] := lg_chg.nil (MapL.at_chg _ (lg_fine hF) rfl hn')
    refine (path_w (l := l) (hG.chg c0 (by simp)) hl).mono fun v s3 q => ?_
    obtain ⟨W', cw', rfl, -, c3, -⟩ := q
    (repeat(first|refine pSeq ?_|refine pReg ?_|refine sRaw ?_|refine sCons ?_|refine sNil ?_|refine pBlock ?_|refine pSkip ?_|refine pExit ?_|refine pRet ?_|refine pCond ?_|refine gNone ?_))
    refine st_abs (cs' := ptCells (pathF l).1 W' cw') rfl rfl lkH (Nat.lt_succ_self _) rfl rfl fun s4 e4 c4 n4 => ?_
    have c5 : Chg ((lg (z1.kv ops_K07_O1) s π 47 false).at n (seen ++ [e.born])) s4 [] := c3.nil ((Chg.new []).fresh c4 (by simp))
    (repeat(first|refine pSeq ?_|refine pReg ?_|refine sRaw ?_|refine sCons ?_|refine sNil ?_|refine pBlock ?_|refine pSkip ?_|refine pExit ?_|refine pRet ?_|refine pCond ?_|refine gNone ?_))
    intro q hq
    obtain rfl : q = false := by rw [hq]; simp
    (repeat(first|refine pSeq ?_|refine pReg ?_|refine sRaw ?_|refine sCons ?_|refine sNil ?_|refine pBlock ?_|refine pSkip ?_|refine pExit ?_|refine pRet ?_|refine pCond ?_|refine gNone ?_))
    exact ⟨rfl, MapL.back ⟨rfl, rfl, trivial⟩ (lg_fine hF) rfl hn' c5⟩
  · intro n seen hn
    (repeat(first|refine pSeq ?_|refine pReg ?_|refine sRaw ?_|refine sCons ?_|refine sNil ?_|refine pBlock ?_|refine pSkip ?_|refine pExit ?_|refine pRet ?_|refine pCond ?_|refine gNone ?_))
    exact ⟨rfl, MapL.over ⟨rfl, rfl, trivial⟩ (lg_fine hF) rfl⟩
  intro N hN
  have hN' : s.next + 1 + 1 ≤ N := hN
  (repeat(first|refine pSeq ?_|refine pReg ?_|refine sRaw ?_|refine sCons ?_|refine sNil ?_|refine pBlock ?_|refine pSkip ?_|refine pExit ?_|refine pRet ?_|refine pCond ?_|refine gNone ?_))
  exact ⟨rfl, lg_end (by decide) hF (by omega)⟩

def esP : List MapEntry := [⟨str [32], .int .i64 5, 0⟩, ⟨str [83, 73, 90, 69, 61, 49], .int .i64 5, 1⟩, ⟨str [32, 83, 73, 90, 69, 61], .int .i64 5, 2⟩, ⟨str [32, 83, 73, 90, 69], .int .i64 1, 3⟩, ⟨str [32, 83, 73, 90, 69, 61, 120], .int .i64 5, 4⟩, ⟨str [32, 83, 73, 90, 69, 61, 49, 50, 51, 52, 53, 54, 55, 56, 57, 48], .int .i64 5, 5⟩, ⟨str [32, 83, 73, 90, 69, 61, 49, 50, 51, 52, 53, 54, 55, 56, 57], .int .i64 0, 6⟩, ⟨str [32, 66, 79, 68, 89, 61, 57, 66, 73, 84], .int .i64 1, 7⟩, ⟨str [32, 66, 79, 68, 89], .int .i64 1, 8⟩, ⟨str [32, 88, 61, 49], .int .i64 1, 9⟩, ⟨str [32, 88], .int .i64 1, 10⟩, ⟨str [32, 88, 95, 89], .int .i64 5, 11⟩, ⟨str [32, 88, 61, 97, 61, 98], .int .i64 5, 12⟩, ⟨str [32, 88, 61, 49, 32, 83, 73, 90, 69, 61, 120], .int .i64 5, 13⟩, ⟨str [32, 83, 73, 90, 69, 61, 49, 32], .int .i64 5, 14⟩, ⟨str [32, 66, 79, 68, 89, 61, 55, 98, 105, 116, 32, 66, 79, 68, 89, 61, 55, 98, 105, 116], .int .i64 1, 15⟩, ⟨str [32, 83, 73, 90, 69, 61, 49, 32, 83, 73, 90, 69, 61, 120], .int .i64 5, 16⟩]
noncomputable def okP (e : MapEntry) : Bool := match e.key, e.val with
  | .string b, .int .i64 v => Nat.ble b.data.toList.length 700000 && (decide ((paramsF b.data.toList).2 = v) && Nat.blt e.born 17)
  | _, _ => false
theorem allP : esP.all okP = true := by kernel_rfl
theorem esP_is {e : MapEntry} (h : e ∈ esP) : ∃ l, e.key = str l ∧ e.val = .int .i64 (paramsF l).2 ∧ l.length ≤ 700000 ∧ e.born < 17 := by
  have := List.all_eq_true.1 allP e h
  unfold okP at this
  split at this
  · rename_i b v hk hv
    simp only [Bool.and_eq_true, Nat.ble_eq, Nat.blt_eq, decide_eq_true_eq] at this
    exact ⟨b.data.toList, hk, by rw [hv, this.2.1], this.1, this.2.2⟩
  · cases this
theorem bornP : (esP.map (·.born)).Nodup := by decide

set_option maxHeartbeats 4000000 in
theorem loopP_w {s : SS} (hG : Gb s) (hF : Fine s) {k : Nat} {R : AExit → TL → SS → Prop} (hR : ∀ s', Chg s s' [] → W pr 119 k code_K07_TL [(0, .bool false)] s' R) :
    W pr 119 k (.seq code_K07_M2 code_K07_TL) [(0, .bool false)] s R := by
  refine W.seq (comp_ok good ok_K07_M2 (Box.out (p := wp pr 119 k _ _ _ _) ?_))
  (repeat(first|refine pSeq ?_|refine pReg ?_|refine sRaw ?_|refine sCons ?_|refine sNil ?_|refine pBlock ?_|refine pSkip ?_|refine pExit ?_|refine pRet ?_|refine pCond ?_|refine gNone ?_))
  refine ⟨.new (.map [] 0) fun id => .map (some id), rfl, ?_⟩
  (repeat(first|refine pSeq ?_|refine pReg ?_|refine sRaw ?_|refine sCons ?_|refine sNil ?_|refine pBlock ?_|refine pSkip ?_|refine pExit ?_|refine pRet ?_|refine pCond ?_|refine gNone ?_))
  have hm0 : lookH (({ s with heap := (s.next, some (.map [] 0)) :: s.heap, next := s.next + 1 } : SS)).heap s.next = some (.map [] 0) := lkH
  have cc0 : Chg s ({ s with heap := (s.next, some (.map [] 0)) :: s.heap, next := s.next + 1 } : SS) [] := Chg.new []
  have nx0 : (({ s with heap := (s.next, some (.map [] 0)) :: s.heap, next := s.next + 1 } : SS)).next = s.next + 1 := rfl
  generalize ({ s with heap := (s.next, some (.map [] 0)) :: s.heap, next := s.next + 1 } : SS) = a0 at hm0 cc0 nx0 ⊢
  refine insert_abs rfl um_er un_S rfl rfl rfl hm0 (by omega) (by decide) (by decide) fun a1 hm1 c1 n1 => ?_
  (repeat(first|refine pSeq ?_|refine pReg ?_|refine sRaw ?_|refine sCons ?_|refine sNil ?_|refine pBlock ?_|refine pSkip ?_|refine pExit ?_|refine pRet ?_|refine pCond ?_|refine gNone ?_))
  have cc1 := cc0.fresh c1 (by simp <;> omega)
  have nx1 : a1.next = s.next + 1 := by omega
  refine insert_abs rfl um_er un_S rfl rfl rfl hm1 (by omega) (by decide) (by decide) fun a2 hm2 c2 n2 => ?_
  (repeat(first|refine pSeq ?_|refine pReg ?_|refine sRaw ?_|refine sCons ?_|refine sNil ?_|refine pBlock ?_|refine pSkip ?_|refine pExit ?_|refine pRet ?_|refine pCond ?_|refine gNone ?_))
  have cc2 := cc1.fresh c2 (by simp <;> omega)
  have nx2 : a2.next = s.next + 1 := by omega
  refine insert_abs rfl um_er un_S rfl rfl rfl hm2 (by omega) (by decide) (by decide) fun a3 hm3 c3 n3 => ?_
  (repeat(first|refine pSeq ?_|refine pReg ?_|refine sRaw ?_|refine sCons ?_|refine sNil ?_|refine pBlock ?_|refine pSkip ?_|refine pExit ?_|refine pRet ?_|refine pCond ?_|refine gNone ?_))
  have cc3 := cc2.fresh c3 (by simp <;> omega)
  have nx3 : a3.next = s.next + 1 := by omega
  refine insert_abs rfl um_er un_S rfl rfl rfl hm3 (by omega) (by decide) (by decide) fun a4 hm4 c4 n4 => ?_
  (repeat(first|refine pSeq ?_|refine pReg ?_|refine sRaw ?_|refine sCons ?_|refine sNil ?_|refine pBlock ?_|refine pSkip ?_|refine pExit ?_|refine pRet ?_|refine pCond ?_|refine gNone ?_))
  have cc4 := cc3.fresh c4 (by simp <;> omega)
  have nx4 : a4.next = s.next + 1 := by omega
  refine insert_abs rfl um_er un_S rfl rfl rfl hm4 (by omega) (by decide) (by decide) fun a5 hm5 c5 n5 => ?_
  (repeat(first|refine pSeq ?_|refine pReg ?_|refine sRaw ?_|refine sCons ?_|refine sNil ?_|refine pBlock ?_|refine pSkip ?_|refine pExit ?_|refine pRet ?_|refine pCond ?_|refine gNone ?_))
  have cc5 := cc4.fresh c5 (by simp <;> omega)
  have nx5 : a5.next = s.next + 1 := by omega
  refine insert_abs rfl um_er un_S rfl rfl rfl hm5 (by omega) (by decide) (by decide) fun a6 hm6 c6 n6 => ?_
  (repeat(first|refine pSeq ?_|refine pReg ?_|refine sRaw ?_|refine sCons ?_|refine sNil ?_|refine pBlock ?_|refine pSkip ?_|refine pExit ?_|refine pRet ?_|refine pCond ?_|refine gNone ?_))
  have cc6 := cc5.fresh c6 (by simp <;> omega)
  have nx6 : a6.next = s.next + 1 := by omega
  refine insert_abs rfl um_er un_S rfl rfl rfl hm6 (by omega) (by decide) (by decide) fun a7 hm7 c7 n7 => ?_
  (repeat(first|refine pSeq ?_|refine pReg ?_|refine sRaw ?_|refine sCons ?_|refine sNil ?_|refine pBlock ?_|refine pSkip ?_|refine pExit ?_|refine pRet ?_|refine pCond ?_|refine gNone ?_))
  have cc7 := cc6.fresh c7 (by simp <;> omega)
  have nx7 : a7.next = s.next + 1 := by omega
  refine insert_abs rfl um_er un_S rfl rfl rfl hm7 (by omega) (by decide) (by decide) fun a8 hm8 c8 n8 => ?_
  (repeat(first|refine pSeq ?_|refine pReg ?_|refine sRaw ?_|refine sCons ?_|refine sNil ?_|refine pBlock ?_|refine pSkip ?_|refine pExit ?_|refine pRet ?_|refine pCond ?_|refine gNone ?_))
  have cc8 := cc7.fresh c8 (by simp <;> omega)
  have nx8 : a8.next = s.next + 1 := by omega
  refine insert_abs rfl um_er un_S rfl rfl rfl hm8 (by omega) (by decide) (by decide) fun a9 hm9 c9 n9 => ?_
  (repeat(first|refine pSeq ?_|refine pReg ?_|refine sRaw ?_|refine sCons ?_|refine sNil ?_|refine pBlock ?_|refine pSkip ?_|refine pExit ?_|refine pRet ?_|refine pCond ?_|refine gNone ?_))
  have cc9 := cc8.fresh c9 (by simp <;> omega)
  have nx9 : a9.next = s.next + 1 := by omega
  refine insert_abs rfl um_er un_S rfl rfl rfl hm9 (by omega) (by decide) (by decide) fun a10 hm10 c10 n10 => ?_
  (repeat(first|refine pSeq ?_|refine pReg ?_|refine sRaw ?_|refine sCons ?_|refine sNil ?_|refine pBlock ?_|refine pSkip ?_|refine pExit ?_|refine pRet ?_|refine pCond ?_|refine gNone ?_))
  have cc10 := cc9.fresh c10 (by simp <;> omega)
  have nx10 : a10.next = s.next + 1 := by omega
  refine insert_abs rfl um_er un_S rfl rfl rfl hm10 (by omega) (by decide) (by decide) fun a11 hm11 c11 n11 => ?_
  (repeat(first|refine pSeq ?_|refine pReg ?_|refine sRaw ?_|refine sCons ?_|refine sNil ?_|refine pBlock ?_|refine pSkip ?_|refine pExit ?_|refine pRet ?_|refine pCond ?_|refine gNone ?_))
  have cc11 := cc10.fresh c11 (by simp <;> omega)
  have nx11 : a11.next = s.next + 1 := by omega
  refine insert_abs rfl um_er un_S rfl rfl rfl hm11 (by omega) (by decide) (by decide) fun a12 hm12 c12 n12 => ?_
  (repeat(first|refine pSeq ?_|refine pReg ?_|refine sRaw ?_|refine sCons ?_|refine sNil ?_|refine pBlock ?_|refine pSkip ?_|refine pExit ?_|refine pRet ?_|refine pCond ?_|refine gNone ?_))
  have cc12 := cc11.fresh c12 (by simp <;> omega)
  have nx12 : a12.next = s.next + 1 := by omega
  refine insert_abs rfl um_er un_S rfl rfl rfl hm12 (by omega) (by decide) (by decide) fun a13 hm13 c13 n13 => ?_
  (repeat(first|refine pSeq ?_|refine pReg ?_|refine sRaw ?_|refine sCons ?_|refine sNil ?_|refine pBlock ?_|refine pSkip ?_|refine pExit ?_|refine pRet ?_|refine pCond ?_|refine gNone ?_))
  have cc13 := cc12.fresh c13 (by simp <;> omega)
  have nx13 : a13.next = s.next + 1 := by omega
  refine insert_abs rfl um_er un_S rfl rfl rfl hm13 (by omega) (by decide) (by decide) fun a14 hm14 c14 n14 => ?_
  (repeat(first|refine pSeq ?_|refine pReg ?_|refine sRaw ?_|refine sCons ?_|refine sNil ?_|refine pBlock ?_|refine pSkip ?_|refine pExit ?_|refine pRet ?_|refine pCond ?_|refine gNone ?_))
  have cc14 := cc13.fresh c14 (by simp <;> omega)
  have nx14 : a14.next = s.next + 1 := by omega
  refine insert_abs rfl um_er un_S rfl rfl rfl hm14 (by omega) (by decide) (by decide) fun a15 hm15 c15 n15 => ?_
  (repeat(first|refine pSeq ?_|refine pReg ?_|refine sRaw ?_|refine sCons ?_|refine sNil ?_|refine pBlock ?_|refine pSkip ?_|refine pExit ?_|refine pRet ?_|refine pCond ?_|refine gNone ?_))
  have cc15 := cc14.fresh c15 (by simp <;> omega)
  have nx15 : a15.next = s.next + 1 := by omega
  refine insert_abs rfl um_er un_S rfl rfl rfl hm15 (by omega) (by decide) (by decide) fun a16 hm16 c16 n16 => ?_
  (repeat(first|refine pSeq ?_|refine pReg ?_|refine sRaw ?_|refine sCons ?_|refine sNil ?_|refine pBlock ?_|refine pSkip ?_|refine pExit ?_|refine pRet ?_|refine pCond ?_|refine gNone ?_))
  have cc16 := cc15.fresh c16 (by simp <;> omega)
  have nx16 : a16.next = s.next + 1 := by omega
  refine insert_abs rfl um_er un_S rfl rfl rfl hm16 (by omega) (by decide) (by decide) fun a17 hm17 c17 n17 => ?_
  (repeat(first|refine pSeq ?_|refine pReg ?_|refine sRaw ?_|refine sCons ?_|refine sNil ?_|refine pBlock ?_|refine pSkip ?_|refine pExit ?_|refine pRet ?_|refine pCond ?_|refine gNone ?_))
  have cc17 := cc16.fresh c17 (by simp <;> omega)
  have nx17 : a17.next = s.next + 1 := by omega
  have hmE : lookH a17.heap s.next = some (.map esP 17) := hm17
  have hfE : Fine a17 := cc17.fine hF
  refine range_W rfl um_er rfl hmE ?_
  (repeat(first|refine pSeq ?_|refine pReg ?_|refine sRaw ?_|refine sCons ?_|refine sNil ?_|refine pBlock ?_|refine pSkip ?_|refine pExit ?_|refine pRet ?_|refine pCond ?_|refine gNone ?_))
  refine pLoop (MW.maps good (id0 := 2) (g := ⟨a17, a17.next, s.next, 17, esP, [(64, .pointer (some ⟨a17.next, 0, none⟩)), (0, .bool false)]⟩) rfl (Wk.same ⟨rfl, rfl, trivial⟩) rfl hmE (by show a17.next ≠ s.next; omega) (fun e he => by obtain ⟨_, _, _, _, h⟩ := esP_is he; exact h) ?_ ?_ ?_)
  · intro n seen hn e he hs
    have hn' : a17.next < n := hn
    obtain ⟨l, hk, hv, hl, hb⟩ := esP_is he
    rw [hk, hv]
    (repeat(first|refine pSeq ?_|refine pReg ?_|refine sRaw ?_|refine sCons ?_|refine sNil ?_|refine pBlock ?_|refine pSkip ?_|refine pExit ?_|refine pRet ?_|refine pCond ?_|refine gNone ?_))
    refine entry_W (e := e) rfl rfl lkH (lkT (show a17.next ≠ s.next by omega) hmE) he bornP ?_
    rw [hk, hv]
    (repeat(first|refine pSeq ?_|refine pReg ?_|refine sRaw ?_|refine sCons ?_|refine sNil ?_|refine pBlock ?_|refine pSkip ?_|refine pExit ?_|refine pRet ?_|refine pCond ?_|refine gNone ?_))
    have c0 : Chg a17 ((⟨a17, a17.next, s.next, 17, esP, [(64, .pointer (some ⟨a17.next, 0, none⟩)), (0, .bool false)]⟩ : MapL).at n (seen ++ [e.born])) [] := MapL.at_chg (⟨a17, a17.next, s.next, 17, esP, [(64, .pointer (some ⟨a17.next, 0, none⟩)), (0, .bool false)]⟩ : MapL) hfE rfl hn'
    refine (params_w (l := l) (c0.fine hfE) (by omega)).mono fun v s3 q => ?_
    obtain ⟨rfl, c3⟩ := q
    (repeat(first|refine pSeq ?_|refine pReg ?_|refine sRaw ?_|refine sCons ?_|refine sNil ?_|refine pBlock ?_|refine pSkip ?_|refine pExit ?_|refine pRet ?_|refine pCond ?_|refine gNone ?_))
    refine st_abs (cs' := pvCells (paramsF l).1) rfl rfl lkH (Nat.lt_succ_self _) rfl rfl fun s4 e4 c4 n4 => ?_
    have c5 := c3.nil ((Chg.new []).fresh c4 (by simp))
    (repeat(first|refine pSeq ?_|refine pReg ?_|refine sRaw ?_|refine sCons ?_|refine sNil ?_|refine pBlock ?_|refine pSkip ?_|refine pExit ?_|refine pRet ?_|refine pCond ?_|refine gNone ?_))
    intro q hq
    obtain rfl : q = false := by rw [hq]; simp
    (repeat(first|refine pSeq ?_|refine pReg ?_|refine sRaw ?_|refine sCons ?_|refine sNil ?_|refine pBlock ?_|refine pSkip ?_|refine pExit ?_|refine pRet ?_|refine pCond ?_|refine gNone ?_))
    exact ⟨rfl, MapL.back ⟨rfl, rfl, trivial⟩ hfE rfl hn' c5⟩
  · intro n seen hn
    (repeat(first|refine pSeq ?_|refine pReg ?_|refine sRaw ?_|refine sCons ?_|refine sNil ?_|refine pBlock ?_|refine pSkip ?_|refine pExit ?_|refine pRet ?_|refine pCond ?_|refine gNone ?_))
    exact ⟨rfl, MapL.over ⟨rfl, rfl, trivial⟩ hfE rfl⟩
  intro N hN
  have cf := cc17.nil ((MapL.fin_chg ⟨a17, a17.next, s.next, 17, esP, [(64, .pointer (some ⟨a17.next, 0, none⟩)), (0, .bool false)]⟩ (n := N) (Nat.le_of_succ_le hN)))
  (repeat(first|refine pSeq ?_|refine pReg ?_|refine sRaw ?_|refine sCons ?_|refine sNil ?_|refine pBlock ?_|refine pSkip ?_|refine pExit ?_|refine pRet ?_|refine pCond ?_|refine gNone ?_))
  exact W.weak (k := k) (T' := [(0, .bool false)]) (Wk.same ⟨rfl, trivial⟩) (hR _ cf)

theorem ex1 : fromF [60, 80, 111, 115, 116, 109, 97, 115, 116, 101, 114, 62] = (ptZ, pv0, 5) := by kernel_rfl
theorem ex2 : toF [60, 97, 64, 98, 62, 32, 88, 61, 97, 61, 98] = (ptZ, 5) := by kernel_rfl
theorem ex3 : toF [60, 64, 120, 58, 97, 64, 98, 62] = (⟨false, false, [[120]], [97], [98]⟩, 0) := by kernel_rfl
theorem ex4 : textP ⟨false, false, [[120]], [97], [98]⟩ = [60, 97, 64, 98, 62] := by kernel_rfl
theorem ex5 : textP ptZ = [] := by kernel_rfl
theorem ex6 : textP ⟨false, true, [], [], []⟩ = [60, 80, 111, 115, 116, 109, 97, 115, 116, 101, 114, 62] := by kernel_rfl

set_option maxHeartbeats 4000000 in
theorem ktail_w {s : SS} (hG : Gb s) (hF : Fine s) {k : Nat} : W pr 119 k code_K07_TL [(0, .bool false)] s (runQ pr [.tmp 0] fun v s' => v = .bool true) := by
  refine comp_ok good ok_K07_TL (Box.out (p := wp pr 119 k _ _ _ _) ?_)
  (repeat(first|refine pSeq ?_|refine pReg ?_|refine sCons ?_|refine sNil ?_|refine pRet ?_|refine gNone ?_|refine gOn rfl ?_|refine gOff rfl rfl ?_|refine gTup rfl ?_))
  refine (from_w hG hF (by simp)).mono fun v s1 q => ?_
  obtain ⟨W1, cw1, rfl, -, c1, -⟩ := q
  rw [ex1]
  (repeat(first|refine pSeq ?_|refine pReg ?_|refine sCons ?_|refine sNil ?_|refine pRet ?_|refine gNone ?_|refine gOn rfl ?_|refine gOff rfl rfl ?_|refine gTup rfl ?_))
  refine st_abs (cs' := ptCells ptZ W1 cw1) rfl rfl (lkT (by show s1.next + 1 ≠ s1.next; omega) lkH) (by show s1.next < s1.next + 1 + 1; omega) rfl rfl fun s2 x2 f2 m2 => ?_
  have n2 : s2.next = s1.next + 2 := m2
  have y2 := f2.blk (s1.next + 1) _ (by show s1.next + 1 < s1.next + 1 + 1; omega) (by simp) lkH
  have c12 : Chg s1 s2 [] := ((Chg.new []).nil (Chg.new [])).fresh f2 (by simp)
  clear f2 m2 x2
  (repeat(first|refine pSeq ?_|refine pReg ?_|refine sCons ?_|refine sNil ?_|refine pRet ?_|refine gNone ?_|refine gOn rfl ?_|refine gOff rfl rfl ?_|refine gTup rfl ?_))
  refine st_abs (cs' := pvCells pv0) rfl rfl y2 (by show s1.next + 1 < s2.next; omega) rfl rfl fun s3 x3 f3 m3 => ?_
  have c3 : Chg s s3 [] := (c1.nil c12).fresh f3 (by intro id q; have := c1.next; simp at q; omega)
  clear f3 m3 x3 y2
  (repeat(first|refine pSeq ?_|refine pReg ?_|refine sCons ?_|refine sNil ?_|refine pRet ?_|refine gNone ?_|refine gOn rfl ?_|refine gOff rfl rfl ?_|refine gTup rfl ?_))
  refine (to_w (hG.chg c3 (by simp)) (c3.fine hF) (by simp)).mono fun v s4 q => ?_
  obtain ⟨W2, cw2, rfl, -, c34, -⟩ := q
  rw [ex2]
  have c4 := c3.nil c34
  (repeat(first|refine pSeq ?_|refine pReg ?_|refine sCons ?_|refine sNil ?_|refine pRet ?_|refine gNone ?_|refine gOn rfl ?_|refine gOff rfl rfl ?_|refine gTup rfl ?_))
  refine st_abs (cs' := ptCells ptZ W2 cw2) rfl rfl lkH (Nat.lt_succ_self _) rfl rfl fun s5 x5 f5 m5 => ?_
  have c5 : Chg s s5 [] := c4.nil ((Chg.new []).fresh f5 (by simp))
  clear f5 m5 x5
  (repeat(first|refine pSeq ?_|refine pReg ?_|refine sCons ?_|refine sNil ?_|refine pRet ?_|refine gNone ?_|refine gOn rfl ?_|refine gOff rfl rfl ?_|refine gTup rfl ?_))
  refine (to_w (hG.chg c5 (by simp)) (c5.fine hF) (by simp)).mono fun v s6 q => ?_
  obtain ⟨W3, cw3, rfl, -, c56, -⟩ := q
  rw [ex3]
  have c6 := c5.nil c56
  (repeat(first|refine pSeq ?_|refine pReg ?_|refine sCons ?_|refine sNil ?_|refine pRet ?_|refine gNone ?_|refine gOn rfl ?_|refine gOff rfl rfl ?_|refine gTup rfl ?_))
  refine st_abs (cs' := ptCells ⟨false, false, [[120]], [97], [98]⟩ W3 cw3) rfl rfl lkH (Nat.lt_succ_self _) rfl rfl fun s7 e7 f7 m7 => ?_
  have c7 : Chg s s7 [] := c6.nil ((Chg.new []).fresh f7 (by simp))
  (repeat(first|refine pSeq ?_|refine pReg ?_|refine sCons ?_|refine sNil ?_|refine pRet ?_|refine gNone ?_|refine gOn rfl ?_|refine gOff rfl rfl ?_|refine gTup rfl ?_))
  intro q hq
  obtain rfl : q = true := by rw [hq]; rfl
  (repeat(first|refine pSeq ?_|refine pReg ?_|refine sCons ?_|refine sNil ?_|refine pRet ?_|refine gNone ?_|refine gOn rfl ?_|refine gOff rfl rfl ?_|refine gTup rfl ?_))
  intro q hq
  obtain rfl : q = true := by rw [hq]; rfl
  (repeat(first|refine pSeq ?_|refine pReg ?_|refine sCons ?_|refine sNil ?_|refine pRet ?_|refine gNone ?_|refine gOn rfl ?_|refine gOff rfl rfl ?_|refine gTup rfl ?_))
  intro q hq
  obtain rfl : q = true := by rw [hq]; rfl
  (repeat(first|refine pSeq ?_|refine pReg ?_|refine sCons ?_|refine sNil ?_|refine pRet ?_|refine gNone ?_|refine gOn rfl ?_|refine gOff rfl rfl ?_|refine gTup rfl ?_))
  refine ldN_is rfl e7 agg5 ?_
  (repeat(first|refine pSeq ?_|refine pReg ?_|refine sCons ?_|refine sNil ?_|refine pRet ?_|refine gNone ?_|refine gOn rfl ?_|refine gOff rfl rfl ?_|refine gTup rfl ?_))
  refine (ptext_w (p := ⟨false, false, [[120]], [97], [98]⟩) (hG.chg c7 (by simp)) (by simp) (by simp)).mono fun v s8 q => ?_
  obtain ⟨rfl, c78⟩ := q
  rw [ex4]
  have c8 := c7.nil c78
  (repeat(first|refine pSeq ?_|refine pReg ?_|refine sCons ?_|refine sNil ?_|refine pRet ?_|refine gNone ?_|refine gOn rfl ?_|refine gOff rfl rfl ?_|refine gTup rfl ?_))
  intro q hq
  obtain rfl : q = true := by rw [hq]; rfl
  (repeat(first|refine pSeq ?_|refine pReg ?_|refine sCons ?_|refine sNil ?_|refine pRet ?_|refine gNone ?_|refine gOn rfl ?_|refine gOff rfl rfl ?_|refine gTup rfl ?_))
  refine (ptext_w (p := ptZ) (W := none) (cw := 0) (hG.chg c8 (by simp)) (by simp [ptZ]) (by simp [ptZ])).mono fun v s9 q => ?_
  obtain ⟨rfl, c89⟩ := q
  rw [ex5]
  have c9 := c8.nil c89
  (repeat(first|refine pSeq ?_|refine pReg ?_|refine sCons ?_|refine sNil ?_|refine pRet ?_|refine gNone ?_|refine gOn rfl ?_|refine gOff rfl rfl ?_|refine gTup rfl ?_))
  intro q hq
  obtain rfl : q = true := by rw [hq]; rfl
  (repeat(first|refine pSeq ?_|refine pReg ?_|refine sCons ?_|refine sNil ?_|refine pRet ?_|refine gNone ?_|refine gOn rfl ?_|refine gOff rfl rfl ?_|refine gTup rfl ?_))
  refine (ptext_w (p := ⟨false, true, [], [], []⟩) (W := none) (cw := 0) (hG.chg c9 (by simp)) (by simp) (by simp)).mono fun v s10 q => ?_
  obtain ⟨rfl, c910⟩ := q
  rw [ex6]
  have c10 := c9.nil c910
  (repeat(first|refine pSeq ?_|refine pReg ?_|refine sCons ?_|refine sNil ?_|refine pRet ?_|refine gNone ?_|refine gOn rfl ?_|refine gOff rfl rfl ?_|refine gTup rfl ?_))
  intro q hq
  obtain rfl : q = true := by rw [hq]; rfl
  (repeat(first|refine pSeq ?_|refine pReg ?_|refine sCons ?_|refine sNil ?_|refine pRet ?_|refine gNone ?_|refine gOn rfl ?_|refine gOff rfl rfl ?_|refine gTup rfl ?_))
  refine (ptells_w (hG.chg c10 (by simp)) (c10.fine hF)).mono fun v s11 q => ?_
  obtain ⟨rfl, -⟩ := q
  (repeat(first|refine pSeq ?_|refine pReg ?_|refine sCons ?_|refine sNil ?_|refine pRet ?_|refine gNone ?_|refine gOn rfl ?_|refine gOff rfl rfl ?_|refine gTup rfl ?_))
  rfl

set_option maxHeartbeats 4000000 in
theorem pknown_w {s : SS} (hG : Gb s) (hF : Fine s) : CallW pr 7 [] s fun v s' => v = .bool true := by
  refine CallW.pieces (nt := 119) (res := [.tmp 0]) (c := .seq code_K07_R0 (.seq code_K07_R1 (.seq code_K07_R2 (.seq (.seq (.region 3 ops_K07_O1 true) code_K07_B1) (.seq code_K07_M2 code_K07_TL))))) (by kernel_rfl) (by kernel_rfl) (by kernel_rfl) (by kernel_rfl) (by simp) ?_
  refine W.seq (comp_ok good ok_K07_R0 (Box.out (p := wp pr 119 s.next _ _ _ _) ?_))
  (repeat(first|refine pReg ?_|refine sCons ?_|refine sNil ?_|refine gNone ?_))
  refine W.seq (comp_ok good ok_K07_R1 (Box.out (p := wp pr 119 s.next _ _ _ _) ?_))
  (repeat(first|refine pReg ?_|refine sCons ?_|refine sNil ?_|refine gNone ?_))
  refine (repeat_w (l := [120]) (n := 63) (by decide) (by decide)).mono fun v s q => ?_
  obtain ⟨rfl, rfl⟩ := q
  (repeat(first|refine pReg ?_|refine sCons ?_|refine sNil ?_|refine gNone ?_))
  refine W.seq (comp_ok good ok_K07_R2 (Box.out (p := wp pr 119 s.next _ _ _ _) ?_))
  have hl63 : (Lib.repeatL [120] 63).length = 63 := by decide +kernel
  have hl58 : (Lib.repeatL [120] 58).length = 58 := by decide +kernel
  (repeat(first|refine pReg ?_|refine sCons ?_|refine sNil ?_|refine gNone ?_))
  refine ⟨by simp [hl63, hl58], ?_⟩
  intro w hw
  subst hw
  (repeat(first|refine pReg ?_|refine sCons ?_|refine sNil ?_|refine gNone ?_))
  refine ⟨by simp [hl63, hl58], ?_⟩
  intro w hw
  subst hw
  (repeat(first|refine pReg ?_|refine sCons ?_|refine sNil ?_|refine gNone ?_))
  refine ⟨by simp [hl63, hl58], ?_⟩
  intro w hw
  subst hw
  (repeat(first|refine pReg ?_|refine sCons ?_|refine sNil ?_|refine gNone ?_))
  refine ⟨by simp [hl63, hl58], ?_⟩
  intro w hw
  subst hw
  (repeat(first|refine pReg ?_|refine sCons ?_|refine sNil ?_|refine gNone ?_))
  refine ⟨by simp [hl63, hl58], ?_⟩
  intro w hw
  subst hw
  (repeat(first|refine pReg ?_|refine sCons ?_|refine sNil ?_|refine gNone ?_))
  refine ⟨by simp [hl63, hl58], ?_⟩
  intro w hw
  subst hw
  (repeat(first|refine pReg ?_|refine sCons ?_|refine sNil ?_|refine gNone ?_))
  refine (repeat_w (l := [120]) (n := 58) (by decide) (by decide)).mono fun v s q => ?_
  obtain ⟨rfl, rfl⟩ := q
  (repeat(first|refine pReg ?_|refine sCons ?_|refine sNil ?_|refine gNone ?_))
  refine ⟨by simp [hl63, hl58], ?_⟩
  intro w hw
  subst hw
  (repeat(first|refine pReg ?_|refine sCons ?_|refine sNil ?_|refine gNone ?_))
  refine ⟨by simp [hl63, hl58], ?_⟩
  intro w hw
  subst hw
  (repeat(first|refine pReg ?_|refine sCons ?_|refine sNil ?_|refine gNone ?_))
  show W pr 119 s.next _ _ _ _
  refine W.weak (k := s.next) (T' := [(0, .bool false), (1, str longL), (2, str far0)]) (s' := s) (Wk.same ⟨rfl, rfl, rfl, trivial⟩) ?_
  refine W.seq (k := s.next) (W.litT (z := z1) (g := s) (T' := [(0, .bool false)]) (ex := .normal) good (by kernel_rfl) z1_ok um_er un_S pure1 rfl (fun π hπ => loopA_w hG hF hπ) fun n hn => ?_)
  have g1 : Gb (s.upto n) := ⟨hG.1, Nat.lt_of_lt_of_le hG.2.1 hn, hG.2.2⟩
  have f1 : Fine (s.upto n) := fun id hid => hF id (Nat.le_trans hn hid)
  show W pr 119 s.next (.seq code_K07_M2 code_K07_TL) [(0, .bool false)] (s.upto n) (runQ pr [.tmp 0] fun v s' => v = .bool true)
  exact loopP_w g1 f1 fun s' c => ktail_w (g1.chg c (by simp)) (c.fine f1)
end Go.Vf.S

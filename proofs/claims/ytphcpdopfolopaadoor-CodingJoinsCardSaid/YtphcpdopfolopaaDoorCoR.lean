import Derived.Test.YtphcpdopfolopaaDoorAdZ
import Derived.Test.YtphcpdopfolopaaDoorLbH
import Derived.Test.YtphcpdopfolopaaDoorCoF
import Derived.Lib.LaidTab
/- The kinds' table, as the rows lay it; a start that knows it, and what is handed in. -/
namespace Go.Vf.S
open Go Go.Vf Go.Proofs Go.Proofs.YtphcpdopfolopaaDoor Go.RowKit Go.ChangeShapes
set_option linter.unusedVariables false
set_option linter.unusedSimpArgs false
set_option maxRecDepth 10000

theorem tab_core11 {W : World} {name : String} {g es : Nat} {t : TypeId} {cs : Array Value} {V : List Value} (hg : pr.globalNamed name = some g) (hv : W.var? pr name = some cs) (hcs : cs.toList = V) (hz : ∃ c t0, W.heap[g]? = some (.cells c t0 (0, 0))) (he : (pr.info? t).map (·.size) = some es) (hp : V.all plain1 = true) :
    GoodB pr W ⟨g, 0, V.length, es, false⟩ (.cells V t false true) := by
  obtain ⟨c, t0, hblk⟩ := hz
  have hc : c = ⟨V⟩ := by
    unfold World.var? at hv
    rw [hg] at hv
    simp only [Option.bind_some, hblk, Option.some.injEq] at hv
    rw [hv]
    exact Array.toList_inj.1 hcs
  subst hc
  refine ⟨fun ρ => ⟨rfl, V, 0, 0, t0, hblk, (fun z => by cases z), (fun i _ hh => by omega), by show 0 + V.length ≤ V.length; omega, Nat.le_refl _, he, fun i v hi => ⟨v, by simpa using hi, plain1_rel ?_⟩⟩, rfl, ?_⟩
  · exact List.all_eq_true.1 hp v (List.mem_of_getElem? hi)
  · exact (Array.getElem?_eq_some_iff.1 hblk).1
def kOf (r : Nat) : Nat := if r = 0 then 5 else if r = 1 then 6 else 4
abbrev tK3 : TypeId := 66
theorem kinds_get {r j : Nat} (hr : r < 3) (hj : j < 4) : kindsV[r * 4 + j]? = (kV (kOf r))[j]? := by
  rcases (show r = 0 ∨ r = 1 ∨ r = 2 by omega) with rfl | rfl | rfl <;> rcases (show j = 0 ∨ j = 1 ∨ j = 2 ∨ j = 3 by omega) with rfl | rfl | rfl | rfl <;> rfl
theorem kd_core {W : World} {g : Nat} {t : TypeId} {cs : Array Value} {fuel : Nat} {p : List MemPlace} (hg : pr.globalNamed "postrider/coding.kinds" = some g) (ht : (pr.globals[g]?).map (·.type) = some t)
    (hd : DataW.trod (fun _ => ()) pr W 0 (fun _ => true) false fuel t cs.toList = some (Rows.laid_postrider_coding_kinds, p)) : g = gK ∧ cs.toList = kindsV := by
  obtain rfl := Option.some.inj ((show pr.globalNamed "postrider/coding.kinds" = some gK by kernel_rfl).symm.trans hg)
  obtain rfl := Option.some.inj ((show (pr.globals[gK]?).map (·.type) = some tK3 by kernel_rfl).symm.trans ht)
  refine ⟨rfl, ?_⟩
  obtain ⟨xs, m, _, ex, hlen, hl, hel⟩ := DataW.trod_array Tryd.underlying66 hd
  have c4 : pr.cellsOf tKd = 4 := by kernel_rfl
  have c59 : pr.cellsOf tK3 = 12 := by kernel_rfl
  have cS : pr.cellsOf 9 = 1 := by kernel_rfl
  have cU : pr.cellsOf 63 = 1 := by kernel_rfl
  have cI : pr.cellsOf 3 = 1 := by kernel_rfl
  have cB : pr.cellsOf 4 = 1 := by kernel_rfl
  have e3 : (xs.map (·.1)) = ((List.range 3).map fun i => (.agg [.lit (.string (lets (kOf i))), .lit (.int .u64 (kOf i : Nat)), .lit (.int .i64 (rowN (kOf i) : Nat)), .lit (.bool (decide (kOf i ≠ 6)))] : DataW Unit)) := (DataW.agg.inj (Prod.mk.inj ex).1).symm.trans (by kernel_rfl)
  have key : ∀ r, r < 3 → ∀ j, j < 4 → cs.toList[r * 4 + j]? = (kV (kOf r))[j]? := fun r hr j hj => by
    have hE := hel r hr
    rw [c4, List.getElem?_eq_getElem (by omega)] at hE
    obtain ⟨ys, n, _, ey, _, hyl, hf⟩ := DataW.trod_struct Tryd.underlying65 hE
    have hyl2 : ys.length = 4 := hyl
    have e4 : (xs.map (·.1))[r]? = ((List.range 3).map fun i => (.agg [.lit (.string (lets (kOf i))), .lit (.int .u64 (kOf i : Nat)), .lit (.int .i64 (rowN (kOf i) : Nat)), .lit (.bool (decide (kOf i ≠ 6)))] : DataW Unit))[r]? := by rw [e3]
    rw [List.getElem?_map, List.getElem?_map, List.getElem?_eq_getElem (by omega : r < xs.length), List.getElem?_range hr, ey] at e4
    simp only [Option.map_some, Option.some.injEq, DataW.agg.injEq] at e4
    match ys, hyl2 with
    | [y0, y1, y2, y3], _ =>
      have f0 := hf 0 _ rfl
      have f1 := hf 1 _ rfl
      have f2 := hf 2 _ rfl
      have f3 := hf 3 _ rfl
      simp only [List.map_cons, List.map_nil, List.cons.injEq, and_true] at e4
      obtain ⟨z0, a1, a2, _⟩ := DataW.trod_string Tryd.underlying9 f0
      obtain ⟨z1, b1, b2, _⟩ := DataW.trod_int Tryd.underlying63 f1
      obtain ⟨z2, d1, d2, _⟩ := DataW.trod_int Tryd.underlying3 f2
      obtain ⟨z3, g1, g2⟩ := DataW.trod_bool Tryd.underlying4 f3
      rw [a2, b2, d2, g2] at e4
      simp only [DataW.lit.injEq, Lit.string.injEq, Lit.int.injEq, Lit.bool.injEq, true_and] at e4
      have a3 : (((cs.toList.drop (r * 4)).take 4).drop 0).take (pr.cellsOf 9) = [.string z0] := a1
      have b3 : (((cs.toList.drop (r * 4)).take 4).drop 1).take (pr.cellsOf 63) = [.int .u64 z1] := b1
      have d3 : (((cs.toList.drop (r * 4)).take 4).drop 2).take (pr.cellsOf 3) = [.int .i64 z2] := d1
      have g3 : (((cs.toList.drop (r * 4)).take 4).drop 3).take (pr.cellsOf 4) = [.bool z3] := g1
      rw [cS] at a3
      rw [cU] at b3
      rw [cI] at d3
      rw [cB] at g3
      have a4 : ((((cs.toList.drop (r * 4)).take 4).drop 0).take 1)[0]? = some (.string z0) := by rw [a3]; rfl
      have b4 : ((((cs.toList.drop (r * 4)).take 4).drop 1).take 1)[0]? = some (.int .u64 z1) := by rw [b3]; rfl
      have d4 : ((((cs.toList.drop (r * 4)).take 4).drop 2).take 1)[0]? = some (.int .i64 z2) := by rw [d3]; rfl
      have g4 : ((((cs.toList.drop (r * 4)).take 4).drop 3).take 1)[0]? = some (.bool z3) := by rw [g3]; rfl
      simp only [List.getElem?_take, List.getElem?_drop, Nat.zero_lt_one, if_true, Nat.add_zero, Nat.zero_add, show (0 : Nat) < 4 from by decide, show (1 : Nat) < 4 from by decide, show (2 : Nat) < 4 from by decide, show (3 : Nat) < 4 from by decide] at a4 b4 d4 g4
      obtain ⟨q0, q1, q2, q3⟩ := e4
      rcases (show j = 0 ∨ j = 1 ∨ j = 2 ∨ j = 3 by omega) with rfl | rfl | rfl | rfl
      · rw [kv0, Nat.add_zero, a4, ← q0]
      · rw [kv1, b4, q1]
      · rw [kv2, d4, q2]
      · rw [kv3, g4, q3]
  have alen : kindsV.length = 12 := rfl
  refine List.ext_getElem? fun r => ?_
  rcases Nat.lt_or_ge r 12 with hr | hr
  · have h1 := key (r / 4) (by omega) (r % 4) (by omega)
    have h2 := kinds_get (r := r / 4) (j := r % 4) (by omega) (by omega)
    rw [show r / 4 * 4 + r % 4 = r by omega] at h1 h2
    rw [h1, h2]
  · rw [List.getElem?_eq_none (by rw [hlen, c59]; exact hr), List.getElem?_eq_none (by rw [alen]; exact hr)]
theorem row_in11 {ps : List MemPlace} {g n : Nat} {p q : List MemPlace} (h : ∀ x, x ∈ MemPlace.row ⟨g, 0, none⟩ n ++ p ++ q → x ∈ ps) (hi : 0 < n) : MemPlace.cell g 0 ∈ ps := by
  refine h _ ?_
  simp only [List.mem_append]
  left; left
  exact List.mem_map.2 ⟨0, List.mem_range.2 hi, by simp⟩
theorem size_of11 {cs : Array Value} {V : List Value} (h : cs.toList = V) (hV : 0 < V.length) : 0 < cs.size := by
  have := congrArg List.length h
  rw [Array.length_toList] at this
  omega
abbrev kE : RE := ⟨gK, 0, 12, 4, false⟩
abbrev kB : ABlk := .cells kindsV tKd false true
def laidC : List (String × DataW Unit) := [("unicode/utf8.acceptRanges", Rows.laid_unicode_utf8_acceptRanges), ("postrider/coding.kinds", Rows.laid_postrider_coding_kinds), ("unicode/utf8.first", Rows.laid_unicode_utf8_first)]
def laidD : List (String × DataW Unit) := [("unicode/utf8.acceptRanges", Rows.laid_unicode_utf8_acceptRanges), ("postrider/coding.kinds", Rows.laid_postrider_coding_kinds), ("unicode.CaseRanges", Rows.laid_unicode_CaseRanges), ("unicode/utf8.first", Rows.laid_unicode_utf8_first)]
theorem kinds_good {W : World} {r : List (String × DataW Unit)} (h : laidMet pr (("unicode/utf8.acceptRanges", Rows.laid_unicode_utf8_acceptRanges) :: ("postrider/coding.kinds", Rows.laid_postrider_coding_kinds) :: r) W) : GoodB pr W kE kB := by
  obtain ⟨ps0, hL, _, hz⟩ := h
  obtain ⟨g0, t0, cs0, fuel0, p0, q0, _, _, _, _, hL1, hps0⟩ := hL
  obtain ⟨g1, t1, cs1, fuel1, p1, q1, hg1, ht1, hv1, hd1, hL2, hps1⟩ := hL1
  obtain ⟨rfl, e1⟩ := kd_core hg1 ht1 hd1
  have app := @List.mem_append_right MemPlace
  exact tab_core11 hg1 hv1 e1 (hz _ 0 (row_in11 (fun x hx => by rw [hps0, hps1]; exact app _ hx) (size_of11 e1 (by decide)))).1 (by kernel_rfl) (by kernel_rfl)
theorem tabsC {W : World} (h : laidMetH pr laidC W) : GoodB pr W kE kB := by
  rw [MakeChecks.laidMetH_plain _ _ _ (by kernel_rfl)] at h
  exact kinds_good h
theorem tabsD {W : World} (h : laidMetH pr laidD W) : GoodB pr W kE kB := by
  rw [MakeChecks.laidMetH_plain _ _ _ (by kernel_rfl)] at h
  exact kinds_good h

/-! ### A start -/
abbrev bsC (xs : List (RE × ABlk)) : List (RE × ABlk) := (kE, kB) :: xs
theorem startC_rel {W : World} {xs : List (RE × ABlk)} (g : GoodB pr W kE kB) (h : GoodL pr W xs 1) : HRel pr W.heap.size W (renOf (bsC xs)) (startS (bsC xs) 1).st W ∧ FreeFrom (renOf (bsC xs)) (startS (bsC xs) 1).next ∧ Laid xs 1 (renOf (bsC xs)) ∧ LaidS xs 1 (startS (bsC xs) 1) ∧ Gk (startS (bsC xs) 1) ∧ Fine (startS (bsC xs) 1) := by
  have hl : Laid xs 1 (renOf (bsC xs)) := fun i x hi => by simp [renOf, Nat.add_comm 1 i, hi]
  obtain ⟨h1, h2⟩ := startS_rel (P := pr) (W := W) (bs := bsC xs) (gl := 1) (fun i e b hi => by
    cases i with
    | zero =>
      rw [List.getElem?_cons_zero] at hi
      cases hi
      exact ⟨g.1 _, g.2.1, g.2.2⟩
    | succ i =>
      rw [List.getElem?_cons_succ] at hi
      exact h _ hl i (e, b) hi) (fun k hk => by
    obtain rfl : k = 0 := by omega
    exact ⟨kE, kB, rfl, rfl, rfl⟩)
  refine ⟨h1, h2, hl, ⟨fun i x hi => ?_, Nat.le_of_eq (by show 1 + xs.length = (bsC xs).length; rw [List.length_cons, Nat.add_comm])⟩, ⟨by show gK < 1; decide, by show gK < (bsC xs).length; rw [List.length_cons]; exact Nat.zero_lt_succ _, rfl⟩, fun id hid => ?_⟩
  · simp [startS, heapOf_look, Nat.add_comm 1 i, hi]
  · have hid' : (bsC xs).length ≤ id := hid
    rw [List.length_cons] at hid'
    simp [startS, heapOf_look]
    omega
theorem u16_nat {z : Int} (h : (Lit.int .u16 z).wf = true) : ∃ n : Nat, z = (n : Int) ∧ n < 65536 := by
  have : 0 ≤ z ∧ z ≤ 65535 := by simpa [Lit.wf, IntKind.min, IntKind.max, IntKind.signed, IntKind.bits] using h
  exact ⟨z.toNat, by omega, by omega⟩
end Go.Vf.S

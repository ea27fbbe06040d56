import Derived.Test.YtfccipbogdmbnaaDoorLbM
import Derived.Test.YtfccipbogdmbnaaDoorBnS
import Derived.Lib.LaidTab
import Derived.Lib.ItoaNum
/- SmP -/
section
/- The tables, as the rows lay them; a start that knows them. -/
namespace Go.Vf.S
open Go Go.Vf Go.Proofs Go.Proofs.YtfccipbogdmbnaaDoor Go.RowKit Go.ChangeShapes
set_option linter.unusedVariables false
set_option linter.unusedSimpArgs false
set_option maxRecDepth 10000

theorem tab_core {W : World} {name : String} {g es : Nat} {t : TypeId} {cs : Array Value} {V : List Value} (hg : pr.globalNamed name = some g) (hv : W.var? pr name = some cs) (hcs : cs.toList = V) (hz : ∃ c t0, W.heap[g]? = some (.cells c t0 (0, 0))) (he : (pr.info? t).map (·.size) = some es) (hp : V.all plain1 = true) :
    GoodB pr W ⟨g, 0, V.length, es, false⟩ (.cells V t false true) := by
  obtain ⟨c, t0, hblk⟩ := hz
  have hc : c = ⟨V⟩ := by
    unfold World.var? at hv
    rw [hg] at hv
    simp only [Option.bind_some, hblk, Option.some.injEq] at hv
    rw [hv]
    exact Array.toList_inj.1 hcs
  subst hc
  refine ⟨fun ρ => ⟨rfl, V, 0, 0, t0, hblk, (fun z => by cases z), (fun i _ hh => by omega), by show 0 + V.length ≤ V.length; omega, Nat.le_refl _, he, fun i v hi => ⟨v, by simpa using hi, plain1_rel ?_⟩⟩, rfl, ?_⟩
  · exact List.all_eq_true.1 hp v (List.mem_of_getElem? hi)
  · exact (Array.getElem?_eq_some_iff.1 hblk).1
theorem pw_core {W : World} {g : Nat} {t : TypeId} {cs : Array Value} {fuel : Nat} {p : List MemPlace} (hg : pr.globalNamed "internal/strconv.uint64pow10" = some g) (ht : (pr.globals[g]?).map (·.type) = some t)
    (hd : DataW.trod (fun _ => ()) pr W 0 (fun _ => true) false fuel t cs.toList = some (Rows.laid_internal_strconv_uint64pow10, p)) : g = gPw ∧ cs.toList = pwV := by
  obtain rfl := Option.some.inj ((show pr.globalNamed "internal/strconv.uint64pow10" = some gPw by kernel_rfl).symm.trans hg)
  obtain rfl := Option.some.inj ((show (pr.globals[gPw]?).map (·.type) = some 127 by kernel_rfl).symm.trans ht)
  refine ⟨rfl, ?_⟩
  have e : (Rows.laid_internal_strconv_uint64pow10 : DataW Unit) = Lib.tabData .u64 Lib.pow10Tab := by kernel_rfl
  rw [e] at hd
  rw [Lib.cells_of_tab (n := 20) Tryd.underlying127 Tryd.underlying37 (by kernel_rfl) (by kernel_rfl) hd]
  unfold Lib.pow10Tab pwV
  rw [List.map_map]
  rfl
theorem wk_core {W : World} {g : Nat} {t : TypeId} {cs : Array Value} {fuel : Nat} {p : List MemPlace} (hg : pr.globalNamed "postrider/stamp.weekdays" = some g) (ht : (pr.globals[g]?).map (·.type) = some t)
    (hd : DataW.trod (fun _ => ()) pr W 0 (fun _ => true) false fuel t cs.toList = some (Rows.laid_postrider_stamp_weekdays, p)) : g = gWk ∧ cs.toList = wkV := by
  obtain rfl := Option.some.inj ((show pr.globalNamed "postrider/stamp.weekdays" = some gWk by kernel_rfl).symm.trans hg)
  obtain rfl := Option.some.inj ((show (pr.globals[gWk]?).map (·.type) = some 53 by kernel_rfl).symm.trans ht)
  refine ⟨rfl, ?_⟩
  obtain ⟨xs, m, _, ex, hlen, hl, hel⟩ := DataW.trod_array Tryd.underlying53 hd
  have c4 : pr.cellsOf tS = 1 := by kernel_rfl
  have c59 : pr.cellsOf 53 = 7 := by kernel_rfl
  have alen : wkV.length = 7 := rfl
  refine List.ext_getElem? fun r => ?_
  rcases Nat.lt_or_ge r 7 with hr | hr
  · have hE := hel r hr
    rw [c4, Nat.mul_one, List.getElem?_eq_getElem (by omega)] at hE
    obtain ⟨z, e1, e2, _⟩ := DataW.trod_string Tryd.underlying9 hE
    have e3 : (xs.map (·.1)) = ((List.range 7).map fun i => (.lit (.string (wkT i)) : DataW Unit)) := (DataW.agg.inj (Prod.mk.inj ex).1).symm.trans (by kernel_rfl)
    have e4 : (xs.map (·.1))[r]? = ((List.range 7).map fun i => (.lit (.string (wkT i)) : DataW Unit))[r]? := by rw [e3]
    rw [List.getElem?_map, List.getElem?_map, List.getElem?_eq_getElem (by omega : r < xs.length), List.getElem?_range hr, e2] at e4
    simp only [Option.map_some, Option.some.injEq, DataW.lit.injEq, Lit.string.injEq] at e4
    have h0 : ((cs.toList.drop r).take 1)[0]? = some (.string z) := by rw [e1]; rfl
    have h1 : cs.toList[r]? = some (.string z) := by simpa using h0
    rw [h1, wk_get hr, ← e4]
  · rw [List.getElem?_eq_none (by rw [hlen, c59]; exact hr), List.getElem?_eq_none (by rw [alen]; exact hr)]
theorem mo_core {W : World} {g : Nat} {t : TypeId} {cs : Array Value} {fuel : Nat} {p : List MemPlace} (hg : pr.globalNamed "postrider/stamp.months" = some g) (ht : (pr.globals[g]?).map (·.type) = some t)
    (hd : DataW.trod (fun _ => ()) pr W 0 (fun _ => true) false fuel t cs.toList = some (Rows.laid_postrider_stamp_months, p)) : g = gMo ∧ cs.toList = moV := by
  obtain rfl := Option.some.inj ((show pr.globalNamed "postrider/stamp.months" = some gMo by kernel_rfl).symm.trans hg)
  obtain rfl := Option.some.inj ((show (pr.globals[gMo]?).map (·.type) = some 56 by kernel_rfl).symm.trans ht)
  refine ⟨rfl, ?_⟩
  obtain ⟨xs, m, _, ex, hlen, hl, hel⟩ := DataW.trod_array Tryd.underlying56 hd
  have c4 : pr.cellsOf tMo = 2 := by kernel_rfl
  have c59 : pr.cellsOf 56 = 24 := by kernel_rfl
  have cS : pr.cellsOf tS = 1 := by kernel_rfl
  have cI : pr.cellsOf 2 = 1 := by kernel_rfl
  have alen : moV.length = 24 := rfl
  have e3 : (xs.map (·.1)) = ((List.range 12).map fun i => (.agg [.lit (.string (moT i)), .lit (.int .i64 (ml0 i))] : DataW Unit)) := (DataW.agg.inj (Prod.mk.inj ex).1).symm.trans (by kernel_rfl)
  have key : ∀ r, r < 12 → cs.toList[2 * r]? = some (str (moT r)) ∧ cs.toList[2 * r + 1]? = some (.int .i64 (ml0 r)) := fun r hr => by
    have hE := hel r hr
    rw [c4, List.getElem?_eq_getElem (by omega)] at hE
    obtain ⟨ys, n, _, ey, _, hyl, hf⟩ := DataW.trod_struct Tryd.underlying55 hE
    have hyl2 : ys.length = 2 := hyl
    have e4 : (xs.map (·.1))[r]? = ((List.range 12).map fun i => (.agg [.lit (.string (moT i)), .lit (.int .i64 (ml0 i))] : DataW Unit))[r]? := by rw [e3]
    rw [List.getElem?_map, List.getElem?_map, List.getElem?_eq_getElem (by omega : r < xs.length), List.getElem?_range hr, ey] at e4
    simp only [Option.map_some, Option.some.injEq, DataW.agg.injEq] at e4
    match ys, hyl2 with
    | [y0, y1], _ =>
      have f0 := hf 0 _ rfl
      have f1 := hf 1 _ rfl
      simp only [List.map_cons, List.map_nil, List.cons.injEq, and_true] at e4
      obtain ⟨z0, a1, a2, _⟩ := DataW.trod_string Tryd.underlying9 f0
      obtain ⟨z1, b1, b2, _⟩ := DataW.trod_int Tryd.underlying2 f1
      rw [a2, b2] at e4
      simp only [DataW.lit.injEq, Lit.string.injEq, Lit.int.injEq, true_and] at e4
      have a3 : (((cs.toList.drop (r * 2)).take 2).drop 0).take (pr.cellsOf tS) = [.string z0] := a1
      rw [cS] at a3
      have b3 : (((cs.toList.drop (r * 2)).take 2).drop 1).take (pr.cellsOf 2) = [.int .i64 z1] := b1
      rw [cI] at b3
      have a4 : ((((cs.toList.drop (r * 2)).take 2).drop 0).take 1)[0]? = some (.string z0) := by rw [a3]; rfl
      have b4 : ((((cs.toList.drop (r * 2)).take 2).drop 1).take 1)[0]? = some (.int .i64 z1) := by rw [b3]; rfl
      simp only [List.getElem?_take, List.getElem?_drop, Nat.zero_lt_one, if_true, Nat.add_zero, Nat.zero_add, show (0 : Nat) < 2 from by decide, show (1 : Nat) < 2 from by decide] at a4 b4
      refine ⟨?_, ?_⟩
      · rw [Nat.mul_comm 2 r, a4, ← e4.1]
      · rw [Nat.mul_comm 2 r, b4, e4.2]
  refine List.ext_getElem? fun r => ?_
  rcases Nat.lt_or_ge r 24 with hr | hr
  · have h1 := key (r / 2) (by omega)
    have h2 := mo_get (m := r / 2) (by omega)
    rcases Nat.mod_two_eq_zero_or_one r with q | q
    · rw [show r = 2 * (r / 2) by omega, h1.1, h2.1]
    · rw [show r = 2 * (r / 2) + 1 by omega, h1.2, h2.2]
  · rw [List.getElem?_eq_none (by rw [hlen, c59]; exact hr), List.getElem?_eq_none (by rw [alen]; exact hr)]
end Go.Vf.S
end
/- SmQ -/
section
/- A start that knows the tables, and the library's own number. -/
namespace Go.Vf.S
open Go Go.Vf Go.Proofs Go.Proofs.YtfccipbogdmbnaaDoor Go.RowKit Go.ChangeShapes
set_option linter.unusedVariables false
set_option linter.unusedSimpArgs false
set_option maxRecDepth 10000

def laidS : List (String × DataW Unit) := [("math/bits.deBruijn32tab", Rows.laid_math_bits_deBruijn32tab), ("math/bits.deBruijn64tab", Rows.laid_math_bits_deBruijn64tab), ("internal/strconv.uint64pow10", Rows.laid_internal_strconv_uint64pow10), ("postrider/stamp.weekdays", Rows.laid_postrider_stamp_weekdays), ("postrider/stamp.months", Rows.laid_postrider_stamp_months)]
def laidT : List (String × DataW Unit) := [("math/bits.deBruijn32tab", Rows.laid_math_bits_deBruijn32tab), ("math/bits.deBruijn64tab", Rows.laid_math_bits_deBruijn64tab), ("internal/strconv.uint64pow10", Rows.laid_internal_strconv_uint64pow10), ("unicode/utf8.acceptRanges", Rows.laid_unicode_utf8_acceptRanges), ("postrider/stamp.weekdays", Rows.laid_postrider_stamp_weekdays), ("postrider/stamp.months", Rows.laid_postrider_stamp_months), ("unicode.CaseRanges", Rows.laid_unicode_CaseRanges), ("unicode/utf8.first", Rows.laid_unicode_utf8_first)]
theorem row_in {ps : List MemPlace} {g n : Nat} {p q : List MemPlace} (h : ∀ x, x ∈ MemPlace.row ⟨g, 0, none⟩ n ++ p ++ q → x ∈ ps) (hi : 0 < n) : MemPlace.cell g 0 ∈ ps := by
  refine h _ ?_
  simp only [List.mem_append]
  left; left
  exact List.mem_map.2 ⟨0, List.mem_range.2 hi, by simp⟩
structure Tabs (W : World) : Prop where
  wk : GoodB pr W ⟨gWk, 0, 7, 1, false⟩ (.cells wkV tS false true)
  mo : GoodB pr W ⟨gMo, 0, 24, 2, false⟩ (.cells moV tMo false true)
  pw : GoodB pr W ⟨gPw, 0, 20, 1, false⟩ (.cells pwV tU64 false true)
theorem size_of {cs : Array Value} {V : List Value} (h : cs.toList = V) (hV : 0 < V.length) : 0 < cs.size := by
  have := congrArg List.length h
  rw [Array.length_toList] at this
  omega
theorem tabsS {W : World} (h : laidMetH pr laidS W) : Tabs W := by
  rw [MakeChecks.laidMetH_plain _ _ _ (by kernel_rfl)] at h
  obtain ⟨ps0, hL, _, hz⟩ := h
  obtain ⟨g0, t0, cs0, fuel0, p0, q0, _, _, _, _, hL1, hps0⟩ := hL
  obtain ⟨g1, t1, cs1, fuel1, p1, q1, _, _, _, _, hL2, hps1⟩ := hL1
  obtain ⟨g2, t2, cs2, fuel2, p2, q2, hg2, ht2, hv2, hd2, hL3, hps2⟩ := hL2
  obtain ⟨g3, t3, cs3, fuel3, p3, q3, hg3, ht3, hv3, hd3, hL4, hps3⟩ := hL3
  obtain ⟨g4, t4, cs4, fuel4, p4, q4, hg4, ht4, hv4, hd4, _, hps4⟩ := hL4
  obtain ⟨rfl, e2⟩ := pw_core hg2 ht2 hd2
  obtain ⟨rfl, e3⟩ := wk_core hg3 ht3 hd3
  obtain ⟨rfl, e4⟩ := mo_core hg4 ht4 hd4
  have app := @List.mem_append_right MemPlace
  refine ⟨tab_core hg3 hv3 e3 (hz _ 0 (row_in (fun x hx => by rw [hps0, hps1, hps2, hps3]; exact app _ (app _ (app _ hx))) (size_of e3 (by decide)))).1 (by kernel_rfl) (by kernel_rfl),
    tab_core hg4 hv4 e4 (hz _ 0 (row_in (fun x hx => by rw [hps0, hps1, hps2, hps3, hps4]; exact app _ (app _ (app _ (app _ hx)))) (size_of e4 (by decide)))).1 (by kernel_rfl) (by kernel_rfl),
    tab_core hg2 hv2 e2 (hz _ 0 (row_in (fun x hx => by rw [hps0, hps1, hps2]; exact app _ (app _ hx)) (size_of e2 (by decide)))).1 (by kernel_rfl) (by kernel_rfl)⟩
theorem tabsT {W : World} (h : laidMetH pr laidT W) : Tabs W := by
  rw [MakeChecks.laidMetH_plain _ _ _ (by kernel_rfl)] at h
  obtain ⟨ps0, hL, _, hz⟩ := h
  obtain ⟨g0, t0, cs0, fuel0, p0, q0, _, _, _, _, hL1, hps0⟩ := hL
  obtain ⟨g1, t1, cs1, fuel1, p1, q1, _, _, _, _, hL2, hps1⟩ := hL1
  obtain ⟨g2, t2, cs2, fuel2, p2, q2, hg2, ht2, hv2, hd2, hL3, hps2⟩ := hL2
  obtain ⟨g5, t5, cs5, fuel5, p5, q5, _, _, _, _, hL3', hps5⟩ := hL3
  obtain ⟨g3, t3, cs3, fuel3, p3, q3, hg3, ht3, hv3, hd3, hL4, hps3⟩ := hL3'
  obtain ⟨g4, t4, cs4, fuel4, p4, q4, hg4, ht4, hv4, hd4, _, hps4⟩ := hL4
  obtain ⟨rfl, e2⟩ := pw_core hg2 ht2 hd2
  obtain ⟨rfl, e3⟩ := wk_core hg3 ht3 hd3
  obtain ⟨rfl, e4⟩ := mo_core hg4 ht4 hd4
  have app := @List.mem_append_right MemPlace
  refine ⟨tab_core hg3 hv3 e3 (hz _ 0 (row_in (fun x hx => by rw [hps0, hps1, hps2, hps5, hps3]; exact app _ (app _ (app _ (app _ hx)))) (size_of e3 (by decide)))).1 (by kernel_rfl) (by kernel_rfl),
    tab_core hg4 hv4 e4 (hz _ 0 (row_in (fun x hx => by rw [hps0, hps1, hps2, hps5, hps3, hps4]; exact app _ (app _ (app _ (app _ (app _ hx))))) (size_of e4 (by decide)))).1 (by kernel_rfl) (by kernel_rfl),
    tab_core hg2 hv2 e2 (hz _ 0 (row_in (fun x hx => by rw [hps0, hps1, hps2]; exact app _ (app _ hx)) (size_of e2 (by decide)))).1 (by kernel_rfl) (by kernel_rfl)⟩

abbrev gTopQ : Nat := max (max gWk gMo) (max gPw gMax) + 1
abbrev mxB (m : Int) : ABlk := .cells [.int .i64 m] 3 false true
def qAt (m : Int) (i : Nat) : RE × Option ABlk := if i = gWk then (⟨gWk, 0, 7, 1, false⟩, some (.cells wkV tS false true)) else if i = gMo then (⟨gMo, 0, 24, 2, false⟩, some (.cells moV tMo false true)) else if i = gPw then (⟨gPw, 0, 20, 1, false⟩, some (.cells pwV tU64 false true)) else if i = gMax then (⟨gMax, 0, 1, 1, false⟩, some (mxB m)) else (⟨i, 0, 0, 1, false⟩, none)
def bsQ (m : Int) : List (RE × Option ABlk) := (List.range gTopQ).map (qAt m)
def startQ (m : Int) : SS := startO (bsQ m) gTopQ
theorem bsQ_len (m : Int) : (bsQ m).length = gTopQ := by simp [bsQ]
theorem bsQ_at {m : Int} {i : Nat} (h : i < gTopQ) : (bsQ m)[i]? = some (qAt m i) := by
  unfold bsQ
  rw [List.getElem?_map, List.getElem?_range h]
  rfl
theorem qAt_is (m : Int) (i : Nat) : (qAt m i).1.blk = i ∧ (qAt m i).1.off = 0 ∧ (qAt m i = (⟨gWk, 0, 7, 1, false⟩, some (.cells wkV tS false true)) ∨ qAt m i = (⟨gMo, 0, 24, 2, false⟩, some (.cells moV tMo false true)) ∨ qAt m i = (⟨gPw, 0, 20, 1, false⟩, some (.cells pwV tU64 false true)) ∨ qAt m i = (⟨gMax, 0, 1, 1, false⟩, some (mxB m)) ∨ qAt m i = (⟨i, 0, 0, 1, false⟩, none)) := by
  unfold qAt
  by_cases h1 : i = gWk
  · rw [if_pos h1]; exact ⟨h1.symm, rfl, .inl rfl⟩
  · rw [if_neg h1]
    by_cases h2 : i = gMo
    · rw [if_pos h2]; exact ⟨h2.symm, rfl, .inr (.inl rfl)⟩
    · rw [if_neg h2]
      by_cases h3 : i = gPw
      · rw [if_pos h3]; exact ⟨h3.symm, rfl, .inr (.inr (.inl rfl))⟩
      · rw [if_neg h3]
        by_cases h4 : i = gMax
        · rw [if_pos h4]; exact ⟨h4.symm, rfl, .inr (.inr (.inr (.inl rfl)))⟩
        · rw [if_neg h4]; exact ⟨rfl, rfl, .inr (.inr (.inr (.inr rfl)))⟩
theorem startQ_rel {W : World} {m : Int} (g : Tabs W) (g3 : GoodB pr W ⟨gMax, 0, 1, 1, false⟩ (mxB m)) : HRel pr W.heap.size W (renO (bsQ m)) (startQ m).st W ∧ FreeFrom (renO (bsQ m)) (startQ m).next := by
  have k0 : gWk < W.heap.size := g.wk.2.2
  have k1 : gMo < W.heap.size := g.mo.2.2
  have k2 : gPw < W.heap.size := g.pw.2.2
  have k3 : gMax < W.heap.size := g3.2.2
  have all : ∀ i x, (bsQ m)[i]? = some x → i < gTopQ ∧ x = qAt m i := fun i x h => by
    have hi : i < gTopQ := by rw [← bsQ_len m]; exact (List.getElem?_eq_some_iff.1 h).1
    rw [bsQ_at hi] at h
    exact ⟨hi, (Option.some.inj h).symm⟩
  refine startO_rel (fun i e b h => ?_) (fun i e b h => ?_) (fun g hg => ?_)
  · obtain ⟨_, q⟩ := all i _ h
    rcases (qAt_is m i).2.2 with z | z | z | z | z <;> rw [z] at q <;> cases q
    · exact ⟨g.wk.1 _, g.wk.2.1⟩
    · exact ⟨g.mo.1 _, g.mo.2.1⟩
    · exact ⟨g.pw.1 _, g.pw.2.1⟩
    · exact ⟨g3.1 _, g3.2.1⟩
  · obtain ⟨hi, q⟩ := all i _ h
    have hb := (qAt_is m i).1
    rw [← q] at hb
    have hb : e.blk = i := hb
    have ht : gTopQ ≤ W.heap.size := by show max (max gWk gMo) (max gPw gMax) + 1 ≤ _; omega
    omega
  · exact ⟨_, _, bsQ_at hg, (qAt_is m g).1, (qAt_is m g).2.1⟩
theorem startQ_look {m : Int} {i : Nat} (h : i < gTopQ) : lookH (startQ m).heap i = (qAt m i).2 := by
  show lookH (heapO 0 (bsQ m)) i = _
  rw [heapO_look, if_pos (Nat.zero_le _), Nat.sub_zero, bsQ_at h]
  rfl
theorem startQ_next (m : Int) : (startQ m).next = gTopQ := bsQ_len m
theorem startQ_Gs (m : Int) : Gst (startQ m) := ⟨(by show gWk < gTopQ; decide), (by show gMo < gTopQ; decide), (by show gPw < gTopQ; decide), (by rw [startQ_next]; decide), (by rw [startQ_next]; decide), (by rw [startQ_next]; decide), (by rw [startQ_look (by decide)]; rfl), (by rw [startQ_look (by decide)]; rfl), (by rw [startQ_look (by decide)]; rfl)⟩
theorem startQ_Gx (m : Int) : Gx (startQ m) := ⟨(by show gMx < gTopQ; decide), (by rw [startQ_next]; decide), m, (by rw [startQ_look (by decide)]; rfl)⟩
theorem startQ_fine (m : Int) : Fine (startQ m) := startO_fine _ _
theorem u16_nat {z : Int} (h : (Lit.int .u16 z).wf = true) : ∃ n : Nat, z = (n : Int) ∧ n < 65536 := by
  have : 0 ≤ z ∧ z ≤ 65535 := by simpa [Lit.wf, IntKind.min, IntKind.max, IntKind.signed, IntKind.bits] using h
  exact ⟨z.toNat, by omega, by omega⟩
end Go.Vf.S
end

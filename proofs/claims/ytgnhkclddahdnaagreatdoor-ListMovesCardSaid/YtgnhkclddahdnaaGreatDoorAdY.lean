import Derived.Test.YtgnhkclddahdnaaGreatDoorLbO
import Derived.Test.YtgnhkclddahdnaaGreatDoorBnA
import Derived.Test.YtgnhkclddahdnaaGreatDoorAdZ
/- The table of letters, as the rows lay it; starts that know it. -/
namespace Go.Vf.S
open Go Go.Vf Go.Proofs Go.Proofs.YtgnhkclddahdnaaGreatDoor Go.RowKit Go.ChangeShapes
set_option linter.unusedVariables false
set_option linter.unusedSimpArgs false

def laidL3 : List (String × DataW Unit) := [("unicode/utf8.acceptRanges", Rows.laid_unicode_utf8_acceptRanges), ("postrider/text.atoms", Rows.laid_postrider_text_atoms), ("unicode/utf8.first", Rows.laid_unicode_utf8_first)]

theorem gA_plain : atomsV.all plain1 = true := by kernel_rfl

theorem atoms_core {W : World} {g : Nat} {t : TypeId} {cs : Array Value} {fuel : Nat} {p : List MemPlace} (hg : pr.globalNamed "postrider/text.atoms" = some g) (ht : (pr.globals[g]?).map (·.type) = some t) (hv : W.var? pr "postrider/text.atoms" = some cs)
    (hd : DataW.trod (fun _ => ()) pr W 0 (fun _ => true) false fuel t cs.toList = some (Rows.laid_postrider_text_atoms, p)) (hz : ∀ i, i < cs.size → ∃ c t0, W.heap[g]? = some (.cells c t0 (0, 0))) : GoodB pr W ⟨gAt, 0, 128, 1, false⟩ gA := by
  obtain rfl := Option.some.inj ((show pr.globalNamed "postrider/text.atoms" = some gAt by kernel_rfl).symm.trans hg)
  obtain rfl := Option.some.inj ((show (pr.globals[gAt]?).map (·.type) = some 135 by kernel_rfl).symm.trans ht)
  obtain ⟨xs, m, _, ex, hlen, hl, hel⟩ := DataW.trod_array Tryz.underlying135 hd
  have c4 : pr.cellsOf 4 = 1 := by kernel_rfl
  have c59 : pr.cellsOf 135 = 128 := by kernel_rfl
  have alen : atomsV.length = 128 := rfl
  have hcs : cs.toList = atomsV := by
    refine List.ext_getElem? fun r => ?_
    rcases Nat.lt_or_ge r 128 with hr | hr
    · have hE := hel r hr
      rw [c4, Nat.mul_one, List.getElem?_eq_getElem (by omega)] at hE
      obtain ⟨z, e1, e2⟩ := DataW.trod_bool Tryz.underlying4 hE
      have e3 : (xs.map (·.1)) = ((List.range 128).map fun i => (.lit (.bool (letN i)) : DataW Unit)) := (DataW.agg.inj (Prod.mk.inj ex).1).symm.trans (by kernel_rfl)
      have e4 : (xs.map (·.1))[r]? = ((List.range 128).map fun i => (.lit (.bool (letN i)) : DataW Unit))[r]? := by rw [e3]
      rw [List.getElem?_map, List.getElem?_map, List.getElem?_eq_getElem (by omega : r < xs.length), List.getElem?_range hr, e2] at e4
      simp only [Option.map_some, Option.some.injEq, DataW.lit.injEq, Lit.bool.injEq] at e4
      have h0 : ((cs.toList.drop r).take 1)[0]? = some (.bool z) := by rw [e1]; rfl
      have h1 : cs.toList[r]? = some (.bool z) := by simpa using h0
      rw [h1, atoms_get hr, e4]
    · rw [List.getElem?_eq_none (by rw [hlen, c59]; exact hr), List.getElem?_eq_none (by rw [alen]; exact hr)]
  have hsz : cs.size = 128 := by
    have := congrArg List.length hcs
    rw [alen] at this
    simpa using this
  obtain ⟨c, t0, hblk⟩ := hz 0 (by omega)
  have hc : c = ⟨atomsV⟩ := by
    unfold World.var? at hv
    rw [hg] at hv
    simp only [Option.bind_some, hblk, Option.some.injEq] at hv
    rw [hv]
    exact Array.toList_inj.1 hcs
  subst hc
  refine ⟨fun ρ => ⟨rfl, atomsV, 0, 0, t0, hblk, (fun z => by cases z), (fun i _ hh => by omega), by rw [alen]; exact Nat.le_refl _, by rw [alen]; exact Nat.le_refl _, (by kernel_rfl), fun i v hi => ⟨v, by simpa using hi, plain1_rel ?_⟩⟩, rfl, ?_⟩
  · exact List.all_eq_true.1 gA_plain v (List.mem_of_getElem? hi)
  · exact (Array.getElem?_eq_some_iff.1 hblk).1

theorem atoms_good {W : World} (h : laidMetH pr laidL3 W) : GoodB pr W ⟨gAt, 0, 128, 1, false⟩ gA := by
  rw [MakeChecks.laidMetH_plain _ _ _ (by kernel_rfl)] at h
  obtain ⟨ps0, hL, _, hz⟩ := h
  obtain ⟨g0, t0, cs0, fuel0, p0, q0, _, _, _, _, hL1, hps0⟩ := hL
  obtain ⟨g, t, cs, fuel, p, q, hg, ht, hv, hd, _, hps⟩ := hL1
  refine atoms_core hg ht hv hd fun i hi => ?_
  have hin : MemPlace.cell g i ∈ ps0 := by
    rw [hps0, hps]
    simp only [List.mem_append]
    right; left; left
    exact List.mem_map.2 ⟨i, List.mem_range.2 hi, by simp⟩
  exact (hz g i hin).1

/-! ### A start that knows some of its blocks -/

end Go.Vf.S

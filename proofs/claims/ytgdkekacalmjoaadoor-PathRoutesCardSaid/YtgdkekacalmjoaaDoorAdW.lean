import Derived.Test.YtgdkekacalmjoaaDoorAdY
/- The table of letters, as rows with the library's table of cases lay it. -/
namespace Go.Vf.S
open Go Go.Vf Go.Proofs Go.Proofs.YtgdkekacalmjoaaDoor Go.RowKit Go.ChangeShapes
set_option linter.unusedVariables false
set_option linter.unusedSimpArgs false

def laidL4 : List (String × DataW Unit) := [("unicode/utf8.acceptRanges", Rows.laid_unicode_utf8_acceptRanges), ("postrider/text.atoms", Rows.laid_postrider_text_atoms), ("unicode.CaseRanges", Rows.laid_unicode_CaseRanges), ("unicode/utf8.first", Rows.laid_unicode_utf8_first)]
theorem in_row {ps : List MemPlace} {g i n : Nat} {p q : List MemPlace} (h : ∀ x, x ∈ MemPlace.row ⟨g, 0, none⟩ n ++ p ++ q → x ∈ ps) (hi : i < n) : MemPlace.cell g i ∈ ps := by
  refine h _ ?_
  simp only [List.mem_append]
  left; left
  exact List.mem_map.2 ⟨i, List.mem_range.2 hi, by simp⟩
theorem atoms_good4 {W : World} (h : laidMetH pr laidL4 W) : GoodB pr W ⟨gAt, 0, 128, 1, false⟩ gA := by
  rw [MakeChecks.laidMetH_plain _ _ _ (by kernel_rfl)] at h
  obtain ⟨ps0, hL, _, hz⟩ := h
  obtain ⟨g0, t0, cs0, fuel0, p0, q0, _, _, _, _, hL1, hps0⟩ := hL
  obtain ⟨g, t, cs, fuel, p, q, hg, ht, hv, hd, _, hps⟩ := hL1
  exact atoms_core hg ht hv hd fun i hi => (hz g i (in_row (fun x hx => by rw [hps0, hps]; exact List.mem_append_right _ hx) hi)).1
end Go.Vf.S

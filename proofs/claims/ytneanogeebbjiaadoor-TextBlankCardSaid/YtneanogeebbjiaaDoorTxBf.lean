import Derived.Test.YtneanogeebbjiaaDoorTxX
import Derived.Test.YtneanogeebbjiaaDoorTxBe
import Derived.Test.YtneanogeebbjiaaDoorEngAs
import Derived.Lib.LaidU8
/- The library's tables, as the rows lay them; a row of texts that is handed in. -/
namespace Go.Vf.S
open Go Go.Vf Go.Proofs Go.Proofs.YtneanogeebbjiaaDoor Go.RowKit Go.ChangeShapes
set_option linter.unusedVariables false
set_option linter.unusedSimpArgs false

theorem tabs_laid {W : World} (h : laidMetH pr laidL W) : Lib.Utf8Tabs 2 3 W := by
  rw [MakeChecks.laidMetH_plain _ _ _ (by kernel_rfl)] at h
  have e1 : Rows.laid_unicode_utf8_first = Lib.firstData := by kernel_rfl
  have e2 : (Rows.laid_unicode_utf8_acceptRanges : DataW Unit) = Lib.acceptData := by kernel_rfl
  exact utf8Tabs_of_reads (ρ := Tryd.lays230_ren) { Tryd.lays230 with } ⟨by kernel_rfl, by kernel_rfl, by kernel_rfl, by kernel_rfl, by kernel_rfl, by kernel_rfl, by kernel_rfl⟩
    (e1 ▸ Lib.laidMet.reads h (by simp [laidL])) (e2 ▸ Lib.laidMet.reads h (by simp [laidL]))

theorem void_good {W : World} (h : W.ShapedOpen pr) {g : Nat} (hg : g < pr.globals.size) (h0 : (((begin pr (fun _ _ => 0) default).world.heap[g]?).bind Obj.row?).isSome = true) : GoodB pr W ⟨g, 0, 0, 1, false⟩ (.cells [] 4 false true) := by
  obtain ⟨⟨zero, t⟩, hz⟩ := Option.isSome_iff_exists.1 h0
  obtain ⟨⟨cs⟩, hh, _, _⟩ := h.1 g zero t hg hz
  exact ⟨fun ρ => ⟨rfl, cs, 0, 0, t, hh, (fun z => by cases z), (fun i hi _ => by omega), Nat.zero_le _, Nat.le_refl _, (by kernel_rfl), fun i v hv => by simp at hv⟩, rfl, (Array.getElem?_eq_some_iff.1 hh).1⟩

theorem tab_good {W : World} (hsh : W.ShapedOpen pr) {g n : Nat} (hg : g < pr.globals.size) (h0 : (((begin pr (fun _ _ => 0) default).world.heap[g]?).bind Obj.row?).isSome = true) {vs : List Value} (hp : vs.all plain1 = true) (hn : vs.length = n) (hpos : 0 < n) (h : ∀ c v, vs[c]? = some v → W.cell? ⟨g, c, none⟩ = some v) : GoodB pr W ⟨g, 0, n, 1, false⟩ (.cells vs 5 false true) := by
  obtain ⟨⟨zero, t⟩, hz⟩ := Option.isSome_iff_exists.1 h0
  obtain ⟨⟨rc⟩, hb, _, _⟩ := hsh.1 g zero t hg hz
  have cell : ∀ c v, vs[c]? = some v → rc[c]? = some v := fun c v hv => by
    have := h c v hv
    rw [cell_at hb] at this
    exact this
  have hroom : n ≤ rc.length := by
    have := cell (n - 1) _ (List.getElem?_eq_getElem (by omega))
    have := (List.getElem?_eq_some_iff.1 this).1
    omega
  exact ⟨fun ρ => ⟨rfl, rc, 0, 0, t, hb, (fun z => by cases z), (fun i hi' hc2 => by omega), by simpa using hroom, by show vs.length ≤ n; omega, (by kernel_rfl), fun i v hv => ⟨v, by simpa using cell i v hv, plain1_rel (List.all_eq_true.1 hp v (List.mem_of_getElem? hv))⟩⟩, rfl, (Array.getElem?_eq_some_iff.1 hb).1⟩

theorem first_good {W : World} (hsh : W.ShapedOpen pr) (h : Lib.Utf8Tabs 2 3 W) : GoodB pr W ⟨2, 0, 256, 1, false⟩ (.cells firstV 5 false true) :=
  tab_good hsh (by decide +kernel) (by kernel_rfl) (by simp [firstV, plain1]) (by simp [firstV]) (by omega) fun c v hv => by
    have hc : c < 256 := by
      have := (List.getElem?_eq_some_iff.1 hv).1
      simpa [firstV] using this
    rw [first_get hc] at hv
    cases hv
    exact h.1 c hc
theorem acc_good {W : World} (hsh : W.ShapedOpen pr) (h : Lib.Utf8Tabs 2 3 W) : GoodB pr W ⟨3, 0, 32, 1, false⟩ (.cells accV 5 false true) :=
  tab_good hsh (by decide +kernel) (by kernel_rfl) (by simp [accV, plain1]) (by simp [accV]) (by omega) fun c v hv => by
    have hc : c < 32 := by
      have := (List.getElem?_eq_some_iff.1 hv).1
      simpa [accV] using this
    rw [acc_get hc] at hv
    cases hv
    have := h.2 (c / 2) (by omega)
    by_cases q : c % 2 = 0
    · rw [if_pos q]
      have e : 2 * (c / 2) = c := by omega
      rw [e] at this
      exact this.1
    · rw [if_neg q]
      have e : 2 * (c / 2) + 1 = c := by omega
      rw [e] at this
      exact this.2

theorem slice_cells {P : Program} {W : World} {base : Nat} {t e : TypeId} {v : Value} (ht : P.underlying t = some (.slice e)) (hok : Value.okWide P W .any base t v) : v.cells.toList = [v] := by
  have hcell : Cell.ok P W .any base t v := by
    unfold Value.okWide at hok
    rw [ht] at hok
    simp only [Cell.okWide, ht] at hok
    exact hok
  unfold Cell.ok at hcell
  rw [ht] at hcell
  split at hcell <;> first
    | (rename_i q; simp at q; done)
    | exact hcell.elim
    | rfl

theorem strV_of (ss : List ByteArray) : (ss.map fun z => Value.string z) = strV (ss.map fun z => z.data.toList) := by
  simp [strV, List.map_map, Function.comp_def]
end Go.Vf.S

import Derived.Test.YtgnhkclddahdnaaGreatDoorAdY
import Derived.Test.YtgnhkclddahdnaaGreatDoorAdHs
import Derived.Test.YtgnhkclddahdnaaGreatDoorLbT
import Derived.Lib.LaidU8
/- A start that knows the table of letters and the library's tables of runes. -/
namespace Go.Vf.S
open Go Go.Vf Go.Proofs Go.Proofs.YtgnhkclddahdnaaGreatDoor Go.RowKit Go.ChangeShapes
set_option linter.unusedVariables false
set_option linter.unusedSimpArgs false

theorem tabs_laid3 {W : World} (h : laidMetH pr laidL3 W) : Lib.Utf8Tabs gFi gAc W := by
  rw [MakeChecks.laidMetH_plain _ _ _ (by kernel_rfl)] at h
  have e1 : Rows.laid_unicode_utf8_first = Lib.firstData := by kernel_rfl
  have e2 : (Rows.laid_unicode_utf8_acceptRanges : DataW Unit) = Lib.acceptData := by kernel_rfl
  exact utf8Tabs_of_reads (ρ := Tryz.lays230_ren) { Tryz.lays230 with } ⟨by kernel_rfl, by kernel_rfl, by kernel_rfl, by kernel_rfl, by kernel_rfl, by kernel_rfl, by kernel_rfl⟩
    (e1 ▸ Lib.laidMet.reads h (by simp [laidL3])) (e2 ▸ Lib.laidMet.reads h (by simp [laidL3]))

theorem tab_good {W : World} (hsh : W.ShapedOpen pr) {g n : Nat} (hg : g < pr.globals.size) (h0 : (((begin pr (fun _ _ => 0) default).world.heap[g]?).bind Obj.row?).isSome = true) {vs : List Value} (hp : vs.all plain1 = true) (hn : vs.length = n) (hpos : 0 < n) (h : ∀ c v, vs[c]? = some v → W.cell? ⟨g, c, none⟩ = some v) : GoodB pr W ⟨g, 0, n, 1, false⟩ (.cells vs tU8 false true) := by
  obtain ⟨⟨zero, t⟩, hz⟩ := Option.isSome_iff_exists.1 h0
  obtain ⟨⟨rc⟩, hb, _, _⟩ := hsh.1 g zero t hg hz
  have cell : ∀ c v, vs[c]? = some v → rc[c]? = some v := fun c v hv => by
    have := h c v hv
    rw [cell_at hb] at this
    exact this
  have hroom : n ≤ rc.length := by
    have := cell (n - 1) _ (List.getElem?_eq_getElem (by omega))
    have := (List.getElem?_eq_some_iff.1 this).1
    omega
  exact ⟨fun ρ => ⟨rfl, rc, 0, 0, t, hb, (fun z => by cases z), (fun i hi' hc2 => by omega), by simpa using hroom, by show vs.length ≤ n; omega, (by kernel_rfl), fun i v hv => ⟨v, by simpa using cell i v hv, plain1_rel (List.all_eq_true.1 hp v (List.mem_of_getElem? hv))⟩⟩, rfl, (Array.getElem?_eq_some_iff.1 hb).1⟩

theorem fi_good {W : World} (hsh : W.ShapedOpen pr) (h : Lib.Utf8Tabs gFi gAc W) : GoodB pr W ⟨gFi, 0, 256, 1, false⟩ (.cells fiV tU8 false true) :=
  tab_good hsh (by decide +kernel) (by kernel_rfl) (by simp [fiV, plain1]) (by simp [fiV]) (by omega) fun c v hv => by
    have hc : c < 256 := by
      have := (List.getElem?_eq_some_iff.1 hv).1
      simpa [fiV] using this
    rw [fi_get hc] at hv
    cases hv
    exact h.1 c hc
theorem ac_good {W : World} (hsh : W.ShapedOpen pr) (h : Lib.Utf8Tabs gFi gAc W) : GoodB pr W ⟨gAc, 0, 32, 1, false⟩ (.cells acV tU8 false true) :=
  tab_good hsh (by decide +kernel) (by kernel_rfl) (by simp [acV, plain1]) (by simp [acV]) (by omega) fun c v hv => by
    have hc : c < 32 := by
      have := (List.getElem?_eq_some_iff.1 hv).1
      simpa [acV] using this
    rw [ac_get hc] at hv
    cases hv
    have := h.2 (c / 2) (by omega)
    by_cases q : c % 2 = 0
    · rw [if_pos q]
      have e : 2 * (c / 2) = c := by omega
      rw [e] at this
      exact this.1
    · rw [if_neg q]
      have e : 2 * (c / 2) + 1 = c := by omega
      rw [e] at this
      exact this.2

abbrev gTopU : Nat := max gAt (max gFi gAc) + 1
def uAt (i : Nat) : RE × Option ABlk := if i = gAt then (⟨gAt, 0, 128, 1, false⟩, some gA) else if i = gFi then (⟨gFi, 0, 256, 1, false⟩, some (.cells fiV tU8 false true)) else if i = gAc then (⟨gAc, 0, 32, 1, false⟩, some (.cells acV tU8 false true)) else (⟨i, 0, 0, 1, false⟩, none)
def bsU : List (RE × Option ABlk) := (List.range gTopU).map uAt
theorem bsU_len : bsU.length = gTopU := by simp [bsU]
theorem bsU_at {i : Nat} (h : i < gTopU) : bsU[i]? = some (uAt i) := by
  unfold bsU
  rw [List.getElem?_map, List.getElem?_range h]
  rfl
end Go.Vf.S

import Derived.Test.YtioildcpkcijkaaDoorFrH
import Derived.Test.YtioildcpkcijkaaDoorEngBd
import Derived.LaidMore
import Derived.Lay
import Derived.OpenShut
/- The table of the check, as the row lays it, for a seat whose types have other numbers (names in place of numbers). -/
namespace Go.Vf.S
open Go Go.Vf Go.Vf.Fr Go.Proofs Go.Proofs.YtioildcpkcijkaaDoor Go.RowKit Go.ChangeShapes
set_option linter.unusedVariables false
set_option linter.unusedSimpArgs false

def laidL : List (String × DataW Unit) := [("postrider/frame.steps", Rows.laid_postrider_frame_steps)]

theorem steps_good {W : World} (h : laidMetH pr laidL W) : GoodB pr W ⟨0, 0, 16, 1, false⟩ gB := by
  rw [MakeChecks.laidMetH_plain _ _ _ (by kernel_rfl)] at h
  obtain ⟨ps, ⟨g, t, cs, fuel, p, q, hg, ht, hv, hd, _, hps⟩, _, hz⟩ := h
  obtain rfl := Option.some.inj ((show pr.globalNamed "postrider/frame.steps" = some 0 by kernel_rfl).symm.trans hg)
  obtain rfl := Option.some.inj ((show (pr.globals[0]?).map (·.type) = some 198 by kernel_rfl).symm.trans ht)
  obtain ⟨xs, m, _, ex, hlen, hl, hel⟩ := DataW.trod_array Tryd.underlying198 hd
  have c23 : pr.cellsOf 49 = 1 := by kernel_rfl
  have c51 : pr.cellsOf 198 = 16 := by kernel_rfl
  have hcs : cs.toList = stepsV := by
    refine List.ext_getElem? fun r => ?_
    rcases Nat.lt_or_ge r 16 with hr | hr
    · have hE := hel r hr
      rw [c23, Nat.mul_one, List.getElem?_eq_getElem (by omega)] at hE
      obtain ⟨z, e1, e2, _⟩ := DataW.trod_int Tryd.underlying49 hE
      have e3 : (xs.map (·.1)) = tab.map fun x => (.lit (.int .u32 (x.toNat : Int)) : DataW Unit) := (DataW.agg.inj (Prod.mk.inj ex).1).symm
      have e4 : (xs.map (·.1))[r]? = (tab.map fun x => (.lit (.int .u32 (x.toNat : Int)) : DataW Unit))[r]? := by rw [e3]
      have ht16 : tab.length = 16 := rfl
      rw [List.getElem?_map, List.getElem?_map, List.getElem?_eq_getElem (by omega : r < xs.length), List.getElem?_eq_getElem (by omega : r < tab.length), e2] at e4
      simp only [Option.map_some, Option.some.injEq, DataW.lit.injEq, Lit.int.injEq, true_and] at e4
      have h0 : ((cs.toList.drop r).take 1)[0]? = some (.int .u32 z) := by rw [e1]; rfl
      have h1 : cs.toList[r]? = some (.int .u32 z) := by simpa using h0
      rw [h1, steps_get hr, e4, List.getD, List.getElem?_eq_getElem (by omega : r < tab.length)]
      rfl
    · rw [List.getElem?_eq_none (by rw [hlen, c51]; exact hr), List.getElem?_eq_none (by exact hr)]
  have hin : MemPlace.cell 0 0 ∈ ps := by
    rw [hps]
    simp only [List.mem_append]
    left; left
    have : cs.size = 16 := by
      have := congrArg List.length hcs
      rw [show stepsV.length = 16 from rfl] at this
      simpa using this
    exact List.mem_map.2 ⟨0, List.mem_range.2 (by omega), rfl⟩
  obtain ⟨⟨c, t0, hblk⟩, _⟩ := hz 0 0 hin
  have hc : c = ⟨stepsV⟩ := by
    unfold World.var? at hv
    rw [hg] at hv
    simp only [Option.bind_some, hblk, Option.some.injEq] at hv
    rw [hv]
    exact Array.toList_inj.1 hcs
  subst hc
  refine ⟨fun ρ => ⟨rfl, stepsV, 0, 0, t0, hblk, (fun z => by cases z), (fun i _ hh => by omega), Nat.le_refl _, Nat.le_refl _, (by kernel_rfl), fun i v hi => ⟨v, by simpa using hi, plain1_rel ?_⟩⟩, rfl, ?_⟩
  · exact List.all_eq_true.1 gB_plain v (List.mem_of_getElem? hi)
  · exact (Array.getElem?_eq_some_iff.1 hblk).1
theorem startS_fine (bs : List (RE × ABlk)) (gl : Nat) : Fine (startS bs gl) := fun id hid => by
  have hid' : bs.length ≤ id := hid
  simp only [startS, heapOf_look, Nat.zero_le, if_true, Nat.sub_zero]
  rw [List.getElem?_eq_none hid']
  rfl
theorem own : ownKnob pr.godebug = none := by kernel_rfl
theorem laidOut : laidOutB pr = true := by kernel_rfl
end Go.Vf.S

import Derived.Test.YthhcngkblihliaaDoorHdMi
import Derived.Test.YthhcngkblihliaaDoorBnA
import Derived.Test.YthhcngkblihliaaDoorAdJ
import Derived.Test.YthhcngkblihliaaDoorEngBe
/- Lines put together. -/
namespace Go.Vf.S
open Go Go.Vf Go.Proofs
attribute [local irreducible] wSeq wRow wp wG
set_option linter.unusedVariables false
set_option linter.unusedSimpArgs false
set_option maxRecDepth 10000

theorem join_flat : ∀ ls : List (List UInt8), Lib.join ls [] = ls.flatten
  | [] => rfl
  | [a] => by simp [Lib.join]
  | a :: b :: r => by
    have ih := join_flat (b :: r)
    show a ++ ([] ++ Lib.join (b :: r) []) = a ++ (b :: r).flatten
    rw [ih, List.nil_append]
theorem join0_w {s : SS} {base : Option Addr} {cap : Nat} {ls : List (List UInt8)} (h : StrsAt s base ls) (h0 : 0 < ls.length) (hcap : ls.length ≤ cap) (hn : ls.length ≤ 1000001) (hlen : ls.flatten.length ≤ 1000000) :
    CallW pr 27 [.slice base ls.length cap, str []] s fun v s' => v = str ls.flatten ∧ s' = s := by
  obtain ⟨b, rfl, cs, t, g, r, h1, h2⟩ := h.at
  refine CallW.kit rfl fun B w0 ρ args' w H ha => ?_
  obtain ⟨v1, v2, rfl, q1, q2⟩ := lrel_2 ha
  obtain ⟨a', c', rfl, q3⟩ := slice_inv q1
  obtain rfl := str_inv q2
  have key : ∃ e, ρ b = some e ∧ a' = ⟨e.blk, e.off, none⟩ ∧ ls.length ≤ c' := by
    rcases q3 with ⟨_, z1, e, z2, z3, z4⟩ | ⟨_, z1, _⟩
    · refine ⟨e, z2, ?_, ?_⟩
      · rw [addr_eq z1, z3]
        rcases z4 with ⟨_, z5, _⟩ | ⟨_, _, _, _, z5⟩
        · rw [z5]; rfl
        · rcases z5 with z5 | z5
          · omega
          · rw [z5]; rfl
      · rcases z4 with ⟨_, _, z5⟩ | ⟨_, z5, _⟩
        · omega
        · exact z5
    · omega
  obtain ⟨e, he, rfl, hc'⟩ := key
  have hcells : ∀ (j : Nat) x, (ls.map fun l => (⟨⟨l⟩⟩ : ByteArray))[j]? = some x → w.cell? ⟨e.blk, e.off + j, none⟩ = some (.string x) := fun j x hx => by
    rw [List.getElem?_map] at hx
    cases hl : ls[j]? with
    | none => rw [hl] at hx; cases hx
    | some l =>
      rw [hl] at hx
      obtain rfl := Option.some.inj hx
      obtain ⟨v', p1, p2⟩ := H.cellAt h1 he (h2 j l hl)
      rw [p1, str_inv p2]
  have eq1 : ((ls.map fun l => (⟨⟨l⟩⟩ : ByteArray)).map (·.data.toList)) = ls := by simp [List.map_map, Function.comp_def]
  have := Any.strings_Join Tryd.lays156 Tryd.Builder_Extra_156 e.blk e.off c' (ls.map fun l => (⟨⟨l⟩⟩ : ByteArray)) ⟨⟨[]⟩⟩ w hcells (H.lt _ _ he) (by simp; omega) (by simpa using hc') (by rw [eq1]; show (Lib.join ls []).length ≤ _; rw [join_flat]; omega)
  rw [eq1, List.length_map] at this
  rw [show Lib.join ls [] = ls.flatten from join_flat ls] at this
  exact this
end Go.Vf.S

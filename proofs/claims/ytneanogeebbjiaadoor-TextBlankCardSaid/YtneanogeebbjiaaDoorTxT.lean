import Derived.Test.YtneanogeebbjiaaDoorTxO
import Derived.Test.YtneanogeebbjiaaDoorTxS
import Derived.Test.YtneanogeebbjiaaDoorEngCl
/- Parts joined; whether a text stands in another. -/
namespace Go.Vf.S
open Go Go.Vf Go.Proofs
attribute [local irreducible] wSeq wRow wp wG
set_option linter.unusedVariables false
set_option linter.unusedSimpArgs false
set_option maxRecDepth 10000

theorem join_split (c : UInt8) : ∀ l : List UInt8, Lib.join (splitF c l) [c] = l := by
  intro l
  unfold splitF
  rw [Lib.join_cons]
  induction l with
  | nil => rfl
  | cons x l ih =>
    rw [sp]
    by_cases h : x = c
    · subst h
      rw [if_pos rfl]
      simp only [Lib.joinTail, List.map_cons, List.flatten_cons, List.nil_append, List.singleton_append, List.cons_append] at ih ⊢
      rw [ih]
    · rw [if_neg h]
      simp only [List.cons_append] at ih ⊢
      rw [ih]

theorem contains_part {a b : List UInt8} : ∀ l : List UInt8, Lib.contains (l ++ a ++ b) a = true := by
  intro l
  unfold Lib.contains
  rw [decide_eq_true_eq]
  induction l with
  | nil =>
    rw [List.nil_append]
    have hp : a.isPrefixOf (a ++ b) = true := by rw [List.isPrefixOf_iff_prefix]; exact List.prefix_append _ _
    cases hs : a ++ b with
    | nil =>
      have : a = [] := (List.append_eq_nil_iff.1 hs).1
      subst this
      simp [Lib.index]
    | cons x r =>
      rw [hs] at hp
      rw [Lib.index, if_pos hp]
      exact Int.le_refl _
  | cons x l ih =>
    rw [List.cons_append, List.cons_append, Lib.index]
    split
    · exact Int.le_refl _
    · split
      · rename_i h
        have : Lib.index (l ++ a ++ b) a = -1 := by simpa using h
        omega
      · omega

theorem lrel_two {ρ : Ren} {a b : Value} {args' : List Value} (h : LRel ρ [a, b] args') : ∃ v1 v2, args' = [v1, v2] ∧ VRel ρ a v1 ∧ VRel ρ b v2 := by
  obtain ⟨h1, h2⟩ := h
  match args', h1 with
  | [v1, v2], _ => exact ⟨v1, v2, rfl, h2 0 _ _ rfl rfl, h2 1 _ _ rfl rfl⟩

theorem join_w {s : SS} {base : Option Addr} {cap : Nat} {ls : List (List UInt8)} {c : UInt8} (h : StrsAt s base ls) (h0 : 0 < ls.length) (hcap : ls.length ≤ cap) (hn : ls.length ≤ 1000001) (hlen : (Lib.join ls [c]).length ≤ 1000000) :
    CallW pr n_strings_Join [.slice base ls.length cap, str [c]] s fun v s' => v = str (Lib.join ls [c]) ∧ s' = s := by
  obtain ⟨b, rfl, cs, t, g, r, h1, h2⟩ := h.at
  refine CallW.kit rfl fun B w0 ρ args' w H ha => ?_
  obtain ⟨v1, v2, rfl, q1, q2⟩ := lrel_two ha
  obtain ⟨a', c', rfl, q3⟩ := slice_inv q1
  obtain rfl := str_inv q2
  have key : ∃ e, ρ b = some e ∧ a' = ⟨e.blk, e.off, none⟩ ∧ ls.length ≤ c' := by
    rcases q3 with ⟨_, z1, e, z2, z3, z4⟩ | ⟨_, z1, _⟩
    · refine ⟨e, z2, ?_, ?_⟩
      · rw [addr_eq z1, z3]
        rcases z4 with ⟨_, z5, _⟩ | ⟨_, _, _, _, z5⟩
        · rw [z5]; rfl
        · rcases z5 with z5 | z5
          · omega
          · rw [z5]; rfl
      · rcases z4 with ⟨_, _, z5⟩ | ⟨_, z5, _⟩
        · omega
        · exact z5
    · omega
  obtain ⟨e, he, rfl, hc'⟩ := key
  have hcells : ∀ (j : Nat) x, (ls.map fun l => (⟨⟨l⟩⟩ : ByteArray))[j]? = some x → w.cell? ⟨e.blk, e.off + j, none⟩ = some (.string x) := fun j x hx => by
    rw [List.getElem?_map] at hx
    cases hl : ls[j]? with
    | none => rw [hl] at hx; cases hx
    | some l =>
      rw [hl] at hx
      obtain rfl := Option.some.inj hx
      obtain ⟨v', p1, p2⟩ := H.cellAt h1 he (h2 j l hl)
      rw [p1, str_inv p2]
  have eq1 : ((ls.map fun l => (⟨⟨l⟩⟩ : ByteArray)).map (·.data.toList)) = ls := by simp [List.map_map, Function.comp_def]
  have := Any.strings_Join Tryd.lays156 Tryd.Builder_Extra_156 e.blk e.off c' (ls.map fun l => (⟨⟨l⟩⟩ : ByteArray)) ⟨⟨[c]⟩⟩ w hcells (H.lt _ _ he) (by simp; omega) (by simpa using hc') (by rw [eq1]; show (Lib.join ls [c]).length ≤ _; omega)
  rw [eq1, List.length_map] at this
  exact this
end Go.Vf.S

import Derived.Test.YtgnhkclddahdnaaGreatDoorBnA
import Derived.Test.YtgnhkclddahdnaaGreatDoorShR
import Derived.Test.YtgnhkclddahdnaaGreatDoorEngBe
/- The library's tables of runes in a state; parts joined. -/
namespace Go.Vf.S
open Go Go.Vf Go.Proofs Go.RowKit
attribute [local irreducible] wSeq wRow wp wG
set_option linter.unusedVariables false
set_option linter.unusedSimpArgs false
set_option maxRecDepth 10000

abbrev gFi : Nat := 0
abbrev gAc : Nat := 1
abbrev tU8 : TypeId := 5
def fiV : List Value := (List.range 256).map fun c => .int .u8 (Lib.firstT c)
def acV : List Value := (List.range 32).map fun k => .int .u8 (if k % 2 = 0 then Lib.accLo (k / 2) else Lib.accHi (k / 2))
theorem fi_get {c : Nat} (h : c < 256) : fiV[c]? = some (.int .u8 (Lib.firstT c)) := by simp [fiV, h]
theorem ac_get {k : Nat} (h : k < 32) : acV[k]? = some (.int .u8 (if k % 2 = 0 then Lib.accLo (k / 2) else Lib.accHi (k / 2))) := by simp [acV, h]

/-- The library's tables lie there. -/
structure Gv (s : SS) : Prop where
  g1 : gFi < s.gl
  g2 : gAc < s.gl
  n1 : gFi < s.next
  n2 : gAc < s.next
  b1 : lookH s.heap gFi = some (.cells fiV tU8 false true)
  b2 : lookH s.heap gAc = some (.cells acV tU8 false true)
theorem Gv.chg {s s' : SS} (h : Gv s) (c : Chg s s' []) : Gv s' :=
  ⟨by rw [c.gl]; exact h.g1, by rw [c.gl]; exact h.g2, Nat.lt_of_lt_of_le h.n1 c.next, Nat.lt_of_lt_of_le h.n2 c.next, c.blk _ _ h.n1 (by simp) h.b1, c.blk _ _ h.n2 (by simp) h.b2⟩
theorem Gv.tabs {s : SS} (h : Gv s) {B : Nat} {w0 : World} {ρ : Go.Vf.Ren} {w : World} (H : HRel pr B w0 ρ s.st w) : Lib.Utf8Tabs gFi gAc w := by
  obtain ⟨e2, h2, b2, o2⟩ := H.glob gFi h.g1
  obtain ⟨e3, h3, b3, o3⟩ := H.glob gAc h.g2
  have at3 : ∀ k, k < 32 → w.cell? ⟨gAc, k, none⟩ = some (.int .u8 (if k % 2 = 0 then Lib.accLo (k / 2) else Lib.accHi (k / 2))) := fun k hk => by
    obtain ⟨v', p1, p2⟩ := H.cellAt h.b2 h3 (ac_get hk)
    rw [b3, o3, Nat.zero_add] at p1
    rw [p1, int_inv p2]
  refine ⟨fun c hc => ?_, fun i hi => ⟨?_, ?_⟩⟩
  · obtain ⟨v', p1, p2⟩ := H.cellAt h.b1 h2 (fi_get hc)
    rw [b2, o2, Nat.zero_add] at p1
    rw [p1, int_inv p2]
  · rw [at3 (2 * i) (by omega), if_pos (by omega), show 2 * i / 2 = i by omega]
  · rw [at3 (2 * i + 1) (by omega), if_neg (by omega), show (2 * i + 1) / 2 = i by omega]

theorem lrel_t {ρ : Go.Vf.Ren} {a b : Value} {args' : List Value} (h : LRel ρ [a, b] args') : ∃ v1 v2, args' = [v1, v2] ∧ VRel ρ a v1 ∧ VRel ρ b v2 := by
  obtain ⟨h1, h2⟩ := h
  match args', h1 with
  | [v1, v2], _ => exact ⟨v1, v2, rfl, h2 0 _ _ rfl rfl, h2 1 _ _ rfl rfl⟩

end Go.Vf.S

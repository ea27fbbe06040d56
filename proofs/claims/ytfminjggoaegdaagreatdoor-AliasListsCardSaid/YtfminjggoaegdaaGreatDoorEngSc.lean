import Derived.Test.YtfminjggoaegdaaGreatDoorEngMp
import Derived.Scope
import Derived.ControlIn
namespace Go.Vf
open Go.RowKit
set_option linter.unusedVariables false
set_option linter.unusedSimpArgs false
section
variable {P : Program} {b : Frame} {a : Act} {k : List Item} {cs : List Frame} {w : World} {Q : Exit → Act → World → Prop} {F : Fence} {n : Nat}
theorem stepR_scope {c : Code} : step P (lone (b.atR a (.code (.scope c) :: k)) cs w) = .next (lone (b.atR a (.code c :: .inScope c :: k)) cs w) :=
 step_lone_go (by simp [stepG, stepG.exec, Frame.atR])
theorem stepR_inScope {c : Code} : step P (lone (b.atR a (.inScope c :: k)) cs w) = .next (lone (b.atR a k) cs w) :=
 step_lone_go (by simp [stepG, stepG.exec, Frame.atR])
theorem wpIn_scope {c : Code} (h : c.wpIn F n P (Exit.noGoto Q) a w) : (Code.scope c).wpIn F n P Q a w := by
 intro b k cs hro hb hr
 have h0 : (lone (b.atR a (.code (.scope c) :: k)) cs w).fenced P F := fenced_calm hb hr rfl
 obtain ⟨e, a₁, w₁, hq, harr⟩ := h b (.inScope c :: k) cs hro hb hr
 cases e with
 | normal => exact ⟨.normal, a₁, w₁, hq, .head h0 stepR_scope (StepsIn.trans harr (.one (fenced_calm hb hr rfl) stepR_inScope))⟩
 | exit id' =>
  have hx : exitTo id' (.inScope c :: k) = exitTo id' k := by simp [exitTo]
  exact ⟨.exit id', a₁, w₁, hq, fun k' hk => .head h0 stepR_scope (harr.1 k' (by rw [hx]; exact hk)),
   fun hr' hk => let ⟨k₁, h1, h2⟩ := harr.2 hr' (by rw [hx]; exact hk); ⟨k₁, h1, .head h0 stepR_scope h2⟩⟩
 | goto l => exact hq.elim
 | ret => exact ⟨_, a₁, w₁, hq, .of_steps (.one h0 stepR_scope) harr⟩
 | panic ch => exact ⟨_, a₁, w₁, hq, .of_steps (.one h0 stepR_scope) harr⟩
 | outgrown => exact ⟨_, a₁, w₁, hq, .of_steps (.one h0 stepR_scope) harr⟩
end
def scB : Code → Code
 | .scope c => c
 | c => c
section
variable {P : Program} {nt k : Nat} {T : TL} {s : SS} {Q : AExit → TL → SS → Prop} {c : Code}
theorem W.scope (h : W P nt k c T s Q) : W P nt k (.scope c) T s Q := by
 obtain ⟨ex, T1, s1, q, r⟩ := h
 refine ⟨ex, T1, s1, q, r.1, r.2.1, fun B w0 ρ w tmps ds Q' rr H F hf hQ => wpIn_scope (r.2.2 B w0 ρ w tmps ds _ rr H F hf fun ρ1 tmps1 w1 M1 H1 F1 x1 K1 => ?_)⟩
 have := hQ ρ1 tmps1 w1 M1 H1 F1 x1 K1
 cases ex <;> exact this
theorem W.label {l : Nat} (h : Q .normal T s) : W P nt k (.label l) T s Q :=
 ⟨_, _, _, h, Nat.le_refl _, rfl, fun _ _ _ _ _ _ _ _ H F hf hQ => wpIn_label (hQ _ _ _ [] H F (.refl _ _ _) (.nil _ _))⟩
end
end Go.Vf

import Derived.Test.YtneanogeebbjiaaDoorEngN
import Derived.OrdersIn
import Derived.LoopNIn
import Derived.RangeFuncCalls
/- Code in a round of a range over a function, too: what holds of a plain frame's operation holds of a round's, but of 'defer'. -/
namespace Go.Vf
open Go.RowKit
set_option linter.unusedVariables false

/-- Every machine; within a round or not. -/
def Fr (r : Option Nat) : Fence := { fn := fun _ => True, depth := none, alive := false, round := r }

theorem fr_none : Fr none = Fence.wide := rfl

section
variable {P : Program} {r : Option Nat} {n : Nat}

theorem calls_fr {f : FuncId} {args : Array Value} {w : World} {R : Ending → World → Prop} (h : Calls P f args w R) : CallsIn (Fr r) n P f args w R :=
  match r with
  | none => callsIn_wide.2 h
  | some l => CallsIn.inRound l (callsIn_wide.2 h)

theorem steps_fr {m m' : Machine} (h : Steps P m m') : StepsIn (Machine.fenced P (Fr r)) P m m' :=
  match r with
  | none => stepsIn_wide.2 h
  | some l => stepsIn_wide.2 h

def noDefer (o : Oper) : Bool := match o.op with | .defer _ => false | _ => true

theorem noDefer_of {o : Oper} (h : noDefer o = true) : ∀ c, o.op ≠ .defer c := by
  intro c hc
  simp [noDefer, hc] at h

variable {o : Oper} {a : Act} {w : World} {next : Act → World → Prop} {Q : Exit → Act → World → Prop}

theorem op_fr (hd : ∀ c, o.op ≠ .defer c) (h : o.wp P a w next Q) : o.wpIn (Fr r) n P a w next Q := by
  refine ⟨fun _ _ => trivial, ?_⟩
  rw [Oper.semAt_eq _ _ _ hd]
  unfold Oper.wp at h
  generalize (execOp a.eval o).run P w = x at h ⊢
  cases x with
  | ok y w' =>
    cases y with
    | enter f args => exact ⟨fun e => by simp [Fr] at e, (calls_fr h).mono fun e w'' he => by cases e <;> exact he⟩
    | row row args => exact ⟨fun e => by simp [Fr] at e, fun c cs _ => let ⟨v, w'', q, s⟩ := h c cs; ⟨v, w'', q, steps_fr s⟩⟩
    | round => exact h.elim
    | _ => exact h
  | halt y w' => cases y <;> exact h

variable {md : Region.Mode} {ops : Array Oper}

theorem any_fr (hd : ∀ (i : Nat) (o : Oper), ops[i]? = some o → ∀ c, o.op ≠ .defer c) (hq : ¬ LetsOut Q) : ∀ (fuel : Nat) (listed : Array Bool) (a : Act) (w : World), wpAny P md ops Q fuel listed a w → wpAnyIn (Fr r) n P md ops Q fuel listed a w := by
  intro fuel
  induction fuel with
  | zero => intro listed a w h; exact h
  | succ fuel ih =>
    intro listed a w h
    refine ⟨h.1, fun i hi => ?_⟩
    have h2 := h.2 i hi
    unfold wpOp at h2
    unfold wpOpIn
    cases ho : ops[i]? with
    | none => rw [ho] at h2; exact ih _ _ _ h2
    | some o =>
      rw [ho] at h2
      simp only at h2 ⊢
      split at h2
      · rename_i hw
        rw [if_pos hw]
        rcases h2 with h2 | ⟨_, h2⟩
        · exact Oper.wpIn_mono (fun a w h => ih _ a w h) (op_fr (hd i o ho) h2)
        · exact absurd h2 hq
      · rename_i hw
        rw [if_neg hw]
        exact ⟨fun _ _ => trivial, ih _ _ _ h2⟩

/-- A region that draws, in a round or not. -/
theorem region_fr {id : Nat} (hm : P.follows .mixedOrders = true) (hd : ∀ (i : Nat) (o : Oper), ops[i]? = some o → ∀ c, o.op ≠ .defer c)
    (h : ∀ Q1 : Exit → Act → World → Prop, (∀ a w, Q .normal a w → Q1 .normal a w) → wpAny P .any ops Q1 ops.size (Array.replicate ops.size false) a { w with drawn := w.drawn + 1 }) : (Code.region id ops true).wpIn (Fr r) n P Q a w := by
  have h1 := h (fun e a w => match e with | .normal => Q .normal a w | _ => False) (fun _ _ q => q)
  refine wpIn_mono (wpIn_region_any hm (any_fr hd (fun ⟨_, _, q⟩ => q) _ _ _ _ h1)) fun e a w q => ?_
  cases e <;> first | exact q | exact q.elim

/-- What hands back a value, or nothing, is no 'defer'. -/
theorem noDefer_run {y : Next} {w' : World} (h : (execOp a.eval o).run P w = .ok y w') (hy : (∃ v, y = .value v) ∨ y = .skip) : ∀ c, o.op ≠ .defer c := by
  intro c hc
  unfold execOp at h
  rw [hc] at h
  simp only [Sem.run_bind] at h
  cases hx : (resolve a.eval c o.type).run P w with
  | ok d w1 =>
    rw [hx] at h
    simp only [Result.andThen, Sem.run_pure] at h
    cases h
    rcases hy with ⟨v, hy⟩ | hy <;> cases hy
  | halt x w1 => rw [hx] at h; simp [Result.andThen] at h

end
end Go.Vf

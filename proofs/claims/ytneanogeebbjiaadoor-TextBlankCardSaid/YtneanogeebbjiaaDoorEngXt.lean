import Derived.Test.YtneanogeebbjiaaDoorEngSb
import Derived.BigCall
import Derived.Lib.Bytealg
/- The machine of plain blocks, by rows: calls of functions that have no text. -/
namespace Go.Vf
set_option linter.unusedVariables false
set_option linter.unusedSimpArgs false
section
variable {P : Program} {T : TL} {s : SS} {K : Value → SS → Prop}

/-- A call that reads a text and a byte, and changes nothing. -/
theorem xtn_W {f : FuncId} {fn : Func} {e : Array Value → Sem Value} {x y : Operand} {ats : Array TypeId} {l : List UInt8} {c z : Int} (hf : P.funcs[f]? = some fn) (hname : (fn.name == "runtime.NumGoroutine") = false)
    (hb : fn.body.isNone = true) (hn : Extern.findNext fn = none) (he : Extern.find fn = some e) (hcx : okC x = true) (hcy : okC y = true) (hx : opd T s.gl x = some (.string ⟨⟨l⟩⟩)) (hy : opd T s.gl y = some (.int .u8 c))
    (run : ∀ w, (e #[.string ⟨⟨l⟩⟩, .int .u8 c]).run P w = .ok (.int .i64 z) w) (h : K (.int .i64 z) s) : OpW P (.call { callee := .value (.func f), args := #[x, y], argTypes := ats }) T s K := by
  refine ⟨_, _, h, Nat.le_refl _, rfl, ?_⟩
  intro o ho nt B w0 ρ w tmps ds H F hfr
  have r1 := str_inv (F.ev H ds _ _ (opd_ok hcx hx))
  have r2 := int_inv (F.ev H ds _ _ (opd_ok hcy hy))
  obtain ⟨dst, op, ty, pos, after, guard⟩ := o
  simp only at ho
  subst ho
  refine ⟨.value (.int .i64 z), _, w, ρ, ?_, .inl rfl, .int _ _, H, .refl _ _ _⟩
  rw [execOp_call_go, run_callFunc_extern hf hname hb hn he]
  have e1 : (#[] ++ #[x, y].map (⟨tmps, ds⟩ : Act).eval ++ #[] : Array Value) = #[.string ⟨⟨l⟩⟩, .int .u8 c] := by
    simp [r1, r2]
  rw [e1, run]
  rfl
end
end Go.Vf

import Derived.Test.YtfminjggoaegdaaGreatDoorEngBd
namespace Go.Vf
open Go.RowKit
set_option linter.unusedVariables false
set_option linter.unusedSimpArgs false
def bodyAt (P : Program) (f : Nat) : Code :=
 match P.funcs[f]? with
 | some fn => (match fn.body with
  | some c => c
  | none => .skip)
 | none => .skip
def ntAt (P : Program) (f : Nat) : Nat :=
 match P.funcs[f]? with
 | some fn => fn.ntmps
 | none => 0
def resAt (P : Program) (f : Nat) : List ResultVar :=
 match P.funcs[f]? with
 | some fn => fn.results.toList
 | none => []
def hasAt (P : Program) (f : Nat) : Bool :=
 match P.funcs[f]? with
 | some fn => fn.body.isSome
 | none => false
def sqL : Code → Code
 | .seq a _ => a
 | c => c
def sqR : Code → Code
 | .seq _ b => b
 | c => c
theorem CallW.pieces {P : Program} {f : FuncId} {args : List Value} {K : Value → SS → Prop} {s : SS} {nt : Nat} {res : List ResultVar} {c : Code} (hb : hasAt P f = true) (hc : bodyAt P f = c) (hnt : ntAt P f = nt) (hres : resAt P f = res) (hn : args.length ≤ nt)
  (h : W P nt s.next c (argsL args 0) s (runQ P res K)) : CallW P f args s K := by
 unfold hasAt at hb
 unfold bodyAt at hc
 unfold ntAt at hnt
 unfold resAt at hres
 split at hb
 ·rename_i fn hfn
  rw [hfn] at hc hnt hres
  simp only at hc hnt hres
  cases hbd : fn.body with
  | none => rw [hbd] at hb; cases hb
  | some c' =>
   rw [hbd] at hc
   simp only at hc
   subst hc; subst hnt; subst hres
   refine CallW.of hfn hbd hn (h.mono fun ex T s hh => ?_)
   cases ex with
   | exit id => exact hh.elim
   | normal =>
    simp only [runQ] at hh
    split at hh
    ·rename_i l hl
     exact ⟨trivial, l, resS_ok hl, hh⟩
    ·exact hh.elim
   | ret =>
    simp only [runQ] at hh
    split at hh
    ·rename_i l hl
     exact ⟨trivial, l, resS_ok hl, hh⟩
    ·exact hh.elim
 ·cases hb
end Go.Vf

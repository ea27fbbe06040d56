import Derived.Test.YtgdkekacalmjoaaDoorPaD
/- Paths: what stands ahead of the end. -/
namespace Go.Vf.S
open Go Go.Vf
attribute [local irreducible] wSeq wRow wp wG
set_option linter.unusedVariables false
set_option linter.unusedSimpArgs false
set_option maxRecDepth 10000

def manyP (l : List UInt8) : Nat := (quotedF l).2.1
def insideP (l : List UInt8) : List UInt8 := l.take (manyP l) ++ (cutF 62 (l.drop (manyP l))).1

theorem cutAddress_w {s : SS} {l : List UInt8} (hl : l.length ≤ 1000000) :
    CallW pr n_path_cutAddress [str l] s fun v s' => v = .tuple ⟨[str (insideP l), str (cutF 62 (l.drop (manyP l))).2.1, .bool (cutF 62 (l.drop (manyP l))).2.2]⟩ ∧ Chg s s' [] := by
  have hm : manyP l ≤ l.length := quoted_len l
  refine CallW.run good ok_path_cutAddress (by simp) rfl ?_
  (repeat(first|refine pSeq ?_|refine pReg ?_|refine sCons ?_|refine sNil ?_|refine pRet ?_|refine gNone ?_))
  refine (quoted_w hl).mono fun v s1 q => ?_
  obtain ⟨rfl, c1⟩ := q
  unfold insideP
  unfold manyP at *
  generalize hQ : quotedF l = Q at *
  obtain ⟨a, m, e⟩ := Q
  dsimp only [qRes] at *
  (repeat(first|refine pSeq ?_|refine pReg ?_|refine sCons ?_|refine sNil ?_|refine pRet ?_|refine gNone ?_))
  refine ⟨by omega, ?_⟩
  intro k hk r hr
  have hk : (k : Int) = (m : Int) := hk
  obtain rfl : k = m := by omega
  rw [List.take_of_length_le (by simp)] at hr
  subst hr
  (repeat(first|refine pSeq ?_|refine pReg ?_|refine sCons ?_|refine sNil ?_|refine pRet ?_|refine gNone ?_))
  refine (cut1_w (c := 62) (by rw [List.length_drop]; omega)).mono fun v s2 q => ?_
  obtain ⟨rfl, rfl⟩ := q
  (repeat(first|refine pSeq ?_|refine pReg ?_|refine sCons ?_|refine sNil ?_|refine pRet ?_|refine gNone ?_))
  refine ⟨by omega, ?_⟩
  intro j hj r hr
  have hj : (j : Int) = (k : Int) := hj
  obtain rfl : j = k := by omega
  rw [List.drop_zero, Nat.sub_zero] at hr
  subst hr
  have hc : (cutF 62 (l.drop j)).1.length ≤ l.length := by
    unfold cutF
    split
    · exact Nat.le_trans (List.takeWhile_sublist _).length_le (by rw [List.length_drop]; omega)
    · rw [List.length_drop]; omega
  (repeat(first|refine pSeq ?_|refine pReg ?_|refine sCons ?_|refine sNil ?_|refine pRet ?_|refine gNone ?_))
  refine ⟨by rw [List.length_take]; omega, ?_⟩
  intro w hw
  subst hw
  (repeat(first|refine pSeq ?_|refine pReg ?_|refine sCons ?_|refine sNil ?_|refine pRet ?_|refine gNone ?_))
  exact ⟨rfl, c1⟩
end Go.Vf.S

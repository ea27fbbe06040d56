import Derived.Test.YtphcpdopfolopaaDoorCoH
/- Letters told: the closure, the whole. -/
namespace Go.Vf.S
open Go Go.Vf Go.Proofs Go.RowKit
attribute [local irreducible] wSeq wRow wp wG
set_option linter.unusedVariables false
set_option linter.unusedSimpArgs false
set_option maxRecDepth 10000

abbrev tBs : TypeId := 22
abbrev slV (b n cap : Nat) : Value := .slice (some ⟨b, 0, none⟩) n cap
/-- What the closure that tells finds: the letters so far. -/
structure LayJ (vb rb kb cap z : Nat) (p : List Nat) (s : SS) : Prop where
  v : lookH s.heap vb = some (.cells [slV rb p.length cap] tBs false false)
  r : Room s rb cap (p.map (letF z))
  k : lookH s.heap kb = some (.cells (kV z) tKd false false)
  lv : vb < s.next
  lk : kb < s.next
  n1 : rb ≠ vb
  n2 : rb ≠ kb
  n3 : vb ≠ kb
theorem LayJ.nil {vb rb kb cap z : Nat} {p : List Nat} {s s' : SS} (h : LayJ vb rb kb cap z p s) (c : Chg s s' []) : LayJ vb rb kb cap z p s' :=
  ⟨c.blk _ _ h.lv (by simp) h.v, h.r.chg c (by simp), c.blk _ _ h.lk (by simp) h.k, Nat.lt_of_lt_of_le h.lv c.next, Nat.lt_of_lt_of_le h.lk c.next, h.n1, h.n2, h.n3⟩
theorem let_get {z d : Nat} (hz : 4 ≤ z ∧ z ≤ 6) (h : d < 2 ^ z) : (lets z)[d]? = some (letF z d) := by
  unfold letF
  rw [List.getD_eq_getElem?_getD, List.getElem?_eq_getElem (by rw [lets_len hz]; exact h)]; rfl

theorem lay1_w {s : SS} {z vb rb kb cap d : Nat} {p : List Nat} (f : Fine s) (hz : 4 ≤ z ∧ z ≤ 6) (hd : d < 2 ^ z) (hm : p.length < cap) (hcap : cap ≤ 4294967296) (J : LayJ vb rb kb cap z p s) :
    CallW pr n_coding_kind_lay_1 [u64V d, ptrV vb, ptrV kb] s fun v s2 => v = .tuple #[] ∧ LayJ vb rb kb cap z (p ++ [d]) s2 ∧ Chg s s2 [rb, vb] := by
  obtain ⟨jv, jr, jk, lv, lk, n1, n2, n3⟩ := J
  refine CallW.run good ok_coding_kind_lay_1 (by simp) rfl ?_
  (repeat(first|refine rCons ?_|refine rNil ?_|refine kNo ?_|refine pRow ?_|refine gNone ?_))
  refine ld1_is rfl jv rfl ?_
  (repeat(first|refine rCons ?_|refine rNil ?_|refine kNo ?_|refine pRow ?_|refine gNone ?_))
  refine ldS_is rfl jk (kv0 z) ?_
  (repeat(first|refine rCons ?_|refine rNil ?_|refine kNo ?_|refine pRow ?_|refine gNone ?_))
  refine ⟨by rw [lets_len hz]; omega, ?_⟩
  intro m hm2
  obtain rfl : m = d := by omega
  refine ⟨letF z m, let_get hz hd, ?_⟩
  (repeat(first|refine rCons ?_|refine rNil ?_|refine kNo ?_|refine pRow ?_|refine gNone ?_))
  refine mkS_is rfl rfl (rNew f.at ?_)
  (repeat(first|refine rCons ?_|refine rNil ?_|refine kNo ?_|refine pRow ?_|refine gNone ?_))
  refine app_byte (c := letF z m) jr rfl rfl (by rw [List.length_map]) rfl (by omega) hcap fun s1 r1 c1 nx1 => ?_
  have kv1' := c1.blk _ _ lv (by simp; omega) jv
  (repeat(first|refine rCons ?_|refine rNil ?_|refine kNo ?_|refine pRow ?_|refine gNone ?_))
  refine st_abs (cs' := [slV rb (p.length + 1) cap]) rfl rfl kv1' (by omega) rfl rfl fun s2 e2 c2 nx2 => ?_
  refine kNo ?_
  (repeat(first|refine rCons ?_|refine rNil ?_|refine kNo ?_|refine pRow ?_|refine gNone ?_))
  have c12 : Chg s s2 [rb, vb] := chg_same (c1.sub (by simp)) (c2.sub (by simp))
  have lr := jr.1
  refine ⟨rfl, ⟨?_, ?_, ?_, ?_, ?_, n1, n2, n3⟩, c12⟩
  · rw [List.length_append, List.length_singleton]; exact e2
  · rw [List.map_append]; exact r1.chg c2 (by simp; exact n1)
  · exact c12.blk _ _ lk (by simp; exact ⟨Ne.symm n2, Ne.symm n3⟩) jk
  · omega
  · omega
end Go.Vf.S

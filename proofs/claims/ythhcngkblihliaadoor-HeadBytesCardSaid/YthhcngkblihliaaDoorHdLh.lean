import Derived.Test.YthhcngkblihliaaDoorHdLg
import Derived.Test.YthhcngkblihliaaDoorHdW
/- A message that is made, read: what is so of it. (No program.) -/
namespace Go.Vf.S
open Go Go.Vf Go.Proofs
set_option linter.unusedVariables false
set_option linter.unusedSimpArgs false

theorem nmC_name (c : UInt8) : nameB (nmC c) = true := by
  have := Nat.mod_lt c.toNat (show 0 < 94 by omega)
  unfold nmC
  split
  · decide
  · unfold nameB
    rw [ofNat_nat (by omega)]
    exact decide_eq_true (by omega)
theorem nmL_all (n : List UInt8) : (nmL n).all nameB = true := by
  rw [List.all_eq_true]
  intro c hc
  obtain ⟨d, -, rfl⟩ := List.mem_map.1 hc
  exact nmC_name d
theorem nmL_nm (n : List UInt8) : isNm (nmL n) = true := by
  unfold isNm
  rw [nmL_all]
  rfl
theorem nm_okB {c : UInt8} (h : nameB c = true) : okB c = true := by
  unfold nameB at h
  unfold okB
  simp only [decide_eq_true_eq] at h ⊢
  omega
theorem nmL_ok (n : List UInt8) : (nmL n).all okB = true := by
  have h := nmL_all n
  rw [List.all_eq_true] at h ⊢
  exact fun c hc => nm_okB (h c hc)
theorem vlL_ok (v : List UInt8) : (vlL v).all okB = true := plain_all _
theorem gL_ok (x : Lin) : Okl (gL x) := by
  refine okl_flat ?_
  have e : (gL x).flatten = nmL x.n ++ (58 :: (vlL x.v).take x.k ++ 9 :: (vlL x.v).drop x.k) := by
    unfold gL
    simp
  have h1 := vlL_ok x.v
  rw [List.all_eq_true] at h1
  rw [e, List.all_append, List.all_append, List.all_cons, List.all_cons, nmL_ok]
  simp only [Bool.true_and, Bool.and_eq_true, List.all_eq_true]
  exact ⟨⟨by decide, fun c hc => h1 c (List.mem_of_mem_take hc)⟩, by decide, fun c hc => h1 c (List.mem_of_mem_drop hc)⟩
theorem gL_asc (x : Lin) : asc (jn (gL x)) := by
  intro c hc
  rw [gL_text] at hc
  have hv : ∀ c ∈ vlL x.v, c.toNat < 128 := fun c hc => by
    obtain ⟨d, -, rfl⟩ := List.mem_map.1 hc
    have := plainC_nat d
    have := Nat.mod_lt d.toNat (show 0 < 95 by omega)
    omega
  simp only [List.mem_append] at hc
  rcases hc with ((((q | q) | q) | q) | q) | q
  · exact (nm_byte (List.all_eq_true.1 (nmL_all x.n) c q)).1
  · revert q; revert c; decide
  · exact hv c (List.mem_of_mem_take q)
  · revert q; revert c; decide
  · exact hv c (List.mem_of_mem_drop q)
  · revert q; revert c; decide
def fdL (x : Lin) : Fld := (fieldF (jn (gL x))).getD flZ
theorem nm_wh {c : UInt8} (h : nameB c = true) : wh c = false := by
  unfold nameB at h
  unfold wh
  simp only [decide_eq_true_eq, decide_eq_false_iff_not] at h ⊢
  omega
theorem fdL_is (x : Lin) : fieldF (jn (gL x)) = some (fdL x) ∧ (fdL x).n = nmL x.n ∧ (fdL x).r = jn (gL x) ∧ Gp (gL x) ∧ ∀ y ∈ gL x, y ≠ [] := by
  have hc : (58 : UInt8) ∉ nmL x.n := fun q => (nm_byte (List.all_eq_true.1 (nmL_all x.n) _ q)).2 (by simp)
  have e1 : jn (gL x) = nmL x.n ++ 58 :: ((vlL x.v).take x.k ++ [13, 10, 9] ++ (vlL x.v).drop x.k ++ [13, 10]) := by rw [gL_text]; simp
  have hcut : cutF 58 (jn (gL x)) = (nmL x.n, (vlL x.v).take x.k ++ [13, 10, 9] ++ (vlL x.v).drop x.k ++ [13, 10], true) := by rw [e1, cut_at hc]
  have hf : fieldF (jn (gL x)) = some ⟨nmL x.n, trimF (noE ((vlL x.v).take x.k ++ [13, 10, 9] ++ (vlL x.v).drop x.k ++ [13, 10])), jn (gL x)⟩ := by
    unfold fieldF
    rw [hcut]
    dsimp only
    rw [dropR_nm (nmL_all x.n), nmL_nm]
    rfl
  have hne : nmL x.n ≠ [] := by unfold nmL; simp
  refine ⟨by unfold fdL; rw [hf]; rfl, by unfold fdL; rw [hf]; rfl, by unfold fdL; rw [hf]; rfl, ⟨_, _, rfl, ?_, fun y hy => ?_⟩, fun y hy => ?_⟩
  · cases hn : nmL x.n with
    | nil => exact absurd hn hne
    | cons c r =>
      show wh c = false
      have := nmL_all x.n
      rw [hn, List.all_cons] at this
      simp only [Bool.and_eq_true] at this
      exact nm_wh this.1
  · rw [List.mem_singleton] at hy
    subst hy
    rfl
  · unfold gL at hy
    simp only [List.mem_cons, List.not_mem_nil, or_false] at hy
    rcases hy with rfl | rfl <;> simp
theorem gs_map : ∀ (ls : List Lin), Gs (ls.map gL) (ls.map fdL)
  | [] => trivial
  | x :: ls => ⟨⟨(fdL_is x).2.2.2.1, (fdL_is x).1⟩, gs_map ls⟩

/-- The text's lines, and the message. -/
def tkL (ls : List Lin) (body : List UInt8) (ea : Bool) : List (List UInt8) := LL ls ++ if ea = true then [] else [] :: bsF body
def msL (ls : List Lin) (body : List UInt8) (ea : Bool) : Msg := ⟨(ls.take 12).map fdL, if ea = true then [] else jn (bsF body), ea⟩
theorem LL_ne (ls : List Lin) : ∀ y ∈ LL ls, y ≠ [] ∧ y.all okB = true := fun y hy => by
  unfold LL at hy
  obtain ⟨x, -, hy⟩ := List.mem_flatMap.1 hy
  exact ⟨(fdL_is x).2.2.2.2 y hy, gL_ok x y hy⟩
theorem tk_ok (ls : List Lin) (body : List UInt8) (ea : Bool) : Okl (tkL ls body ea) := by
  unfold tkL
  refine Okl.app (fun y hy => (LL_ne ls y hy).2) ?_
  cases ea with
  | true => exact Okl.nil
  | false => exact Okl.mk rfl (okl_bs body)
theorem tk_len (ls : List Lin) (body : List UInt8) (ea : Bool) : (jn (tkL ls body ea)).length ≤ 5200 := by
  have h1 := jl_len (ls.take 12)
  have h2 : (ls.take 12).length ≤ 12 := by rw [List.length_take]; omega
  have h3 := bs_len body
  unfold tkL LL
  rw [jn_app, List.length_append]
  cases ea with
  | true => simp [jn]; omega
  | false =>
    simp only [Bool.false_eq_true, if_false, jn_cons, List.nil_append, List.length_cons]
    omega
theorem tk_mes (ls : List Lin) (body : List UInt8) (ea : Bool) : mesF (tkL ls body ea) = some (msL ls body ea) := by
  have hall : ∀ y ∈ LL ls, isN y = true := fun y hy => by
    have := (LL_ne ls y hy).1
    cases y <;> simp_all [isN]
  have hb : ∀ u r, (if ea = true then ([] : List (List UInt8)) else [] :: bsF body) = u :: r → isN u = false := by
    intro u r e
    cases ea with
    | true => simp at e
    | false =>
      simp only [Bool.false_eq_true, if_false, List.cons.injEq] at e
      rw [← e.1]
      rfl
  obtain ⟨w1, w2⟩ := while_all (p := isN) hall hb
  have h4 : hdr (tkL ls body ea) = LL ls := w1
  have h5 : beh (tkL ls body ea) = if ea = true then [] else [] :: bsF body := w2
  have hG := gs_fields (gs_map (ls.take 12))
  have eL : ((ls.take 12).map gL).flatten = LL ls := by unfold LL; rw [List.flatMap_def]
  rw [eL] at hG
  unfold mesF
  rw [h4, hG]
  unfold bdy early msL
  rw [h5]
  cases ea <;> rfl

/-! ### Trimmed -/

theorem while_idem {p : UInt8 → Bool} : ∀ (l : List UInt8), (l.dropWhile p).dropWhile p = l.dropWhile p
  | [] => rfl
  | c :: l => by
    rw [List.dropWhile_cons]
    split
    · exact while_idem l
    · rename_i h
      rw [List.dropWhile_cons, if_neg h]
theorem trim_idem (l : List UInt8) : trimF (trimF l) = trimF l := by
  have e1 : (trimF l).dropWhile wh = trimF l := by rw [trim_comm l, while_idem]
  have e2 : dropR (trimF l) = trimF l := by
    unfold trimF dropR
    rw [List.reverse_reverse, while_idem]
  rw [show trimF (trimF l) = dropR ((trimF l).dropWhile wh) from rfl, e1, e2]
theorem trim_mem {l : List UInt8} {c : UInt8} (h : c ∈ trimF l) : c ∈ l := by
  unfold trimF dropR at h
  rw [List.mem_reverse] at h
  have := (List.dropWhile_sublist (l := (l.dropWhile wh).reverse) wh).subset h
  rw [List.mem_reverse] at this
  exact (List.dropWhile_sublist (l := l) wh).subset this
theorem fdL_val (x : Lin) : trimF (fdL x).v = (fdL x).v ∧ asc (fdL x).v ∧ (∀ c ∈ (fdL x).v, c ∉ ([13, 10] : List UInt8)) ∧ (fdL x).v.length ≤ 230 := by
  obtain ⟨h1, -⟩ := fdL_is x
  obtain ⟨h2, -, h3⟩ := field_raw h1
  have hsub : ∀ c ∈ (fdL x).v, c ∈ noE (cutF 58 (jn (gL x))).2.1 := fun c hc => trim_mem (by rw [← h3]; exact hc)
  have hcs : (cutF 58 (jn (gL x))).2.1 <:+ jn (gL x) := by
    unfold cutF
    split
    · exact List.drop_suffix _ _
    · exact List.nil_suffix
  refine ⟨by rw [h3, trim_idem], fun c hc => ?_, fun c hc => ?_, ?_⟩
  · have := hsub c hc
    unfold noE at this
    exact gL_asc x c (hcs.subset (List.mem_filter.1 this).1)
  · have := hsub c hc
    unfold noE at this
    have := (List.mem_filter.1 this).2
    simp only [Bool.and_eq_true, bne_iff_ne, ne_eq] at this
    simp [this.1, this.2]
  · have h4 := gL_len x
    have h5 := hcs.length_le
    have h6 : (noE (cutF 58 (jn (gL x))).2.1).length ≤ (cutF 58 (jn (gL x))).2.1.length := List.length_filter_le _ _
    rw [h3]
    have h7 : (trimF (noE (cutF 58 (jn (gL x))).2.1)).length ≤ (noE (cutF 58 (jn (gL x))).2.1).length := by
      unfold trimF dropR
      rw [List.length_reverse]
      have a := (List.dropWhile_sublist (l := ((noE (cutF 58 (jn (gL x))).2.1).dropWhile wh).reverse) wh).length_le
      rw [List.length_reverse] at a
      have b := (List.dropWhile_sublist (l := noE (cutF 58 (jn (gL x))).2.1) wh).length_le
      omega
    omega

/-! ### A field laid among them -/

theorem lay_some {nm v : List UInt8} (h1 : isNm nm = true) (h2 : v.all okB = true) : ∃ f, layF nm v = some f ∧ f.n = nm ∧ f.v = trimF v := ⟨_, by unfold layF; rw [if_pos ⟨h1, h2⟩], rfl, rfl⟩
/-- It is read as it is. -/
theorem with_may {ls : List (List UInt8)} {m : Msg} {a x b : List Fld} {nm v : List UInt8} {f : Fld} (hk : Okl ls) (h : mesF ls = some m) (he : m.fs = a ++ (x ++ b)) (hl : layF nm v = some f) (hlen : (textM ⟨a ++ f :: b, m.b, m.e⟩).length ≤ 8192) : mayM ⟨a ++ f :: b, m.b, m.e⟩ = true := by
  have h1 : isNm nm = true ∧ v.all okB = true := by
    unfold layF at hl
    split at hl
    · rename_i q; exact q
    · cases hl
  have hf : f = ⟨nm, trimF v, jn (foldF 1 (nm ++ 58 :: 32 :: v).length (nm.length + 2 + 1) (nm ++ 58 :: 32 :: v))⟩ := by
    unfold layF at hl
    rw [if_pos h1] at hl
    exact (Option.some.inj hl).symm
  obtain ⟨g1, g2, g3, g4⟩ := lay_field (y := 1) (n := (nm ++ 58 :: 32 :: v).length) (z := nm.length + 2 + 1) h1.1 h1.2 (by omega)
  rw [← hf] at g1
  obtain ⟨ls', o1, o2⟩ := mes_lay hk h he g2 g1 g3 g4
  have e := mes_text o2
  exact mes_may o1 (by rw [← e]; omega) o2
end Go.Vf.S

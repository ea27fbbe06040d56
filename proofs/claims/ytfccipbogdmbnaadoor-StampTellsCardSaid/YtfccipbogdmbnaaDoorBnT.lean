import Derived.Test.YtfccipbogdmbnaaDoorBnS
/- SmM -/
section
/- A date's text, by places: pure; the document's names and numbers in a text. -/
namespace Go.Vf.S
open Go Go.Vf Go.Proofs
attribute [local irreducible] wSeq wRow wp wG
set_option linter.unusedVariables false
set_option linter.unusedSimpArgs false
set_option maxRecDepth 10000

/-- What stands where in a date's text. -/
structure Pos (s : List UInt8) (f : Fd) : Prop where
  len : s.length = f.y.length + 27
  w : s.take 3 = wkT f.w
  c1 : (s.drop 3).take 2 = [44, 32]
  o : (s.drop 5).take 2 = f.o
  c2 : s[7]? = some 32
  M : (s.drop 8).take 3 = moT f.M
  c3 : s[11]? = some 32
  y : (s.drop 12).take f.y.length = f.y
  c4 : s[12 + f.y.length]? = some 32
  h : (s.drop (12 + f.y.length + 1)).take 2 = f.h
  c5 : s[12 + f.y.length + 3]? = some 58
  mi : (s.drop (12 + f.y.length + 4)).take 2 = f.mi
  c6 : s[12 + f.y.length + 6]? = some 58
  se : (s.drop (12 + f.y.length + 7)).take 2 = f.se
  z : s.drop (12 + f.y.length + 9) = zoneT
theorem drop_one {s : List UInt8} {i : Nat} {c : UInt8} (h : s[i]? = some c) : s.drop i = [c] ++ s.drop (i + 1) := by
  have hi := lt_of_get h
  rw [List.drop_eq_getElem_cons hi]
  rw [List.getElem?_eq_getElem hi] at h
  rw [Option.some.inj h]
  rfl
theorem drop_part {s t : List UInt8} {i j : Nat} (h : (s.drop i).take j = t) : s.drop i = t ++ s.drop (i + j) := by
  have := List.take_append_drop j (s.drop i)
  rw [h, List.drop_drop] at this
  exact this.symm
theorem Pos.text {s : List UInt8} {f : Fd} (P : Pos s f) : f.text = s := by
  have e0 : s = wkT f.w ++ s.drop 3 := by have := drop_part (i := 0) (j := 3) (show (s.drop 0).take 3 = _ from P.w); simpa using this
  have e4 := drop_one P.c4
  have e5 := drop_one P.c5
  have e6 := drop_one P.c6
  rw [e0, drop_part P.c1, drop_part P.o, drop_one P.c2, drop_part P.M, drop_one P.c3, drop_part P.y, e4, drop_part P.h, e5, drop_part P.mi, e6, drop_part P.se, P.z]
  rfl
theorem part_of {a b r : List UInt8} {i j : Nat} (hi : a.length = i) (hj : b.length = j) : ((a ++ (b ++ r)).drop i).take j = b := by
  subst hi
  subst hj
  simp
theorem byte_of {a r : List UInt8} {c : UInt8} {i : Nat} (hi : a.length = i) : (a ++ ([c] ++ r))[i]? = some c := by
  subst hi
  simp
theorem text_pos {s : List UInt8} {f : Fd} (hf : f.ok) (ht : f.text = s) : Pos s f := by
  have lw := wk_len hf.w
  have lm := mo_len hf.M
  have lo := hf.o.1
  have lh := hf.h.1
  have li := hf.mi.1
  have ls := hf.se.1
  have hl := Fd.len hf
  subst ht
  refine ⟨hl, ?_, ?_, ?_, ?_, ?_, ?_, ?_, ?_, ?_, ?_, ?_, ?_, ?_, ?_⟩
  · unfold Fd.text; rw [← lw]; simp
  · exact part_of (a := wkT f.w) (b := [44, 32]) lw rfl
  · have := part_of (a := wkT f.w ++ [44, 32]) (b := f.o) (i := 5) (j := 2) (r := [32] ++ (moT f.M ++ ([32] ++ (f.y ++ ([32] ++ (f.h ++ ([58] ++ (f.mi ++ ([58] ++ (f.se ++ zoneT)))))))))) (by rw [List.length_append, lw]; rfl) lo
    simpa only [Fd.text, List.append_assoc] using this
  · have := byte_of (a := wkT f.w ++ ([44, 32] ++ f.o)) (c := 32) (i := 7) (r := moT f.M ++ ([32] ++ (f.y ++ ([32] ++ (f.h ++ ([58] ++ (f.mi ++ ([58] ++ (f.se ++ zoneT))))))))) (by simp only [List.length_append, lw, lo]; rfl)
    simpa only [Fd.text, List.append_assoc] using this
  · have := part_of (a := wkT f.w ++ ([44, 32] ++ (f.o ++ [32]))) (b := moT f.M) (i := 8) (j := 3) (r := [32] ++ (f.y ++ ([32] ++ (f.h ++ ([58] ++ (f.mi ++ ([58] ++ (f.se ++ zoneT)))))))) (by simp only [List.length_append, lw, lo]; rfl) lm
    simpa only [Fd.text, List.append_assoc] using this
  · have := byte_of (a := wkT f.w ++ ([44, 32] ++ (f.o ++ ([32] ++ moT f.M)))) (c := 32) (i := 11) (r := f.y ++ ([32] ++ (f.h ++ ([58] ++ (f.mi ++ ([58] ++ (f.se ++ zoneT))))))) (by simp only [List.length_append, lw, lo, lm]; rfl)
    simpa only [Fd.text, List.append_assoc] using this
  · have := part_of (a := wkT f.w ++ ([44, 32] ++ (f.o ++ ([32] ++ (moT f.M ++ [32]))))) (b := f.y) (i := 12) (j := f.y.length) (r := [32] ++ (f.h ++ ([58] ++ (f.mi ++ ([58] ++ (f.se ++ zoneT)))))) (by simp only [List.length_append, lw, lo, lm]; rfl) rfl
    simpa only [Fd.text, List.append_assoc] using this
  · have := byte_of (a := wkT f.w ++ ([44, 32] ++ (f.o ++ ([32] ++ (moT f.M ++ ([32] ++ f.y)))))) (c := 32) (i := 12 + f.y.length) (r := f.h ++ ([58] ++ (f.mi ++ ([58] ++ (f.se ++ zoneT))))) (by simp only [List.length_append, lw, lo, lm, List.length_cons, List.length_nil]; omega)
    simpa only [Fd.text, List.append_assoc] using this
  · have := part_of (a := wkT f.w ++ ([44, 32] ++ (f.o ++ ([32] ++ (moT f.M ++ ([32] ++ (f.y ++ [32]))))))) (b := f.h) (i := 12 + f.y.length + 1) (j := 2) (r := [58] ++ (f.mi ++ ([58] ++ (f.se ++ zoneT)))) (by simp only [List.length_append, lw, lo, lm, List.length_cons, List.length_nil]; omega) lh
    simpa only [Fd.text, List.append_assoc] using this
  · have := byte_of (a := wkT f.w ++ ([44, 32] ++ (f.o ++ ([32] ++ (moT f.M ++ ([32] ++ (f.y ++ ([32] ++ f.h)))))))) (c := 58) (i := 12 + f.y.length + 3) (r := f.mi ++ ([58] ++ (f.se ++ zoneT))) (by simp only [List.length_append, lw, lo, lm, lh, List.length_cons, List.length_nil]; omega)
    simpa only [Fd.text, List.append_assoc] using this
  · have := part_of (a := wkT f.w ++ ([44, 32] ++ (f.o ++ ([32] ++ (moT f.M ++ ([32] ++ (f.y ++ ([32] ++ (f.h ++ [58]))))))))) (b := f.mi) (i := 12 + f.y.length + 4) (j := 2) (r := [58] ++ (f.se ++ zoneT)) (by simp only [List.length_append, lw, lo, lm, lh, List.length_cons, List.length_nil]; omega) li
    simpa only [Fd.text, List.append_assoc] using this
  · have := byte_of (a := wkT f.w ++ ([44, 32] ++ (f.o ++ ([32] ++ (moT f.M ++ ([32] ++ (f.y ++ ([32] ++ (f.h ++ ([58] ++ f.mi)))))))))) (c := 58) (i := 12 + f.y.length + 6) (r := f.se ++ zoneT) (by simp only [List.length_append, lw, lo, lm, lh, li, List.length_cons, List.length_nil]; omega)
    simpa only [Fd.text, List.append_assoc] using this
  · have := part_of (a := wkT f.w ++ ([44, 32] ++ (f.o ++ ([32] ++ (moT f.M ++ ([32] ++ (f.y ++ ([32] ++ (f.h ++ ([58] ++ (f.mi ++ [58]))))))))))) (b := f.se) (i := 12 + f.y.length + 7) (j := 2) (r := zoneT) (by simp only [List.length_append, lw, lo, lm, lh, li, List.length_cons, List.length_nil]; omega) ls
    simpa only [Fd.text, List.append_assoc] using this
  · have e : (wkT f.w ++ ([44, 32] ++ (f.o ++ ([32] ++ (moT f.M ++ ([32] ++ (f.y ++ ([32] ++ (f.h ++ ([58] ++ (f.mi ++ ([58] ++ f.se)))))))))))).length = 12 + f.y.length + 9 := by simp only [List.length_append, lw, lo, lm, lh, li, ls, List.length_cons, List.length_nil]; omega
    have : ((wkT f.w ++ ([44, 32] ++ (f.o ++ ([32] ++ (moT f.M ++ ([32] ++ (f.y ++ ([32] ++ (f.h ++ ([58] ++ (f.mi ++ ([58] ++ f.se)))))))))))) ++ zoneT).drop (12 + f.y.length + 9) = zoneT := by rw [← e]; simp
    simpa only [Fd.text, List.append_assoc] using this
theorem pd_bad {s : List UInt8} (h : ∀ f : Fd, f.ok → Pos s f → False) : pdF s = (0, 5) := by
  unfold pdF
  rw [form_none (fun f hf ht => h f hf (text_pos hf ht))]
theorem pd_some {s : List UInt8} {f : Fd} (hf : f.ok) (P : Pos s f) : pdF s = if f.there then (f.tick.toNat, 0) else (0, 24) := by
  have := form_of hf
  rw [P.text] at this
  unfold pdF
  rw [this]

/-! ### A name in a row, at a place -/
theorem rplace_w {s : SS} {l : List UInt8} {a b n c : Nat} {L : List (List UInt8)} (hL : ∀ i, i < n → L[i]? = some (L.getD i []) ∧ (L.getD i []).length = 3) (hn : L.length = n) (hn2 : n ≤ 100) (ha : a ≤ 1000) (hl : l.length ≤ 1000000) (hb : lookH s.heap b = some (.cells (L.map str) tS false false)) :
    CallW pr n_ref09_place [str l, .int .i64 a, .slice (some ⟨b, 0, none⟩) n c] s fun v s' => ((∃ i, i < n ∧ v = .int .i64 (i : Nat) ∧ (l.drop a).take 3 = L.getD i []) ∨ (v = .int .i64 (-1) ∧ ∀ i, i < n → (l.drop a).take 3 ≠ L.getD i [])) ∧ s' = s := by
  refine CallW.run good ok_ref09_place (by simp) rfl ?_
  have get : ∀ i, i < n → (L.map str)[i]? = some (str (L.getD i [])) := fun i hi => by rw [List.getElem?_map, (hL i hi).1]; rfl
  (repeat(first|refine pSeq ?_|refine pReg ?_|refine sCons ?_|refine sNil ?_|refine rCons ?_|refine rNil ?_|refine kNo ?_|refine pRow ?_|refine pBlock ?_|refine pSkip ?_|refine pExit ?_|refine pRet ?_|refine pCond ?_|refine gNone ?_|refine gOn rfl ?_|refine gOff rfl rfl ?_|refine gTup rfl ?_))
  refine pLoop (MW.head good (fun i : Nat => n - i) (fun i => i ≤ n ∧ ∀ j, j < i → (l.drop a).take 3 ≠ L.getD j []) (fun i => [(0, str l), (1, .int .i64 a), (2, .slice (some ⟨b, 0, none⟩) n c), (7, .int .i64 i)]) (fun _ => s) 0 ⟨Nat.zero_le _, fun j hj => absurd hj (by omega)⟩ (Wk.same ⟨rfl, rfl, rfl, rfl, trivial⟩) ?_)
  intro i ⟨hi, hj⟩
  (repeat(first|refine pSeq ?_|refine pReg ?_|refine sCons ?_|refine sNil ?_|refine rCons ?_|refine rNil ?_|refine kNo ?_|refine pRow ?_|refine pBlock ?_|refine pSkip ?_|refine pExit ?_|refine pRet ?_|refine pCond ?_|refine gNone ?_|refine gOn rfl ?_|refine gOff rfl rfl ?_|refine gTup rfl ?_))
  intro q hq
  by_cases hlt : i < n
  · have h3 := (hL i hlt).2
    obtain rfl : q = true := by rw [hq]; simp <;> omega
    (repeat(first|refine pSeq ?_|refine pReg ?_|refine sCons ?_|refine sNil ?_|refine rCons ?_|refine rNil ?_|refine kNo ?_|refine pRow ?_|refine pBlock ?_|refine pSkip ?_|refine pExit ?_|refine pRet ?_|refine pCond ?_|refine gNone ?_|refine gOn rfl ?_|refine gOff rfl rfl ?_|refine gTup rfl ?_))
    refine ⟨by omega, ?_⟩
    intro m hm o ho
    obtain rfl : m = i := by omega
    (repeat(first|refine pSeq ?_|refine pReg ?_|refine sCons ?_|refine sNil ?_|refine rCons ?_|refine rNil ?_|refine kNo ?_|refine pRow ?_|refine pBlock ?_|refine pSkip ?_|refine pExit ?_|refine pRet ?_|refine pCond ?_|refine gNone ?_|refine gOn rfl ?_|refine gOff rfl rfl ?_|refine gTup rfl ?_))
    refine ldS_is rfl hb (by rw [ho, Nat.zero_add, Nat.mul_one]; exact get _ hlt) ?_
    (repeat(first|refine pSeq ?_|refine pReg ?_|refine sCons ?_|refine sNil ?_|refine rCons ?_|refine rNil ?_|refine kNo ?_|refine pRow ?_|refine pBlock ?_|refine pSkip ?_|refine pExit ?_|refine pRet ?_|refine pCond ?_|refine gNone ?_|refine gOn rfl ?_|refine gOff rfl rfl ?_|refine gTup rfl ?_))
    intro z1 g1
    (repeat(first|refine pSeq ?_|refine pReg ?_|refine sCons ?_|refine sNil ?_|refine rCons ?_|refine rNil ?_|refine kNo ?_|refine pRow ?_|refine pBlock ?_|refine pSkip ?_|refine pExit ?_|refine pRet ?_|refine pCond ?_|refine gNone ?_|refine gOn rfl ?_|refine gOff rfl rfl ?_|refine gTup rfl ?_))
    intro z2 g2
    rw [i64_id (by omega)] at g2
    (repeat(first|refine pSeq ?_|refine pReg ?_|refine sCons ?_|refine sNil ?_|refine rCons ?_|refine rNil ?_|refine kNo ?_|refine pRow ?_|refine pBlock ?_|refine pSkip ?_|refine pExit ?_|refine pRet ?_|refine pCond ?_|refine gNone ?_|refine gOn rfl ?_|refine gOff rfl rfl ?_|refine gTup rfl ?_))
    intro z3 g3
    (repeat(first|refine pSeq ?_|refine pReg ?_|refine sCons ?_|refine sNil ?_|refine rCons ?_|refine rNil ?_|refine kNo ?_|refine pRow ?_|refine pBlock ?_|refine pSkip ?_|refine pExit ?_|refine pRet ?_|refine pCond ?_|refine gNone ?_|refine gOn rfl ?_|refine gOff rfl rfl ?_|refine gTup rfl ?_))
    intro q hq
    have next : ¬ (l.drop a).take 3 = L.getD m [] → m + 1 ≤ n ∧ ∀ j, j < m + 1 → (l.drop a).take 3 ≠ L.getD j [] := fun hne => ⟨hlt, fun j hj' => by
      rcases Nat.lt_or_ge j m with q | q
      · exact hj j q
      · obtain rfl : j = m := by omega
        exact hne⟩
    by_cases hlen : a + 3 ≤ l.length
    · obtain rfl : q = true := by rw [hq]; simp <;> omega
      (repeat(first|refine pSeq ?_|refine pReg ?_|refine sCons ?_|refine sNil ?_|refine rCons ?_|refine rNil ?_|refine kNo ?_|refine pRow ?_|refine pBlock ?_|refine pSkip ?_|refine pExit ?_|refine pRet ?_|refine pCond ?_|refine gNone ?_|refine gOn rfl ?_|refine gOff rfl rfl ?_|refine gTup rfl ?_))
      refine ⟨by omega, ?_⟩
      intro i hm o2 ho2
      obtain rfl : i = m := by omega
      (repeat(first|refine pSeq ?_|refine pReg ?_|refine sCons ?_|refine sNil ?_|refine rCons ?_|refine rNil ?_|refine kNo ?_|refine pRow ?_|refine pBlock ?_|refine pSkip ?_|refine pExit ?_|refine pRet ?_|refine pCond ?_|refine gNone ?_|refine gOn rfl ?_|refine gOff rfl rfl ?_|refine gTup rfl ?_))
      refine ldS_is rfl hb (by rw [ho2, Nat.zero_add, Nat.mul_one]; exact get _ hlt) ?_
      (repeat(first|refine pSeq ?_|refine pReg ?_|refine sCons ?_|refine sNil ?_|refine rCons ?_|refine rNil ?_|refine kNo ?_|refine pRow ?_|refine pBlock ?_|refine pSkip ?_|refine pExit ?_|refine pRet ?_|refine pCond ?_|refine gNone ?_|refine gOn rfl ?_|refine gOff rfl rfl ?_|refine gTup rfl ?_))
      intro z4 g4
      (repeat(first|refine pSeq ?_|refine pReg ?_|refine sCons ?_|refine sNil ?_|refine rCons ?_|refine rNil ?_|refine kNo ?_|refine pRow ?_|refine pBlock ?_|refine pSkip ?_|refine pExit ?_|refine pRet ?_|refine pCond ?_|refine gNone ?_|refine gOn rfl ?_|refine gOff rfl rfl ?_|refine gTup rfl ?_))
      intro z5 g5
      rw [i64_id (by omega)] at g5
      (repeat(first|refine pSeq ?_|refine pReg ?_|refine sCons ?_|refine sNil ?_|refine rCons ?_|refine rNil ?_|refine kNo ?_|refine pRow ?_|refine pBlock ?_|refine pSkip ?_|refine pExit ?_|refine pRet ?_|refine pCond ?_|refine gNone ?_|refine gOn rfl ?_|refine gOff rfl rfl ?_|refine gTup rfl ?_))
      refine ⟨by omega, ?_⟩
      intro k hk
      refine ⟨by omega, ?_⟩
      intro a2 ha2 r hr
      obtain rfl : a2 = a := by omega
      obtain rfl : k = a2 + 3 := by omega
      rw [Nat.add_sub_cancel_left] at hr
      subst hr
      (repeat(first|refine pSeq ?_|refine pReg ?_|refine sCons ?_|refine sNil ?_|refine rCons ?_|refine rNil ?_|refine kNo ?_|refine pRow ?_|refine pBlock ?_|refine pSkip ?_|refine pExit ?_|refine pRet ?_|refine pCond ?_|refine gNone ?_|refine gOn rfl ?_|refine gOff rfl rfl ?_|refine gTup rfl ?_))
      refine ⟨by omega, ?_⟩
      intro m hm o3 ho3
      obtain rfl : m = i := by omega
      (repeat(first|refine pSeq ?_|refine pReg ?_|refine sCons ?_|refine sNil ?_|refine rCons ?_|refine rNil ?_|refine kNo ?_|refine pRow ?_|refine pBlock ?_|refine pSkip ?_|refine pExit ?_|refine pRet ?_|refine pCond ?_|refine gNone ?_|refine gOn rfl ?_|refine gOff rfl rfl ?_|refine gTup rfl ?_))
      refine ldS_is rfl hb (by rw [ho3, Nat.zero_add, Nat.mul_one]; exact get _ hlt) ?_
      (repeat(first|refine pSeq ?_|refine pReg ?_|refine sCons ?_|refine sNil ?_|refine rCons ?_|refine rNil ?_|refine kNo ?_|refine pRow ?_|refine pBlock ?_|refine pSkip ?_|refine pExit ?_|refine pRet ?_|refine pCond ?_|refine gNone ?_|refine gOn rfl ?_|refine gOff rfl rfl ?_|refine gTup rfl ?_))
      intro q hq
      by_cases he : (l.drop a2).take 3 = L.getD m []
      · obtain rfl : q = true := by rw [hq, decide_eq_true he]
        (repeat(first|refine pSeq ?_|refine pReg ?_|refine sCons ?_|refine sNil ?_|refine rCons ?_|refine rNil ?_|refine kNo ?_|refine pRow ?_|refine pBlock ?_|refine pSkip ?_|refine pExit ?_|refine pRet ?_|refine pCond ?_|refine gNone ?_|refine gOn rfl ?_|refine gOff rfl rfl ?_|refine gTup rfl ?_))
        exact ⟨.inl ⟨m, hlt, rfl, he⟩, rfl⟩
      · obtain rfl : q = false := by rw [hq, decide_eq_false he]
        (repeat(first|refine pSeq ?_|refine pReg ?_|refine sCons ?_|refine sNil ?_|refine rCons ?_|refine rNil ?_|refine kNo ?_|refine pRow ?_|refine pBlock ?_|refine pSkip ?_|refine pExit ?_|refine pRet ?_|refine pCond ?_|refine gNone ?_|refine gOn rfl ?_|refine gOff rfl rfl ?_|refine gTup rfl ?_))
        intro z6 g6
        rw [i64_id (by omega)] at g6
        obtain rfl : z6 = ((m + 1 : Nat) : Int) := by omega
        (repeat(first|refine pSeq ?_|refine pReg ?_|refine sCons ?_|refine sNil ?_|refine rCons ?_|refine rNil ?_|refine kNo ?_|refine pRow ?_|refine pBlock ?_|refine pSkip ?_|refine pExit ?_|refine pRet ?_|refine pCond ?_|refine gNone ?_|refine gOn rfl ?_|refine gOff rfl rfl ?_|refine gTup rfl ?_))
        exact ⟨m + 1, next he, by show n - (m + 1) < n - m; omega, Wk.same ⟨rfl, rfl, rfl, rfl, trivial⟩⟩
    · obtain rfl : q = false := by rw [hq]; simp <;> omega
      have he : ¬ (l.drop a).take 3 = L.getD m [] := fun e => by
        have := congrArg List.length e
        rw [h3, List.length_take, List.length_drop] at this
        omega
      (repeat(first|refine pSeq ?_|refine pReg ?_|refine sCons ?_|refine sNil ?_|refine rCons ?_|refine rNil ?_|refine kNo ?_|refine pRow ?_|refine pBlock ?_|refine pSkip ?_|refine pExit ?_|refine pRet ?_|refine pCond ?_|refine gNone ?_|refine gOn rfl ?_|refine gOff rfl rfl ?_|refine gTup rfl ?_))
      intro z6 g6
      rw [i64_id (by omega)] at g6
      obtain rfl : z6 = ((m + 1 : Nat) : Int) := by omega
      (repeat(first|refine pSeq ?_|refine pReg ?_|refine sCons ?_|refine sNil ?_|refine rCons ?_|refine rNil ?_|refine kNo ?_|refine pRow ?_|refine pBlock ?_|refine pSkip ?_|refine pExit ?_|refine pRet ?_|refine pCond ?_|refine gNone ?_|refine gOn rfl ?_|refine gOff rfl rfl ?_|refine gTup rfl ?_))
      exact ⟨m + 1, next he, by show n - (m + 1) < n - m; omega, Wk.same ⟨rfl, rfl, rfl, rfl, trivial⟩⟩
  · obtain rfl : q = false := by rw [hq]; simp <;> omega
    (repeat(first|refine pSeq ?_|refine pReg ?_|refine sCons ?_|refine sNil ?_|refine rCons ?_|refine rNil ?_|refine kNo ?_|refine pRow ?_|refine pBlock ?_|refine pSkip ?_|refine pExit ?_|refine pRet ?_|refine pCond ?_|refine gNone ?_|refine gOn rfl ?_|refine gOff rfl rfl ?_|refine gTup rfl ?_))
    exact ⟨.inr ⟨rfl, fun i hi' => hj i (by omega)⟩, rfl⟩

/-! ### Digits at a place -/
def rowI (l : List UInt8) (a k : Nat) : Int := if a + k ≤ l.length ∧ ((l.drop a).take k).all dgt = true then (vl ((l.drop a).take k) : Int) else -1
theorem rrow_w {s : SS} {l : List UInt8} {a k : Nat} (ha : a ≤ 1000) (hk : k ≤ 10) (hl : l.length ≤ 1000000) : CallW pr n_ref09_row [str l, .int .i64 a, .int .i64 k] s fun v s' => v = .int .i64 (rowI l a k) ∧ s' = s := by
  refine CallW.run good ok_ref09_row (by simp) rfl ?_
  (repeat(first|refine pSeq ?_|refine pReg ?_|refine sCons ?_|refine sNil ?_|refine pBlock ?_|refine pSkip ?_|refine pExit ?_|refine pRet ?_|refine pCond ?_|refine gNone ?_|refine gOn rfl ?_|refine gOff rfl rfl ?_|refine gTup rfl ?_))
  intro z1 g1
  rw [i64_id (by omega)] at g1
  (repeat(first|refine pSeq ?_|refine pReg ?_|refine sCons ?_|refine sNil ?_|refine pBlock ?_|refine pSkip ?_|refine pExit ?_|refine pRet ?_|refine pCond ?_|refine gNone ?_|refine gOn rfl ?_|refine gOff rfl rfl ?_|refine gTup rfl ?_))
  intro z2 g2
  (repeat(first|refine pSeq ?_|refine pReg ?_|refine sCons ?_|refine sNil ?_|refine pBlock ?_|refine pSkip ?_|refine pExit ?_|refine pRet ?_|refine pCond ?_|refine gNone ?_|refine gOn rfl ?_|refine gOff rfl rfl ?_|refine gTup rfl ?_))
  intro q hq
  by_cases hlen : a + k ≤ l.length
  · obtain rfl : q = false := by rw [hq]; simp <;> omega
    (repeat(first|refine pSeq ?_|refine pReg ?_|refine sCons ?_|refine sNil ?_|refine pBlock ?_|refine pSkip ?_|refine pExit ?_|refine pRet ?_|refine pCond ?_|refine gNone ?_|refine gOn rfl ?_|refine gOff rfl rfl ?_|refine gTup rfl ?_))
    refine pLoop (MW.head good (fun p : Nat => k - p) (fun p => p ≤ k ∧ ((l.drop a).take p).all dgt = true) (fun p => [(0, str l), (1, .int .i64 a), (2, .int .i64 k), (7, .int .i64 (vl ((l.drop a).take p))), (8, .int .i64 (a + p : Nat))]) (fun _ => s) 0 ⟨Nat.zero_le _, rfl⟩ (Wk.same ⟨rfl, rfl, rfl, rfl, rfl, trivial⟩) ?_)
    intro p ⟨hp, hall⟩
    have hvl := vl_10 hall (k := 10) (by rw [List.length_take]; omega)
    (repeat(first|refine pSeq ?_|refine pReg ?_|refine sCons ?_|refine sNil ?_|refine pBlock ?_|refine pSkip ?_|refine pExit ?_|refine pRet ?_|refine pCond ?_|refine gNone ?_|refine gOn rfl ?_|refine gOff rfl rfl ?_|refine gTup rfl ?_))
    intro z3 g3
    rw [i64_id (by omega)] at g3
    (repeat(first|refine pSeq ?_|refine pReg ?_|refine sCons ?_|refine sNil ?_|refine pBlock ?_|refine pSkip ?_|refine pExit ?_|refine pRet ?_|refine pCond ?_|refine gNone ?_|refine gOn rfl ?_|refine gOff rfl rfl ?_|refine gTup rfl ?_))
    intro q hq
    by_cases hlt : p < k
    · obtain ⟨c, hc⟩ : ∃ c, l[a + p]? = some c := ⟨_, List.getElem?_eq_getElem (by omega)⟩
      have hc2 : (l.drop a)[p]? = some c := by rw [List.getElem?_drop]; exact hc
      have bad : dgt c = false → rowI l a k = -1 := fun e => by
        unfold rowI
        rw [if_neg]
        intro ⟨_, h2⟩
        have h3 : ((l.drop a).take k)[p]? = some c := by rw [List.getElem?_take, if_pos hlt]; exact hc2
        have := List.all_eq_true.1 h2 c (List.mem_of_getElem? h3)
        rw [e] at this
        cases this
      obtain rfl : q = true := by rw [hq]; simp <;> omega
      (repeat(first|refine pSeq ?_|refine pReg ?_|refine sCons ?_|refine sNil ?_|refine pBlock ?_|refine pSkip ?_|refine pExit ?_|refine pRet ?_|refine pCond ?_|refine gNone ?_|refine gOn rfl ?_|refine gOff rfl rfl ?_|refine gTup rfl ?_))
      refine ⟨by omega, ?_⟩
      intro m hm
      obtain rfl : m = a + p := by omega
      refine ⟨c, hc, ?_⟩
      (repeat(first|refine pSeq ?_|refine pReg ?_|refine sCons ?_|refine sNil ?_|refine pBlock ?_|refine pSkip ?_|refine pExit ?_|refine pRet ?_|refine pCond ?_|refine gNone ?_|refine gOn rfl ?_|refine gOff rfl rfl ?_|refine gTup rfl ?_))
      intro q hq
      by_cases h48 : 48 ≤ c.toNat
      · obtain rfl : q = false := by rw [hq]; simp <;> omega
        (repeat(first|refine pSeq ?_|refine pReg ?_|refine sCons ?_|refine sNil ?_|refine pBlock ?_|refine pSkip ?_|refine pExit ?_|refine pRet ?_|refine pCond ?_|refine gNone ?_|refine gOn rfl ?_|refine gOff rfl rfl ?_|refine gTup rfl ?_))
        refine ⟨by omega, ?_⟩
        intro m hm
        obtain rfl : m = a + p := by omega
        refine ⟨c, hc, ?_⟩
        (repeat(first|refine pSeq ?_|refine pReg ?_|refine sCons ?_|refine sNil ?_|refine pBlock ?_|refine pSkip ?_|refine pExit ?_|refine pRet ?_|refine pCond ?_|refine gNone ?_|refine gOn rfl ?_|refine gOff rfl rfl ?_|refine gTup rfl ?_))
        intro q hq
        by_cases h57 : c.toNat ≤ 57
        · obtain rfl : q = false := by rw [hq]; simp <;> omega
          (repeat(first|refine pSeq ?_|refine pReg ?_|refine sCons ?_|refine sNil ?_|refine pBlock ?_|refine pSkip ?_|refine pExit ?_|refine pRet ?_|refine pCond ?_|refine gNone ?_|refine gOn rfl ?_|refine gOff rfl rfl ?_|refine gTup rfl ?_))
          intro z4 g4
          rw [i64_id (by omega)] at g4
          (repeat(first|refine pSeq ?_|refine pReg ?_|refine sCons ?_|refine sNil ?_|refine pBlock ?_|refine pSkip ?_|refine pExit ?_|refine pRet ?_|refine pCond ?_|refine gNone ?_|refine gOn rfl ?_|refine gOff rfl rfl ?_|refine gTup rfl ?_))
          refine ⟨by omega, ?_⟩
          intro m hm
          obtain rfl : m = a + p := by omega
          refine ⟨c, hc, ?_⟩
          (repeat(first|refine pSeq ?_|refine pReg ?_|refine sCons ?_|refine sNil ?_|refine pBlock ?_|refine pSkip ?_|refine pExit ?_|refine pRet ?_|refine pCond ?_|refine gNone ?_|refine gOn rfl ?_|refine gOff rfl rfl ?_|refine gTup rfl ?_))
          intro z5 g5
          rw [u8_id (by omega)] at g5
          (repeat(first|refine pSeq ?_|refine pReg ?_|refine sCons ?_|refine sNil ?_|refine pBlock ?_|refine pSkip ?_|refine pExit ?_|refine pRet ?_|refine pCond ?_|refine gNone ?_|refine gOn rfl ?_|refine gOff rfl rfl ?_|refine gTup rfl ?_))
          intro z6 g6
          rw [i64_id (by omega)] at g6
          (repeat(first|refine pSeq ?_|refine pReg ?_|refine sCons ?_|refine sNil ?_|refine pBlock ?_|refine pSkip ?_|refine pExit ?_|refine pRet ?_|refine pCond ?_|refine gNone ?_|refine gOn rfl ?_|refine gOff rfl rfl ?_|refine gTup rfl ?_))
          intro z7 g7
          rw [i64_id (by omega)] at g7
          have e7 : z7 = ((vl ((l.drop a).take (p + 1)) : Nat) : Int) := by rw [take_next hc2, vl_next]; omega
          subst e7
          (repeat(first|refine pSeq ?_|refine pReg ?_|refine sCons ?_|refine sNil ?_|refine pBlock ?_|refine pSkip ?_|refine pExit ?_|refine pRet ?_|refine pCond ?_|refine gNone ?_|refine gOn rfl ?_|refine gOff rfl rfl ?_|refine gTup rfl ?_))
          intro z8 g8
          rw [i64_id (by omega)] at g8
          obtain rfl : z8 = ((a + (p + 1) : Nat) : Int) := by omega
          (repeat(first|refine pSeq ?_|refine pReg ?_|refine sCons ?_|refine sNil ?_|refine pBlock ?_|refine pSkip ?_|refine pExit ?_|refine pRet ?_|refine pCond ?_|refine gNone ?_|refine gOn rfl ?_|refine gOff rfl rfl ?_|refine gTup rfl ?_))
          exact ⟨p + 1, ⟨hlt, by rw [take_next hc2, List.all_append, hall]; simp [dgt, h48, h57]⟩, by show k - (p + 1) < k - p; omega, Wk.same ⟨rfl, rfl, rfl, rfl, rfl, trivial⟩⟩
        · obtain rfl : q = true := by rw [hq]; simp <;> omega
          (repeat(first|refine pSeq ?_|refine pReg ?_|refine sCons ?_|refine sNil ?_|refine pBlock ?_|refine pSkip ?_|refine pExit ?_|refine pRet ?_|refine pCond ?_|refine gNone ?_|refine gOn rfl ?_|refine gOff rfl rfl ?_|refine gTup rfl ?_))
          rw [bad (by simp [dgt]; omega)]
          exact ⟨rfl, rfl⟩
      · obtain rfl : q = true := by rw [hq]; simp <;> omega
        (repeat(first|refine pSeq ?_|refine pReg ?_|refine sCons ?_|refine sNil ?_|refine pBlock ?_|refine pSkip ?_|refine pExit ?_|refine pRet ?_|refine pCond ?_|refine gNone ?_|refine gOn rfl ?_|refine gOff rfl rfl ?_|refine gTup rfl ?_))
        rw [bad (by simp [dgt]; omega)]
        exact ⟨rfl, rfl⟩
    · obtain rfl : p = k := by omega
      obtain rfl : q = false := by rw [hq]; simp <;> omega
      (repeat(first|refine pSeq ?_|refine pReg ?_|refine sCons ?_|refine sNil ?_|refine pBlock ?_|refine pSkip ?_|refine pExit ?_|refine pRet ?_|refine pCond ?_|refine gNone ?_|refine gOn rfl ?_|refine gOff rfl rfl ?_|refine gTup rfl ?_))
      refine ⟨?_, rfl⟩
      unfold rowI
      rw [if_pos ⟨hlen, hall⟩]
      rfl
  · obtain rfl : q = true := by rw [hq]; simp <;> omega
    (repeat(first|refine pSeq ?_|refine pReg ?_|refine sCons ?_|refine sNil ?_|refine pBlock ?_|refine pSkip ?_|refine pExit ?_|refine pRet ?_|refine pCond ?_|refine gNone ?_|refine gOn rfl ?_|refine gOff rfl rfl ?_|refine gTup rfl ?_))
    refine ⟨?_, rfl⟩
    unfold rowI
    rw [if_neg (fun q => hlen q.1)]
    rfl
end Go.Vf.S
end
/- SmN -/
section
/- A date's text, read by the document. -/
namespace Go.Vf.S
open Go Go.Vf Go.Proofs
attribute [local irreducible] wSeq wRow wp wG
set_option linter.unusedVariables false
set_option linter.unusedSimpArgs false
set_option maxRecDepth 10000

theorem wkL_at : ∀ i, i < 7 → wkL[i]? = some (wkL.getD i []) ∧ (wkL.getD i []).length = 3 := fun i hi => ⟨by rw [List.getD_eq_getElem?_getD, List.getElem?_eq_getElem (show i < wkL.length from hi)]; rfl, wk_len hi⟩
theorem moL_at : ∀ i, i < 12 → moL[i]? = some (moL.getD i []) ∧ (moL.getD i []).length = 3 := fun i hi => ⟨by rw [List.getD_eq_getElem?_getD, List.getElem?_eq_getElem (show i < moL.length from hi)]; rfl, mo_len hi⟩
theorem row_pos {l d : List UInt8} {a k : Nat} (h : (l.drop a).take k = d) (hk : 1 ≤ k) (hd : d.length = k) (hall : d.all dgt = true) : rowI l a k = (vl d : Int) := by
  unfold rowI
  have h1 := congrArg List.length h
  rw [List.length_take, List.length_drop, hd] at h1
  rw [if_pos ⟨by omega, by rw [h]; exact hall⟩, h]
theorem row_neg {l : List UInt8} {a k : Nat} (h : ¬ rowI l a k < 0) (hk : 1 ≤ k) : rowI l a k = (vl ((l.drop a).take k) : Int) ∧ ((l.drop a).take k).length = k ∧ ((l.drop a).take k).all dgt = true := by
  unfold rowI at *
  split at h
  · rename_i q
    rw [if_pos q]
    exact ⟨rfl, by rw [List.length_take, List.length_drop]; omega, q.2⟩
  · exfalso; omega
theorem year_at {l : List UInt8} {f : Fd} {k : Nat} (hf : f.ok) (P : Pos l f) (hl : 12 + k ≤ l.length) (ha : ((l.drop 12).take k).all dgt = true) (he : 12 + k = l.length ∨ ∃ c, l[12 + k]? = some c ∧ dgt c = false) : k = f.y.length := by
  have hlen := P.len
  refine run_one (r := l.drop 12) (d := f.y) (X := l.drop (12 + f.y.length)) (hi := l.length) (by omega) (by rw [List.length_drop]; omega) ha ?_ ?_ hf.y.2.2.1 (by omega) (.inr ?_)
  · rcases he with e | ⟨c, e1, e2⟩
    · right; left; rw [List.length_drop]; omega
    · right; right; exact ⟨c, by rw [List.getElem?_drop]; exact e1, e2⟩
  · exact drop_part P.y
  · intro c hc
    have h4 := P.c4
    rw [List.head?_drop] at hc
    rw [h4] at hc
    obtain rfl := Option.some.inj hc
    rfl
set_option maxHeartbeats 4000000 in
theorem rpdate_w {s : SS} {l : List UInt8} (hF : Fine s) (hl : l.length ≤ 1000) : CallW pr n_ref09_ParseDate [str l] s fun v s' => v = pRes (pdF l) ∧ Chg s s' [] := by
  refine CallW.run good ok_ref09_ParseDate (by simp) rfl ?_
  (repeat(first|refine pSeq ?_|refine pReg ?_|refine sCons ?_|refine sNil ?_|refine pBlock ?_|refine pSkip ?_|refine pExit ?_|refine pRet ?_|refine pCond ?_|refine gNone ?_|refine gOn rfl ?_|refine gOff rfl rfl ?_|refine gTup rfl ?_))
  refine rnames_w.mono fun v s0 q => ?_
  obtain ⟨rfl, b0, b1, n0, c0⟩ := q
  generalize s.next = B at *
  (repeat(first|refine pSeq ?_|refine pReg ?_|refine sCons ?_|refine sNil ?_|refine pBlock ?_|refine pSkip ?_|refine pExit ?_|refine pRet ?_|refine pCond ?_|refine gNone ?_|refine gOn rfl ?_|refine gOff rfl rfl ?_|refine gTup rfl ?_))
  refine (rplace_w (L := wkL) (n := 7) (a := 0) wkL_at rfl (by omega) (by omega) (by omega) b0).mono fun v s1 q => ?_
  obtain ⟨q, rfl⟩ := q
  rcases q with ⟨iw, hiw, rfl, hwe⟩ | ⟨rfl, hno⟩
  rotate_left
  · (repeat(first|refine pSeq ?_|refine pReg ?_|refine sCons ?_|refine sNil ?_|refine pBlock ?_|refine pSkip ?_|refine pExit ?_|refine pRet ?_|refine pCond ?_|refine gNone ?_|refine gOn rfl ?_|refine gOff rfl rfl ?_|refine gTup rfl ?_))
    intro q hq; obtain rfl : q = true := (by rw [hq]; simp <;> omega); (repeat(first|refine pSeq ?_|refine pReg ?_|refine sCons ?_|refine sNil ?_|refine pBlock ?_|refine pSkip ?_|refine pExit ?_|refine pRet ?_|refine pCond ?_|refine gNone ?_|refine gOn rfl ?_|refine gOff rfl rfl ?_|refine gTup rfl ?_))
    rw [pd_bad (s := l) (fun f hf P => hno f.w hf.w P.w)]
    exact ⟨rfl, c0⟩
  (repeat(first|refine pSeq ?_|refine pReg ?_|refine sCons ?_|refine sNil ?_|refine pBlock ?_|refine pSkip ?_|refine pExit ?_|refine pRet ?_|refine pCond ?_|refine gNone ?_|refine gOn rfl ?_|refine gOff rfl rfl ?_|refine gTup rfl ?_))
  intro q hq
  obtain rfl : q = false := by rw [hq]; simp <;> omega
  (repeat(first|refine pSeq ?_|refine pReg ?_|refine sCons ?_|refine sNil ?_|refine pBlock ?_|refine pSkip ?_|refine pExit ?_|refine pRet ?_|refine pCond ?_|refine gNone ?_|refine gOn rfl ?_|refine gOff rfl rfl ?_|refine gTup rfl ?_))
  intro z1 g1
  (repeat(first|refine pSeq ?_|refine pReg ?_|refine sCons ?_|refine sNil ?_|refine pBlock ?_|refine pSkip ?_|refine pExit ?_|refine pRet ?_|refine pCond ?_|refine gNone ?_|refine gOn rfl ?_|refine gOff rfl rfl ?_|refine gTup rfl ?_))
  intro q hq
  by_cases hl12 : l.length < 12
  · obtain rfl : q = true := by rw [hq]; simp <;> omega
    (repeat(first|refine pSeq ?_|refine pReg ?_|refine sCons ?_|refine sNil ?_|refine pBlock ?_|refine pSkip ?_|refine pExit ?_|refine pRet ?_|refine pCond ?_|refine gNone ?_|refine gOn rfl ?_|refine gOff rfl rfl ?_|refine gTup rfl ?_))
    rw [pd_bad (s := l) (fun f hf P => by have := P.len; omega)]
    exact ⟨rfl, c0⟩
  · obtain rfl : q = false := by rw [hq]; simp <;> omega
    (repeat(first|refine pSeq ?_|refine pReg ?_|refine sCons ?_|refine sNil ?_|refine pBlock ?_|refine pSkip ?_|refine pExit ?_|refine pRet ?_|refine pCond ?_|refine gNone ?_|refine gOn rfl ?_|refine gOff rfl rfl ?_|refine gTup rfl ?_))
    refine ⟨by omega, ?_⟩
    intro k hk
    refine ⟨by omega, ?_⟩
    intro a ha r hr
    obtain rfl : a = 3 := by omega
    obtain rfl : k = 5 := by omega
    have hr : r = (l.drop 3).take 2 := hr
    subst hr
    (repeat(first|refine pSeq ?_|refine pReg ?_|refine sCons ?_|refine sNil ?_|refine pBlock ?_|refine pSkip ?_|refine pExit ?_|refine pRet ?_|refine pCond ?_|refine gNone ?_|refine gOn rfl ?_|refine gOff rfl rfl ?_|refine gTup rfl ?_))
    intro q hq
    by_cases hcom : (l.drop 3).take 2 = [44, 32]
    rotate_left
    · obtain rfl : q = true := by rw [hq]; simp [hcom]
      (repeat(first|refine pSeq ?_|refine pReg ?_|refine sCons ?_|refine sNil ?_|refine pBlock ?_|refine pSkip ?_|refine pExit ?_|refine pRet ?_|refine pCond ?_|refine gNone ?_|refine gOn rfl ?_|refine gOff rfl rfl ?_|refine gTup rfl ?_))
      rw [pd_bad (s := l) (fun f hf P => hcom P.c1)]
      exact ⟨rfl, c0⟩
    obtain rfl : q = false := by rw [hq]; simp [hcom]
    (repeat(first|refine pSeq ?_|refine pReg ?_|refine sCons ?_|refine sNil ?_|refine pBlock ?_|refine pSkip ?_|refine pExit ?_|refine pRet ?_|refine pCond ?_|refine gNone ?_|refine gOn rfl ?_|refine gOff rfl rfl ?_|refine gTup rfl ?_))
    refine ⟨by omega, ?_⟩
    intro m hm
    obtain rfl : m = 7 := by omega
    obtain ⟨b7, hb7⟩ : ∃ c, l[7]? = some c := ⟨_, List.getElem?_eq_getElem (by omega)⟩
    refine ⟨b7, hb7, ?_⟩
    (repeat(first|refine pSeq ?_|refine pReg ?_|refine sCons ?_|refine sNil ?_|refine pBlock ?_|refine pSkip ?_|refine pExit ?_|refine pRet ?_|refine pCond ?_|refine gNone ?_|refine gOn rfl ?_|refine gOff rfl rfl ?_|refine gTup rfl ?_))
    intro q hq
    by_cases kb7 : b7 = 32
    rotate_left
    · have nb7 : b7.toNat ≠ 32 := fun e => kb7 (UInt8.toNat_inj.1 e)
      obtain rfl : q = true := by rw [hq]; simp <;> omega
      (repeat(first|refine pSeq ?_|refine pReg ?_|refine sCons ?_|refine sNil ?_|refine pBlock ?_|refine pSkip ?_|refine pExit ?_|refine pRet ?_|refine pCond ?_|refine gNone ?_|refine gOn rfl ?_|refine gOff rfl rfl ?_|refine gTup rfl ?_))
      rw [pd_bad (s := l) (fun f hf P => kb7 (by have := P.c2; rw [hb7] at this; exact Option.some.inj this))]
      exact ⟨rfl, c0⟩
    obtain rfl : q = false := by rw [hq, kb7]; rfl
    (repeat(first|refine pSeq ?_|refine pReg ?_|refine sCons ?_|refine sNil ?_|refine pBlock ?_|refine pSkip ?_|refine pExit ?_|refine pRet ?_|refine pCond ?_|refine gNone ?_|refine gOn rfl ?_|refine gOff rfl rfl ?_|refine gTup rfl ?_))
    refine ⟨by omega, ?_⟩
    intro m hm
    obtain rfl : m = 11 := by omega
    obtain ⟨b11, hb11⟩ : ∃ c, l[11]? = some c := ⟨_, List.getElem?_eq_getElem (by omega)⟩
    refine ⟨b11, hb11, ?_⟩
    (repeat(first|refine pSeq ?_|refine pReg ?_|refine sCons ?_|refine sNil ?_|refine pBlock ?_|refine pSkip ?_|refine pExit ?_|refine pRet ?_|refine pCond ?_|refine gNone ?_|refine gOn rfl ?_|refine gOff rfl rfl ?_|refine gTup rfl ?_))
    intro q hq
    by_cases kb11 : b11 = 32
    rotate_left
    · have nb11 : b11.toNat ≠ 32 := fun e => kb11 (UInt8.toNat_inj.1 e)
      obtain rfl : q = true := by rw [hq]; simp <;> omega
      (repeat(first|refine pSeq ?_|refine pReg ?_|refine sCons ?_|refine sNil ?_|refine pBlock ?_|refine pSkip ?_|refine pExit ?_|refine pRet ?_|refine pCond ?_|refine gNone ?_|refine gOn rfl ?_|refine gOff rfl rfl ?_|refine gTup rfl ?_))
      rw [pd_bad (s := l) (fun f hf P => kb11 (by have := P.c3; rw [hb11] at this; exact Option.some.inj this))]
      exact ⟨rfl, c0⟩
    obtain rfl : q = false := by rw [hq, kb11]; rfl
    (repeat(first|refine pSeq ?_|refine pReg ?_|refine sCons ?_|refine sNil ?_|refine pBlock ?_|refine pSkip ?_|refine pExit ?_|refine pRet ?_|refine pCond ?_|refine gNone ?_|refine gOn rfl ?_|refine gOff rfl rfl ?_|refine gTup rfl ?_))
    refine (rrow_w (a := 5) (k := 2) (by omega) (by omega) (by omega)).mono fun v s0 q => ?_
    obtain ⟨rfl, rfl⟩ := q
    generalize hdv : rowI l 5 2 = dv
    (repeat(first|refine pSeq ?_|refine pReg ?_|refine sCons ?_|refine sNil ?_|refine pBlock ?_|refine pSkip ?_|refine pExit ?_|refine pRet ?_|refine pCond ?_|refine gNone ?_|refine gOn rfl ?_|refine gOff rfl rfl ?_|refine gTup rfl ?_))
    refine (rplace_w (L := moL) (n := 12) (a := 8) moL_at rfl (by omega) (by omega) (by omega) b1).mono fun v s1 q => ?_
    obtain ⟨q, rfl⟩ := q
    obtain ⟨mv, rfl, hmv⟩ : ∃ mv : Int, v = .int .i64 mv ∧ ((∃ i, i < 12 ∧ mv = (i : Nat) ∧ (l.drop 8).take 3 = moL.getD i []) ∨ (mv = -1 ∧ ∀ i, i < 12 → (l.drop 8).take 3 ≠ moL.getD i [])) := by
      rcases q with ⟨i, h1, h2, h3⟩ | ⟨h1, h2⟩
      · exact ⟨_, h2, .inl ⟨i, h1, rfl, h3⟩⟩
      · exact ⟨_, h1, .inr ⟨rfl, h2⟩⟩
    clear q
    (repeat(first|refine pSeq ?_|refine pReg ?_|refine sCons ?_|refine sNil ?_|refine pBlock ?_|refine pSkip ?_|refine pExit ?_|refine pRet ?_|refine pCond ?_|refine gNone ?_|refine gOn rfl ?_|refine gOff rfl rfl ?_|refine gTup rfl ?_))
    refine pLoop (MW.head good (fun p : Nat => l.length - p) (fun p => 12 + p ≤ l.length ∧ ((l.drop 12).take p).all dgt = true) (fun p => [(0, str l), (6, .int .i64 iw), (7, .int .i64 dv), (8, .int .i64 mv), (9, .int .i64 p)]) (fun _ => s1) 0 ⟨by omega, rfl⟩ (Wk.same ⟨rfl, rfl, rfl, rfl, rfl, trivial⟩) ?_)
    intro kk ⟨hk12, hka⟩
    (repeat(first|refine pSeq ?_|refine pReg ?_|refine sCons ?_|refine sNil ?_|refine pBlock ?_|refine pSkip ?_|refine pExit ?_|refine pRet ?_|refine pCond ?_|refine gNone ?_|refine gOn rfl ?_|refine gOff rfl rfl ?_|refine gTup rfl ?_))
    intro z2 g2
    rw [i64_id (by omega)] at g2
    (repeat(first|refine pSeq ?_|refine pReg ?_|refine sCons ?_|refine sNil ?_|refine pBlock ?_|refine pSkip ?_|refine pExit ?_|refine pRet ?_|refine pCond ?_|refine gNone ?_|refine gOn rfl ?_|refine gOff rfl rfl ?_|refine gTup rfl ?_))
    intro z3 g3
    (repeat(first|refine pSeq ?_|refine pReg ?_|refine sCons ?_|refine sNil ?_|refine pBlock ?_|refine pSkip ?_|refine pExit ?_|refine pRet ?_|refine pCond ?_|refine gNone ?_|refine gOn rfl ?_|refine gOff rfl rfl ?_|refine gTup rfl ?_))
    intro q hq
    by_cases hin : 12 + kk < l.length
    rotate_left
    have he : 12 + kk = l.length ∨ ∃ c, l[12 + kk]? = some c ∧ dgt c = false := .inl (by omega)
    obtain rfl : q = false := by rw [hq]; simp <;> omega
    (repeat(first|refine pSeq ?_|refine pReg ?_|refine sCons ?_|refine sNil ?_|refine pBlock ?_|refine pSkip ?_|refine pExit ?_|refine pRet ?_|refine pCond ?_|refine gNone ?_|refine gOn rfl ?_|refine gOff rfl rfl ?_|refine gTup rfl ?_))
    rotate_left
    obtain ⟨c, hc⟩ : ∃ c, l[12 + kk]? = some c := ⟨_, List.getElem?_eq_getElem hin⟩
    have hc2 : (l.drop 12)[kk]? = some c := by rw [List.getElem?_drop]; exact hc
    obtain rfl : q = true := by rw [hq]; simp <;> omega
    (repeat(first|refine pSeq ?_|refine pReg ?_|refine sCons ?_|refine sNil ?_|refine pBlock ?_|refine pSkip ?_|refine pExit ?_|refine pRet ?_|refine pCond ?_|refine gNone ?_|refine gOn rfl ?_|refine gOff rfl rfl ?_|refine gTup rfl ?_))
    intro z4 g4
    rw [i64_id (by omega)] at g4
    (repeat(first|refine pSeq ?_|refine pReg ?_|refine sCons ?_|refine sNil ?_|refine pBlock ?_|refine pSkip ?_|refine pExit ?_|refine pRet ?_|refine pCond ?_|refine gNone ?_|refine gOn rfl ?_|refine gOff rfl rfl ?_|refine gTup rfl ?_))
    refine ⟨by omega, ?_⟩
    intro m hm
    obtain rfl : m = 12 + kk := by omega
    refine ⟨c, hc, ?_⟩
    (repeat(first|refine pSeq ?_|refine pReg ?_|refine sCons ?_|refine sNil ?_|refine pBlock ?_|refine pSkip ?_|refine pExit ?_|refine pRet ?_|refine pCond ?_|refine gNone ?_|refine gOn rfl ?_|refine gOff rfl rfl ?_|refine gTup rfl ?_))
    intro q hq
    by_cases h48 : 48 ≤ c.toNat
    rotate_left
    have he : 12 + kk = l.length ∨ ∃ c, l[12 + kk]? = some c ∧ dgt c = false := .inr ⟨c, hc, by simp [dgt]; omega⟩
    obtain rfl : q = false := by rw [hq]; simp <;> omega
    (repeat(first|refine pSeq ?_|refine pReg ?_|refine sCons ?_|refine sNil ?_|refine pBlock ?_|refine pSkip ?_|refine pExit ?_|refine pRet ?_|refine pCond ?_|refine gNone ?_|refine gOn rfl ?_|refine gOff rfl rfl ?_|refine gTup rfl ?_))
    rotate_left
    rotate_left
    obtain rfl : q = true := by rw [hq]; simp <;> omega
    (repeat(first|refine pSeq ?_|refine pReg ?_|refine sCons ?_|refine sNil ?_|refine pBlock ?_|refine pSkip ?_|refine pExit ?_|refine pRet ?_|refine pCond ?_|refine gNone ?_|refine gOn rfl ?_|refine gOff rfl rfl ?_|refine gTup rfl ?_))
    intro z5 g5
    rw [i64_id (by omega)] at g5
    (repeat(first|refine pSeq ?_|refine pReg ?_|refine sCons ?_|refine sNil ?_|refine pBlock ?_|refine pSkip ?_|refine pExit ?_|refine pRet ?_|refine pCond ?_|refine gNone ?_|refine gOn rfl ?_|refine gOff rfl rfl ?_|refine gTup rfl ?_))
    refine ⟨by omega, ?_⟩
    intro m hm
    obtain rfl : m = 12 + kk := by omega
    refine ⟨c, hc, ?_⟩
    (repeat(first|refine pSeq ?_|refine pReg ?_|refine sCons ?_|refine sNil ?_|refine pBlock ?_|refine pSkip ?_|refine pExit ?_|refine pRet ?_|refine pCond ?_|refine gNone ?_|refine gOn rfl ?_|refine gOff rfl rfl ?_|refine gTup rfl ?_))
    intro q hq
    by_cases h57 : c.toNat ≤ 57
    rotate_left
    have he : 12 + kk = l.length ∨ ∃ c, l[12 + kk]? = some c ∧ dgt c = false := .inr ⟨c, hc, by simp [dgt]; omega⟩
    obtain rfl : q = false := by rw [hq]; simp <;> omega
    (repeat(first|refine pSeq ?_|refine pReg ?_|refine sCons ?_|refine sNil ?_|refine pBlock ?_|refine pSkip ?_|refine pExit ?_|refine pRet ?_|refine pCond ?_|refine gNone ?_|refine gOn rfl ?_|refine gOff rfl rfl ?_|refine gTup rfl ?_))
    rotate_left
    rotate_left
    rotate_left
    · obtain rfl : q = true := by rw [hq]; simp <;> omega
      (repeat(first|refine pSeq ?_|refine pReg ?_|refine sCons ?_|refine sNil ?_|refine pBlock ?_|refine pSkip ?_|refine pExit ?_|refine pRet ?_|refine pCond ?_|refine gNone ?_|refine gOn rfl ?_|refine gOff rfl rfl ?_|refine gTup rfl ?_))
      intro z6 g6
      rw [i64_id (by omega)] at g6
      obtain rfl : z6 = ((kk + 1 : Nat) : Int) := by omega
      (repeat(first|refine pSeq ?_|refine pReg ?_|refine sCons ?_|refine sNil ?_|refine pBlock ?_|refine pSkip ?_|refine pExit ?_|refine pRet ?_|refine pCond ?_|refine gNone ?_|refine gOn rfl ?_|refine gOff rfl rfl ?_|refine gTup rfl ?_))
      exact ⟨kk + 1, ⟨by omega, by rw [take_next hc2, List.all_append, hka]; simp [dgt, h48, h57]⟩, by show l.length - (kk + 1) < l.length - kk; omega, Wk.same ⟨rfl, rfl, rfl, rfl, rfl, trivial⟩⟩
    all_goals (
      have hy : ∀ f : Fd, f.ok → Pos l f → kk = f.y.length := fun f hf P => year_at hf P hk12 hka he
      intro q hq
      by_cases hday : dv < 0
      · obtain rfl : q = true := by rw [hq]; simp <;> omega
        (repeat(first|refine pSeq ?_|refine pReg ?_|refine sCons ?_|refine sNil ?_|refine pBlock ?_|refine pSkip ?_|refine pExit ?_|refine pRet ?_|refine pCond ?_|refine gNone ?_|refine gOn rfl ?_|refine gOff rfl rfl ?_|refine gTup rfl ?_))
        rw [pd_bad (s := l) (fun f hf P => by have := row_pos P.o (by omega) hf.o.1 hf.o.2; omega)]
        exact ⟨rfl, c0⟩
      obtain rfl : q = false := by rw [hq]; simp <;> omega
      (repeat(first|refine pSeq ?_|refine pReg ?_|refine sCons ?_|refine sNil ?_|refine pBlock ?_|refine pSkip ?_|refine pExit ?_|refine pRet ?_|refine pCond ?_|refine gNone ?_|refine gOn rfl ?_|refine gOff rfl rfl ?_|refine gTup rfl ?_))
      intro q hq
      by_cases hmn : mv < 0
      · obtain rfl : q = true := by rw [hq]; simp <;> omega
        (repeat(first|refine pSeq ?_|refine pReg ?_|refine sCons ?_|refine sNil ?_|refine pBlock ?_|refine pSkip ?_|refine pExit ?_|refine pRet ?_|refine pCond ?_|refine gNone ?_|refine gOn rfl ?_|refine gOff rfl rfl ?_|refine gTup rfl ?_))
        rw [pd_bad (s := l) (fun f hf P => by rcases hmv with ⟨i, _, h, _⟩ | ⟨_, h⟩ <;> first | (exact h f.M hf.M P.M) | omega)]
        exact ⟨rfl, c0⟩
      obtain ⟨im, him, rfl, hme⟩ : ∃ i : Nat, i < 12 ∧ mv = (i : Nat) ∧ (l.drop 8).take 3 = moL.getD i [] := by
        rcases hmv with h | ⟨h, _⟩
        · exact h
        · omega
      obtain rfl : q = false := by rw [hq]; simp <;> omega
      (repeat(first|refine pSeq ?_|refine pReg ?_|refine sCons ?_|refine sNil ?_|refine pBlock ?_|refine pSkip ?_|refine pExit ?_|refine pRet ?_|refine pCond ?_|refine gNone ?_|refine gOn rfl ?_|refine gOff rfl rfl ?_|refine gTup rfl ?_))
      intro q hq
      by_cases h4 : kk < 4
      · obtain rfl : q = true := by rw [hq]; simp <;> omega
        (repeat(first|refine pSeq ?_|refine pReg ?_|refine sCons ?_|refine sNil ?_|refine pBlock ?_|refine pSkip ?_|refine pExit ?_|refine pRet ?_|refine pCond ?_|refine gNone ?_|refine gOn rfl ?_|refine gOff rfl rfl ?_|refine gTup rfl ?_))
        rw [pd_bad (s := l) (fun f hf P => by have := hy f hf P; have := hf.y.1; omega)]
        exact ⟨rfl, c0⟩
      obtain rfl : q = false := by rw [hq]; simp <;> omega
      (repeat(first|refine pSeq ?_|refine pReg ?_|refine sCons ?_|refine sNil ?_|refine pBlock ?_|refine pSkip ?_|refine pExit ?_|refine pRet ?_|refine pCond ?_|refine gNone ?_|refine gOn rfl ?_|refine gOff rfl rfl ?_|refine gTup rfl ?_))
      intro q hq
      by_cases h10 : 10 < kk
      · obtain rfl : q = true := by rw [hq]; simp <;> omega
        (repeat(first|refine pSeq ?_|refine pReg ?_|refine sCons ?_|refine sNil ?_|refine pBlock ?_|refine pSkip ?_|refine pExit ?_|refine pRet ?_|refine pCond ?_|refine gNone ?_|refine gOn rfl ?_|refine gOff rfl rfl ?_|refine gTup rfl ?_))
        rw [pd_bad (s := l) (fun f hf P => by have := hy f hf P; have := hf.y.2.1; omega)]
        exact ⟨rfl, c0⟩
      obtain rfl : q = false := by rw [hq]; simp <;> omega
      (repeat(first|refine pSeq ?_|refine pReg ?_|refine sCons ?_|refine sNil ?_|refine pBlock ?_|refine pSkip ?_|refine pExit ?_|refine pRet ?_|refine pCond ?_|refine gNone ?_|refine gOn rfl ?_|refine gOff rfl rfl ?_|refine gTup rfl ?_))
      intro q hq
      by_cases hk4 : 4 < kk
      rotate_left
      have h48 : 4 < kk → l[12]? ≠ some 48 := fun q => absurd q hk4
      obtain rfl : q = false := by rw [hq]; simp <;> omega
      (repeat(first|refine pSeq ?_|refine pReg ?_|refine sCons ?_|refine sNil ?_|refine pBlock ?_|refine pSkip ?_|refine pExit ?_|refine pRet ?_|refine pCond ?_|refine gNone ?_|refine gOn rfl ?_|refine gOff rfl rfl ?_|refine gTup rfl ?_))
      rotate_left
      obtain rfl : q = true := by rw [hq]; simp <;> omega
      (repeat(first|refine pSeq ?_|refine pReg ?_|refine sCons ?_|refine sNil ?_|refine pBlock ?_|refine pSkip ?_|refine pExit ?_|refine pRet ?_|refine pCond ?_|refine gNone ?_|refine gOn rfl ?_|refine gOff rfl rfl ?_|refine gTup rfl ?_))
      refine ⟨by omega, ?_⟩
      intro m hm
      obtain rfl : m = 12 := by omega
      obtain ⟨b12, hb12⟩ : ∃ c, l[12]? = some c := ⟨_, List.getElem?_eq_getElem (by omega)⟩
      refine ⟨b12, hb12, ?_⟩
      (repeat(first|refine pSeq ?_|refine pReg ?_|refine sCons ?_|refine sNil ?_|refine pBlock ?_|refine pSkip ?_|refine pExit ?_|refine pRet ?_|refine pCond ?_|refine gNone ?_|refine gOn rfl ?_|refine gOff rfl rfl ?_|refine gTup rfl ?_))
      intro q hq
      by_cases kb12 : b12 = 48
      · obtain rfl : q = true := by rw [hq, kb12]; rfl
        (repeat(first|refine pSeq ?_|refine pReg ?_|refine sCons ?_|refine sNil ?_|refine pBlock ?_|refine pSkip ?_|refine pExit ?_|refine pRet ?_|refine pCond ?_|refine gNone ?_|refine gOn rfl ?_|refine gOff rfl rfl ?_|refine gTup rfl ?_))
        rw [pd_bad (s := l) (fun f hf P => by have e := hy f hf P; refine hf.y.2.2.2 (by omega) ?_; rw [← P.y, ← e, head_tk (by omega), List.head?_drop, hb12, kb12])]
        exact ⟨rfl, c0⟩
      have nb12 : b12.toNat ≠ 48 := fun e => kb12 (UInt8.toNat_inj.1 e)
      have h48 : 4 < kk → l[12]? ≠ some 48 := fun _ e => kb12 (by rw [hb12] at e; exact Option.some.inj e)
      obtain rfl : q = false := by rw [hq]; simp; omega
      (repeat(first|refine pSeq ?_|refine pReg ?_|refine sCons ?_|refine sNil ?_|refine pBlock ?_|refine pSkip ?_|refine pExit ?_|refine pRet ?_|refine pCond ?_|refine gNone ?_|refine gOn rfl ?_|refine gOff rfl rfl ?_|refine gTup rfl ?_)))
    all_goals (
      refine (rrow_w (a := 12) (k := kk) (by omega) (by omega) (by omega)).mono fun v s0 q => ?_
      obtain ⟨rfl, rfl⟩ := q
      have eY : rowI l 12 kk = (vl ((l.drop 12).take kk) : Int) := by unfold rowI; rw [if_pos ⟨hk12, hka⟩]
      rw [eY]
      (repeat(first|refine pSeq ?_|refine pReg ?_|refine sCons ?_|refine sNil ?_|refine pBlock ?_|refine pSkip ?_|refine pExit ?_|refine pRet ?_|refine pCond ?_|refine gNone ?_|refine gOn rfl ?_|refine gOff rfl rfl ?_|refine gTup rfl ?_))
      intro z7 g7
      rw [i64_id (by omega)] at g7
      obtain rfl : z7 = ((12 + kk : Nat) : Int) := by omega
      (repeat(first|refine pSeq ?_|refine pReg ?_|refine sCons ?_|refine sNil ?_|refine pBlock ?_|refine pSkip ?_|refine pExit ?_|refine pRet ?_|refine pCond ?_|refine gNone ?_|refine gOn rfl ?_|refine gOff rfl rfl ?_|refine gTup rfl ?_))
      intro z8 g8
      (repeat(first|refine pSeq ?_|refine pReg ?_|refine sCons ?_|refine sNil ?_|refine pBlock ?_|refine pSkip ?_|refine pExit ?_|refine pRet ?_|refine pCond ?_|refine gNone ?_|refine gOn rfl ?_|refine gOff rfl rfl ?_|refine gTup rfl ?_))
      intro z9 g9
      rw [i64_id (by omega)] at g9
      (repeat(first|refine pSeq ?_|refine pReg ?_|refine sCons ?_|refine sNil ?_|refine pBlock ?_|refine pSkip ?_|refine pExit ?_|refine pRet ?_|refine pCond ?_|refine gNone ?_|refine gOn rfl ?_|refine gOff rfl rfl ?_|refine gTup rfl ?_))
      intro q hq
      by_cases hlen : l.length ≠ 12 + kk + 15
      · obtain rfl : q = true := by rw [hq]; simp <;> omega
        (repeat(first|refine pSeq ?_|refine pReg ?_|refine sCons ?_|refine sNil ?_|refine pBlock ?_|refine pSkip ?_|refine pExit ?_|refine pRet ?_|refine pCond ?_|refine gNone ?_|refine gOn rfl ?_|refine gOff rfl rfl ?_|refine gTup rfl ?_))
        rw [pd_bad (s := l) (fun f hf P => by have := hy f hf P; have := P.len; omega)]
        exact ⟨rfl, c0⟩
      obtain rfl : q = false := by rw [hq]; simp <;> omega
      (repeat(first|refine pSeq ?_|refine pReg ?_|refine sCons ?_|refine sNil ?_|refine pBlock ?_|refine pSkip ?_|refine pExit ?_|refine pRet ?_|refine pCond ?_|refine gNone ?_|refine gOn rfl ?_|refine gOff rfl rfl ?_|refine gTup rfl ?_))
      refine ⟨by omega, ?_⟩
      intro m hm
      obtain rfl : m = 12 + kk := by omega
      obtain ⟨ba, hba⟩ : ∃ c, l[12 + kk]? = some c := ⟨_, List.getElem?_eq_getElem (by omega)⟩
      refine ⟨ba, hba, ?_⟩
      (repeat(first|refine pSeq ?_|refine pReg ?_|refine sCons ?_|refine sNil ?_|refine pBlock ?_|refine pSkip ?_|refine pExit ?_|refine pRet ?_|refine pCond ?_|refine gNone ?_|refine gOn rfl ?_|refine gOff rfl rfl ?_|refine gTup rfl ?_))
      intro q hq
      by_cases kba : ba = 32
      rotate_left
      · have nba : ba.toNat ≠ 32 := fun e => kba (UInt8.toNat_inj.1 e)
        obtain rfl : q = true := by rw [hq]; simp <;> omega
        (repeat(first|refine pSeq ?_|refine pReg ?_|refine sCons ?_|refine sNil ?_|refine pBlock ?_|refine pSkip ?_|refine pExit ?_|refine pRet ?_|refine pCond ?_|refine gNone ?_|refine gOn rfl ?_|refine gOff rfl rfl ?_|refine gTup rfl ?_))
        rw [pd_bad (s := l) (fun f hf P => kba (by have := P.c4; rw [← hy f hf P, hba] at this; exact Option.some.inj this))]
        exact ⟨rfl, c0⟩
      obtain rfl : q = false := by rw [hq, kba]; rfl
      (repeat(first|refine pSeq ?_|refine pReg ?_|refine sCons ?_|refine sNil ?_|refine pBlock ?_|refine pSkip ?_|refine pExit ?_|refine pRet ?_|refine pCond ?_|refine gNone ?_|refine gOn rfl ?_|refine gOff rfl rfl ?_|refine gTup rfl ?_))
      intro y1 gy1
      rw [i64_id (by omega)] at gy1
      (repeat(first|refine pSeq ?_|refine pReg ?_|refine sCons ?_|refine sNil ?_|refine pBlock ?_|refine pSkip ?_|refine pExit ?_|refine pRet ?_|refine pCond ?_|refine gNone ?_|refine gOn rfl ?_|refine gOff rfl rfl ?_|refine gTup rfl ?_))
      refine ⟨by omega, ?_⟩
      intro m hm
      obtain rfl : m = 12 + kk + 3 := by omega
      obtain ⟨bb, hbb⟩ : ∃ c, l[12 + kk + 3]? = some c := ⟨_, List.getElem?_eq_getElem (by omega)⟩
      refine ⟨bb, hbb, ?_⟩
      (repeat(first|refine pSeq ?_|refine pReg ?_|refine sCons ?_|refine sNil ?_|refine pBlock ?_|refine pSkip ?_|refine pExit ?_|refine pRet ?_|refine pCond ?_|refine gNone ?_|refine gOn rfl ?_|refine gOff rfl rfl ?_|refine gTup rfl ?_))
      intro q hq
      by_cases kbb : bb = 58
      rotate_left
      · have nbb : bb.toNat ≠ 58 := fun e => kbb (UInt8.toNat_inj.1 e)
        obtain rfl : q = true := by rw [hq]; simp <;> omega
        (repeat(first|refine pSeq ?_|refine pReg ?_|refine sCons ?_|refine sNil ?_|refine pBlock ?_|refine pSkip ?_|refine pExit ?_|refine pRet ?_|refine pCond ?_|refine gNone ?_|refine gOn rfl ?_|refine gOff rfl rfl ?_|refine gTup rfl ?_))
        rw [pd_bad (s := l) (fun f hf P => kbb (by have := P.c5; rw [← hy f hf P, hbb] at this; exact Option.some.inj this))]
        exact ⟨rfl, c0⟩
      obtain rfl : q = false := by rw [hq, kbb]; rfl
      (repeat(first|refine pSeq ?_|refine pReg ?_|refine sCons ?_|refine sNil ?_|refine pBlock ?_|refine pSkip ?_|refine pExit ?_|refine pRet ?_|refine pCond ?_|refine gNone ?_|refine gOn rfl ?_|refine gOff rfl rfl ?_|refine gTup rfl ?_))
      intro y2 gy2
      rw [i64_id (by omega)] at gy2
      (repeat(first|refine pSeq ?_|refine pReg ?_|refine sCons ?_|refine sNil ?_|refine pBlock ?_|refine pSkip ?_|refine pExit ?_|refine pRet ?_|refine pCond ?_|refine gNone ?_|refine gOn rfl ?_|refine gOff rfl rfl ?_|refine gTup rfl ?_))
      refine ⟨by omega, ?_⟩
      intro m hm
      obtain rfl : m = 12 + kk + 6 := by omega
      obtain ⟨bc, hbc⟩ : ∃ c, l[12 + kk + 6]? = some c := ⟨_, List.getElem?_eq_getElem (by omega)⟩
      refine ⟨bc, hbc, ?_⟩
      (repeat(first|refine pSeq ?_|refine pReg ?_|refine sCons ?_|refine sNil ?_|refine pBlock ?_|refine pSkip ?_|refine pExit ?_|refine pRet ?_|refine pCond ?_|refine gNone ?_|refine gOn rfl ?_|refine gOff rfl rfl ?_|refine gTup rfl ?_))
      intro q hq
      by_cases kbc : bc = 58
      rotate_left
      · have nbc : bc.toNat ≠ 58 := fun e => kbc (UInt8.toNat_inj.1 e)
        obtain rfl : q = true := by rw [hq]; simp <;> omega
        (repeat(first|refine pSeq ?_|refine pReg ?_|refine sCons ?_|refine sNil ?_|refine pBlock ?_|refine pSkip ?_|refine pExit ?_|refine pRet ?_|refine pCond ?_|refine gNone ?_|refine gOn rfl ?_|refine gOff rfl rfl ?_|refine gTup rfl ?_))
        rw [pd_bad (s := l) (fun f hf P => kbc (by have := P.c6; rw [← hy f hf P, hbc] at this; exact Option.some.inj this))]
        exact ⟨rfl, c0⟩
      obtain rfl : q = false := by rw [hq, kbc]; rfl
      (repeat(first|refine pSeq ?_|refine pReg ?_|refine sCons ?_|refine sNil ?_|refine pBlock ?_|refine pSkip ?_|refine pExit ?_|refine pRet ?_|refine pCond ?_|refine gNone ?_|refine gOn rfl ?_|refine gOff rfl rfl ?_|refine gTup rfl ?_))
      intro y3 gy3
      rw [i64_id (by omega)] at gy3
      (repeat(first|refine pSeq ?_|refine pReg ?_|refine sCons ?_|refine sNil ?_|refine pBlock ?_|refine pSkip ?_|refine pExit ?_|refine pRet ?_|refine pCond ?_|refine gNone ?_|refine gOn rfl ?_|refine gOff rfl rfl ?_|refine gTup rfl ?_))
      refine ⟨by omega, ?_⟩
      intro a ha r hr
      obtain rfl : a = 12 + kk + 9 := by omega
      rw [List.take_of_length_le (by rw [List.length_drop]; omega)] at hr
      subst hr
      (repeat(first|refine pSeq ?_|refine pReg ?_|refine sCons ?_|refine sNil ?_|refine pBlock ?_|refine pSkip ?_|refine pExit ?_|refine pRet ?_|refine pCond ?_|refine gNone ?_|refine gOn rfl ?_|refine gOff rfl rfl ?_|refine gTup rfl ?_))
      intro q hq
      by_cases hzone : l.drop (12 + kk + 9) = zoneT
      rotate_left
      · obtain rfl : q = true := by rw [hq]; exact decide_eq_true hzone
        (repeat(first|refine pSeq ?_|refine pReg ?_|refine sCons ?_|refine sNil ?_|refine pBlock ?_|refine pSkip ?_|refine pExit ?_|refine pRet ?_|refine pCond ?_|refine gNone ?_|refine gOn rfl ?_|refine gOff rfl rfl ?_|refine gTup rfl ?_))
        rw [pd_bad (s := l) (fun f hf P => hzone (by have := P.z; rw [← hy f hf P] at this; exact this))]
        exact ⟨rfl, c0⟩
      obtain rfl : q = false := by rw [hq]; exact decide_eq_false (fun h => h hzone)
      (repeat(first|refine pSeq ?_|refine pReg ?_|refine sCons ?_|refine sNil ?_|refine pBlock ?_|refine pSkip ?_|refine pExit ?_|refine pRet ?_|refine pCond ?_|refine gNone ?_|refine gOn rfl ?_|refine gOff rfl rfl ?_|refine gTup rfl ?_))
      intro y4 gy4
      rw [i64_id (by omega)] at gy4
      obtain rfl : y4 = ((12 + kk + 1 : Nat) : Int) := by omega
      (repeat(first|refine pSeq ?_|refine pReg ?_|refine sCons ?_|refine sNil ?_|refine pBlock ?_|refine pSkip ?_|refine pExit ?_|refine pRet ?_|refine pCond ?_|refine gNone ?_|refine gOn rfl ?_|refine gOff rfl rfl ?_|refine gTup rfl ?_))
      refine (rrow_w (a := 12 + kk + 1) (k := 2) (by omega) (by omega) (by omega)).mono fun v s0 q => ?_
      obtain ⟨rfl, rfl⟩ := q
      generalize hhv : rowI l (12 + kk + 1) 2 = hhV
      (repeat(first|refine pSeq ?_|refine pReg ?_|refine sCons ?_|refine sNil ?_|refine pBlock ?_|refine pSkip ?_|refine pExit ?_|refine pRet ?_|refine pCond ?_|refine gNone ?_|refine gOn rfl ?_|refine gOff rfl rfl ?_|refine gTup rfl ?_))
      intro y5 gy5
      rw [i64_id (by omega)] at gy5
      obtain rfl : y5 = ((12 + kk + 4 : Nat) : Int) := by omega
      (repeat(first|refine pSeq ?_|refine pReg ?_|refine sCons ?_|refine sNil ?_|refine pBlock ?_|refine pSkip ?_|refine pExit ?_|refine pRet ?_|refine pCond ?_|refine gNone ?_|refine gOn rfl ?_|refine gOff rfl rfl ?_|refine gTup rfl ?_))
      refine (rrow_w (a := 12 + kk + 4) (k := 2) (by omega) (by omega) (by omega)).mono fun v s0 q => ?_
      obtain ⟨rfl, rfl⟩ := q
      generalize hiv : rowI l (12 + kk + 4) 2 = hiV
      (repeat(first|refine pSeq ?_|refine pReg ?_|refine sCons ?_|refine sNil ?_|refine pBlock ?_|refine pSkip ?_|refine pExit ?_|refine pRet ?_|refine pCond ?_|refine gNone ?_|refine gOn rfl ?_|refine gOff rfl rfl ?_|refine gTup rfl ?_))
      intro y6 gy6
      rw [i64_id (by omega)] at gy6
      obtain rfl : y6 = ((12 + kk + 7 : Nat) : Int) := by omega
      (repeat(first|refine pSeq ?_|refine pReg ?_|refine sCons ?_|refine sNil ?_|refine pBlock ?_|refine pSkip ?_|refine pExit ?_|refine pRet ?_|refine pCond ?_|refine gNone ?_|refine gOn rfl ?_|refine gOff rfl rfl ?_|refine gTup rfl ?_))
      refine (rrow_w (a := 12 + kk + 7) (k := 2) (by omega) (by omega) (by omega)).mono fun v s0 q => ?_
      obtain ⟨rfl, rfl⟩ := q
      generalize hsv : rowI l (12 + kk + 7) 2 = hsV
      (repeat(first|refine pSeq ?_|refine pReg ?_|refine sCons ?_|refine sNil ?_|refine pBlock ?_|refine pSkip ?_|refine pExit ?_|refine pRet ?_|refine pCond ?_|refine gNone ?_|refine gOn rfl ?_|refine gOff rfl rfl ?_|refine gTup rfl ?_))
      intro q hq
      by_cases hh : hhV < 0
      · obtain rfl : q = true := by rw [hq]; simp <;> omega
        (repeat(first|refine pSeq ?_|refine pReg ?_|refine sCons ?_|refine sNil ?_|refine pBlock ?_|refine pSkip ?_|refine pExit ?_|refine pRet ?_|refine pCond ?_|refine gNone ?_|refine gOn rfl ?_|refine gOff rfl rfl ?_|refine gTup rfl ?_))
        rw [pd_bad (s := l) (fun f hf P => by have := row_pos (by have := P.h; rw [← hy f hf P] at this; exact this) (by omega) hf.h.1 hf.h.2; omega)]
        exact ⟨rfl, c0⟩
      obtain rfl : q = false := by rw [hq]; simp <;> omega
      (repeat(first|refine pSeq ?_|refine pReg ?_|refine sCons ?_|refine sNil ?_|refine pBlock ?_|refine pSkip ?_|refine pExit ?_|refine pRet ?_|refine pCond ?_|refine gNone ?_|refine gOn rfl ?_|refine gOff rfl rfl ?_|refine gTup rfl ?_))
      intro q hq
      by_cases hi : hiV < 0
      · obtain rfl : q = true := by rw [hq]; simp <;> omega
        (repeat(first|refine pSeq ?_|refine pReg ?_|refine sCons ?_|refine sNil ?_|refine pBlock ?_|refine pSkip ?_|refine pExit ?_|refine pRet ?_|refine pCond ?_|refine gNone ?_|refine gOn rfl ?_|refine gOff rfl rfl ?_|refine gTup rfl ?_))
        rw [pd_bad (s := l) (fun f hf P => by have := row_pos (by have := P.mi; rw [← hy f hf P] at this; exact this) (by omega) hf.mi.1 hf.mi.2; omega)]
        exact ⟨rfl, c0⟩
      obtain rfl : q = false := by rw [hq]; simp <;> omega
      (repeat(first|refine pSeq ?_|refine pReg ?_|refine sCons ?_|refine sNil ?_|refine pBlock ?_|refine pSkip ?_|refine pExit ?_|refine pRet ?_|refine pCond ?_|refine gNone ?_|refine gOn rfl ?_|refine gOff rfl rfl ?_|refine gTup rfl ?_))
      intro q hq
      by_cases hs : hsV < 0
      · obtain rfl : q = true := by rw [hq]; simp <;> omega
        (repeat(first|refine pSeq ?_|refine pReg ?_|refine sCons ?_|refine sNil ?_|refine pBlock ?_|refine pSkip ?_|refine pExit ?_|refine pRet ?_|refine pCond ?_|refine gNone ?_|refine gOn rfl ?_|refine gOff rfl rfl ?_|refine gTup rfl ?_))
        rw [pd_bad (s := l) (fun f hf P => by have := row_pos (by have := P.se; rw [← hy f hf P] at this; exact this) (by omega) hf.se.1 hf.se.2; omega)]
        exact ⟨rfl, c0⟩
      obtain rfl : q = false := by rw [hq]; simp <;> omega
      (repeat(first|refine pSeq ?_|refine pReg ?_|refine sCons ?_|refine sNil ?_|refine pBlock ?_|refine pSkip ?_|refine pExit ?_|refine pRet ?_|refine pCond ?_|refine gNone ?_|refine gOn rfl ?_|refine gOff rfl rfl ?_|refine gTup rfl ?_))
      subst hdv
      subst hhv
      subst hiv
      subst hsv
      obtain ⟨eO, lO, aO⟩ := row_neg hday (by omega)
      obtain ⟨eH, lH, aH⟩ := row_neg hh (by omega)
      obtain ⟨eI, lI, aI⟩ := row_neg hi (by omega)
      obtain ⟨eS, lS, aS⟩ := row_neg hs (by omega)
      have lY : ((l.drop 12).take kk).length = kk := by rw [List.length_take, List.length_drop]; omega
      obtain ⟨F, hFd⟩ : ∃ F : Fd, F = ⟨iw, im, (l.drop 5).take 2, (l.drop 12).take kk, (l.drop (12 + kk + 1)).take 2, (l.drop (12 + kk + 4)).take 2, (l.drop (12 + kk + 7)).take 2⟩ := ⟨_, rfl⟩
      have hf : F.ok := by
        rw [hFd]
        refine ⟨hiw, him, ⟨lO, aO⟩, ⟨by rw [lY]; omega, by rw [lY]; omega, hka, fun q => ?_⟩, ⟨lH, aH⟩, ⟨lI, aI⟩, ⟨lS, aS⟩⟩
        rw [lY] at q
        rw [head_tk (by omega), List.head?_drop]
        exact h48 q
      have P : Pos l F := by
        rw [hFd]
        refine ⟨by show _ = ((l.drop 12).take kk).length + 27; rw [lY]; omega, hwe, hcom, rfl, by rw [hb7, kb7], hme, by rw [hb11, kb11], ?_, ?_, ?_, ?_, ?_, ?_, ?_, ?_⟩
        · show (l.drop 12).take ((l.drop 12).take kk).length = _; rw [lY]
        · show l[12 + ((l.drop 12).take kk).length]? = _; rw [lY, hba, kba]
        · show (l.drop (12 + ((l.drop 12).take kk).length + 1)).take 2 = _; rw [lY]
        · show l[12 + ((l.drop 12).take kk).length + 3]? = _; rw [lY, hbb, kbb]
        · show (l.drop (12 + ((l.drop 12).take kk).length + 4)).take 2 = _; rw [lY]
        · show l[12 + ((l.drop 12).take kk).length + 6]? = _; rw [lY, hbc, kbc]
        · show (l.drop (12 + ((l.drop 12).take kk).length + 7)).take 2 = _; rw [lY]
        · show l.drop (12 + ((l.drop 12).take kk).length + 9) = _; rw [lY]; exact hzone
      have hO : vl F.o = vl ((l.drop 5).take 2) := by rw [hFd]
      have hY : vl F.y = vl ((l.drop 12).take kk) := by rw [hFd]
      have hH : vl F.h = vl ((l.drop (12 + kk + 1)).take 2) := by rw [hFd]
      have hI : vl F.mi = vl ((l.drop (12 + kk + 4)).take 2) := by rw [hFd]
      have hS : vl F.se = vl ((l.drop (12 + kk + 7)).take 2) := by rw [hFd]
      have hM : F.M = im := by rw [hFd]
      have bO := vl_10 aO (k := 2) (by omega)
      have bY := vl_10 hka (k := 10) (by omega)
      have bH := vl_10 aH (k := 2) (by omega)
      have bI := vl_10 aI (k := 2) (by omega)
      have bS := vl_10 aS (k := 2) (by omega)
      rw [eO, eH, eI, eS]
      generalize vl ((l.drop 5).take 2) = O at *
      generalize vl ((l.drop 12).take kk) = Y at *
      generalize vl ((l.drop (12 + kk + 1)).take 2) = H at *
      generalize vl ((l.drop (12 + kk + 4)).take 2) = I at *
      generalize vl ((l.drop (12 + kk + 7)).take 2) = S at *
      have hwF : F.w = iw := by rw [hFd]
      clear hFd
      intro q hq
      by_cases x1 : Y < 1970
      · obtain rfl : q = true := by rw [hq]; simp <;> omega
        (repeat(first|refine pSeq ?_|refine pReg ?_|refine sCons ?_|refine sNil ?_|refine pBlock ?_|refine pSkip ?_|refine pExit ?_|refine pRet ?_|refine pCond ?_|refine gNone ?_|refine gOn rfl ?_|refine gOff rfl rfl ?_|refine gTup rfl ?_))
        rw [pd_some hf P, if_neg (fun h => by have := h.1; rw [hY] at this; omega)]
        exact ⟨rfl, c0⟩
      · obtain rfl : q = false := by rw [hq]; simp <;> omega
        (repeat(first|refine pSeq ?_|refine pReg ?_|refine sCons ?_|refine sNil ?_|refine pBlock ?_|refine pSkip ?_|refine pExit ?_|refine pRet ?_|refine pCond ?_|refine gNone ?_|refine gOn rfl ?_|refine gOff rfl rfl ?_|refine gTup rfl ?_))
        intro q hq
        by_cases x2 : 100000 < Y
        · obtain rfl : q = true := by rw [hq]; simp <;> omega
          (repeat(first|refine pSeq ?_|refine pReg ?_|refine sCons ?_|refine sNil ?_|refine pBlock ?_|refine pSkip ?_|refine pExit ?_|refine pRet ?_|refine pCond ?_|refine gNone ?_|refine gOn rfl ?_|refine gOff rfl rfl ?_|refine gTup rfl ?_))
          rw [pd_some hf P, if_neg (fun h => by have h7 := h.2.2.2.2.2.2.1; have h1 := h.1; have h2 := h.2.1; rw [hY] at h1; have hg := ys_ge Y h1; unfold Fd.tick Fd.day at h7; rw [hY] at h7; unfold Mx at h7; omega)]
          exact ⟨rfl, c0⟩
        · obtain rfl : q = false := by rw [hq]; simp <;> omega
          (repeat(first|refine pSeq ?_|refine pReg ?_|refine sCons ?_|refine sNil ?_|refine pBlock ?_|refine pSkip ?_|refine pExit ?_|refine pRet ?_|refine pCond ?_|refine gNone ?_|refine gOn rfl ?_|refine gOff rfl rfl ?_|refine gTup rfl ?_))
          intro q hq
          by_cases x3 : O < 1
          · obtain rfl : q = true := by rw [hq]; simp <;> omega
            (repeat(first|refine pSeq ?_|refine pReg ?_|refine sCons ?_|refine sNil ?_|refine pBlock ?_|refine pSkip ?_|refine pExit ?_|refine pRet ?_|refine pCond ?_|refine gNone ?_|refine gOn rfl ?_|refine gOff rfl rfl ?_|refine gTup rfl ?_))
            rw [pd_some hf P, if_neg (fun h => by have := h.2.1; rw [hO] at this; omega)]
            exact ⟨rfl, c0⟩
          · obtain rfl : q = false := by rw [hq]; simp <;> omega
            (repeat(first|refine pSeq ?_|refine pReg ?_|refine sCons ?_|refine sNil ?_|refine pBlock ?_|refine pSkip ?_|refine pExit ?_|refine pRet ?_|refine pCond ?_|refine gNone ?_|refine gOn rfl ?_|refine gOff rfl rfl ?_|refine gTup rfl ?_))
            refine (rlength_w (y := Y) (m := im) (by omega) him).mono fun v s0 q => ?_
            obtain ⟨rfl, rfl⟩ := q
            have hml := ml_le Y im
            (repeat(first|refine pSeq ?_|refine pReg ?_|refine sCons ?_|refine sNil ?_|refine pBlock ?_|refine pSkip ?_|refine pExit ?_|refine pRet ?_|refine pCond ?_|refine gNone ?_|refine gOn rfl ?_|refine gOff rfl rfl ?_|refine gTup rfl ?_))
            intro q hq
            by_cases x4 : ml Y im < O
            · obtain rfl : q = true := by rw [hq]; simp <;> omega
              (repeat(first|refine pSeq ?_|refine pReg ?_|refine sCons ?_|refine sNil ?_|refine pBlock ?_|refine pSkip ?_|refine pExit ?_|refine pRet ?_|refine pCond ?_|refine gNone ?_|refine gOn rfl ?_|refine gOff rfl rfl ?_|refine gTup rfl ?_))
              rw [pd_some hf P, if_neg (fun h => by have h3 := h.2.2.1; rw [hO, hY, hM] at h3; omega)]
              exact ⟨rfl, c0⟩
            · obtain rfl : q = false := by rw [hq]; simp <;> omega
              (repeat(first|refine pSeq ?_|refine pReg ?_|refine sCons ?_|refine sNil ?_|refine pBlock ?_|refine pSkip ?_|refine pExit ?_|refine pRet ?_|refine pCond ?_|refine gNone ?_|refine gOn rfl ?_|refine gOff rfl rfl ?_|refine gTup rfl ?_))
              intro q hq
              by_cases x5 : 23 < H
              · obtain rfl : q = true := by rw [hq]; simp <;> omega
                (repeat(first|refine pSeq ?_|refine pReg ?_|refine sCons ?_|refine sNil ?_|refine pBlock ?_|refine pSkip ?_|refine pExit ?_|refine pRet ?_|refine pCond ?_|refine gNone ?_|refine gOn rfl ?_|refine gOff rfl rfl ?_|refine gTup rfl ?_))
                rw [pd_some hf P, if_neg (fun h => by have := h.2.2.2.1; rw [hH] at this; omega)]
                exact ⟨rfl, c0⟩
              · obtain rfl : q = false := by rw [hq]; simp <;> omega
                (repeat(first|refine pSeq ?_|refine pReg ?_|refine sCons ?_|refine sNil ?_|refine pBlock ?_|refine pSkip ?_|refine pExit ?_|refine pRet ?_|refine pCond ?_|refine gNone ?_|refine gOn rfl ?_|refine gOff rfl rfl ?_|refine gTup rfl ?_))
                intro q hq
                by_cases x6 : 59 < I
                · obtain rfl : q = true := by rw [hq]; simp <;> omega
                  (repeat(first|refine pSeq ?_|refine pReg ?_|refine sCons ?_|refine sNil ?_|refine pBlock ?_|refine pSkip ?_|refine pExit ?_|refine pRet ?_|refine pCond ?_|refine gNone ?_|refine gOn rfl ?_|refine gOff rfl rfl ?_|refine gTup rfl ?_))
                  rw [pd_some hf P, if_neg (fun h => by have := h.2.2.2.2.1; rw [hI] at this; omega)]
                  exact ⟨rfl, c0⟩
                · obtain rfl : q = false := by rw [hq]; simp <;> omega
                  (repeat(first|refine pSeq ?_|refine pReg ?_|refine sCons ?_|refine sNil ?_|refine pBlock ?_|refine pSkip ?_|refine pExit ?_|refine pRet ?_|refine pCond ?_|refine gNone ?_|refine gOn rfl ?_|refine gOff rfl rfl ?_|refine gTup rfl ?_))
                  intro q hq
                  by_cases x7 : 59 < S
                  · obtain rfl : q = true := by rw [hq]; simp <;> omega
                    (repeat(first|refine pSeq ?_|refine pReg ?_|refine sCons ?_|refine sNil ?_|refine pBlock ?_|refine pSkip ?_|refine pExit ?_|refine pRet ?_|refine pCond ?_|refine gNone ?_|refine gOn rfl ?_|refine gOff rfl rfl ?_|refine gTup rfl ?_))
                    rw [pd_some hf P, if_neg (fun h => by have := h.2.2.2.2.2.1; rw [hS] at this; omega)]
                    exact ⟨rfl, c0⟩
                  · obtain rfl : q = false := by rw [hq]; simp <;> omega
                    (repeat(first|refine pSeq ?_|refine pReg ?_|refine sCons ?_|refine sNil ?_|refine pBlock ?_|refine pSkip ?_|refine pExit ?_|refine pRet ?_|refine pCond ?_|refine gNone ?_|refine gOn rfl ?_|refine gOff rfl rfl ?_|refine gTup rfl ?_))
                    intro z10 g10
                    rw [i64_id (by omega)] at g10
                    (repeat(first|refine pSeq ?_|refine pReg ?_|refine sCons ?_|refine sNil ?_|refine pBlock ?_|refine pSkip ?_|refine pExit ?_|refine pRet ?_|refine pCond ?_|refine gNone ?_|refine gOn rfl ?_|refine gOff rfl rfl ?_|refine gTup rfl ?_))
                    refine pLoop (MW.head good (fun i : Nat => im - i) (fun i => i ≤ im) (fun i => [(6, .int .i64 iw), (8, .int .i64 im), (10, .int .i64 Y), (12, .int .i64 H), (13, .int .i64 I), (14, .int .i64 S), (15, .int .i64 ((O : Int) - 1 + mo Y i)), (16, .int .i64 i)]) (fun _ => s0) 0 (Nat.zero_le _) (Wk.same ⟨rfl, rfl, rfl, rfl, rfl, rfl, by rw [show (O : Int) - 1 + (mo Y 0 : Nat) = z10 by show _ + ((0 : Nat) : Int) = _; omega]; rfl, rfl, trivial⟩) ?_)
                    intro i hi
                    have hmo := mo_le Y (m := i) (by omega)
                    (repeat(first|refine pSeq ?_|refine pReg ?_|refine sCons ?_|refine sNil ?_|refine pBlock ?_|refine pSkip ?_|refine pExit ?_|refine pRet ?_|refine pCond ?_|refine gNone ?_|refine gOn rfl ?_|refine gOff rfl rfl ?_|refine gTup rfl ?_))
                    intro q hq
                    by_cases hlt : i < im
                    · have e : mo Y (i + 1) = mo Y i + ml Y i := rfl
                      have hml := ml_le Y i
                      obtain rfl : q = true := by rw [hq]; simp <;> omega
                      (repeat(first|refine pSeq ?_|refine pReg ?_|refine sCons ?_|refine sNil ?_|refine pBlock ?_|refine pSkip ?_|refine pExit ?_|refine pRet ?_|refine pCond ?_|refine gNone ?_|refine gOn rfl ?_|refine gOff rfl rfl ?_|refine gTup rfl ?_))
                      refine (rlength_w (y := Y) (m := i) (by omega) (by omega)).mono fun v s0 q => ?_
                      obtain ⟨rfl, rfl⟩ := q
                      (repeat(first|refine pSeq ?_|refine pReg ?_|refine sCons ?_|refine sNil ?_|refine pBlock ?_|refine pSkip ?_|refine pExit ?_|refine pRet ?_|refine pCond ?_|refine gNone ?_|refine gOn rfl ?_|refine gOff rfl rfl ?_|refine gTup rfl ?_))
                      intro z11 g11
                      rw [i64_id (by omega)] at g11
                      obtain rfl : z11 = (O : Int) - 1 + (mo Y (i + 1) : Nat) := by omega
                      (repeat(first|refine pSeq ?_|refine pReg ?_|refine sCons ?_|refine sNil ?_|refine pBlock ?_|refine pSkip ?_|refine pExit ?_|refine pRet ?_|refine pCond ?_|refine gNone ?_|refine gOn rfl ?_|refine gOff rfl rfl ?_|refine gTup rfl ?_))
                      intro z12 g12
                      rw [i64_id (by omega)] at g12
                      obtain rfl : z12 = ((i + 1 : Nat) : Int) := by omega
                      (repeat(first|refine pSeq ?_|refine pReg ?_|refine sCons ?_|refine sNil ?_|refine pBlock ?_|refine pSkip ?_|refine pExit ?_|refine pRet ?_|refine pCond ?_|refine gNone ?_|refine gOn rfl ?_|refine gOff rfl rfl ?_|refine gTup rfl ?_))
                      exact ⟨i + 1, hlt, by show im - (i + 1) < im - i; omega, Wk.same ⟨rfl, rfl, rfl, rfl, rfl, rfl, rfl, rfl, trivial⟩⟩
                    · obtain rfl : i = im := by omega
                      obtain rfl : q = false := by rw [hq]; simp <;> omega
                      (repeat(first|refine pSeq ?_|refine pReg ?_|refine sCons ?_|refine sNil ?_|refine pBlock ?_|refine pSkip ?_|refine pExit ?_|refine pRet ?_|refine pCond ?_|refine gNone ?_|refine gOn rfl ?_|refine gOff rfl rfl ?_|refine gTup rfl ?_))
                      intro z13 g13
                      rw [i64_id (by omega)] at g13
                      obtain rfl : z13 = ((Y - 1970 : Nat) : Int) := by omega
                      (repeat(first|refine pSeq ?_|refine pReg ?_|refine sCons ?_|refine sNil ?_|refine pBlock ?_|refine pSkip ?_|refine pExit ?_|refine pRet ?_|refine pCond ?_|refine gNone ?_|refine gOn rfl ?_|refine gOff rfl rfl ?_|refine gTup rfl ?_))
                      refine ⟨by decide, ?_⟩
                      intro z14 g14
                      rw [show (400 : Int) = ((400 : Nat) : Int) from rfl, tdiv_nat, i64_id (by omega)] at g14
                      subst g14
                      (repeat(first|refine pSeq ?_|refine pReg ?_|refine sCons ?_|refine sNil ?_|refine pBlock ?_|refine pSkip ?_|refine pExit ?_|refine pRet ?_|refine pCond ?_|refine gNone ?_|refine gOn rfl ?_|refine gOff rfl rfl ?_|refine gTup rfl ?_))
                      intro z15 g15
                      rw [i64_id (by omega)] at g15
                      (repeat(first|refine pSeq ?_|refine pReg ?_|refine sCons ?_|refine sNil ?_|refine pBlock ?_|refine pSkip ?_|refine pExit ?_|refine pRet ?_|refine pCond ?_|refine gNone ?_|refine gOn rfl ?_|refine gOff rfl rfl ?_|refine gTup rfl ?_))
                      intro z16 g16
                      rw [i64_id (by omega)] at g16
                      (repeat(first|refine pSeq ?_|refine pReg ?_|refine sCons ?_|refine sNil ?_|refine pBlock ?_|refine pSkip ?_|refine pExit ?_|refine pRet ?_|refine pCond ?_|refine gNone ?_|refine gOn rfl ?_|refine gOff rfl rfl ?_|refine gTup rfl ?_))
                      intro z17 g17
                      rw [i64_id (by omega)] at g17
                      obtain rfl : z17 = ((Y - 1970 : Nat) : Int) := by omega
                      (repeat(first|refine pSeq ?_|refine pReg ?_|refine sCons ?_|refine sNil ?_|refine pBlock ?_|refine pSkip ?_|refine pExit ?_|refine pRet ?_|refine pCond ?_|refine gNone ?_|refine gOn rfl ?_|refine gOff rfl rfl ?_|refine gTup rfl ?_))
                      refine ⟨by decide, ?_⟩
                      intro z18 g18
                      rw [show (400 : Int) = ((400 : Nat) : Int) from rfl, tmod_nat] at g18
                      subst g18
                      (repeat(first|refine pSeq ?_|refine pReg ?_|refine sCons ?_|refine sNil ?_|refine pBlock ?_|refine pSkip ?_|refine pExit ?_|refine pRet ?_|refine pCond ?_|refine gNone ?_|refine gOn rfl ?_|refine gOff rfl rfl ?_|refine gTup rfl ?_))
                      intro z19 g19
                      rw [i64_id (by omega)] at g19
                      obtain rfl : z19 = ((1970 + 400 * ((Y - 1970) / 400) : Nat) : Int) := by omega
                      have hys := ys_400k ((Y - 1970) / 400)
                      have hyY := ys_hi (y := Y) (by omega)
                      (repeat(first|refine pSeq ?_|refine pReg ?_|refine sCons ?_|refine sNil ?_|refine pBlock ?_|refine pSkip ?_|refine pExit ?_|refine pRet ?_|refine pCond ?_|refine gNone ?_|refine gOn rfl ?_|refine gOff rfl rfl ?_|refine gTup rfl ?_))
                      refine pLoop (MW.head good (fun j : Nat => Y - j) (fun j => 1970 ≤ j ∧ j ≤ Y) (fun j => [(6, .int .i64 iw), (10, .int .i64 Y), (12, .int .i64 H), (13, .int .i64 I), (14, .int .i64 S), (15, .int .i64 ((O : Int) - 1 + mo Y i + ys j)), (17, .int .i64 j)]) (fun _ => s0) (1970 + 400 * ((Y - 1970) / 400)) ⟨by omega, by omega⟩ (Wk.same ⟨rfl, rfl, rfl, rfl, rfl, by rw [show (O : Int) - 1 + (mo Y i : Nat) + ys (1970 + 400 * ((Y - 1970) / 400)) = z16 by omega]; rfl, rfl, trivial⟩) ?_)
                      intro j ⟨hj1, hj2⟩
                      have hyj := ys_hi (y := j) (by omega)
                      have hyp := ys_pos hj1
                      have hys := ys_succ j
                      have hlp := lpY_le j
                      (repeat(first|refine pSeq ?_|refine pReg ?_|refine sCons ?_|refine sNil ?_|refine pBlock ?_|refine pSkip ?_|refine pExit ?_|refine pRet ?_|refine pCond ?_|refine gNone ?_|refine gOn rfl ?_|refine gOff rfl rfl ?_|refine gTup rfl ?_))
                      intro q hq
                      by_cases hlt2 : j < Y
                      · obtain rfl : q = true := by rw [hq]; simp <;> omega
                        (repeat(first|refine pSeq ?_|refine pReg ?_|refine sCons ?_|refine sNil ?_|refine pBlock ?_|refine pSkip ?_|refine pExit ?_|refine pRet ?_|refine pCond ?_|refine gNone ?_|refine gOn rfl ?_|refine gOff rfl rfl ?_|refine gTup rfl ?_))
                        refine (rdays_w (y := j) (by omega)).mono fun v s0 q => ?_
                        obtain ⟨rfl, rfl⟩ := q
                        (repeat(first|refine pSeq ?_|refine pReg ?_|refine sCons ?_|refine sNil ?_|refine pBlock ?_|refine pSkip ?_|refine pExit ?_|refine pRet ?_|refine pCond ?_|refine gNone ?_|refine gOn rfl ?_|refine gOff rfl rfl ?_|refine gTup rfl ?_))
                        intro z20 g20
                        rw [i64_id (by omega)] at g20
                        obtain rfl : z20 = (O : Int) - 1 + (mo Y i : Nat) + ys (j + 1) := by omega
                        (repeat(first|refine pSeq ?_|refine pReg ?_|refine sCons ?_|refine sNil ?_|refine pBlock ?_|refine pSkip ?_|refine pExit ?_|refine pRet ?_|refine pCond ?_|refine gNone ?_|refine gOn rfl ?_|refine gOff rfl rfl ?_|refine gTup rfl ?_))
                        intro z21 g21
                        rw [i64_id (by omega)] at g21
                        obtain rfl : z21 = ((j + 1 : Nat) : Int) := by omega
                        (repeat(first|refine pSeq ?_|refine pReg ?_|refine sCons ?_|refine sNil ?_|refine pBlock ?_|refine pSkip ?_|refine pExit ?_|refine pRet ?_|refine pCond ?_|refine gNone ?_|refine gOn rfl ?_|refine gOff rfl rfl ?_|refine gTup rfl ?_))
                        exact ⟨j + 1, ⟨by omega, hlt2⟩, by show Y - (j + 1) < Y - j; omega, Wk.same ⟨rfl, rfl, rfl, rfl, rfl, rfl, rfl, trivial⟩⟩
                      · obtain rfl : j = Y := by omega
                        obtain rfl : q = false := by rw [hq]; simp <;> omega
                        (repeat(first|refine pSeq ?_|refine pReg ?_|refine sCons ?_|refine sNil ?_|refine pBlock ?_|refine pSkip ?_|refine pExit ?_|refine pRet ?_|refine pCond ?_|refine gNone ?_|refine gOn rfl ?_|refine gOff rfl rfl ?_|refine gTup rfl ?_))
                        intro z20 g20
                        rw [i64_id (by omega)] at g20
                        (repeat(first|refine pSeq ?_|refine pReg ?_|refine sCons ?_|refine sNil ?_|refine pBlock ?_|refine pSkip ?_|refine pExit ?_|refine pRet ?_|refine pCond ?_|refine gNone ?_|refine gOn rfl ?_|refine gOff rfl rfl ?_|refine gTup rfl ?_))
                        intro z21 g21
                        rw [i64_id (by omega)] at g21
                        (repeat(first|refine pSeq ?_|refine pReg ?_|refine sCons ?_|refine sNil ?_|refine pBlock ?_|refine pSkip ?_|refine pExit ?_|refine pRet ?_|refine pCond ?_|refine gNone ?_|refine gOn rfl ?_|refine gOff rfl rfl ?_|refine gTup rfl ?_))
                        intro z22 g22
                        rw [i64_id (by omega)] at g22
                        (repeat(first|refine pSeq ?_|refine pReg ?_|refine sCons ?_|refine sNil ?_|refine pBlock ?_|refine pSkip ?_|refine pExit ?_|refine pRet ?_|refine pCond ?_|refine gNone ?_|refine gOn rfl ?_|refine gOff rfl rfl ?_|refine gTup rfl ?_))
                        intro z23 g23
                        rw [i64_id (by omega)] at g23
                        (repeat(first|refine pSeq ?_|refine pReg ?_|refine sCons ?_|refine sNil ?_|refine pBlock ?_|refine pSkip ?_|refine pExit ?_|refine pRet ?_|refine pCond ?_|refine gNone ?_|refine gOn rfl ?_|refine gOff rfl rfl ?_|refine gTup rfl ?_))
                        intro z23b g23b
                        rw [i64_id (by omega)] at g23b
                        (repeat(first|refine pSeq ?_|refine pReg ?_|refine sCons ?_|refine sNil ?_|refine pBlock ?_|refine pSkip ?_|refine pExit ?_|refine pRet ?_|refine pCond ?_|refine gNone ?_|refine gOn rfl ?_|refine gOff rfl rfl ?_|refine gTup rfl ?_))
                        intro z24 g24
                        rw [i64_id (by omega)] at g24
                        have eday : Fd.day F = (O : Int) - 1 + (mo j i : Nat) + ys j := by
                          show ys (vl F.y) + mo (vl F.y) F.M + vl F.o - 1 = _
                          rw [hY, hO, hM]
                          omega
                        have etick : Fd.tick F = z24 := by
                          unfold Fd.tick
                          rw [eday, hH, hI, hS]
                          omega
                        (repeat(first|refine pSeq ?_|refine pReg ?_|refine sCons ?_|refine sNil ?_|refine pBlock ?_|refine pSkip ?_|refine pExit ?_|refine pRet ?_|refine pCond ?_|refine gNone ?_|refine gOn rfl ?_|refine gOff rfl rfl ?_|refine gTup rfl ?_))
                        intro q hq
                        by_cases hbig : 1099511627776 < z24
                        · obtain rfl : q = true := by rw [hq]; simp <;> omega
                          (repeat(first|refine pSeq ?_|refine pReg ?_|refine sCons ?_|refine sNil ?_|refine pBlock ?_|refine pSkip ?_|refine pExit ?_|refine pRet ?_|refine pCond ?_|refine gNone ?_|refine gOn rfl ?_|refine gOff rfl rfl ?_|refine gTup rfl ?_))
                          rw [pd_some hf P, if_neg (fun h => by have := h.2.2.2.2.2.2.1; rw [etick] at this; unfold Mx at this; omega)]
                          exact ⟨rfl, c0⟩
                        · obtain rfl : q = false := by rw [hq]; simp <;> omega
                          (repeat(first|refine pSeq ?_|refine pReg ?_|refine sCons ?_|refine sNil ?_|refine pBlock ?_|refine pSkip ?_|refine pExit ?_|refine pRet ?_|refine pCond ?_|refine gNone ?_|refine gOn rfl ?_|refine gOff rfl rfl ?_|refine gTup rfl ?_))
                          intro z25 g25
                          rw [i64_id (by omega)] at g25
                          (repeat(first|refine pSeq ?_|refine pReg ?_|refine sCons ?_|refine sNil ?_|refine pBlock ?_|refine pSkip ?_|refine pExit ?_|refine pRet ?_|refine pCond ?_|refine gNone ?_|refine gOn rfl ?_|refine gOff rfl rfl ?_|refine gTup rfl ?_))
                          refine ⟨by decide, ?_⟩
                          intro z26 g26
                          rw [show (7 : Int) = ((7 : Nat) : Int) from rfl, tmod_nn (by omega)] at g26
                          (repeat(first|refine pSeq ?_|refine pReg ?_|refine sCons ?_|refine sNil ?_|refine pBlock ?_|refine pSkip ?_|refine pExit ?_|refine pRet ?_|refine pCond ?_|refine gNone ?_|refine gOn rfl ?_|refine gOff rfl rfl ?_|refine gTup rfl ?_))
                          intro q hq
                          by_cases hwd : z26 = (iw : Int)
                          · obtain rfl : q = false := by rw [hq]; simp <;> omega
                            (repeat(first|refine pSeq ?_|refine pReg ?_|refine sCons ?_|refine sNil ?_|refine pBlock ?_|refine pSkip ?_|refine pExit ?_|refine pRet ?_|refine pCond ?_|refine gNone ?_|refine gOn rfl ?_|refine gOff rfl rfl ?_|refine gTup rfl ?_))
                            rw [pd_some hf P, if_pos ⟨by rw [hY]; omega, by rw [hO]; omega, by rw [hO, hY, hM]; omega, by rw [hH]; omega, by rw [hI]; omega, by rw [hS]; omega, by rw [etick]; unfold Mx; omega, by rw [eday, hwF]; omega⟩]
                            refine ⟨?_, c0⟩
                            unfold pRes
                            rw [show ((Fd.tick F).toNat : Int) = z24 by rw [etick]; omega]
                            rfl
                          · obtain rfl : q = true := by rw [hq]; simp <;> omega
                            (repeat(first|refine pSeq ?_|refine pReg ?_|refine sCons ?_|refine sNil ?_|refine pBlock ?_|refine pSkip ?_|refine pExit ?_|refine pRet ?_|refine pCond ?_|refine gNone ?_|refine gOn rfl ?_|refine gOff rfl rfl ?_|refine gTup rfl ?_))
                            rw [pd_some hf P, if_neg (fun h => by have t2 := h.2.2.2.2.2.2.2; rw [eday, hwF] at t2; exact hwd (by omega))]
                            exact ⟨rfl, c0⟩)
end Go.Vf.S
end

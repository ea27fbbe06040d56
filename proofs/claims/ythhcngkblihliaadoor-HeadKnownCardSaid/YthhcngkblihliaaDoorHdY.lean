import Derived.Test.YthhcngkblihliaaDoorHdV
/- Lines that are folded; a header as groups of lines; a field laid anew is read as it is. (No program.) -/
namespace Go.Vf.S
open Go Go.Vf Go.Proofs
set_option linter.unusedVariables false
set_option linter.unusedSimpArgs false

/-! ### Folds -/

/-- A blank behind a comma. -/
def comB (l : List UInt8) (i : Nat) : Bool := decide (1 ≤ i) && (l[i - 1]? == some 44 && l[i]? == some 32)
/-- The last such place up to 78, else the first one behind; from a place. -/
def fpF (l : List UInt8) : Nat → Nat → Option Nat → Option Nat
  | 0, _, o => o
  | n + 1, i, o => if i < l.length ∧ (i ≤ 78 ∨ o = none) then fpF l n (i + 1) (if comB l i = true then some i else o) else o
def placeF (l : List UInt8) (z : Nat) : Option Nat := fpF l (l.length - z) z none
theorem com_lt {l : List UInt8} {i : Nat} (h : comB l i = true) : 1 ≤ i ∧ i < l.length ∧ l[i]? = some 32 ∧ l[i - 1]? = some 44 := by
  unfold comB at h
  simp only [Bool.and_eq_true, decide_eq_true_eq, beq_iff_eq] at h
  exact ⟨h.1, lt_of_get h.2.2, h.2.2, h.2.1⟩
theorem fp_is {l : List UInt8} {z : Nat} : ∀ (n i : Nat) (o : Option Nat), z ≤ i → (∀ a, o = some a → comB l a = true ∧ z ≤ a) → ∀ a, fpF l n i o = some a → comB l a = true ∧ z ≤ a
  | 0, i, o, hi, ho, a, h => ho a h
  | n + 1, i, o, hi, ho, a, h => by
    rw [fpF] at h
    split at h
    · refine fp_is n (i + 1) _ (by omega) (fun b hb => ?_) a h
      split at hb
      · rename_i hc
        cases hb
        exact ⟨hc, hi⟩
      · exact ho b hb
    · exact ho a h
theorem place_is {l : List UInt8} {z a : Nat} (h : placeF l z = some a) : comB l a = true ∧ z ≤ a := fp_is _ _ _ (Nat.le_refl _) (fun a q => by cases q) a h
theorem fp_stop {l : List UInt8} {n i : Nat} {o : Option Nat} (h : ¬(i < l.length ∧ (i ≤ 78 ∨ o = none))) : fpF l n i o = o := by
  cases n with
  | zero => rfl
  | succ n => rw [fpF, if_neg h]

/-- The lines of one that is folded: from which place on it may be, at first, and then. -/
def foldF (y : Nat) : Nat → Nat → List UInt8 → List (List UInt8)
  | 0, _, l => [l]
  | n + 1, z, l => if 78 < l.length then (match placeF l z with
    | none => [l]
    | some a => l.take a :: foldF y n y (l.drop a)) else [l]
theorem fold_cons (y : Nat) : ∀ (n z : Nat) (l : List UInt8), ∃ a r, foldF y n z l = a :: r
  | 0, _, l => ⟨_, _, rfl⟩
  | n + 1, z, l => by
    rw [foldF]
    split
    · cases placeF l z with
      | none => exact ⟨_, _, rfl⟩
      | some a => exact ⟨_, _, rfl⟩
    · exact ⟨_, _, rfl⟩
theorem fold_flat (y : Nat) : ∀ (n z : Nat) (l : List UInt8), (foldF y n z l).flatten = l
  | 0, _, l => by simp [foldF]
  | n + 1, z, l => by
    rw [foldF]
    split
    · cases placeF l z with
      | none => simp
      | some a => simp [fold_flat y n y (l.drop a)]
    · simp
/-- Each line but the first one begins with a blank; the first one has what stands ahead of the place. -/
theorem fold_tail (y : Nat) : ∀ (n z : Nat) (l : List UInt8) (a : List UInt8) (r : List (List UInt8)), foldF y n z l = a :: r → (∀ x ∈ r, ∃ t, x = 32 :: t) ∧ (∃ t, l = a ++ t) ∧ (r = [] ∧ a = l ∨ z ≤ a.length ∧ 1 ≤ a.length)
  | 0, z, l, a, r, h => by
    simp only [foldF, List.cons.injEq] at h
    obtain ⟨rfl, rfl⟩ := h
    exact ⟨by simp, ⟨[], by simp⟩, .inl ⟨rfl, rfl⟩⟩
  | n + 1, z, l, a, r, h => by
    rw [foldF] at h
    split at h
    · cases hp : placeF l z with
      | none =>
        rw [hp] at h
        simp only [List.cons.injEq] at h
        obtain ⟨rfl, rfl⟩ := h
        exact ⟨by simp, ⟨[], by simp⟩, .inl ⟨rfl, rfl⟩⟩
      | some k =>
        rw [hp] at h
        simp only [List.cons.injEq] at h
        obtain ⟨rfl, rfl⟩ := h
        obtain ⟨h1, h2⟩ := place_is hp
        obtain ⟨h3, h4, h5, -⟩ := com_lt h1
        have hd : ∃ t, l.drop k = 32 :: t := ⟨l.drop (k + 1), by
          rw [List.getElem?_eq_getElem h4] at h5
          rw [List.drop_eq_getElem_cons h4, Option.some.inj h5]⟩
        refine ⟨fun x hx => ?_, ⟨l.drop k, (List.take_append_drop k l).symm⟩, .inr (by rw [List.length_take]; omega)⟩
        obtain ⟨b, q, e⟩ := fold_cons y n y (l.drop k)
        rw [e] at hx
        obtain ⟨i1, ⟨t, i2⟩, i3⟩ := fold_tail y n y (l.drop k) b q e
        rcases List.mem_cons.1 hx with rfl | hx
        · obtain ⟨u, hu⟩ := hd
          rcases i3 with ⟨-, i3⟩ | ⟨-, i3⟩
          · exact ⟨u, by rw [i3, hu]⟩
          · cases x with
            | nil => simp at i3
            | cons c x =>
              rw [hu] at i2
              simp only [List.cons_append, List.cons.injEq] at i2
              exact ⟨x, by rw [← i2.1]⟩
        · exact i1 x hx
    · simp only [List.cons.injEq] at h
      obtain ⟨rfl, rfl⟩ := h
      exact ⟨by simp, ⟨[], by simp⟩, .inl ⟨rfl, rfl⟩⟩
theorem fold_many (y : Nat) : ∀ (n z : Nat) (l : List UInt8), (foldF y n z l).length ≤ l.length + 1
  | 0, _, l => by simp [foldF]
  | n + 1, z, l => by
    rw [foldF]
    split
    · cases hp : placeF l z with
      | none => simp
      | some a =>
        have := fold_many y n y (l.drop a)
        obtain ⟨h3, h4, -⟩ := com_lt (place_is hp).1
        rw [List.length_drop] at this
        simp only [List.length_cons]
        omega
    · simp
theorem jn_len : ∀ ls : List (List UInt8), (jn ls).length = ls.flatten.length + 2 * ls.length
  | [] => rfl
  | a :: ls => by
    rw [jn_cons]
    have := jn_len ls
    simp only [List.length_append, List.length_cons, List.flatten_cons] at this ⊢
    omega
theorem jn_fold (y n z : Nat) (l : List UInt8) : (jn (foldF y n z l)).length ≤ 3 * l.length + 2 := by
  have h1 := jn_len (foldF y n z l)
  have h2 := fold_many y n z l
  rw [fold_flat] at h1
  omega
theorem okl_flat {ls : List (List UInt8)} (h : ls.flatten.all okB = true) : Okl ls := fun a ha => by
  rw [List.all_eq_true] at h ⊢
  exact fun c hc => h c (List.mem_flatten.2 ⟨a, ha, hc⟩)
theorem noE_jn : ∀ {ls : List (List UInt8)}, Okl ls → noE (jn ls) = ls.flatten
  | [], _ => rfl
  | a :: ls, h => by
    rw [jn_cons, noE_app, noE_ok h.cons.1]
    have ih := noE_jn h.cons.2
    rw [List.flatten_cons, ← ih]
    rfl

/-! ### A field laid anew -/

theorem dropR_nm {l : List UInt8} (h : l.all nameB = true) : dropR l = l := by
  unfold dropR
  have : l.reverse.dropWhile wh = l.reverse := by
    cases hr : l.reverse with
    | nil => rfl
    | cons c r =>
      have hc : c ∈ l := by rw [← List.mem_reverse, hr]; simp
      have hn := List.all_eq_true.1 h c hc
      have : wh c = false := by
        have := (nm_byte hn).2
        unfold wh
        rw [decide_eq_false_iff_not]
        rintro (q | q)
        · exact this (by rw [show c = 32 from UInt8.toNat_inj.1 q]; simp)
        · exact this (by rw [show c = 9 from UInt8.toNat_inj.1 q]; simp)
      rw [List.dropWhile_cons, this]
      rfl
  rw [this, List.reverse_reverse]
/-- A group of lines: the first one does not go on, all others do. -/
def Gp (g : List (List UInt8)) : Prop := ∃ h t, g = h :: t ∧ stW h = false ∧ ∀ x ∈ t, stW x = true
theorem lay_field {y n z : Nat} {nm v : List UInt8} (hn : isNm nm = true) (hv : v.all okB = true) (hz : nm.length + 2 ≤ z) : let g := foldF y n z (nm ++ 58 :: 32 :: v)
    fieldF (jn g) = some ⟨nm, trimF v, jn g⟩ ∧ Gp g ∧ Okl g ∧ ∀ x ∈ g, x ≠ [] := by
  intro g
  have hn2 : nm.all nameB = true := by unfold isNm at hn; simp only [Bool.and_eq_true] at hn; exact hn.2
  have ho : nm.all okB = true := by
    rw [List.all_eq_true] at hn2 ⊢
    intro c hc
    have h1 := hn2 c hc
    unfold nameB at h1
    unfold okB
    simp only [decide_eq_true_eq] at h1 ⊢
    omega
  have hf : g.flatten = nm ++ 58 :: 32 :: v := fold_flat _ _ _ _
  have hk : Okl g := okl_flat (by
    rw [hf, List.all_append, List.all_cons, List.all_cons, ho, hv]
    rfl)
  obtain ⟨a, r, e⟩ := fold_cons y n z (nm ++ 58 :: 32 :: v)
  obtain ⟨i1, ⟨t, i2⟩, i3⟩ := fold_tail y n z _ a r e
  have e : g = a :: r := e
  have ha : ∃ u, a = nm ++ 58 :: 32 :: u := by
    rcases i3 with ⟨-, i3⟩ | ⟨i3, -⟩
    · exact ⟨v, i3⟩
    · have h1 : nm ++ [58, 32] = a.take (nm.length + 2) := by
        have := congrArg (List.take (nm.length + 2)) i2
        rw [show nm ++ 58 :: 32 :: v = (nm ++ [58, 32]) ++ v by simp, List.take_left' (by simp), List.take_append_of_le_length (by omega)] at this
        exact this
      refine ⟨a.drop (nm.length + 2), ?_⟩
      rw [show nm ++ 58 :: 32 :: a.drop (nm.length + 2) = (nm ++ [58, 32]) ++ a.drop (nm.length + 2) by simp, h1, List.take_append_drop]
  obtain ⟨u, rfl⟩ := ha
  have hc : (58 : UInt8) ∉ nm := fun q => (nm_byte (List.all_eq_true.1 hn2 _ q)).2 (by simp)
  have huv : u ++ r.flatten = v := by
    rw [e, List.flatten_cons] at hf
    simp only [List.append_assoc, List.cons_append] at hf
    have := List.append_cancel_left hf
    simpa using this
  have hcut : cutF 58 (jn g) = (nm, 32 :: (u ++ 13 :: 10 :: jn r), true) := by
    rw [e, jn_cons, show nm ++ 58 :: 32 :: u ++ 13 :: 10 :: jn r = nm ++ 58 :: (32 :: (u ++ 13 :: 10 :: jn r)) by simp, cut_at hc]
  have hku : u.all okB = true := by
    have := (e ▸ hk : Okl (_ :: r)).cons.1
    rw [List.all_append, List.all_cons, List.all_cons] at this
    simp only [Bool.and_eq_true] at this
    exact this.2.2.2
  have hbe : trimF (noE (32 :: (u ++ 13 :: 10 :: jn r))) = trimF v := by
    have h1 : noE (32 :: (u ++ 13 :: 10 :: jn r)) = 32 :: v := by
      rw [show (32 :: (u ++ 13 :: 10 :: jn r) : List UInt8) = [32] ++ (u ++ ([13, 10] ++ jn r)) by simp, noE_app, noE_app, noE_app, noE_ok hku, noE_jn (e ▸ hk : Okl (_ :: r)).cons.2, ← huv]
      rfl
    rw [h1]
    rfl
  refine ⟨?_, ⟨_, r, e, ?_, fun x hx => ?_⟩, hk, fun x hx => ?_⟩
  · unfold fieldF
    rw [hcut]
    dsimp only
    rw [dropR_nm hn2, hn, hbe]
    rfl
  · cases nm with
    | nil => cases hn
    | cons c nm =>
      show wh c = false
      have := (nm_byte (List.all_eq_true.1 hn2 c (by simp))).2
      unfold wh
      rw [decide_eq_false_iff_not]
      rintro (q | q)
      · exact this (by rw [show c = 32 from UInt8.toNat_inj.1 q]; simp)
      · exact this (by rw [show c = 9 from UInt8.toNat_inj.1 q]; simp)
  · obtain ⟨t, rfl⟩ := i1 x hx
    rfl
  · rw [e] at hx
    rcases List.mem_cons.1 hx with rfl | hx
    · simp
    · obtain ⟨t, rfl⟩ := i1 x hx
      simp

/-! ### A header, as groups -/

def Gs : List (List (List UInt8)) → List Fld → Prop
  | [], [] => True
  | g :: gs, f :: fs => (Gp g ∧ fieldF (jn g) = some f) ∧ Gs gs fs
  | _, _ => False
theorem Gs.app : ∀ {a c : List (List (List UInt8))} {b d : List Fld}, Gs a b → Gs c d → Gs (a ++ c) (b ++ d)
  | [], c, [], d, _, h => h
  | g :: gs, c, f :: fs, d, h1, h2 => ⟨h1.1, Gs.app h1.2 h2⟩
  | [], c, _ :: _, d, h, _ => h.elim
  | _ :: _, c, [], d, h, _ => h.elim
theorem Gs.split : ∀ {gs : List (List (List UInt8))} {b d : List Fld}, Gs gs (b ++ d) → ∃ a c, gs = a ++ c ∧ Gs a b ∧ Gs c d
  | gs, [], d, h => ⟨[], gs, rfl, trivial, h⟩
  | [], _ :: _, d, h => h.elim
  | g :: gs, f :: b, d, h => by
    obtain ⟨a, c, rfl, h1, h2⟩ := Gs.split h.2
    exact ⟨g :: a, c, rfl, ⟨h.1, h1⟩, h2⟩
theorem field_first {h : List UInt8} {t : List (List UInt8)} {f : Fld} (hf : fieldF (jn (h :: t)) = some f) : stW h = false := by
  cases h with
  | nil => rfl
  | cons c h =>
    show wh c = false
    rw [Bool.eq_false_iff]
    intro hw
    have hc : c ≠ 58 := fun q => by subst q; exact absurd hw (by decide)
    have hm := (field_raw hf).2.1
    have hn : f.n = dropR (cutF 58 (jn ((c :: h) :: t))).1 := by
      unfold fieldF at hf
      split at hf
      · cases hf; rfl
      · cases hf
    have h1 : ∃ u, (cutF 58 (jn ((c :: h) :: t))).1 = c :: u := by
      rw [jn_cons, List.cons_append]
      unfold cutF
      split
      · rw [List.takeWhile_cons]
        simp only [bne_iff_ne, ne_eq, hc, not_false_eq_true, if_true]
        exact ⟨_, rfl⟩
      · exact ⟨_, rfl⟩
    obtain ⟨u, hu⟩ := h1
    rw [hu, dropR_cons, hw] at hn
    split at hn
    · rw [hn] at hm
      cases hm
    · rw [hn] at hm
      unfold isNm at hm
      simp only [List.all_cons, Bool.and_eq_true] at hm
      have hb := hm.2.1
      unfold nameB at hb
      unfold wh at hw
      simp only [decide_eq_true_eq] at hb hw
      omega
theorem fields_gs : ∀ (n : Nat) (l : List (List UInt8)) (fs : List Fld), fieldsF n l = some fs → ∃ gs, l = gs.flatten ∧ Gs gs fs
  | n, [], fs, h => by
    unfold fieldsF at h
    cases h
    exact ⟨[], rfl, trivial⟩
  | 0, a :: t, fs, h => by
    unfold fieldsF at h
    cases h
  | n + 1, a :: t, fs, h => by
    rw [fieldsF] at h
    cases hf : fieldF (jn (grp a t)) with
    | none => rw [hf] at h; cases h
    | some f =>
      rw [hf] at h
      dsimp only at h
      cases hg : fieldsF n (t.dropWhile stW) with
      | none => rw [hg] at h; cases h
      | some g =>
        rw [hg] at h
        cases h
        obtain ⟨gs, e1, e2⟩ := fields_gs n _ g hg
        refine ⟨grp a t :: gs, by rw [List.flatten_cons, ← e1, grp_split], ⟨⟨a, _, rfl, field_first hf, fun x hx => ?_⟩, hf⟩, e2⟩
        exact List.all_eq_true.1 (List.all_takeWhile (l := t) (p := stW)) x hx
theorem while_all {p : List UInt8 → Bool} {u : List (List UInt8)} : ∀ {t : List (List UInt8)}, (∀ x ∈ t, p x = true) → (∀ a r, u = a :: r → p a = false) → (t ++ u).takeWhile p = t ∧ (t ++ u).dropWhile p = u
  | [], _, h2 => by
    cases u with
    | nil => exact ⟨rfl, rfl⟩
    | cons a r =>
      have := h2 a r rfl
      simp [this]
  | x :: t, h1, h2 => by
    have hx := h1 x (by simp)
    obtain ⟨e1, e2⟩ := while_all (u := u) (t := t) (fun y hy => h1 y (by simp [hy])) h2
    rw [List.cons_append, List.takeWhile_cons, List.dropWhile_cons, hx, e1, e2]
    exact ⟨rfl, rfl⟩
theorem gs_first : ∀ {gs : List (List (List UInt8))} {fs : List Fld}, Gs gs fs → ∀ a r, gs.flatten = a :: r → stW a = false
  | [], [], _, a, r, h => by cases h
  | g :: gs, f :: fs, h, a, r, e => by
    obtain ⟨x, t, rfl, h2, -⟩ := h.1.1
    simp only [List.flatten_cons, List.cons_append, List.cons.injEq] at e
    rw [← e.1]
    exact h2
  | [], _ :: _, h, _, _, _ => h.elim
  | _ :: _, [], h, _, _, _ => h.elim
theorem gs_fields : ∀ {gs : List (List (List UInt8))} {fs : List Fld}, Gs gs fs → fieldsF gs.flatten.length gs.flatten = some fs
  | [], [], _ => rfl
  | g :: gs, f :: fs, h => by
    obtain ⟨⟨⟨x, t, rfl, h2, h3⟩, h4⟩, h5⟩ := h
    obtain ⟨e1, e2⟩ := while_all (p := stW) (u := gs.flatten) h3 (gs_first h5)
    rw [List.flatten_cons, List.cons_append, List.length_cons, fields_cons (Nat.le_refl _)]
    unfold grp
    rw [e1, e2, h4, gs_fields h5]
  | [], _ :: _, h => h.elim
  | _ :: _, [], h => h.elim

/-- A field laid among a message's fields: it is read as it is. -/
theorem mes_lay {ls g : List (List UInt8)} {m : Msg} {a x b : List Fld} {f : Fld} (hk : Okl ls) (h : mesF ls = some m) (he : m.fs = a ++ (x ++ b)) (hg : Gp g) (hf : fieldF (jn g) = some f) (ho : Okl g) (hn : ∀ y ∈ g, y ≠ []) :
    ∃ ls', Okl ls' ∧ mesF ls' = some ⟨a ++ f :: b, m.b, m.e⟩ := by
  obtain ⟨h1, h2, h3⟩ := mes_fields h
  obtain ⟨gs, e1, e2⟩ := fields_gs _ _ _ h1
  rw [he] at e2
  obtain ⟨ga, gr, rfl, ea, er⟩ := Gs.split e2
  obtain ⟨gx, gb, rfl, ex, eb⟩ := Gs.split er
  have hall : ∀ y ∈ (ga ++ g :: gb).flatten, isN y = true ∧ y.all okB = true := by
    intro y hy
    have hin : y ∈ hdr ls ∨ y ∈ g := by
      rw [e1]
      simp only [List.flatten_append, List.flatten_cons, List.mem_append] at hy ⊢
      rcases hy with q | q | q
      · exact .inl (.inl q)
      · exact .inr q
      · exact .inl (.inr (.inr q))
    rcases hin with q | q
    · have q1 := hdr_ne y q
      refine ⟨by cases y <;> simp_all [isN], hk y ?_⟩
      rw [← hdr_beh ls]
      exact List.mem_append_left _ q
    · have q1 := hn y q
      exact ⟨by cases y <;> simp_all [isN], ho y q⟩
  have hb : ∀ u r, beh ls = u :: r → isN u = false := by
    intro u r e
    unfold beh at e
    have := List.head?_dropWhile_not isN ls
    rw [e] at this
    simpa using this
  obtain ⟨w1, w2⟩ := while_all (p := isN) (u := beh ls) (t := (ga ++ g :: gb).flatten) (fun y hy => (hall y hy).1) hb
  refine ⟨(ga ++ g :: gb).flatten ++ beh ls, ?_, ?_⟩
  · refine Okl.app (fun y hy => (hall y hy).2) (hk.sub fun y hy => ?_)
    rw [← hdr_beh ls]
    exact List.mem_append_right _ hy
  · have hG : Gs (ga ++ g :: gb) (a ++ f :: b) := ea.app ⟨⟨hg, hf⟩, eb⟩
    have h4 : hdr ((ga ++ g :: gb).flatten ++ beh ls) = (ga ++ g :: gb).flatten := w1
    have h5 : beh ((ga ++ g :: gb).flatten ++ beh ls) = beh ls := w2
    unfold mesF
    rw [h4, gs_fields hG]
    have h6 : bdy ((ga ++ g :: gb).flatten ++ beh ls) = m.b := by rw [h2]; unfold bdy; rw [h5]
    have h7 : early ((ga ++ g :: gb).flatten ++ beh ls) = m.e := by rw [h3]; unfold early; rw [h5]
    dsimp only
    rw [h6, h7]
end Go.Vf.S

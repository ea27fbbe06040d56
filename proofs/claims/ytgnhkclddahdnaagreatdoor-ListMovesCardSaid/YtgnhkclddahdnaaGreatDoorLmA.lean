import Derived.Test.YtgnhkclddahdnaaGreatDoorLjC
/- Lists of addresses, pure: others in the addresses' places, place by place. -/
namespace Go.Vf.S
open Go Go.Vf
set_option linter.unusedVariables false
set_option linter.unusedSimpArgs false
set_option maxRecDepth 10000

/-- Each address that isn't the same as the one wanted is written anew. -/
def putT : List Tok → List AA → List Tok
  | .a l :: T, y :: ys => .a (if sameF (parseF l).1 (parseF l).2.1 y.1 y.2 = true then l else txA y) :: putT T ys
  | .g l :: T, ys => .g l :: putT T ys
  | .d l :: T, ys => .d l :: putT T ys
  | T, _ => T
theorem putT_g (l : List UInt8) (T : List Tok) (ys : List AA) : putT (.g l :: T) ys = .g l :: putT T ys := by cases ys <;> rfl
theorem putT_d (l : List UInt8) (T : List Tok) (ys : List AA) : putT (.d l :: T) ys = .d l :: putT T ys := by cases ys <;> rfl
theorem sub_put : ∀ (T : List Tok) (ys : List AA), (∀ y ∈ ys, mayA y = true) → Sub T (putT T ys)
  | [], ys, h => by cases ys <;> exact trivial
  | .g l :: T, ys, h => by rw [putT_g]; exact ⟨rfl, sub_put T ys h⟩
  | .d l :: T, ys, h => by rw [putT_d]; exact ⟨rfl, sub_put T ys h⟩
  | .a l :: T, [], h => Sub.refl _
  | .a l :: T, y :: ys, h => by
    refine ⟨?_, sub_put T ys fun y hy => h y (List.mem_cons_of_mem _ hy)⟩
    split
    · exact .inl rfl
    · exact .inr (by rw [parse_text (h y (List.mem_cons_self ..))]; simp)
theorem lg_put : ∀ (T : List Tok) (ys : List AA), (∀ y ∈ ys, mayA y = true) → lgT T = false → lgT (putT T ys) = false
  | [], ys, h, k => by cases ys <;> exact k
  | .g l :: T, ys, h, k => by rw [putT_g]; exact lg_put T ys h k
  | .d l :: T, ys, h, k => by
    rw [putT_d]
    have k1 : (lgK (.d l) || lgT T) = false := k
    rw [Bool.or_eq_false_iff] at k1
    show (lgK (.d l) || lgT (putT T ys)) = false
    rw [k1.1, lg_put T ys h k1.2]
    rfl
  | .a l :: T, [], h, k => k
  | .a l :: T, y :: ys, h, k => by
    have k1 : (lgK (.a l) || lgT T) = false := k
    rw [Bool.or_eq_false_iff] at k1
    show (lgK (.a (if sameF (parseF l).1 (parseF l).2.1 y.1 y.2 = true then l else txA y)) || lgT (putT T ys)) = false
    rw [lg_put T ys (fun y hy => h y (List.mem_cons_of_mem _ hy)) k1.2, Bool.or_false]
    split
    · exact k1.1
    · show decide ((parseF (txA y)).2.2 = 3) = false
      rw [parse_text (h y (List.mem_cons_self ..))]
      rfl
theorem len_put : ∀ (T : List Tok) (ys : List AA) (n m : Nat), (spT n (putT T ys)).length = (spT m T).length
  | [], ys, n, m => by cases ys <;> rfl
  | .g l :: T, ys, n, m => by rw [putT_g]; exact len_put T ys _ _
  | .d l :: T, ys, n, m => by rw [putT_d]; exact len_put T ys _ _
  | .a l :: T, [], n, m => by
    have : ∀ (T : List Tok) (n m : Nat), (spT n T).length = (spT m T).length := fun T => by
      induction T with
      | nil => intro n m; rfl
      | cons t T ih =>
        intro n m
        cases t with
        | g l => exact ih _ _
        | d l => exact ih _ _
        | a l => exact congrArg (· + 1) (ih _ _)
    exact this _ _ _
  | .a l :: T, y :: ys, n, m => congrArg (· + 1) (len_put T ys _ _)
/-- What is put together is their text. -/
theorem out_put : ∀ (T : List Tok) (A G : List UInt8) (ys : List AA), ys.length = (spT (A.length + G.length) T).length → outF (A ++ (G ++ flT T)) A.length (spT (A.length + G.length) T) ys = G ++ flT (putT T ys)
  | [], A, G, ys, h => by
    have : putT [] ys = [] := by cases ys <;> rfl
    rw [this]
    show (A ++ (G ++ flT [])).drop A.length = _
    rw [List.drop_left]
  | .g l :: T, A, G, ys, h => by
    have ih := out_put T A (G ++ l) ys (by rw [List.length_append, ← Nat.add_assoc]; exact h)
    rw [List.length_append, ← Nat.add_assoc, List.append_assoc] at ih
    rw [putT_g]
    show outF (A ++ (G ++ (l ++ flT T))) A.length (spT (A.length + G.length + l.length) T) ys = G ++ (l ++ flT (putT T ys))
    rw [ih, List.append_assoc]
  | .d l :: T, A, G, ys, h => by
    have ih := out_put T A (G ++ l) ys (by rw [List.length_append, ← Nat.add_assoc]; exact h)
    rw [List.length_append, ← Nat.add_assoc, List.append_assoc] at ih
    rw [putT_d]
    show outF (A ++ (G ++ (l ++ flT T))) A.length (spT (A.length + G.length + l.length) T) ys = G ++ (l ++ flT (putT T ys))
    rw [ih, List.append_assoc]
  | .a l :: T, A, G, [], h => by cases h
  | .a l :: T, A, G, y :: ys, h => by
    have e1 : A ++ (G ++ flT (.a l :: T)) = (A ++ G ++ l) ++ ([] ++ flT T) := by
      show A ++ (G ++ (l ++ flT T)) = _
      simp only [List.append_assoc, List.nil_append]
    have hl : (A ++ G ++ l).length = A.length + G.length + l.length := by simp only [List.length_append]
    have ih := out_put T (A ++ G ++ l) [] ys (by
      rw [hl]
      exact Nat.succ.inj h)
    rw [hl, ← e1] at ih
    show ((A ++ (G ++ flT (.a l :: T))).drop A.length).take (A.length + G.length - A.length) ++ (if sameF (parseF l).1 (parseF l).2.1 y.1 y.2 = true then ((A ++ (G ++ flT (.a l :: T))).drop (A.length + G.length)).take (A.length + G.length + l.length - (A.length + G.length)) else txA y) ++ outF (A ++ (G ++ flT (.a l :: T))) (A.length + G.length + l.length) (spT (A.length + G.length + l.length + 0) T) ys = _
    have e3 : spT (A.length + G.length + l.length) T = spT (A.length + G.length + l.length + 0) T := rfl
    rw [show (A.length + G.length + l.length + ([] : List UInt8).length) = A.length + G.length + l.length + 0 from rfl] at ih
    rw [ih]
    have e4 : (A ++ (G ++ flT (.a l :: T))).drop A.length = G ++ flT (.a l :: T) := List.drop_left
    have e5 : (A ++ (G ++ flT (.a l :: T))).drop (A.length + G.length) = l ++ flT T := by
      rw [← List.drop_drop, e4, List.drop_left]
      rfl
    rw [e4, e5, Nat.add_sub_cancel_left, Nat.add_sub_cancel_left, List.take_left, List.take_left]
    show G ++ (if _ then l else txA y) ++ ([] ++ flT (putT T ys)) = G ++ ((if _ then l else txA y) ++ flT (putT T ys))
    rw [List.append_assoc]
    rfl

/-- Place by place: what is between is as it was; each new address is the one wanted; one that is the same already stays. -/
def MvR (s o : List UInt8) : Nat → Nat → List Spt → List Spt → List AA → Prop
  | p, q, [], [], [] => p ≤ s.length ∧ q ≤ o.length ∧ s.drop p = o.drop q
  | p, q, x :: xs, z :: zs, y :: ys => (p ≤ x.f ∧ x.f < x.t ∧ x.t ≤ s.length) ∧ (q ≤ z.f ∧ z.f ≤ z.t ∧ z.t ≤ o.length) ∧ (s.drop p).take (x.f - p) = (o.drop q).take (z.f - q) ∧ sameF z.a z.d y.1 y.2 = true ∧
      parseF ((s.drop x.f).take (x.t - x.f)) = (x.a, x.d, 0) ∧ (sameF x.a x.d y.1 y.2 = true → (s.drop x.f).take (x.t - x.f) = (o.drop z.f).take (z.t - z.f)) ∧ MvR s o x.t z.t xs zs ys
  | _, _, _, _, _ => False
theorem same_refl (a d : List UInt8) : sameF a d a d = true := by unfold sameF; simp
/-- Every address reads with no fault. -/
def okT : List Tok → Prop
  | [] => True
  | .a l :: T => (parseF l).2.2 = 0 ∧ l ≠ [] ∧ okT T
  | _ :: T => okT T
theorem mv_put : ∀ (T : List Tok) (A B G : List UInt8) (ys : List AA), okT T → (∀ y ∈ ys, mayA y = true) → ys.length = (spT (A.length + G.length) T).length →
    MvR (A ++ (G ++ flT T)) (B ++ (G ++ flT (putT T ys))) A.length B.length (spT (A.length + G.length) T) (spT (B.length + G.length) (putT T ys)) ys
  | [], A, B, G, [], ho, hm, h => by
    show A.length ≤ _ ∧ B.length ≤ _ ∧ (A ++ (G ++ flT [])).drop A.length = (B ++ (G ++ flT [])).drop B.length
    refine ⟨by simp only [List.length_append]; omega, by simp only [List.length_append]; omega, ?_⟩
    rw [List.drop_left, List.drop_left]
  | [], A, B, G, y :: ys, ho, hm, h => by cases h
  | .g l :: T, A, B, G, ys, ho, hm, h => by
    have ih := mv_put T A B (G ++ l) ys ho hm (by rw [List.length_append, ← Nat.add_assoc]; exact h)
    rw [List.length_append, ← Nat.add_assoc, ← Nat.add_assoc, List.append_assoc, List.append_assoc] at ih
    rw [putT_g]
    exact ih
  | .d l :: T, A, B, G, ys, ho, hm, h => by
    have ih := mv_put T A B (G ++ l) ys ho hm (by rw [List.length_append, ← Nat.add_assoc]; exact h)
    rw [List.length_append, ← Nat.add_assoc, ← Nat.add_assoc, List.append_assoc, List.append_assoc] at ih
    rw [putT_d]
    exact ih
  | .a l :: T, A, B, G, [], ho, hm, h => by cases h
  | .a l :: T, A, B, G, y :: ys, ho, hm, h => by
    obtain ⟨h0, h1, h2⟩ := ho
    have hpos := List.length_pos_iff.2 h1
    obtain ⟨l', hl'⟩ : ∃ l', l' = if sameF (parseF l).1 (parseF l).2.1 y.1 y.2 = true then l else txA y := ⟨_, rfl⟩
    have ep : putT (.a l :: T) (y :: ys) = .a l' :: putT T ys := by rw [hl']; rfl
    have e1 : A ++ (G ++ flT (.a l :: T)) = (A ++ G ++ l) ++ ([] ++ flT T) := by
      show A ++ (G ++ (l ++ flT T)) = _
      simp only [List.append_assoc, List.nil_append]
    have e2 : B ++ (G ++ flT (.a l' :: putT T ys)) = (B ++ G ++ l') ++ ([] ++ flT (putT T ys)) := by
      show B ++ (G ++ (l' ++ flT (putT T ys))) = _
      simp only [List.append_assoc, List.nil_append]
    have hl : (A ++ G ++ l).length = A.length + G.length + l.length := by simp only [List.length_append]
    have hk : (B ++ G ++ l').length = B.length + G.length + l'.length := by simp only [List.length_append]
    have ih := mv_put T (A ++ G ++ l) (B ++ G ++ l') [] ys h2 (fun y hy => hm y (List.mem_cons_of_mem _ hy)) (by
      rw [hl]
      exact Nat.succ.inj h)
    rw [hl, hk, ← e1, ← e2] at ih
    rw [ep]
    have a4 : (A ++ (G ++ flT (.a l :: T))).drop A.length = G ++ flT (.a l :: T) := List.drop_left
    have a5 : (A ++ (G ++ flT (.a l :: T))).drop (A.length + G.length) = l ++ flT T := by
      rw [← List.drop_drop, a4, List.drop_left]
      rfl
    have b4 : (B ++ (G ++ flT (.a l' :: putT T ys))).drop B.length = G ++ flT (.a l' :: putT T ys) := List.drop_left
    have b5 : (B ++ (G ++ flT (.a l' :: putT T ys))).drop (B.length + G.length) = l' ++ flT (putT T ys) := by
      rw [← List.drop_drop, b4, List.drop_left]
      rfl
    have la : (A ++ (G ++ flT (.a l :: T))).length = A.length + G.length + l.length + (flT T).length := by rw [e1]; simp only [List.length_append, List.length_nil]; omega
    have lb : (B ++ (G ++ flT (.a l' :: putT T ys))).length = B.length + G.length + l'.length + (flT (putT T ys)).length := by rw [e2]; simp only [List.length_append, List.length_nil]; omega
    have c1 : ((A ++ (G ++ flT (.a l :: T))).drop (A.length + G.length)).take (A.length + G.length + l.length - (A.length + G.length)) = l := by rw [a5, Nat.add_sub_cancel_left, List.take_left]
    have c2 : ((B ++ (G ++ flT (.a l' :: putT T ys))).drop (B.length + G.length)).take (B.length + G.length + l'.length - (B.length + G.length)) = l' := by rw [b5, Nat.add_sub_cancel_left, List.take_left]
    refine ⟨⟨Nat.le_add_right _ _, by dsimp only; omega, by dsimp only; rw [la]; omega⟩, ⟨Nat.le_add_right _ _, Nat.le_add_right _ _, by dsimp only; rw [lb]; omega⟩, ?_, ?_, ?_, ?_, ih⟩
    · dsimp only
      rw [a4, b4, Nat.add_sub_cancel_left, Nat.add_sub_cancel_left, List.take_left, List.take_left]
    · dsimp only
      rw [hl']
      split
      · rename_i q; exact q
      · rw [parse_text (hm y (List.mem_cons_self ..))]
        exact same_refl _ _
    · dsimp only
      rw [c1]
      exact Prod.ext rfl (Prod.ext rfl h0)
    · intro hs
      dsimp only at hs ⊢
      rw [c1, c2, hl', if_pos hs]

/-- Every address that is read as one reads. -/
def okA (T : List Tok) : Prop := ∀ l, Tok.a l ∈ T → (parseF l).2.2 ≠ 5
def Red (q : List UInt8 → PR) : Prop := ∀ l T r, q l = some (T, r) → okA T
theorem Red.bind {p : PR} {q : List UInt8 → PR} {T : List Tok} {r : List UInt8} (hp : ∀ T r, p = some (T, r) → okA T) (hq : Red q) (h : bindP p q = some (T, r)) : okA T := by
  obtain ⟨T1, r1, T2, h1, h2, rfl⟩ := bindP_is h
  intro l hl
  rcases List.mem_append.1 hl with x | x
  · exact hp _ _ h1 l x
  · exact hq _ _ _ h2 l x
theorem red_bl : Red blP := fun l T r h => by
  cases h
  intro l hl
  simp at hl
theorem red_by (c : UInt8) : Red (byP c) := fun l T r h => by
  unfold byP at h
  split at h
  · cases h
    intro l hl
    simp at hl
  · cases h
theorem red_ad : Red adP := fun l T r h => by
  unfold adP at h
  split at h
  · cases h
  · rename_i hn
    cases h
    intro l hl
    simp only [List.mem_singleton, Tok.a.injEq] at hl
    rw [hl]
    exact hn
theorem red_dm : Red dmP := fun l T r h => by
  unfold dmP at h
  split at h
  · cases h
  · cases h
    intro l hl
    simp at hl
theorem red_adr : Red adrP := fun l T r h => Red.bind (red_ad l) red_bl h
theorem red_nil {l : List UInt8} {T : List Tok} {r : List UInt8} (h : (some (([] : List Tok), l) : PR) = some (T, r)) : okA T := by
  cases h
  intro l hl
  simp at hl
theorem red_rt : ∀ f, Red (rtP f)
  | 0 => fun l T r h => by cases h
  | f + 1 => fun l T r h => by
    rw [rtP] at h
    refine Red.bind (red_by 64 l) (fun l T r h => Red.bind (red_dm l) (fun l T r h => ?_) h) h
    split at h
    · exact Red.bind (red_by 44 l) (red_rt f) h
    · exact red_by 58 l T r h
theorem red_box : Red boxP := fun l T r h => Red.bind (red_adr l) (fun l T r h => Red.bind (red_by 62 l) red_bl h) h
theorem red_angT : Red angT := fun l T r h => by
  unfold angT at h
  split at h
  · exact Red.bind (red_rt _ l) (fun l T r h => Red.bind (red_bl l) red_box h) h
  · exact red_box _ _ _ h
theorem red_ang : Red angP := fun l T r h => Red.bind (red_bl l) red_angT h
theorem red_ph : ∀ (f : Nat) (l : List UInt8), okA (phP f l).1
  | 0, l => fun l hl => by cases hl
  | f + 1, l => by
    rw [phP]
    split
    · intro l hl
      cases hl
    · have ih := red_ph f ((l.drop (wordN l)).drop (blN (l.drop (wordN l))))
      intro m hm
      dsimp only at hm
      rw [List.mem_cons, List.mem_cons] at hm
      rcases hm with h | h | h
      · cases h
      · cases h
      · exact ih m h
theorem red_tl {grp : List UInt8 → PR} (hg : Red grp) (w : Bool) : Red (tlP grp w) := fun l T r h => by
  unfold tlP at h
  split at h
  · exact Red.bind (red_by 60 l) red_ang h
  · split at h
    · split at h
      · exact Red.bind (red_by 58 l) hg h
      · cases h
    · exact red_nil h
theorem red_mb {grp : List UInt8 → PR} (hg : Red grp) : Red (mbP grp) := fun l T r h => by
  unfold mbP at h
  split at h
  · exact red_adr _ _ _ h
  · refine Red.bind (fun T r h => ?_) (red_tl hg _) h
    have := red_ph (l.length + 1) l
    rw [Option.some.inj h] at this
    exact this
theorem red_mem {grp : List UInt8 → PR} (hg : Red grp) : Red (memP grp) := fun l T r h => Red.bind (red_bl l) (red_mb hg) h
theorem red_ms {m : List UInt8 → PR} (hm : Red m) : ∀ f, Red (msP m f)
  | 0 => fun l T r h => by cases h
  | f + 1 => fun l T r h => by
    rw [msP] at h
    refine Red.bind (hm l) (fun l T r h => ?_) h
    split at h
    · exact Red.bind (red_by 44 l) (red_ms hm f) h
    · exact red_nil h
theorem red_no : Red noP := fun l T r h => by cases h
theorem red_gr : Red grP := fun l T r h => Red.bind (fun T r h => red_ms (red_mem red_no) _ _ _ _ h) (fun l T r h => Red.bind (red_by 59 l) red_bl h) h
theorem tok_red {l : List UInt8} {T : List Tok} (h : tokF l = some T) : okA T := by
  unfold tokF at h
  split at h
  · rename_i h1
    cases h
    exact red_ms (red_mem red_gr) _ _ _ _ h1
  · cases h
theorem ok_tok : ∀ {T : List Tok}, okA T → lgT T = false → okT T
  | [], _, _ => trivial
  | .g l :: T, h, k => ok_tok (T := T) (fun l hl => h l (List.mem_cons_of_mem _ hl)) k
  | .d l :: T, h, k => by
    have k1 : (lgK (.d l) || lgT T) = false := k
    rw [Bool.or_eq_false_iff] at k1
    exact ok_tok (T := T) (fun l hl => h l (List.mem_cons_of_mem _ hl)) k1.2
  | .a l :: T, h, k => by
    have k1 : (lgK (.a l) || lgT T) = false := k
    rw [Bool.or_eq_false_iff] at k1
    have h5 := h l (List.mem_cons_self ..)
    have h3 : (parseF l).2.2 ≠ 3 := by have := k1.1; unfold lgK at this; simpa using this
    have h0 : (parseF l).2.2 = 0 := by
      by_cases q : (parseF l).2.2 = 0
      · exact q
      · rcases parse_err q with e | e
        · rw [e] at h3; exact absurd rfl h3
        · rw [e] at h5; exact absurd rfl h5
    refine ⟨h0, fun e => ?_, ok_tok (T := T) (fun l hl => h l (List.mem_cons_of_mem _ hl)) k1.2⟩
    rw [e] at h5
    exact h5 (by decide +kernel)
theorem put_own : ∀ (T : List Tok) (n : Nat), putT T ((spT n T).map fun x => (x.a, x.d)) = T
  | [], n => rfl
  | .g l :: T, n => by rw [putT_g]; exact congrArg _ (put_own T _)
  | .d l :: T, n => by rw [putT_d]; exact congrArg _ (put_own T _)
  | .a l :: T, n => by
    show Tok.a (if sameF (parseF l).1 (parseF l).2.1 (parseF l).1 (parseF l).2.1 = true then l else _) :: putT T ((spT (n + l.length) T).map fun x => (x.a, x.d)) = _
    rw [if_pos (same_refl _ _), put_own]
theorem own_may : ∀ {T : List Tok} {n : Nat}, okT T → ∀ x ∈ spT n T, mayF x.a x.d = true
  | [], n, h, x, hx => by cases hx
  | .g l :: T, n, h, x, hx => own_may (T := T) h x hx
  | .d l :: T, n, h, x, hx => own_may (T := T) h x hx
  | .a l :: T, n, h, x, hx => by
    rcases List.mem_cons.1 hx with rfl | hx
    · exact parse_may h.1
    · exact own_may (T := T) h.2.2 x hx
/-- All of it: what putting gives, and how that reads. -/
theorem moves {l : List UInt8} {T : List Tok} {ys : List AA} (hT : tokF l = some T) (hlg : lgT T = false) (h64 : (spT 0 T).length ≤ 64) (hm : ∀ y ∈ ys, mayA y = true) (hn : ys.length = (spT 0 T).length) :
    ∃ o zs, o = outF l 0 (spT 0 T) ys ∧ putF l ys = (o, 0) ∧ findF o = (zs, 0) ∧ zs.length = (spT 0 T).length ∧ MvR l o 0 0 (spT 0 T) zs ys := by
  have hfl := tok_cat hT
  have hF : findF l = (spT 0 T, 0) := by
    unfold findF
    rw [hT]
    dsimp only
    rw [hlg, if_neg (by simp), if_neg (by omega)]
  have ho := out_put T [] [] ys hn
  have hmv := mv_put T [] [] [] ys (ok_tok (tok_red hT) hlg) hm hn
  rw [List.nil_append, List.nil_append, List.nil_append, hfl] at ho
  rw [List.nil_append, List.nil_append, List.nil_append, List.nil_append, hfl] at hmv
  have hT2 := tok_sub hT (sub_put T ys hm)
  have hl2 := lg_put T ys hm hlg
  have hle := len_put T ys 0 0
  refine ⟨flT (putT T ys), spT 0 (putT T ys), ho.symm, ?_, ?_, hle, hmv⟩
  · unfold putF
    rw [hF]
    dsimp only
    have ha : ys.all mayA = true := List.all_eq_true.2 hm
    rw [if_neg (by omega), ha, if_neg (by simp), if_neg (by omega), if_neg (by omega)]
    exact congrArg (·, 0) ho
  · unfold findF
    rw [hT2]
    dsimp only
    rw [hl2, if_neg (by simp), if_neg (by omega)]
theorem moves_own {l : List UInt8} {T : List Tok} (hT : tokF l = some T) (hlg : lgT T = false) (h64 : (spT 0 T).length ≤ 64) : putF l ((spT 0 T).map fun x => (x.a, x.d)) = (l, 0) := by
  have hfl := tok_cat hT
  have hF : findF l = (spT 0 T, 0) := by
    unfold findF
    rw [hT]
    dsimp only
    rw [hlg, if_neg (by simp), if_neg (by omega)]
  have ho := out_put T [] [] ((spT 0 T).map fun x => (x.a, x.d)) (List.length_map _)
  rw [List.nil_append, List.nil_append, List.nil_append, hfl, put_own, hfl] at ho
  have ha : ((spT 0 T).map fun x => (x.a, x.d)).all mayA = true := List.all_eq_true.2 fun y hy => by
    obtain ⟨x, hx, rfl⟩ := List.mem_map.1 hy
    exact own_may (ok_tok (tok_red hT) hlg) x hx
  unfold putF
  rw [hF]
  dsimp only
  rw [if_neg (by omega), ha, if_neg (by simp), if_neg (by omega), if_neg (by rw [List.length_map]; omega)]
  exact congrArg (·, 0) ho
theorem ord_mem {L : Nat} : ∀ {xs : List Spt} {n : Nat}, OrdS L n xs → ∀ x ∈ xs, x.a.length ≤ L ∧ x.d.length ≤ L
  | [], n, h, x, hx => by cases hx
  | y :: xs, n, ⟨h1, h2, h3, h4, h5⟩, x, hx => by
    rcases List.mem_cons.1 hx with rfl | hx
    · exact ⟨h3, h4⟩
    · exact ord_mem h5 x hx
end Go.Vf.S

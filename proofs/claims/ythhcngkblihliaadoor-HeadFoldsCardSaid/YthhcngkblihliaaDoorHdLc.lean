import Derived.Test.YthhcngkblihliaaDoorHdLb
/- A message with a field laid anew. -/
namespace Go.Vf.S
open Go Go.Vf Go.Proofs Go.RowKit
attribute [local irreducible] wSeq wRow wp wG
set_option linter.unusedVariables false
set_option linter.unusedSimpArgs false
set_option maxRecDepth 10000

theorem fsC_drop (fs : List Fld) (k : Nat) : (fsC fs).drop (k * 3) = fsC (fs.drop k) := by
  rcases Nat.lt_or_ge k fs.length with h | h
  · have e : fsC fs = fsC (fs.take k) ++ fsC (fs.drop k) := by rw [← fsC_app, List.take_append_drop]
    rw [e, List.drop_left' (by rw [fsC_len, List.length_take, Nat.min_eq_left (Nat.le_of_lt h)])]
  · rw [List.drop_eq_nil_of_le h, List.drop_eq_nil_of_le (by rw [fsC_len]; omega)]
    rfl
theorem fsC_front (fs : List Fld) (k : Nat) (h : k ≤ fs.length) : takeN ((fs.take k).length * 3) (fsC fs) = some (fsC (fs.take k)) := by
  have e : fsC fs = fsC (fs.take k) ++ fsC (fs.drop k) := by rw [← fsC_app, List.take_append_drop]
  rw [takeN_take _ _ (by rw [fsC_len, List.length_take]; omega), e, List.take_left' (fsC_len _)]
theorem fsC_back (fs : List Fld) : takeN (fs.length * 3) (fsC fs) = some (fsC fs) := by
  rw [takeN_take _ _ (by rw [fsC_len]; omega), List.take_of_length_le (by rw [fsC_len]; omega)]

/-- The front of a row, and what stands behind. -/
theorem slF_lo {T : TL} {s : SS} {K : RR → Prop} {x hi : Operand} {W : Option Addr} {cw n k : Nat} {fs : List Fld} (h : FsO s W cw fs) (hx : opd T s.gl x = some (.slice W n cw)) (hn : n = fs.length) (hh : opd T s.gl hi = some (.int .i64 k)) (hk : k ≤ fs.length)
    (hK : ∀ (V : Option Addr) (c : Nat), FsP s V (fs.take k) → (∀ id ∈ blkOf V, id ∈ blkOf W) → K (.val (.slice V k c))) : wN pr (.slL 3 x none (some hi)) T s K := by
  subst hn
  cases W with
  | none =>
    obtain ⟨h1, h2, rfl⟩ := h
    have h3 : fs = [] := List.length_eq_zero_iff.1 h2
    subst h3
    obtain rfl : k = 0 := by simpa using hk
    simp only [wN, hx, opdO, hh, wBnd]
    refine ⟨⟨by omega, by omega⟩, fun m hm => ?_⟩
    obtain rfl : m = 0 := by omega
    exact hK none _ rfl (by simp [blkOf])
  | some a =>
    obtain ⟨b, off, sp⟩ := a
    obtain ⟨rfl, rfl, h3, g, h4, h5⟩ := h
    have hP : FsP s (some ⟨b, 0, none⟩) (fs.take k) := ⟨rfl, h3, _, _, _, _, h4, by rw [List.drop_zero]; exact fsC_front fs k hk⟩
    cases g with
    | true =>
      simp only [wN, hx, opdO, hh, h4, wBnd]
      refine ⟨sz_Fl, ⟨by omega, by omega⟩, fun m hm o n ho hn => ?_⟩
      obtain rfl : m = k := by omega
      subst ho; subst hn
      simpa using hK _ 0 hP (fun id q => q)
    | false =>
      have h6 := h5 rfl
      subst h6
      simp only [wN, hx, opdO, hh, h4, wBnd]
      refine ⟨⟨by omega, by omega⟩, fun m hm o n d ho hn hd => ?_⟩
      obtain rfl : m = k := by omega
      have e : o = 0 := by rw [ho]; split <;> simp
      subst hn hd
      rw [e, Nat.sub_zero]
      exact hK _ _ hP (fun id q => q)
theorem slF_hi {T : TL} {s : SS} {K : RR → Prop} {x lo : Operand} {W : Option Addr} {cw n k : Nat} {fs : List Fld} (h : FsO s W cw fs) (hx : opd T s.gl x = some (.slice W n cw)) (hn : n = fs.length) (hh : opd T s.gl lo = some (.int .i64 k)) (hk : k ≤ fs.length)
    (hK : ∀ (V : Option Addr) (c : Nat), FsP s V (fs.drop k) → (∀ id ∈ blkOf V, id ∈ blkOf W) → K (.val (.slice V (fs.length - k) c))) : wN pr (.slL 3 x (some lo) none) T s K := by
  subst hn
  cases W with
  | none =>
    obtain ⟨h1, h2, rfl⟩ := h
    have h3 : fs = [] := List.length_eq_zero_iff.1 h2
    subst h3
    obtain rfl : k = 0 := by simpa using hk
    simp only [wN, hx, opdO, hh, wBnd]
    refine ⟨⟨by omega, by simp⟩, fun m hm => ?_⟩
    obtain rfl : m = 0 := by omega
    exact hK none _ rfl (by simp [blkOf])
  | some a =>
    obtain ⟨b, off, sp⟩ := a
    obtain ⟨rfl, rfl, h3, g, h4, h5⟩ := h
    have hP : FsP s (some ⟨b, k * 3, none⟩) (fs.drop k) := ⟨rfl, h3, _, _, _, _, h4, by rw [fsC_drop]; exact fsC_back _⟩
    cases g with
    | true =>
      simp only [wN, hx, opdO, hh, h4, wBnd]
      refine ⟨sz_Fl, ⟨by omega, by omega⟩, fun m hm o n ho hn => ?_⟩
      obtain rfl : m = k := by omega
      subst ho; subst hn
      simpa using hK _ 0 hP (fun id q => q)
    | false =>
      have h6 := h5 rfl
      subst h6
      simp only [wN, hx, opdO, hh, h4, wBnd]
      refine ⟨⟨by omega, by omega⟩, fun m hm o n d ho hn hd => ?_⟩
      obtain rfl : m = k := by omega
      subst hn hd
      split at ho
      · rename_i e
        have e2 : fs.drop m = [] := List.drop_eq_nil_of_le (by omega)
        subst ho
        exact hK _ _ ⟨rfl, h3, _, _, _, _, h4, by rw [e2]; rfl⟩ (fun id q => q)
      · rw [Nat.zero_add] at ho
        subst ho
        exact hK _ _ hP (fun id q => q)

def withF (m : Msg) (i j : Nat) (nm v : List UInt8) : Msg × Nat := match layF nm v with
  | none => (msZ, 5)
  | some f => if 8192 < (textM ⟨m.fs.take i ++ f :: m.fs.drop j, m.b, m.e⟩).length then (msZ, 3) else (⟨m.fs.take i ++ f :: m.fs.drop j, m.b, m.e⟩, 0)

theorem lay_len {nm v : List UInt8} {f : Fld} (h : layF nm v = some f) : f.r.length ≤ 3 * (nm.length + 2 + v.length) + 2 := by
  unfold layF at h
  split at h
  · cases h
    have := jn_fold 1 (nm ++ 58 :: 32 :: v).length (nm.length + 2 + 1) (nm ++ 58 :: 32 :: v)
    simp only [List.length_append, List.length_cons] at this ⊢
    omega
  · cases h
theorem txt_app (a b : List Fld) : txtF (a ++ b) = txtF a ++ txtF b := by unfold txtF; rw [List.flatMap_append]
theorem with_len {m : Msg} {i j : Nat} {f : Fld} (hij : i ≤ j) : (textM ⟨m.fs.take i ++ f :: m.fs.drop j, m.b, m.e⟩).length ≤ (textM m).length + f.r.length := by
  have e1 : txtF m.fs = txtF (m.fs.take j) ++ txtF (m.fs.drop j) := by rw [← txt_app, List.take_append_drop]
  have e2 := txt_le (fs := m.fs.take j) i
  rw [List.take_take, Nat.min_eq_left hij] at e2
  unfold textM
  dsimp only
  rw [txt_app, e1]
  show ((txtF (m.fs.take i) ++ (f.r ++ txtF (m.fs.drop j))) ++ _).length ≤ _
  simp only [List.length_append]
  omega

end Go.Vf.S

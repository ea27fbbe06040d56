import Derived.Test.YtgnhkclddahdnaaDoorBnL
/- Lists of addresses, pure: a list and a list; white space about a list. -/
namespace Go.Vf.S
open Go Go.Vf
set_option linter.unusedVariables false
set_option linter.unusedSimpArgs false
set_option maxRecDepth 10000

theorem tok_ms {l : List UInt8} {T : List Tok} (h : tokF l = some T) : ms1 l = some (T, []) := by
  unfold tokF at h
  split at h
  · rename_i h1
    cases h
    exact h1
  · cases h
theorem ms_tok {l : List UInt8} {T : List Tok} (h : ms1 l = some (T, [])) : tokF l = some T := by
  unfold tokF
  rw [h]
theorem drop1_44 {r : List UInt8} (h : r.take 1 = [44]) : r = 44 :: r.drop 1 := take1_cons h
/-- A list, a comma, a list. -/
theorem ms_join {m : List UInt8 → PR} (hm : Loc m stp) (hc : Cat m) {t : List UInt8} {S : List Tok} {F : Nat} (ht : msP m F t = some (S, [])) : ∀ (f : Nat) (l : List UInt8) (T : List Tok), msP m f l = some (T, []) → ∃ G, msP m G (l ++ 44 :: t) = some (T ++ .g [44] :: S, [])
  | 0, l, T, h => by cases h
  | f + 1, l, T, h => by
    rw [msP] at h
    obtain ⟨T1, r1, T2, h1, h2, rfl⟩ := bindP_is h
    have e1 := hc _ _ _ h1
    split at h2
    · rename_i h44
      obtain ⟨T3, r3, T4, h3, h4, rfl⟩ := bindP_is h2
      have h3' := h3
      unfold byP at h3
      rw [if_pos h44] at h3
      cases h3
      obtain ⟨G, hG⟩ := ms_join hm hc ht f _ _ h4
      have hst : stp r1 := fun c hc => by rw [head_take.1 h44] at hc; cases hc; exact .inl rfl
      have er : r1 ++ 44 :: t = 44 :: (r1.drop 1 ++ 44 :: t) := by
        conv => lhs; rw [drop1_44 h44]
        rfl
      have hst' : stp (r1 ++ 44 :: t) := fun c hc => by rw [er] at hc; cases hc; exact .inl rfl
      have h5 := hm _ _ _ h1 hst T1 (r1 ++ 44 :: t) (Sub.refl _) hst'
      rw [← List.append_assoc, e1] at h5
      refine ⟨G + 1, ?_⟩
      rw [msP, h5]
      refine (bindP_two (S := .g [44] :: (T4 ++ .g [44] :: S)) (r' := []) ?_).trans (by simp)
      rw [er, if_pos (by rfl)]
      have : byP 44 (44 :: (r1.drop 1 ++ 44 :: t)) = some ([.g [44]], r1.drop 1 ++ 44 :: t) := by unfold byP; rw [if_pos (by rfl)]; rfl
      rw [this]
      exact bindP_two hG
    · cases h2
      rw [List.append_nil] at e1
      have h5 := hm _ _ _ h1 stp_nil T1 (44 :: t) (Sub.refl _) (stp_cons (.inl rfl))
      rw [e1] at h5
      refine ⟨F + 1, ?_⟩
      rw [msP, h5, List.append_nil]
      refine bindP_two ?_
      rw [if_pos (by rfl)]
      have : byP 44 (44 :: t) = some ([.g [44]], t) := by unfold byP; rw [if_pos (by rfl)]; rfl
      rw [this]
      exact bindP_two ht
theorem tok_join {s t : List UInt8} {T S : List Tok} (hs : tokF s = some T) (ht : tokF t = some S) : tokF (s ++ 44 :: t) = some (T ++ .g [44] :: S) := by
  obtain ⟨G, hG⟩ := ms_join loc_m1 (cat_mem cat_gr) (F := t.length + 1) (tok_ms ht) (s.length + 1) s T (tok_ms hs)
  exact ms_tok (ms_fuel (cat_mem cat_gr) _ _ _ _ hG (Nat.lt_succ_self _))

/-- White space that is whole: it is passed over, whatever stands behind it. -/
def Bw (b : List UInt8) : Prop := ∀ (r : List UInt8) (f x : Nat), (b ++ r).length < f → ∃ g, r.length < g ∧ bl f (b ++ r) x = bl g r (x + b.length)
theorem Bw.app {a b : List UInt8} (ha : Bw a) (hb : Bw b) : Bw (a ++ b) := fun r f x hf => by
  rw [List.append_assoc] at hf ⊢
  obtain ⟨g, hg, e⟩ := ha (b ++ r) f x hf
  obtain ⟨g2, hg2, e2⟩ := hb r g (x + a.length) hg
  exact ⟨g2, hg2, by rw [e, e2, List.length_append, Nat.add_assoc]⟩
/-- White space behind all: the last that is passed over grows. -/
def Ext (p : List UInt8) (q : List UInt8 → PR) : Prop := ∀ l T, q l = some (T, []) → ∃ T0 b, T = T0 ++ [.g b] ∧ q (l ++ p) = some (T0 ++ [.g (b ++ p)], [])
theorem Ext.bind {p : List UInt8} {P q : List UInt8 → PR} {B : List UInt8 → Prop} (hP : Loc P B) (hC : Cat P) (hq : Ext p q) (hd : ∀ l T r, q l = some (T, r) → r = [] → B l) : Ext p (fun l => bindP (P l) q) := fun l T h => by
  obtain ⟨T1, r1, T2, h1, h2, rfl⟩ := bindP_is h
  obtain ⟨T0, b, rfl, h3⟩ := hq _ _ h2
  have h4 := hP _ _ _ h1 (hd _ _ _ h2 rfl) T1 (r1 ++ p) (Sub.refl _) (hd _ _ _ h3 rfl)
  rw [← List.append_assoc, hC _ _ _ h1] at h4
  refine ⟨T1 ++ T0, b, (List.append_assoc ..).symm, ?_⟩
  simp only
  rw [h4, List.append_assoc]
  exact bindP_two h3
end Go.Vf.S

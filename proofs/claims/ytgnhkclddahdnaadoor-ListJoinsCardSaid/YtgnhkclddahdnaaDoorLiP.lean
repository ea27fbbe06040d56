import Derived.Test.YtgnhkclddahdnaaDoorBnL
/- Lists of addresses, pure: a list and a list; white space about a list. -/
namespace Go.Vf.S
open Go Go.Vf
set_option linter.unusedVariables false
set_option linter.unusedSimpArgs false
set_option maxRecDepth 10000

def upS (k : Nat) (x : Spt) : Spt := ⟨x.f + k, x.t + k, x.a, x.d⟩
theorem spT_up : ∀ (T : List Tok) (n k : Nat), spT (n + k) T = (spT n T).map (upS k)
  | [], n, k => rfl
  | .g l :: T, n, k => by
    rw [spT, spT, show n + k + l.length = n + l.length + k by omega, spT_up T]
  | .d l :: T, n, k => by
    rw [spT, spT, show n + k + l.length = n + l.length + k by omega, spT_up T]
  | .a l :: T, n, k => by
    rw [spT, spT, show n + k + l.length = n + l.length + k by omega, spT_up T, List.map_cons]
    rfl

theorem tok_ms {l : List UInt8} {T : List Tok} (h : tokF l = some T) : ms1 l = some (T, []) := by
  unfold tokF at h
  split at h
  · rename_i h1
    cases h
    exact h1
  · cases h
theorem ms_tok {l : List UInt8} {T : List Tok} (h : ms1 l = some (T, [])) : tokF l = some T := by
  unfold tokF
  rw [h]
theorem drop1_44 {r : List UInt8} (h : r.take 1 = [44]) : r = 44 :: r.drop 1 := take1_cons h
/-- A list, a comma, a list. -/
theorem ms_join {m : List UInt8 → PR} (hm : Loc m stp) (hc : Cat m) {t : List UInt8} {S : List Tok} {F : Nat} (ht : msP m F t = some (S, [])) : ∀ (f : Nat) (l : List UInt8) (T : List Tok), msP m f l = some (T, []) → ∃ G, msP m G (l ++ 44 :: t) = some (T ++ .g [44] :: S, [])
  | 0, l, T, h => by cases h
  | f + 1, l, T, h => by
    rw [msP] at h
    obtain ⟨T1, r1, T2, h1, h2, rfl⟩ := bindP_is h
    have e1 := hc _ _ _ h1
    split at h2
    · rename_i h44
      obtain ⟨T3, r3, T4, h3, h4, rfl⟩ := bindP_is h2
      have h3' := h3
      unfold byP at h3
      rw [if_pos h44] at h3
      cases h3
      obtain ⟨G, hG⟩ := ms_join hm hc ht f _ _ h4
      have hst : stp r1 := fun c hc => by rw [head_take.1 h44] at hc; cases hc; exact .inl rfl
      have er : r1 ++ 44 :: t = 44 :: (r1.drop 1 ++ 44 :: t) := by
        conv => lhs; rw [drop1_44 h44]
        rfl
      have hst' : stp (r1 ++ 44 :: t) := fun c hc => by rw [er] at hc; cases hc; exact .inl rfl
      have h5 := hm _ _ _ h1 hst T1 (r1 ++ 44 :: t) (Sub.refl _) hst'
      rw [← List.append_assoc, e1] at h5
      refine ⟨G + 1, ?_⟩
      rw [msP, h5]
      refine (bindP_two (S := .g [44] :: (T4 ++ .g [44] :: S)) (r' := []) ?_).trans (by simp)
      rw [er, if_pos (by rfl)]
      have : byP 44 (44 :: (r1.drop 1 ++ 44 :: t)) = some ([.g [44]], r1.drop 1 ++ 44 :: t) := by unfold byP; rw [if_pos (by rfl)]; rfl
      rw [this]
      exact bindP_two hG
    · cases h2
      rw [List.append_nil] at e1
      have h5 := hm _ _ _ h1 stp_nil T1 (44 :: t) (Sub.refl _) (stp_cons (.inl rfl))
      rw [e1] at h5
      refine ⟨F + 1, ?_⟩
      rw [msP, h5, List.append_nil]
      refine bindP_two ?_
      rw [if_pos (by rfl)]
      have : byP 44 (44 :: t) = some ([.g [44]], t) := by unfold byP; rw [if_pos (by rfl)]; rfl
      rw [this]
      exact bindP_two ht
theorem tok_join {s t : List UInt8} {T S : List Tok} (hs : tokF s = some T) (ht : tokF t = some S) : tokF (s ++ 44 :: t) = some (T ++ .g [44] :: S) := by
  obtain ⟨G, hG⟩ := ms_join loc_m1 (cat_mem cat_gr) (F := t.length + 1) (tok_ms ht) (s.length + 1) s T (tok_ms hs)
  exact ms_tok (ms_fuel (cat_mem cat_gr) _ _ _ _ hG (Nat.lt_succ_self _))

/-- White space that is whole: it is passed over, whatever stands behind it. -/
def Bw (b : List UInt8) : Prop := ∀ (r : List UInt8) (f x : Nat), (b ++ r).length < f → ∃ g, r.length < g ∧ bl f (b ++ r) x = bl g r (x + b.length)
theorem Bw.app {a b : List UInt8} (ha : Bw a) (hb : Bw b) : Bw (a ++ b) := fun r f x hf => by
  rw [List.append_assoc] at hf ⊢
  obtain ⟨g, hg, e⟩ := ha (b ++ r) f x hf
  obtain ⟨g2, hg2, e2⟩ := hb r g (x + a.length) hg
  exact ⟨g2, hg2, by rw [e, e2, List.length_append, Nat.add_assoc]⟩
theorem Bw.wh {c : UInt8} (h : wh c = true) : Bw [c] := fun r f x hf => ⟨f, by simp at hf; omega, by
  show bl f (c :: r) x = _
  rw [bl_wh (by omega) h]
  rfl⟩
theorem Bw.read {b r : List UInt8} (h : Bw b) (hr : noBl r) : blP (b ++ r) = some ([.g b], r) := by
  have e : blN (b ++ r) = b.length := by
    unfold blN blankF
    obtain ⟨g, hg, e⟩ := h r _ 0 (Nat.lt_succ_self _)
    rw [e, bl_stop hg hr, Nat.zero_add]
  unfold blP
  rw [e, List.take_left, List.drop_left]
theorem bw_of {l b r : List UInt8} (h : blP l = some ([.g b], r)) (hr : noBl r) : Bw b := by
  unfold blP at h
  cases h
  obtain ⟨n, e, hb⟩ : ∃ n e, blankF l = (n, e) := ⟨_, _, rfl⟩
  have e1 : blN l = n := by unfold blN; rw [hb]
  rw [e1] at hr ⊢
  by_cases he : e = 0
  · subst he
    obtain ⟨h1, h2, -, h4⟩ := bl_run _ _ l 0 n (Nat.le_refl _) (Nat.lt_succ_self _) hb
    rw [Nat.sub_zero] at h4
    have hl : (l.take n).length = n := by rw [List.length_take]; omega
    intro r f x hf
    rw [hl]
    exact h4 r f x hf
  · obtain ⟨q1, q2⟩ := bl_err _ l 0 n e hb he
    rw [q1] at hr
    exact absurd hr q2
/-- A comment that is whole. -/
theorem bw_com {c : List UInt8} (h : commentF (40 :: c) = ((40 :: c).length, 0)) : Bw (40 :: c) := fun r f x hf => by
  obtain ⟨g, rfl⟩ : ∃ g, f = g + 1 := ⟨f - 1, by simp at hf; omega⟩
  have := comment_loc r h
  rw [List.take_length, List.cons_append] at this
  refine ⟨g, by simp at hf; omega, ?_⟩
  rw [List.cons_append, bl_open (by decide), this, if_pos rfl]
  congr 1
  rw [← List.cons_append, List.drop_left]
def preL : List UInt8 := [32, 40, 120, 41]
def postL8 : List UInt8 := [9, 40, 121, 40, 122, 41, 41, 32]
theorem bw_pre : Bw preL := (Bw.wh (c := 32) (by decide)).app (bw_com (c := [120, 41]) (by decide +kernel))
theorem bw_post : Bw postL8 := ((Bw.wh (c := 9) (by decide)).app (bw_com (c := [121, 40, 122, 41, 41]) (by decide +kernel))).app (Bw.wh (c := 32) (by decide))

/-- White space behind all: the last that is passed over grows. -/
def Ext (p : List UInt8) (q : List UInt8 → PR) : Prop := ∀ l T, q l = some (T, []) → ∃ T0 b, T = T0 ++ [.g b] ∧ q (l ++ p) = some (T0 ++ [.g (b ++ p)], [])
theorem noBl_nil : noBl [] := fun c h => by cases h
theorem bl_cat {l b r : List UInt8} (h : blP l = some ([.g b], r)) : l = b ++ r := by
  have := cat_bl _ _ _ h
  rw [flT_g] at this
  exact this.symm
theorem ext_bl {p : List UInt8} (hp : Bw p) : Ext p blP := fun l T h => by
  have h' := h
  unfold blP at h
  have hT : T = [.g (l.take (blN l))] := (congrArg Prod.fst (Option.some.inj h)).symm
  subst hT
  generalize l.take (blN l) = b at h'
  have hl := bl_cat h'
  rw [List.append_nil] at hl
  subst hl
  have hb := bw_of h' noBl_nil
  have := (hb.app hp).read noBl_nil
  rw [List.append_nil] at this
  exact ⟨[], l, rfl, this⟩
theorem Ext.bind {p : List UInt8} {P q : List UInt8 → PR} {B : List UInt8 → Prop} (hP : Loc P B) (hC : Cat P) (hq : Ext p q) (hd : ∀ l T r, q l = some (T, r) → r = [] → B l) : Ext p (fun l => bindP (P l) q) := fun l T h => by
  obtain ⟨T1, r1, T2, h1, h2, rfl⟩ := bindP_is h
  obtain ⟨T0, b, rfl, h3⟩ := hq _ _ h2
  have h4 := hP _ _ _ h1 (hd _ _ _ h2 rfl) T1 (r1 ++ p) (Sub.refl _) (hd _ _ _ h3 rfl)
  rw [← List.append_assoc, hC _ _ _ h1] at h4
  refine ⟨T1 ++ T0, b, (List.append_assoc ..).symm, ?_⟩
  simp only
  rw [h4, List.append_assoc]
  exact bindP_two h3
theorem ext_by {p : List UInt8} (c : UInt8) {q : List UInt8 → PR} (hq : Ext p q) : Ext p (fun l => bindP (byP c l) q) := Ext.bind (B := fun _ => True) (loc_by c _) (cat_by c) hq fun _ _ _ _ _ => trivial
theorem ext_adr {p : List UInt8} (hp : Bw p) : Ext p adrP := Ext.bind loc_ad cat_ad (ext_bl hp) fun l T r h hr => hd_bl_dl _ _ _ h (hr ▸ stp_nil)
theorem ext_box {p : List UInt8} (hp : Bw p) : Ext p boxP := Ext.bind loc_adr cat_adr (ext_by 62 (ext_bl hp)) fun l T r h hr => hd_bind_by (A := fun _ => True) (fun l h c hc => by rw [h] at hc; cases hc; exact .inr (.inr rfl)) _ _ _ h trivial
theorem ext_angT {p : List UInt8} (hp : Bw p) : Ext p angT := fun l T h => by
  unfold angT at h
  split at h
  · rename_i h64
    have hq : Ext p (fun r => bindP (blP r) boxP) := Ext.bind loc_bl cat_bl (ext_box hp) fun l T r h hr => word_bl (hd_box (fun _ => True) _ _ _ h trivial)
    have k := Ext.bind (B := fun _ => True) (loc_rt (l.length + 1)) (cat_rt _) hq (fun _ _ _ _ _ => trivial) l T h
    obtain ⟨T0, b, e, k⟩ := k
    refine ⟨T0, b, e, ?_⟩
    simp only at k
    obtain ⟨T1, r1, T2, h1, h2, h3⟩ := bindP_is k
    unfold angT
    rw [if_pos (rt_head h1), rt_fuel _ _ _ _ h1 (Nat.lt_succ_self _), bindP_two h2, h3]
  · obtain ⟨T0, b, e, k⟩ := ext_box hp l T h
    refine ⟨T0, b, e, ?_⟩
    unfold angT
    rw [if_neg (word_64 (hd_box (fun _ => True) _ _ _ k trivial))]
    exact k
theorem ext_ang {p : List UInt8} (hp : Bw p) : Ext p angP := Ext.bind loc_bl cat_bl (ext_angT hp) fun l T r h hr => hd_angT _ _ _ h (hr ▸ stp_nil)

/-- A member: nothing, or white space ends it. -/
theorem ext_mb {p : List UInt8} (hp : Bw p) {grp : List UInt8 → PR} (hl : Loc grp stp) (hg : Ext p grp) (l : List UInt8) (T : List Tok) (h : mbP grp l = some (T, [])) : (l = [] ∧ T = []) ∨ ∃ T0 b, T = T0 ++ [.g b] ∧ mbP grp (l ++ p) = some (T0 ++ [.g (b ++ p)], []) := by
  have h' := h
  unfold mbP at h
  split at h
  · right
    obtain ⟨T0, b, e, k⟩ := ext_adr hp l T h
    refine ⟨T0, b, e, ?_⟩
    unfold mbP
    rw [if_pos (adr_pos k)]
    exact k
  · rename_i h0
    obtain ⟨T1, r1, T2, h1, h2, rfl⟩ := bindP_is h
    have h1 := Option.some.inj h1
    rw [h1] at h2
    simp only at h2
    have hcat := cat_ph (l.length + 1) l
    rw [h1] at hcat
    simp only at hcat
    by_cases he : r1 = []
    · subst he
      have hst := tl_cases h2
      rcases hst with q | ⟨-, q⟩ | ⟨hw, rfl, -⟩
      · cases q
      · cases q
      · left
        have : T1 = [] := by simpa using hw
        subst this
        exact ⟨by rw [← hcat]; rfl, rfl⟩
    · right
      -- the tail begins with a sign
      have key : ∃ T0 b, T2 = T0 ++ [.g b] ∧ tlP grp (!T1.isEmpty) (r1 ++ p) = some (T0 ++ [.g (b ++ p)], []) := by
        have hne : ∀ c, r1.take 1 = [c] → (r1 ++ p).take 1 = [c] := fun c q => by
          cases r1 with
          | nil => exact absurd rfl he
          | cons d r => simpa using q
        unfold tlP at h2
        split at h2
        · rename_i q
          obtain ⟨T0, b, e, k⟩ := ext_by 60 (ext_ang hp) _ _ h2
          refine ⟨T0, b, e, ?_⟩
          unfold tlP
          rw [if_pos (hne _ q)]
          exact k
        · split at h2
          · rename_i hw
            split at h2
            · rename_i q
              obtain ⟨T0, b, e, k⟩ := ext_by 58 hg _ _ h2
              refine ⟨T0, b, e, ?_⟩
              unfold tlP
              rw [if_neg (by rw [hne _ q]; simp), if_pos hw, if_pos (hne _ q)]
              exact k
            · cases h2
          · cases h2
            exact absurd rfl he
      obtain ⟨T0, b, rfl, k⟩ := key
      obtain ⟨n1, n2, n3⟩ := hd_tl _ _ _ h2 stp_nil
      obtain ⟨m1, m2, m3⟩ := hd_tl _ _ _ k stp_nil
      obtain ⟨p1, p2⟩ := ph_loc _ ((flT T1 ++ (r1 ++ p)).length + 1) _ _ _ (Nat.lt_succ_self _) h1 n1 n2 _ m1 m2 (Nat.lt_succ_self _)
      rw [← List.append_assoc, hcat] at p1
      refine ⟨T1 ++ T0, b, (List.append_assoc ..).symm, ?_⟩
      have hz : ¬0 < adrN (l ++ p) := by
        -- what stands behind the first word is as it was
        have hr : ∀ c s, r1 = c :: s → adrN (l ++ p) = adrN l ∨ True := fun _ _ _ => .inr trivial
        intro hz
        unfold adrN at hz h0
        have hww : wordN (l ++ p) = wordN l ∧ ((l ++ p).drop (wordN l)).take 1 = (l.drop (wordN l)).take 1 := by
          have hlen : wordN l + 1 ≤ l.length := by
            have := congrArg List.length hcat
            rw [List.length_append] at this
            have hr1 : 0 < r1.length := List.length_pos_iff.2 he
            have hph : phP (l.length + 1) l = (T1, r1) := h1
            rw [phP] at hph
            split at hph
            · rename_i hw0
              cases hph
              have : flT ([] : List Tok) = [] := rfl
              omega
            · cases hph
              rw [flT_cons, List.length_append] at this
              have hb0 : (Tok.b (.g (l.take (wordN l)))).length = wordN l := by
                show (l.take (wordN l)).length = _
                rw [List.length_take, Nat.min_eq_left (word_le l)]
              omega
          have hd2 : ((l ++ p).drop (wordN l)).take 1 = (l.drop (wordN l)).take 1 := by
            rw [List.drop_append_of_le_length (by omega), List.take_append_of_le_length (by rw [List.length_drop]; omega)]
          refine ⟨?_, hd2⟩
          by_cases hw0 : wordN l = 0
          · have hph : phP (l.length + 1) l = (T1, r1) := h1
            rw [phP, if_pos hw0] at hph
            cases hph
            rw [hw0]
            exact word_no m1
          · have e1 : l ++ p = l.take (wordN l) ++ (l.drop (wordN l) ++ p) := by rw [← List.append_assoc, List.take_append_drop]
            rw [e1]
            refine word_loc (Nat.pos_of_ne_zero hw0) (.inl ?_)
            have : l.drop (wordN l) ≠ [] := fun q => by
              have := congrArg List.length q
              rw [List.length_drop] at this
              simp at this
              omega
            have h3 := head_app (r := p) (s := []) this
            rw [List.append_nil] at h3
            exact h3
        rw [hww.1, hww.2] at hz
        split at hz
        · rename_i q
          rw [if_pos q] at h0
          omega
        · exact absurd hz (Nat.lt_irrefl 0)
      unfold mbP
      rw [if_neg hz]
      rw [p1, List.append_assoc]
      exact bindP_two k
theorem ext_mem {p : List UInt8} (hp : Bw p) {grp : List UInt8 → PR} (hl : Loc grp stp) (hg : Ext p grp) : Ext p (memP grp) := fun l T h => by
  obtain ⟨T1, r1, T2, h1, h2, rfl⟩ := bindP_is h
  have hT1 : ∃ b, T1 = [.g b] := by unfold blP at h1; cases h1; exact ⟨_, rfl⟩
  obtain ⟨b1, rfl⟩ := hT1
  have hlc := bl_cat h1
  rcases ext_mb hp hl hg _ _ h2 with ⟨rfl, rfl⟩ | ⟨T0, b, rfl, k⟩
  · rw [List.append_nil] at hlc
    subst hlc
    refine ⟨[], l, rfl, ?_⟩
    have := ((bw_of h1 noBl_nil).app hp).read noBl_nil
    rw [List.append_nil] at this
    unfold memP
    rw [this]
    exact bindP_two h2
  · have n1 := hd_mb _ _ _ h2 stp_nil
    have n2 := hd_mb _ _ _ k stp_nil
    refine ⟨.g b1 :: T0, b, rfl, ?_⟩
    have := (bw_of h1 n1).read n2
    rw [← List.append_assoc, ← hlc] at this
    unfold memP
    rw [this]
    exact bindP_two k
theorem ext_ms {p : List UInt8} {m : List UInt8 → PR} (hm : Loc m stp) (hc : Cat m) (he : Ext p m) (hp0 : ¬p.take 1 = [44]) : ∀ f, Ext p (msP m f)
  | 0 => fun l T h => by cases h
  | f + 1 => fun l T h => by
    rw [msP] at h
    obtain ⟨T1, r1, T2, h1, h2, rfl⟩ := bindP_is h
    split at h2
    · rename_i h44
      obtain ⟨T0, b, rfl, k⟩ := ext_by 44 (ext_ms hm hc he hp0 f) _ _ h2
      have hst : stp r1 := fun c hc => by rw [head_take.1 h44] at hc; cases hc; exact .inl rfl
      have h44' : (r1 ++ p).take 1 = [44] := by
        rw [take1_cons h44]
        rfl
      have hst' : stp (r1 ++ p) := fun c hc => by rw [head_take.1 h44'] at hc; cases hc; exact .inl rfl
      have h4 := hm _ _ _ h1 hst T1 (r1 ++ p) (Sub.refl _) hst'
      rw [← List.append_assoc, hc _ _ _ h1] at h4
      refine ⟨T1 ++ T0, b, (List.append_assoc ..).symm, ?_⟩
      rw [msP, h4, List.append_assoc]
      refine bindP_two ?_
      rw [if_pos h44']
      exact k
    · cases h2
      obtain ⟨T0, b, rfl, k⟩ := he _ _ h1
      refine ⟨T0, b, List.append_nil _, ?_⟩
      rw [msP, k]
      refine (bindP_two (r' := []) (S := []) ?_).trans (by rw [List.append_nil])
      rw [if_neg (by simp)]
theorem ext_gr {p : List UInt8} (hp : Bw p) : Ext p grP := Ext.bind loc_ms0 cat_ms0 (ext_by 59 (ext_bl hp)) fun l T r h _ => hd_bind_by (A := fun _ => True) (fun l h c hc => by rw [h] at hc; cases hc; exact .inl rfl) _ _ _ h trivial
/-- White space behind a list. -/
theorem tok_post {p l : List UInt8} {T : List Tok} (hp : Bw p) (hp0 : ¬p.take 1 = [44]) (h : tokF l = some T) : ∃ T0 b, T = T0 ++ [.g b] ∧ tokF (l ++ p) = some (T0 ++ [.g (b ++ p)]) := by
  obtain ⟨T0, b, e, k⟩ := ext_ms loc_m1 (cat_mem cat_gr) (ext_mem hp loc_gr (ext_gr hp)) hp0 _ _ _ (tok_ms h)
  exact ⟨T0, b, e, ms_tok (ms_fuel (cat_mem cat_gr) _ _ _ _ k (Nat.lt_succ_self _))⟩
/-- White space ahead of a list. -/
theorem tok_pre {p l : List UInt8} {T : List Tok} (hp : Bw p) (h : tokF l = some T) : ∃ T0 b, T = .g b :: T0 ∧ tokF (p ++ l) = some (.g (p ++ b) :: T0) := by
  have h1 := tok_ms h
  have h1 : msP (memP grP) (l.length + 1) l = some (T, []) := h1
  rw [msP] at h1
  obtain ⟨T1, r1, T2, h2, h3, rfl⟩ := bindP_is h1
  obtain ⟨T3, r3, T4, h4, h5, rfl⟩ := bindP_is h2
  have hT3 : ∃ b, T3 = [.g b] := by unfold blP at h4; cases h4; exact ⟨_, rfl⟩
  obtain ⟨b, rfl⟩ := hT3
  have hst : stp r1 := ms_next _ _ _ h3 stpG_nil
  have n1 := hd_mb _ _ _ h5 hst
  have hb := bw_of h4 n1
  have hl := bl_cat h4
  have h6 := (hp.app hb).read n1
  rw [List.append_assoc, ← hl] at h6
  refine ⟨T4 ++ T2, b, rfl, ?_⟩
  have h7 : memP grP (p ++ l) = some (.g (p ++ b) :: T4, r1) := by
    unfold memP
    rw [h6]
    exact bindP_two h5
  have h8 : msP (memP grP) (l.length + 1) (p ++ l) = some (.g (p ++ b) :: T4 ++ T2, []) := by
    rw [msP, h7]
    exact bindP_two h3
  exact ms_tok (ms_fuel (cat_mem cat_gr) _ _ _ _ h8 (Nat.lt_succ_self _))

/-- What is found of a list with white space about it. -/
theorem find_white (l : List UInt8) (he : (findF l).2 ≠ 5) : findF (preL ++ l ++ postL8) = ((findF l).1.map (upS 4), (findF l).2) := by
  cases h : tokF l with
  | none =>
    exfalso
    apply he
    unfold findF
    rw [h]
  | some T =>
    obtain ⟨T0, b, rfl, h1⟩ := tok_post bw_post (by decide) h
    obtain ⟨T1, c, e, h2⟩ := tok_pre bw_pre h1
    rw [← List.append_assoc] at h2
    have es : spT 0 (.g (preL ++ c) :: T1) = (spT 0 (T0 ++ [.g b])).map (upS 4) := by
      have q1 : spT 0 (.g (preL ++ c) :: T1) = spT (0 + c.length + 4) T1 := by
        show spT (0 + (preL ++ c).length) T1 = _
        rw [List.length_append, show 0 + (preL.length + c.length) = 0 + c.length + 4 by simp [preL]; omega]
      have q2 : spT 0 (.g c :: T1) = spT (0 + c.length) T1 := rfl
      rw [q1, spT_up, ← q2, ← e, spT_app, spT_app]
      rfl
    have el : lgT (.g (preL ++ c) :: T1) = lgT (T0 ++ [.g b]) := by
      have q1 : lgT (.g (preL ++ c) :: T1) = lgT (.g c :: T1) := rfl
      rw [q1, ← e, lgT_app, lgT_app]
      rfl
    have hf : findF l = if lgT (T0 ++ [.g b]) = true then ([], 3) else if 64 < (spT 0 (T0 ++ [.g b])).length then ([], 7) else (spT 0 (T0 ++ [.g b]), 0) := by unfold findF; rw [h]
    have hf2 : findF (preL ++ l ++ postL8) = if lgT (T0 ++ [.g b]) = true then ([], 3) else if 64 < (spT 0 (T0 ++ [.g b])).length then ([], 7) else ((spT 0 (T0 ++ [.g b])).map (upS 4), 0) := by
      unfold findF
      rw [h2]
      simp only
      rw [es, el, List.length_map]
    rw [hf, hf2]
    split
    · rfl
    · split
      · rfl
      · rfl
theorem find_join {s t : List UInt8} (hs : (findF s).2 = 0) (ht : (findF t).2 = 0) (hn : (findF s).1.length + (findF t).1.length ≤ 64) : findF (s ++ 44 :: t) = ((findF s).1 ++ (findF t).1.map (upS (s.length + 1)), 0) := by
  have inv : ∀ l, (findF l).2 = 0 → ∃ T, tokF l = some T ∧ lgT T = false ∧ findF l = (spT 0 T, 0) := fun l h => by
    unfold findF at h ⊢
    cases hT : tokF l with
    | none => rw [hT] at h; cases h
    | some T =>
      rw [hT] at h
      simp only at h ⊢
      split at h
      · cases h
      · rename_i h1
        split at h
        · cases h
        · rename_i h2
          exact ⟨T, rfl, by simpa using h1, by rw [if_neg h1, if_neg h2]⟩
  obtain ⟨T, h1, h2, h3⟩ := inv s hs
  obtain ⟨S, h4, h5, h6⟩ := inv t ht
  rw [h3, h6] at hn ⊢
  simp only at hn ⊢
  have hc := tok_cat h1
  have es : spT 0 (T ++ .g [44] :: S) = spT 0 T ++ (spT 0 S).map (upS (s.length + 1)) := by
    rw [spT_app, hc]
    show spT 0 T ++ spT (0 + s.length + 1) S = _
    rw [Nat.zero_add, ← spT_up, Nat.zero_add]
  have el : lgT (T ++ .g [44] :: S) = false := by
    rw [lgT_app, h2]
    exact h5
  unfold findF
  rw [tok_join h1 h4]
  simp only
  rw [el, es, if_neg (by simp), if_neg (by rw [List.length_append, List.length_map]; omega)]
end Go.Vf.S

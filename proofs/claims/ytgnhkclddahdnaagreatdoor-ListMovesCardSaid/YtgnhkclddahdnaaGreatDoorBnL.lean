import Derived.Test.YtgnhkclddahdnaaGreatDoorBnB
/- LiA -/
section
/- Lists of addresses, pure: what is read, token by token. -/
namespace Go.Vf.S
open Go Go.Vf
set_option linter.unusedVariables false
set_option linter.unusedSimpArgs false
set_option maxRecDepth 10000

/-- Letters of words; of domains. -/
def wlB (c : UInt8) : Bool := c == 46 || letB c
def dlB (c : UInt8) : Bool := c == 46 || labB c
/-- How many bytes a word, a domain, an address at the front has; white space. -/
def wordN (l : List UInt8) : Nat := if (quotedF l).2.2 = 0 then (quotedF l).2.1 else (l.takeWhile wlB).length
def domN (l : List UInt8) : Nat := if l.take 1 = [91] then (if (93 : UInt8) ∈ l then (l.takeWhile (· != 93)).length + 1 else 0) else (l.takeWhile dlB).length
def adrN (l : List UInt8) : Nat := if (l.drop (wordN l)).take 1 = [64] then wordN l + 1 + domN (l.drop (wordN l + 1)) else 0
def blN (l : List UInt8) : Nat := (blankF l).1

/-- What stands in a list: bytes that are passed over, an address, a route's domain. -/
inductive Tok where
  | g (l : List UInt8)
  | a (l : List UInt8)
  | d (l : List UInt8)
def Tok.b : Tok → List UInt8
  | .g l => l
  | .a l => l
  | .d l => l
def flT (T : List Tok) : List UInt8 := T.flatMap Tok.b
theorem flT_app (S T : List Tok) : flT (S ++ T) = flT S ++ flT T := by simp [flT]
theorem flT_cons (t : Tok) (T : List Tok) : flT (t :: T) = t.b ++ flT T := rfl
theorem flT_nil : flT [] = [] := rfl

abbrev PR := Option (List Tok × List UInt8)
/-- One, and the other behind it. -/
def bindP (p : PR) (q : List UInt8 → PR) : PR := match p with
  | none => none
  | some (T, r) => match q r with
    | none => none
    | some (S, r') => some (T ++ S, r')
theorem bindP_none {q : List UInt8 → PR} : bindP none q = none := rfl
theorem bindP_one {T : List Tok} {r : List UInt8} {q : List UInt8 → PR} (h : q r = none) : bindP (some (T, r)) q = none := by unfold bindP; simp only [h]
theorem bindP_two {T S : List Tok} {r r' : List UInt8} {q : List UInt8 → PR} (h : q r = some (S, r')) : bindP (some (T, r)) q = some (T ++ S, r') := by unfold bindP; simp only [h]
theorem bindP_is {p : PR} {q : List UInt8 → PR} {T : List Tok} {r : List UInt8} (h : bindP p q = some (T, r)) : ∃ T1 r1 T2, p = some (T1, r1) ∧ q r1 = some (T2, r) ∧ T = T1 ++ T2 := by
  cases p with
  | none => cases h
  | some x =>
    obtain ⟨T1, r1⟩ := x
    unfold bindP at h
    simp only at h
    cases hq : q r1 with
    | none => rw [hq] at h; cases h
    | some y =>
      obtain ⟨T2, r2⟩ := y
      rw [hq] at h
      cases h
      exact ⟨T1, r1, T2, rfl, hq, rfl⟩

/-- White space; a byte; an address; an address and white space. -/
def blP (l : List UInt8) : PR := some ([.g (l.take (blN l))], l.drop (blN l))
def byP (c : UInt8) (l : List UInt8) : PR := if l.take 1 = [c] then some ([.g [c]], l.drop 1) else none
def adP (l : List UInt8) : PR := if (parseF (l.take (adrN l))).2.2 = 5 then none else some ([.a (l.take (adrN l))], l.drop (adrN l))
def adrP (l : List UInt8) : PR := bindP (adP l) blP
/-- A route's domain; a route. -/
def dmP (l : List UInt8) : PR := if domF (l.take (domN l)) = 5 then none else some ([.d (l.take (domN l))], l.drop (domN l))
def rtP : Nat → List UInt8 → PR
  | 0, _ => none
  | f + 1, l => bindP (byP 64 l) fun r => bindP (dmP r) fun r => if r.take 1 = [44] then bindP (byP 44 r) (rtP f) else byP 58 r
/-- A mailbox's address, and what ends it; what stands behind its <. -/
def boxP (l : List UInt8) : PR := bindP (adrP l) fun r => bindP (byP 62 r) blP
def angT (l : List UInt8) : PR := if l.take 1 = [64] then bindP (rtP (l.length + 1) l) fun r => bindP (blP r) boxP else boxP l
def angP (l : List UInt8) : PR := bindP (blP l) angT
/-- Words, and white space behind each. -/
def phP : Nat → List UInt8 → List Tok × List UInt8
  | 0, l => ([], l)
  | f + 1, l => if wordN l = 0 then ([], l) else
    (.g (l.take (wordN l)) :: .g ((l.drop (wordN l)).take (blN (l.drop (wordN l)))) :: (phP f ((l.drop (wordN l)).drop (blN (l.drop (wordN l))))).1, (phP f ((l.drop (wordN l)).drop (blN (l.drop (wordN l))))).2)
/-- Behind the words of a member; a member; members. -/
def tlP (grp : List UInt8 → PR) (w : Bool) (l : List UInt8) : PR := if l.take 1 = [60] then bindP (byP 60 l) angP else if w = true then (if l.take 1 = [58] then bindP (byP 58 l) grp else none) else some ([], l)
def mbP (grp : List UInt8 → PR) (l : List UInt8) : PR := if 0 < adrN l then adrP l else bindP (some (phP (l.length + 1) l)) (tlP grp (!(phP (l.length + 1) l).1.isEmpty))
def memP (grp : List UInt8 → PR) (l : List UInt8) : PR := bindP (blP l) (mbP grp)
def msP (m : List UInt8 → PR) : Nat → List UInt8 → PR
  | 0, _ => none
  | f + 1, l => bindP (m l) fun r => if r.take 1 = [44] then bindP (byP 44 r) (msP m f) else some ([], r)
def noP (l : List UInt8) : PR := none
def ms0 (l : List UInt8) : PR := msP (memP noP) (l.length + 1) l
def grP (l : List UInt8) : PR := bindP (ms0 l) fun r => bindP (byP 59 r) blP
def ms1 (l : List UInt8) : PR := msP (memP grP) (l.length + 1) l
/-- A list's tokens. -/
def tokF (l : List UInt8) : Option (List Tok) := match ms1 l with
  | some (T, []) => some T
  | _ => none

structure Spt where
  f : Nat
  t : Nat
  a : List UInt8
  d : List UInt8
def spT : Nat → List Tok → List Spt
  | _, [] => []
  | n, .g l :: T => spT (n + l.length) T
  | n, .d l :: T => spT (n + l.length) T
  | n, .a l :: T => ⟨n, n + l.length, (parseF l).1, (parseF l).2.1⟩ :: spT (n + l.length) T
def lgK : Tok → Bool
  | .g _ => false
  | .a l => decide ((parseF l).2.2 = 3)
  | .d l => decide (domF l = 3)
def lgT (T : List Tok) : Bool := T.any lgK
def findF (l : List UInt8) : List Spt × Nat := match tokF l with
  | none => ([], 5)
  | some T => if lgT T = true then ([], 3) else if 64 < (spT 0 T).length then ([], 7) else (spT 0 T, 0)

theorem spT_app : ∀ (S T : List Tok) (n : Nat), spT n (S ++ T) = spT n S ++ spT (n + (flT S).length) T
  | [], T, n => by simp [flT, spT]
  | .g l :: S, T, n => by
    have ih := spT_app S T (n + l.length)
    rw [List.cons_append, spT, spT, ih, flT_cons, List.length_append, Nat.add_assoc]
    rfl
  | .d l :: S, T, n => by
    have ih := spT_app S T (n + l.length)
    rw [List.cons_append, spT, spT, ih, flT_cons, List.length_append, Nat.add_assoc]
    rfl
  | .a l :: S, T, n => by
    have ih := spT_app S T (n + l.length)
    rw [List.cons_append, spT, spT, ih, flT_cons, List.length_append, Nat.add_assoc]
    rfl
theorem lgT_app (S T : List Tok) : lgT (S ++ T) = (lgT S || lgT T) := by simp [lgT]

theorem while_le (f : UInt8 → Bool) (l : List UInt8) : (l.takeWhile f).length ≤ l.length := (List.takeWhile_sublist f).length_le
theorem word_le (l : List UInt8) : wordN l ≤ l.length := by
  unfold wordN
  split
  · exact quoted_len l
  · exact while_le _ l
theorem while_lt {f : UInt8 → Bool} : ∀ {l : List UInt8} {c : UInt8}, c ∈ l → f c = false → (l.takeWhile f).length < l.length
  | [], c, h, _ => by simp at h
  | x :: l, c, h, hf => by
    rw [List.takeWhile_cons]
    split
    · rename_i hx
      rcases List.mem_cons.1 h with rfl | h
      · rw [hf] at hx; cases hx
      · have := while_lt (l := l) h hf
        simp only [List.length_cons]
        omega
    · simp
theorem dom_le (l : List UInt8) : domN l ≤ l.length := by
  unfold domN
  split
  · split
    · rename_i h
      exact while_lt h (by decide)
    · exact Nat.zero_le _
  · exact while_le _ l
theorem take1_pos {l : List UInt8} {c : UInt8} (h : l.take 1 = [c]) : 0 < l.length := by
  cases l with
  | nil => cases h
  | cons a l => exact Nat.succ_pos _
theorem take1_cons {l : List UInt8} {c : UInt8} (h : l.take 1 = [c]) : l = c :: l.drop 1 := by
  cases l with
  | nil => cases h
  | cons a l => cases h; rfl
theorem adr_le (l : List UInt8) : adrN l ≤ l.length := by
  unfold adrN
  split
  · rename_i h
    have h1 := take1_pos h
    have h2 := dom_le (l.drop (wordN l + 1))
    rw [List.length_drop] at h1 h2
    omega
  · exact Nat.zero_le _
theorem bl_le : ∀ (f : Nat) (l : List UInt8) (a : Nat), (bl f l a).1 ≤ a + l.length
  | 0, l, a => Nat.le_add_right _ _
  | f + 1, l, a => by
    rw [bl]
    have h1 := dropW_len l
    split
    · split
      · rename_i h2
        have h3 := comment_pos h2
        have ih := bl_le f ((l.dropWhile wh).drop (commentF (l.dropWhile wh)).1) (a + (l.length - (l.dropWhile wh).length) + (commentF (l.dropWhile wh)).1)
        rw [List.length_drop] at ih
        omega
      · exact Nat.zero_le _
    · show a + (l.length - (l.dropWhile wh).length) ≤ _
      omega
theorem blN_le (l : List UInt8) : blN l ≤ l.length := by have := bl_le (l.length + 1) l 0; unfold blN blankF; omega

/-- What is passed over, and what is left, are all. -/
def Cat (q : List UInt8 → PR) : Prop := ∀ l T r, q l = some (T, r) → flT T ++ r = l
theorem Cat.bind {p : PR} {q : List UInt8 → PR} {l : List UInt8} {T : List Tok} {r : List UInt8} (hp : ∀ T r, p = some (T, r) → flT T ++ r = l) (hq : Cat q) (h : bindP p q = some (T, r)) : flT T ++ r = l := by
  obtain ⟨T1, r1, T2, h1, h2, rfl⟩ := bindP_is h
  rw [flT_app, List.append_assoc, hq _ _ _ h2, hp _ _ h1]
theorem cat_bl : Cat blP := fun l T r h => by
  cases h
  show (l.take _ ++ []) ++ _ = _
  rw [List.append_nil, List.take_append_drop]
theorem cat_by (c : UInt8) : Cat (byP c) := fun l T r h => by
  unfold byP at h
  split at h
  · rename_i hl
    cases h
    exact (take1_cons hl).symm
  · cases h
theorem cat_ad : Cat adP := fun l T r h => by
  unfold adP at h
  split at h
  · cases h
  · cases h
    show (l.take _ ++ []) ++ _ = _
    rw [List.append_nil, List.take_append_drop]
theorem cat_dm : Cat dmP := fun l T r h => by
  unfold dmP at h
  split at h
  · cases h
  · cases h
    show (l.take _ ++ []) ++ _ = _
    rw [List.append_nil, List.take_append_drop]
theorem cat_adr : Cat adrP := fun l T r h => Cat.bind (cat_ad l) cat_bl h
theorem cat_nil {l : List UInt8} {T : List Tok} {r : List UInt8} (h : (some (([] : List Tok), l) : PR) = some (T, r)) : flT T ++ r = l := by cases h; rfl
theorem cat_rt : ∀ f, Cat (rtP f)
  | 0 => fun l T r h => by cases h
  | f + 1 => fun l T r h => by
    rw [rtP] at h
    refine Cat.bind (cat_by 64 l) (fun l T r h => Cat.bind (cat_dm l) (fun l T r h => ?_) h) h
    split at h
    · exact Cat.bind (cat_by 44 l) (cat_rt f) h
    · exact cat_by 58 l T r h
theorem cat_box : Cat boxP := fun l T r h => Cat.bind (cat_adr l) (fun l T r h => Cat.bind (cat_by 62 l) cat_bl h) h
theorem cat_angT : Cat angT := fun l T r h => by
  unfold angT at h
  split at h
  · exact Cat.bind (cat_rt _ l) (fun l T r h => Cat.bind (cat_bl l) cat_box h) h
  · exact cat_box _ _ _ h
theorem cat_ang : Cat angP := fun l T r h => Cat.bind (cat_bl l) cat_angT h
theorem cat_ph : ∀ (f : Nat) (l : List UInt8), flT (phP f l).1 ++ (phP f l).2 = l
  | 0, l => rfl
  | f + 1, l => by
    rw [phP]
    split
    · rfl
    · have ih := cat_ph f ((l.drop (wordN l)).drop (blN (l.drop (wordN l))))
      show (l.take (wordN l) ++ ((l.drop (wordN l)).take (blN (l.drop (wordN l))) ++ flT _)) ++ _ = l
      rw [List.append_assoc, List.append_assoc, ih, List.take_append_drop, List.take_append_drop]
theorem cat_tl {grp : List UInt8 → PR} (hg : Cat grp) (w : Bool) : Cat (tlP grp w) := fun l T r h => by
  unfold tlP at h
  split at h
  · exact Cat.bind (cat_by 60 l) cat_ang h
  · split at h
    · split at h
      · exact Cat.bind (cat_by 58 l) hg h
      · cases h
    · exact cat_nil h
theorem cat_mb {grp : List UInt8 → PR} (hg : Cat grp) : Cat (mbP grp) := fun l T r h => by
  unfold mbP at h
  split at h
  · exact cat_adr _ _ _ h
  · refine Cat.bind (fun T r h => ?_) (cat_tl hg _) h
    have := cat_ph (l.length + 1) l
    rw [Option.some.inj h] at this
    exact this
theorem cat_mem {grp : List UInt8 → PR} (hg : Cat grp) : Cat (memP grp) := fun l T r h => Cat.bind (cat_bl l) (cat_mb hg) h
theorem cat_ms {m : List UInt8 → PR} (hm : Cat m) : ∀ f, Cat (msP m f)
  | 0 => fun l T r h => by cases h
  | f + 1 => fun l T r h => by
    rw [msP] at h
    refine Cat.bind (hm l) (fun l T r h => ?_) h
    split at h
    · exact Cat.bind (cat_by 44 l) (cat_ms hm f) h
    · exact cat_nil h
theorem cat_no : Cat noP := fun l T r h => by cases h
theorem cat_ms0 : Cat ms0 := fun l T r h => cat_ms (cat_mem cat_no) _ _ _ _ h
theorem cat_gr : Cat grP := fun l T r h => Cat.bind (cat_ms0 l) (fun l T r h => Cat.bind (cat_by 59 l) cat_bl h) h
theorem cat_ms1 : Cat ms1 := fun l T r h => cat_ms (cat_mem cat_gr) _ _ _ _ h
theorem Cat.len {q : List UInt8 → PR} (hq : Cat q) {l r : List UInt8} {T : List Tok} (h : q l = some (T, r)) : (flT T).length + r.length = l.length := by rw [← List.length_append, hq _ _ _ h]
theorem tok_cat {l : List UInt8} {T : List Tok} (h : tokF l = some T) : flT T = l := by
  unfold tokF at h
  split at h
  · rename_i h1
    cases h
    have := cat_ms1 _ _ _ h1
    rwa [List.append_nil] at this
  · cases h
end Go.Vf.S
end
/- LiB -/
section
/- Lists of addresses, pure: what is passed over hangs on nothing but the byte behind it. -/
namespace Go.Vf.S
open Go Go.Vf
set_option linter.unusedVariables false
set_option linter.unusedSimpArgs false
set_option maxRecDepth 10000

/-- What the byte ahead is not, if there is one. -/
def noBl (l : List UInt8) : Prop := ∀ c, l.head? = some c → wh c = false ∧ c ≠ 40
def noWl (l : List UInt8) : Prop := ∀ c, l.head? = some c → wlB c = false
def noWd (l : List UInt8) : Prop := ∀ c, l.head? = some c → wlB c = false ∧ c ≠ 34
def noDl (l : List UInt8) : Prop := ∀ c, l.head? = some c → dlB c = false
def stp (l : List UInt8) : Prop := ∀ c, l.head? = some c → c = 44 ∨ c = 59 ∨ c = 62
def stpG (l : List UInt8) : Prop := ∀ c, l.head? = some c → c = 59 ∨ c = 62
theorem stp.bl {l : List UInt8} (h : stp l) : noBl l := fun c hc => by rcases h c hc with rfl | rfl | rfl <;> decide
theorem stp.wd {l : List UInt8} (h : stp l) : noWd l := fun c hc => by rcases h c hc with rfl | rfl | rfl <;> decide
theorem stp.dl {l : List UInt8} (h : stp l) : noDl l := fun c hc => by rcases h c hc with rfl | rfl | rfl <;> decide
theorem stpG.stp {l : List UInt8} (h : stpG l) : stp l := fun c hc => .inr (h c hc)
theorem stpG_nil : stpG [] := fun c h => by cases h
theorem noWd.wl {l : List UInt8} (h : noWd l) : noWl l := fun c hc => (h c hc).1
theorem head_take {l : List UInt8} {c : UInt8} : l.take 1 = [c] ↔ l.head? = some c := by
  cases l with
  | nil => simp
  | cons d l => simp
theorem head_app {l r s : List UInt8} (h : l ≠ []) : (l ++ r).head? = (l ++ s).head? := by
  cases l with
  | nil => exact absurd rfl h
  | cons c l => rfl

/-- A comment's end hangs on nothing behind it. -/
theorem cm_loc : ∀ (l : List UInt8) (d : Nat) (e : Bool) (i n : Nat) (r : List UInt8), cm l d e i = (n, 0) → cm (l.take (n - i) ++ r) d e i = (n, 0)
  | [], d, e, i, n, r, h => by simp [cm] at h
  | c :: l, d, e, i, n, r, h => by
    have hp := cm_pos (c :: l) d e i n h
    have ih := fun d e h => cm_loc l d e (i + 1) n r h
    obtain ⟨k, hk⟩ : ∃ k, n - i = k + 1 := ⟨n - i - 1, by omega⟩
    have hk2 : n - (i + 1) = k := by omega
    rw [hk2] at ih
    rw [hk, List.take_succ_cons, List.cons_append]
    rw [cm] at h ⊢
    split at h
    · cases h
    · rename_i h1
      rw [if_neg h1]
      split at h
      · rename_i h2
        rw [if_pos h2]; exact ih _ _ h
      · rename_i h2
        rw [if_neg h2]
        split at h
        · rename_i h3; rw [if_pos h3]; exact ih _ _ h
        · rename_i h3
          rw [if_neg h3]
          split at h
          · cases h
          · rename_i h4
            rw [if_neg h4]
            split at h
            · rename_i h5; rw [if_pos h5]; exact ih _ _ h
            · rename_i h5
              rw [if_neg h5]
              split at h
              · rename_i h6; rw [if_pos h6]; exact h
              · rename_i h6
                rw [if_neg h6]
                split at h
                · rename_i h7; rw [if_pos h7]; exact ih _ _ h
                · rename_i h7; rw [if_neg h7]; exact ih _ _ h
theorem comment_loc {l : List UInt8} {n : Nat} (r : List UInt8) (h : commentF l = (n, 0)) : commentF (l.take n ++ r) = (n, 0) := by
  unfold commentF at h
  split at h
  · rename_i h1
    have := cm_loc l 0 false 0 n r h
    rw [Nat.sub_zero] at this
    unfold commentF
    have hp := cm_pos l 0 false 0 n h
    cases l with
    | nil => cases h1
    | cons c l =>
      obtain ⟨k, rfl⟩ : ∃ k, n = k + 1 := ⟨n - 1, by omega⟩
      rw [if_pos (by simpa using h1)]
      exact this
  · cases h

/-- White space is passed over, whatever stands behind it. -/
theorem bl_run : ∀ (N f : Nat) (l : List UInt8) (a n : Nat), l.length ≤ N → l.length < f → bl f l a = (n, 0) → a ≤ n ∧ n ≤ a + l.length ∧ noBl (l.drop (n - a)) ∧ ∀ (r : List UInt8) (f' a' : Nat), (l.take (n - a) ++ r).length < f' → ∃ g, r.length < g ∧ bl f' (l.take (n - a) ++ r) a' = bl g r (a' + (n - a))
  | N, f, [], a, n, _, hf, h => by
    rw [bl_nil (by omega)] at h
    cases h
    refine ⟨Nat.le_refl _, by simp, by simp [noBl], fun r f' a' hf' => ?_⟩
    simp only [List.take_nil, List.nil_append, Nat.sub_self, Nat.add_zero] at hf' ⊢
    exact ⟨f', hf', rfl⟩
  | 0, f, c :: l, a, n, hN, hf, h => by simp at hN
  | N + 1, f, c :: l, a, n, hN, hf, h => by
    have hN : l.length ≤ N := by simpa using hN
    have hf : l.length + 1 < f := by simpa using hf
    by_cases hw : wh c = true
    · rw [bl_wh (by omega) hw] at h
      obtain ⟨h1, h2, h3, h4⟩ := bl_run N f l (a + 1) n hN (by omega) h
      obtain ⟨k, hk⟩ : ∃ k, n - a = k + 1 := ⟨n - a - 1, by omega⟩
      have hk2 : n - (a + 1) = k := by omega
      rw [hk2] at h3 h4
      refine ⟨by omega, by simp; omega, by rw [hk]; exact h3, fun r f' a' hf' => ?_⟩
      rw [hk, List.take_succ_cons, List.cons_append] at hf' ⊢
      simp only [List.length_cons] at hf'
      obtain ⟨g, hg, e⟩ := h4 r f' (a' + 1) (by omega)
      exact ⟨g, hg, by rw [bl_wh (by omega) hw, e, show a' + 1 + k = a' + (k + 1) by omega]⟩
    · have hw : wh c = false := by simpa using hw
      by_cases h40 : c.toNat = 40
      · obtain ⟨g, rfl⟩ : ∃ g, f = g + 1 := ⟨f - 1, by omega⟩
        rw [bl_open h40] at h
        split at h
        · rename_i h0
          obtain ⟨m, hm⟩ : ∃ m, commentF (c :: l) = (m, 0) := ⟨_, Prod.ext rfl h0⟩
          have hp := comment_pos h0
          rw [hm] at h hp
          simp only at h hp
          have hp2 : m ≤ l.length + 1 := by simpa using hp.2
          have hdl : ((c :: l).drop m).length = l.length + 1 - m := by simp
          obtain ⟨h1, h2, h3, h4⟩ := bl_run N g ((c :: l).drop m) (a + m) n (by omega) (by omega) h
          rw [hdl] at h2
          rw [List.drop_drop] at h3
          have e1 : m + (n - (a + m)) = n - a := by omega
          rw [e1] at h3
          refine ⟨by omega, by simp; omega, h3, fun r f' a' hf' => ?_⟩
          have e2 : (c :: l).take (n - a) = (c :: l).take m ++ ((c :: l).drop m).take (n - (a + m)) := by rw [← e1, List.take_add]
          obtain ⟨g', rfl⟩ : ∃ g', f' = g' + 1 := ⟨f' - 1, by omega⟩
          rw [e2, List.append_assoc] at hf' ⊢
          have hcl := comment_loc (((c :: l).drop m).take (n - (a + m)) ++ r) hm
          have hlen : ((c :: l).take m).length = m := by simp; omega
          obtain ⟨j, rfl⟩ : ∃ j, m = j + 1 := ⟨m - 1, by omega⟩
          rw [List.take_succ_cons, List.cons_append] at hcl hf' ⊢
          have e3 : (c :: (l.take j ++ (((c :: l).drop (j + 1)).take (n - (a + (j + 1))) ++ r))).drop (j + 1) = ((c :: l).drop (j + 1)).take (n - (a + (j + 1))) ++ r := by
            rw [List.drop_succ_cons, List.drop_left' (by simp; omega)]
          simp only [List.length_cons, List.length_append, List.length_take] at hf'
          obtain ⟨g2, hg2, e4⟩ := h4 r g' (a' + (j + 1)) (by simp only [List.length_append, List.length_take]; omega)
          refine ⟨g2, hg2, ?_⟩
          rw [bl_open h40, hcl]
          simp only [if_true]
          rw [e3, e4, show a' + (j + 1) + (n - (a + (j + 1))) = a' + (n - a) by omega]
        · rename_i h0
          exact absurd (congrArg Prod.snd h) h0
      · rw [bl_no (by omega) hw h40] at h
        cases h
        have hc : noBl (c :: l) := fun d hd => by cases hd; exact ⟨hw, fun e => h40 (by rw [e]; rfl)⟩
        refine ⟨Nat.le_refl _, by simp, by simpa using hc, fun r f' a' hf' => ?_⟩
        simp only [List.take_zero, List.nil_append, Nat.sub_self, Nat.add_zero] at hf' ⊢
        exact ⟨f', hf', rfl⟩
theorem bl_stop {g x : Nat} {r : List UInt8} (hg : r.length < g) (hr : noBl r) : bl g r x = (x, 0) := by
  cases r with
  | nil => exact bl_nil (by omega)
  | cons c r =>
    have := hr c rfl
    exact bl_no (by omega) this.1 (byte_ne this.2)
/-- White space hangs on nothing but the byte behind it. -/
theorem bl_loc (N f : Nat) (l : List UInt8) (a n : Nat) (h1 : l.length ≤ N) (h2 : l.length < f) (h : bl f l a = (n, 0)) : a ≤ n ∧ n ≤ a + l.length ∧ noBl (l.drop (n - a)) ∧ ∀ (r : List UInt8) (f' a' : Nat), noBl r → (l.take (n - a) ++ r).length < f' → bl f' (l.take (n - a) ++ r) a' = (a' + (n - a), 0) := by
  obtain ⟨q1, q2, q3, q4⟩ := bl_run N f l a n h1 h2 h
  refine ⟨q1, q2, q3, fun r f' a' hr hf' => ?_⟩
  obtain ⟨g, hg, e⟩ := q4 r f' a' hf'
  rw [e, bl_stop hg hr]
/-- If white space is wrong, the byte ahead begins it. -/
theorem bl_err : ∀ (f : Nat) (l : List UInt8) (a n e : Nat), bl f l a = (n, e) → e ≠ 0 → n = 0 ∧ ¬noBl l
  | 0, l, a, n, e, h, he => by cases h; exact absurd rfl he
  | f + 1, l, a, n, e, h, he => by
    have key : ∀ c r, l = c :: r → (wh c = true ∨ c = 40) → ¬noBl l := fun c r q w z => by
      have := z c (by rw [q]; rfl)
      rcases w with w | w
      · rw [w] at this; cases this.1
      · exact this.2 w
    have key2 : (l.dropWhile wh).take 1 = [40] → ¬noBl l := fun q => by
      cases l with
      | nil => cases q
      | cons c r =>
        refine key c r rfl ?_
        by_cases hw : wh c = true
        · exact .inl hw
        · rw [List.dropWhile_cons, if_neg hw] at q
          exact .inr (by simpa using q)
    rw [bl] at h
    split at h
    · rename_i h1
      split at h
      · exact ⟨(bl_err f _ _ _ _ h he).1, key2 h1⟩
      · cases h
        exact ⟨rfl, key2 h1⟩
    · cases h; exact absurd rfl he
theorem bl_head {l : List UInt8} (h : 0 < blN l) : ¬noBl l := by
  intro hn
  cases hl : l with
  | nil => subst hl; unfold blN blankF at h; rw [bl_nil (by omega)] at h; simp at h
  | cons c r =>
    subst hl
    have := hn c rfl
    unfold blN blankF at h
    rw [bl_no (by omega) this.1 (byte_ne this.2)] at h
    simp at h
theorem bl_idem (l : List UInt8) : blN (l.drop (blN l)) = 0 := by
  obtain ⟨n, e, h⟩ : ∃ n e, blankF l = (n, e) := ⟨_, _, rfl⟩
  by_cases he : e = 0
  · subst he
    have := (bl_loc _ _ l 0 n (Nat.le_refl _) (Nat.lt_succ_self _) h).2.2.1
    have e1 : blN l = n := by unfold blN; rw [h]
    rw [e1]
    rcases Nat.eq_zero_or_pos (blN (l.drop n)) with q | q
    · exact q
    · exact absurd this (bl_head q)
  · have := (bl_err _ l 0 n e h he).1
    have e1 : blN l = 0 := by unfold blN; rw [h]; exact this
    rw [e1]
    exact e1
/-- White space, and what stands behind it: nothing more hangs on it. -/
theorem blN_loc {l r : List UInt8} (h : noBl (l.drop (blN l))) (hr : noBl r) : blN (l.take (blN l) ++ r) = blN l := by
  obtain ⟨n, e, hb⟩ : ∃ n e, blankF l = (n, e) := ⟨_, _, rfl⟩
  have e1 : blN l = n := by unfold blN; rw [hb]
  rw [e1] at h ⊢
  by_cases he : e = 0
  · subst he
    have := (bl_loc _ _ l 0 n (Nat.le_refl _) (Nat.lt_succ_self _) hb).2.2.2 r ((l.take n ++ r).length + 1) 0 hr (Nat.lt_succ_self _)
    rw [Nat.sub_zero] at this
    unfold blN blankF
    rw [this, Nat.zero_add]
  · obtain ⟨rfl, h2⟩ := bl_err _ l 0 n e hb he
    exact absurd h h2

/-- A quoted string's end hangs on nothing behind it. -/
theorem qd_loc : ∀ (l : List UInt8) (e : Bool) (o : List UInt8) (i : Nat) (t : List UInt8) (n : Nat) (r : List UInt8), qd l e o i = (t, n, 0) → i + 1 < n ∧ qd (l.take (n - (i + 1)) ++ r) e o i = (t, n, 0)
  | [], e, o, i, t, n, r, h => by simp [qd] at h
  | c :: l, e, o, i, t, n, r, h => by
    have ih := fun e o h => qd_loc l e o (i + 1) t n r h
    rw [qd] at h
    split at h
    · rename_i h1
      split at h
      · rename_i h2
        cases h
        refine ⟨Nat.lt_succ_self _, ?_⟩
        rw [show i + 2 - (i + 1) = 0 + 1 by omega, List.take_succ_cons, List.cons_append, qd, if_pos h1, if_pos h2]
      · rename_i h2
        split at h
        · rename_i h3
          obtain ⟨h4, h5⟩ := ih _ _ h
          refine ⟨by omega, ?_⟩
          rw [show n - (i + 1) = n - (i + 1 + 1) + 1 by omega, List.take_succ_cons, List.cons_append, qd, if_pos h1, if_neg h2, if_pos h3]
          exact h5
        · rename_i h3
          obtain ⟨h4, h5⟩ := ih _ _ h
          refine ⟨by omega, ?_⟩
          rw [show n - (i + 1) = n - (i + 1 + 1) + 1 by omega, List.take_succ_cons, List.cons_append, qd, if_pos h1, if_neg h2, if_neg h3]
          exact h5
    · cases h
theorem quoted_loc {l t : List UInt8} {n : Nat} (r : List UInt8) (h : quotedF l = (t, n, 0)) : quotedF (l.take n ++ r) = (t, n, 0) := by
  unfold quotedF at h
  split at h
  · rename_i h1
    obtain ⟨h2, h3⟩ := qd_loc _ _ _ _ _ _ r h
    have e := take1_cons h1
    obtain ⟨k, rfl⟩ : ∃ k, n = k + 1 := ⟨n - 1, by omega⟩
    unfold quotedF
    have e2 : l.take (k + 1) ++ r = 34 :: ((l.drop 1).take k ++ r) := by
      conv => lhs; rw [e]
      rfl
    rw [e2, if_pos (by rfl)]
    exact h3
  · cases h

theorem while_app {f : UInt8 → Bool} : ∀ {a r : List UInt8}, a.all f = true → (∀ c, r.head? = some c → f c = false) → (a ++ r).takeWhile f = a
  | [], [], _, _ => rfl
  | [], c :: r, _, hr => by rw [List.nil_append, List.takeWhile_cons, if_neg (by rw [hr c rfl]; simp)]
  | c :: a, r, ha, hr => by
    rw [List.all_cons, Bool.and_eq_true] at ha
    rw [List.cons_append, List.takeWhile_cons, if_pos ha.1, while_app ha.2 hr]
theorem while_take (f : UInt8 → Bool) (l : List UInt8) : l.take (l.takeWhile f).length = l.takeWhile f := by
  have := List.takeWhile_append_dropWhile (p := f) (l := l)
  conv => lhs; arg 2; rw [← this]
  rw [List.take_left]
theorem while_ok (f : UInt8 → Bool) (l : List UInt8) : (l.takeWhile f).all f = true := by
  rw [List.all_eq_true]
  intro c hc
  induction l with
  | nil => simp at hc
  | cons x l ih =>
    rw [List.takeWhile_cons] at hc
    split at hc
    · rename_i hx
      rcases List.mem_cons.1 hc with rfl | hc
      · exact hx
      · exact ih hc
    · simp at hc
theorem while_next {f : UInt8 → Bool} {l : List UInt8} : ∀ c, (l.drop (l.takeWhile f).length).head? = some c → f c = false := by
  induction l with
  | nil => intro c h; simp at h
  | cons x l ih =>
    intro c h
    rw [List.takeWhile_cons] at h
    split at h
    · exact ih c h
    · rename_i hx
      cases h
      simpa using hx

theorem word_head {l : List UInt8} (h : 0 < wordN l) : ∃ c, l.head? = some c ∧ (wlB c = true ∨ c = 34) := by
  unfold wordN at h
  split at h
  · rename_i h0
    unfold quotedF at h
    split at h
    · rename_i h1
      exact ⟨34, head_take.1 h1, .inr rfl⟩
    · exact absurd h (Nat.lt_irrefl 0)
  · cases l with
    | nil => simp at h
    | cons c l =>
      rw [List.takeWhile_cons] at h
      split at h
      · rename_i hc
        exact ⟨c, rfl, .inl hc⟩
      · simp at h
theorem wl_bl {c : UInt8} (h : wlB c = true ∨ c = 34) : wh c = false ∧ c ≠ 40 ∧ c ≠ 64 ∧ c ≠ 60 ∧ c ≠ 58 := by
  have := all_bytes (p := fun c => !(wlB c || c == 34) || (!wh c && c != 40 && c != 64 && c != 60 && c != 58)) (by decide +kernel) c
  have h' : (wlB c || c == 34) = true := by rcases h with h | h <;> simp [h]
  rw [h'] at this
  simp only [Bool.not_true, Bool.false_or, Bool.and_eq_true, Bool.not_eq_true', bne_iff_ne] at this
  exact ⟨this.1.1.1.1, this.1.1.1.2, this.1.1.2, this.1.2, this.2⟩
theorem word_bl {l : List UInt8} (h : 0 < wordN l) : noBl l := fun d hd => by
  obtain ⟨c, hc, hw⟩ := word_head h
  rw [hc] at hd
  cases hd
  have := wl_bl hw
  exact ⟨this.1, this.2.1⟩
theorem word_loc {l r : List UInt8} (h : 0 < wordN l) (hr : r.head? = (l.drop (wordN l)).head? ∨ noWl r) : wordN (l.take (wordN l) ++ r) = wordN l := by
  by_cases h0 : (quotedF l).2.2 = 0
  · have e : wordN l = (quotedF l).2.1 := by unfold wordN; rw [if_pos h0]
    rw [e]
    have := quoted_loc r (show quotedF l = ((quotedF l).1, (quotedF l).2.1, 0) by rw [← h0])
    unfold wordN
    rw [this]
    rfl
  · have e : wordN l = (l.takeWhile wlB).length := by unfold wordN; rw [if_neg h0]
    rw [e] at h hr ⊢
    have e2 := while_take wlB l
    rw [e2]
    have hn : ∀ c, r.head? = some c → wlB c = false := by
      rcases hr with hr | hr
      · rw [hr]; exact while_next
      · exact hr
    have h1 := while_app (while_ok wlB l) hn
    have h34 : (quotedF (l.takeWhile wlB ++ r)).2.2 ≠ 0 := by
      unfold quotedF
      rw [if_neg]
      · simp
      · intro q
        cases hw : l.takeWhile wlB with
        | nil => rw [hw] at h; simp at h
        | cons c t =>
          rw [hw] at q
          have hc : wlB c = true := by
            have := while_ok wlB l
            rw [hw, List.all_cons, Bool.and_eq_true] at this
            exact this.1
          have : c = 34 := by simpa using q
          rw [this] at hc
          revert hc
          decide
    unfold wordN
    rw [if_neg h34, h1]
theorem word_no {l : List UInt8} (h : noWd l) : wordN l = 0 := by
  rcases Nat.eq_zero_or_pos (wordN l) with q | q
  · exact q
  · obtain ⟨c, hc, hw⟩ := word_head q
    have := h c hc
    rcases hw with hw | hw
    · rw [this.1] at hw; cases hw
    · exact absurd hw this.2

/-- A domain that may be (but for its length) is read whole. -/
theorem oct_chars {p : List UInt8} (h : octF p = true) : (93 : UInt8) ∉ p := by
  intro hc
  have h0 := (of_decide_eq_true h).1
  by_cases q : 1 ≤ p.length ∧ p.length ≤ clamp 3 ∧ p.all digB = true
  · have := List.all_eq_true.1 q.2.2 _ hc
    revert this
    decide
  · rw [number_no q] at h0
    cases h0
theorem lit_parts {d : List UInt8} (h : litF d = true) : ∃ m, d = 91 :: m ++ [93] ∧ (93 : UInt8) ∉ m := by
  unfold litF at h
  rw [Bool.and_eq_true, decide_eq_true_eq, Bool.and_eq_true] at h
  obtain ⟨⟨h1, h2⟩, h3, h4⟩ := h
  obtain ⟨m, hm⟩ := h2
  have e := take1_cons h1
  refine ⟨m, by rw [e, ← hm]; rfl, fun hc => ?_⟩
  have hi : inner d = m := by
    unfold inner
    have : d.length - 2 = m.length := by rw [e, ← hm]; simp
    rw [this, ← hm, List.take_left]
  rw [hi] at h3
  obtain ⟨p, hp, hq⟩ := mem_part (by decide) hc
  exact oct_chars (List.all_eq_true.1 h3 p hp) hq
theorem lab_chars {d : List UInt8} (h : (splitF 46 d).all labelF = true) : d.all dlB = true := by
  rw [List.all_eq_true]
  intro c hc
  unfold dlB
  by_cases h46 : c = 46
  · simp [h46]
  · obtain ⟨p, hp, hq⟩ := mem_part h46 hc
    have h1 := List.all_eq_true.1 h p hp
    unfold labelF at h1
    rw [Bool.and_eq_true] at h1
    rw [List.all_eq_true.1 h1.1 c hq, Bool.or_true]
theorem dom_cases {d : List UInt8} (h : domF d ≠ 5) : litF d = true ∨ (d.all dlB = true ∧ d ≠ []) := by
  unfold domF at h
  split at h
  · rename_i h1; exact .inl h1
  · split at h
    · rename_i h2
      refine .inr ⟨lab_chars h2, fun e => ?_⟩
      subst e
      revert h2
      decide
    · exact absurd rfl h
theorem dom_read {d r : List UInt8} (h : domF d ≠ 5) (hr : noDl r) : domN (d ++ r) = d.length := by
  rcases dom_cases h with h | ⟨h, hne⟩
  · obtain ⟨m, rfl, hm⟩ := lit_parts h
    have e : 91 :: m ++ [93] ++ r = 91 :: m ++ 93 :: r := by simp
    rw [e]
    unfold domN
    rw [if_pos (by rfl), if_pos (by simp)]
    have h1 : ((91 :: m : List UInt8)).all (· != 93) = true := by
      rw [List.all_cons, Bool.and_eq_true, List.all_eq_true]
      refine ⟨by decide, fun c hc => ?_⟩
      rw [bne_iff_ne]
      exact fun q => hm (q ▸ hc)
    rw [while_app h1 (fun c hc => by cases hc; decide)]
    simp
  · have h91 : ¬(d ++ r).take 1 = [91] := by
      intro q
      cases d with
      | nil => exact hne rfl
      | cons c d =>
        have : c = 91 := by simpa using q
        rw [List.all_cons, Bool.and_eq_true, this] at h
        exact absurd h.1 (by decide)
    unfold domN
    rw [if_neg h91, while_app h hr]
theorem dom_pos {d : List UInt8} (h : domF d ≠ 5) : 0 < d.length := by
  rcases dom_cases h with h | ⟨h, hne⟩
  · obtain ⟨m, rfl, _⟩ := lit_parts h
    simp
  · exact List.length_pos_iff.2 hne

/-- An address that may be (but for its length) is read whole. -/
theorem adr_read {t r : List UInt8} (h : (parseF t).2.2 ≠ 5) (hr : noDl r) : adrN (t ++ r) = t.length ∧ 0 < wordN (t ++ r) ∧ wordN (t ++ r) + 1 < t.length := by
  have hp : (partsF t).2.2 = true := by
    unfold parseF at h
    split at h
    · exact absurd rfl h
    · rename_i q; simpa using q
  have hd : domF (partsF t).2.1 ≠ 5 := by
    unfold parseF at h
    rw [if_neg (by rw [hp]; simp)] at h
    split at h
    · exact h
    · rename_i q
      have : domF (partsF t).2.1 = 0 := by omega
      omega
  clear h
  unfold partsF at hp hd
  split at hp
  · rename_i h34
    rw [if_pos h34] at hd
    simp only at hd hp
    obtain ⟨h1, h2, h3⟩ := of_decide_eq_true hp
    have hq : quotedF t = ((quotedF t).1, (quotedF t).2.1, 0) := by rw [← h2]
    generalize (quotedF t).2.1 = n at *
    generalize (quotedF t).1 = w at *
    have hn := (quoted_is hq)
    have hnl : n < t.length := by have := take1_pos h1; rw [List.length_drop] at this; omega
    have e : t = t.take n ++ 64 :: t.drop (n + 1) := by
      have := take1_cons h1
      rw [List.drop_drop] at this
      rw [← this, List.take_append_drop]
    have hat : atRest (t.drop n) = t.drop (n + 1) := by
      unfold atRest
      rw [if_pos h1, List.drop_drop]
    rw [hat] at hd
    have hq2 := quoted_loc (64 :: t.drop (n + 1) ++ r) hq
    have e2 : t ++ r = t.take n ++ (64 :: t.drop (n + 1) ++ r) := by
      conv => lhs; rw [e]
      rw [List.append_assoc]
    rw [← e2] at hq2
    have hw : wordN (t ++ r) = n := by unfold wordN; rw [hq2]; rfl
    have hlen : (t.take n).length = n := by simp; omega
    have hdp := dom_pos hd
    rw [List.length_drop] at hdp
    refine ⟨?_, by omega, by omega⟩
    unfold adrN
    rw [hw, e2, List.drop_left' hlen, if_pos (by rfl)]
    have e3 : (t.take n ++ (64 :: t.drop (n + 1) ++ r)).drop (n + 1) = t.drop (n + 1) ++ r := by
      rw [← List.drop_drop, List.drop_left' hlen]
      rfl
    rw [e3, dom_read hd hr, List.length_drop]
    omega
  · rename_i h34
    rw [if_neg h34] at hd
    simp only [Bool.and_eq_true] at hd hp
    by_cases h64 : (64 : UInt8) ∈ t
    · have ec : cutF 64 t = (t.takeWhile (· != 64), t.drop ((t.takeWhile (· != 64)).length + 1), true) := by unfold cutF; rw [if_pos h64]
      rw [ec] at hd hp
      simp only at hd hp
      have hlt : (t.takeWhile (· != 64)).length < t.length := while_lt h64 (by decide)
      have e1 := while_take (· != 64) t
      have hnx := while_next (f := fun c : UInt8 => c != 64) (l := t)
      generalize hw : t.takeWhile (· != 64) = w at *
      have hhead : (t.drop w.length).head? = some 64 := by
        cases hx : t.drop w.length with
        | nil => have := congrArg List.length hx; simp at this; omega
        | cons c s =>
          have := hnx c (by rw [hx]; rfl)
          have : c = 64 := by simpa using this
          rw [this]; rfl
      have e : t = w ++ 64 :: t.drop (w.length + 1) := by
        have h5 := take1_cons (head_take.2 hhead)
        rw [List.drop_drop] at h5
        conv => lhs; rw [← List.take_append_drop w.length t, e1, h5]
      have hwl : w.all wlB = true := by
        rw [List.all_eq_true]
        intro c hc
        unfold wlB
        rcases dot_chars hp.2 c hc with q | q <;> simp [q]
      have hwne : w ≠ [] := fun q => by rw [q, dot_nil] at hp; cases hp.2
      have hwp := List.length_pos_iff.2 hwne
      have e2 : t ++ r = w ++ (64 :: t.drop (w.length + 1) ++ r) := by
        conv => lhs; rw [e]
        rw [List.append_assoc]
      have hn : wordN (t ++ r) = w.length := by
        have h0 : (quotedF (t ++ r)).2.2 ≠ 0 := by
          unfold quotedF
          rw [if_neg]
          · simp
          · intro q
            apply h34
            cases t with
            | nil => simp at hlt
            | cons c t => simpa using q
        unfold wordN
        rw [if_neg h0, e2, while_app hwl (fun c hc => by cases hc; decide)]
      have hdp := dom_pos hd
      rw [List.length_drop] at hdp
      refine ⟨?_, by omega, by omega⟩
      unfold adrN
      rw [hn, e2, List.drop_left, if_pos (by rfl)]
      have e3 : (w ++ (64 :: t.drop (w.length + 1) ++ r)).drop (w.length + 1) = t.drop (w.length + 1) ++ r := by
        rw [← List.drop_drop, List.drop_left]
        rfl
      rw [e3, dom_read hd hr, List.length_drop]
      omega
    · have ec : cutF 64 t = (t, [], false) := by unfold cutF; rw [if_neg h64]
      rw [ec] at hp
      cases hp.1
end Go.Vf.S
end
/- LiC -/
section
/- Lists of addresses, pure: others put in the addresses' places, all else is read as it was. -/
namespace Go.Vf.S
open Go Go.Vf
set_option linter.unusedVariables false
set_option linter.unusedSimpArgs false
set_option maxRecDepth 10000

/-- The same tokens, but for the addresses, which may be others. -/
def Sub : List Tok → List Tok → Prop
  | [], [] => True
  | .g l :: T, .g m :: S => l = m ∧ Sub T S
  | .d l :: T, .d m :: S => l = m ∧ Sub T S
  | .a l :: T, .a m :: S => (l = m ∨ (parseF m).2.2 ≠ 5) ∧ Sub T S
  | _, _ => False
theorem Sub.refl : ∀ T : List Tok, Sub T T
  | [] => trivial
  | .g l :: T => ⟨rfl, Sub.refl T⟩
  | .d l :: T => ⟨rfl, Sub.refl T⟩
  | .a l :: T => ⟨.inl rfl, Sub.refl T⟩
theorem Sub.app : ∀ {T1 T2 T' : List Tok}, Sub (T1 ++ T2) T' → ∃ S1 S2, T' = S1 ++ S2 ∧ Sub T1 S1 ∧ Sub T2 S2
  | [], T2, T', h => ⟨[], T', rfl, trivial, h⟩
  | .g l :: T1, T2, .g m :: T', h => by
    obtain ⟨S1, S2, rfl, h1, h2⟩ := Sub.app (T1 := T1) h.2
    exact ⟨.g m :: S1, S2, rfl, ⟨h.1, h1⟩, h2⟩
  | .d l :: T1, T2, .d m :: T', h => by
    obtain ⟨S1, S2, rfl, h1, h2⟩ := Sub.app (T1 := T1) h.2
    exact ⟨.d m :: S1, S2, rfl, ⟨h.1, h1⟩, h2⟩
  | .a l :: T1, T2, .a m :: T', h => by
    obtain ⟨S1, S2, rfl, h1, h2⟩ := Sub.app (T1 := T1) h.2
    exact ⟨.a m :: S1, S2, rfl, ⟨h.1, h1⟩, h2⟩
theorem Sub.g1 {l : List UInt8} {T' : List Tok} (h : Sub [.g l] T') : T' = [.g l] := by
  match T', h with
  | [.g m], h => rw [h.1]
theorem Sub.d1 {l : List UInt8} {T' : List Tok} (h : Sub [.d l] T') : T' = [.d l] := by
  match T', h with
  | [.d m], h => rw [h.1]
theorem Sub.a1 {l : List UInt8} {T' : List Tok} (h : Sub [.a l] T') : ∃ m, T' = [.a m] ∧ (l = m ∨ (parseF m).2.2 ≠ 5) := by
  match T', h with
  | [.a m], h => exact ⟨m, rfl, h.1⟩
theorem Sub.nil1 {T' : List Tok} (h : Sub [] T') : T' = [] := by
  match T', h with
  | [], h => rfl
theorem flT_g (l : List UInt8) : flT [.g l] = l := by simp [flT, Tok.b]
theorem flT_a (l : List UInt8) : flT [.a l] = l := by simp [flT, Tok.b]
theorem flT_d (l : List UInt8) : flT [.d l] = l := by simp [flT, Tok.b]

/-- Whatever stands behind, and in the addresses' places, as long as it begins well. -/
def Loc (q : List UInt8 → PR) (A : List UInt8 → Prop) : Prop := ∀ l T r, q l = some (T, r) → A r → ∀ T' r', Sub T T' → A r' → q (flT T' ++ r') = some (T', r')
def Hd (q : List UInt8 → PR) (A B : List UInt8 → Prop) : Prop := ∀ l T r, q l = some (T, r) → A r → B l
theorem Loc.weak {q : List UInt8 → PR} {A B : List UInt8 → Prop} (h : Loc q A) (hb : ∀ r, B r → A r) : Loc q B := fun l T r h1 h2 T' r' h3 h4 => h l T r h1 (hb _ h2) T' r' h3 (hb _ h4)
theorem Hd.weak {q : List UInt8 → PR} {A B C : List UInt8 → Prop} (h : Hd q A B) (hb : ∀ r, B r → C r) : Hd q A C := fun l T r h1 h2 => hb _ (h l T r h1 h2)
theorem Loc.bind {p q : List UInt8 → PR} {A B : List UInt8 → Prop} (hp : Loc p B) (hq : Loc q A) (hd : Hd q A B) : Loc (fun l => bindP (p l) q) A := by
  intro l T r h hA T' r' hs hA'
  obtain ⟨T1, r1, T2, h1, h2, rfl⟩ := bindP_is h
  obtain ⟨S1, S2, rfl, s1, s2⟩ := hs.app
  have k2 := hq _ _ _ h2 hA _ _ s2 hA'
  have k1 := hp _ _ _ h1 (hd _ _ _ h2 hA) _ _ s1 (hd _ _ _ k2 hA')
  rw [flT_app, List.append_assoc]
  show bindP (p (flT S1 ++ (flT S2 ++ r'))) q = _
  rw [k1, bindP_two k2]

theorem loc_bl : Loc blP noBl := fun l T r h hA T' r' hs hA' => by
  cases h
  have := hs.g1
  subst this
  rw [flT_g]
  unfold blP
  rw [blN_loc hA hA']
  have e : (l.take (blN l)).length = blN l := by rw [List.length_take]; have := blN_le l; omega
  rw [List.take_left' e, List.drop_left' e]
theorem loc_by (c : UInt8) (A : List UInt8 → Prop) : Loc (byP c) A := fun l T r h hA T' r' hs hA' => by
  unfold byP at h
  split at h
  · cases h
    have := hs.g1
    subst this
    rw [flT_g]
    unfold byP
    rw [if_pos (by rfl)]
    rfl
  · cases h
theorem hd_by {c : UInt8} {A B : List UInt8 → Prop} (hB : ∀ l, l.head? = some c → B l) : Hd (byP c) A B := fun l T r h hA => by
  unfold byP at h
  split at h
  · rename_i q; exact hB l (head_take.1 q)
  · cases h
theorem hd_bind_by {c : UInt8} {A B : List UInt8 → Prop} {q : List UInt8 → PR} (hB : ∀ l, l.head? = some c → B l) : Hd (fun l => bindP (byP c l) q) A B := fun l T r h hA => by
  obtain ⟨T1, r1, T2, h1, h2, rfl⟩ := bindP_is h
  exact hd_by (A := fun _ => True) hB _ _ _ h1 trivial
theorem loc_ad : Loc adP noDl := fun l T r h hA T' r' hs hA' => by
  unfold adP at h
  split at h
  · cases h
  · rename_i h5
    cases h
    obtain ⟨m, rfl, hm⟩ := hs.a1
    have hm : (parseF m).2.2 ≠ 5 := by
      rcases hm with rfl | hm
      · exact h5
      · exact hm
    rw [flT_a]
    unfold adP
    rw [(adr_read hm hA').1, List.take_left, List.drop_left, if_neg hm]
theorem loc_dm : Loc dmP noDl := fun l T r h hA T' r' hs hA' => by
  unfold dmP at h
  split at h
  · cases h
  · rename_i hd
    cases h
    have := hs.d1
    subst this
    rw [flT_d]
    unfold dmP
    rw [dom_read hd hA', List.take_left, List.drop_left, if_neg hd]
/-- An address at the front: a word begins it. -/
theorem ad_head {l : List UInt8} {T : List Tok} {r : List UInt8} (h : adP l = some (T, r)) : 0 < wordN l := by
  unfold adP at h
  split at h
  · cases h
  · rename_i h5
    rcases Nat.eq_zero_or_pos (wordN l) with h0 | h0
    · exfalso
      apply h5
      unfold adrN
      rw [h0]
      split
      · rename_i h1
        rw [List.drop_zero] at h1
        obtain ⟨x, hx⟩ : ∃ x, l.take (0 + 1 + domN (l.drop (0 + 1))) = 64 :: x := by
          rw [take1_cons h1, Nat.zero_add, Nat.add_comm, List.take_succ_cons]
          exact ⟨_, rfl⟩
        rw [hx]
        have : partsF (64 :: x) = ([], x, false) := by
          unfold partsF
          rw [if_neg (by simp)]
          have : cutF 64 (64 :: x) = ([], x, true) := by
            have := cut_at (f := []) (r := x) (by simp)
            rwa [List.nil_append] at this
          rw [this]
          simp [dot_nil]
        unfold parseF
        rw [this]
        rfl
      · rw [List.take_zero]
        decide +kernel
    · exact h0
theorem hd_ad (A : List UInt8 → Prop) : Hd adP A fun l => 0 < wordN l := fun l T r h _ => ad_head h
theorem hd_bl_dl : Hd blP stp noDl := fun l T r h hA => by
  cases h
  intro c hc
  rcases Nat.eq_zero_or_pos (blN l) with h0 | h0
  · rw [h0, List.drop_zero] at hA
    exact hA.dl c hc
  · have hn := bl_head h0
    by_cases hd : dlB c = false
    · exact hd
    · exfalso
      apply hn
      intro d hd'
      rw [hc] at hd'
      cases hd'
      have := all_bytes (p := fun c => !dlB c || (!wh c && c != 40)) (by decide +kernel) c
      have hd : dlB c = true := by simpa using hd
      rw [hd] at this
      simpa using this
theorem loc_adr : Loc adrP stp := Loc.bind loc_ad (loc_bl.weak fun r h => h.bl) hd_bl_dl
theorem hd_bind {p q : List UInt8 → PR} {A B : List UInt8 → Prop} (hp : Hd p (fun _ => True) B) : Hd (fun l => bindP (p l) q) A B := fun l T r h hA => by
  obtain ⟨T1, r1, T2, h1, h2, rfl⟩ := bindP_is h
  exact hp _ _ _ h1 trivial
theorem hd_adr (A : List UInt8 → Prop) : Hd adrP A fun l => 0 < wordN l := hd_bind (hd_ad _)
theorem loc_box : Loc boxP stp := Loc.bind loc_adr (Loc.bind (loc_by 62 fun r => True) (loc_bl.weak fun r h => h.bl) fun _ _ _ _ _ => trivial) (hd_bind_by fun l h c hc => by rw [h] at hc; cases hc; exact .inr (.inr rfl))
theorem hd_box (A : List UInt8 → Prop) : Hd boxP A fun l => 0 < wordN l := hd_bind (hd_adr _)
theorem word_64 {l : List UInt8} (h : 0 < wordN l) : ¬l.take 1 = [64] := fun q => by
  obtain ⟨c, hc, hw⟩ := word_head h
  rw [head_take.1 q] at hc
  cases hc
  exact (wl_bl hw).2.2.1 rfl

theorem loc_rt : ∀ f, Loc (rtP f) fun _ => True
  | 0 => fun l T r h => by cases h
  | f + 1 => by
    have hq : Loc (fun r => if r.take 1 = [44] then bindP (byP 44 r) (rtP f) else byP 58 r) fun _ => True := by
      intro l T r h hA T' r' hs hA'
      simp only at h ⊢
      split at h
      · have k := (Loc.bind (loc_by 44 fun _ => True) (loc_rt f) fun _ _ _ _ _ => trivial) l T r h trivial T' r' hs trivial
        have : (flT T' ++ r').take 1 = [44] := by
          obtain ⟨T1, r1, T2, h1, h2, rfl⟩ := bindP_is k
          unfold byP at h1
          split at h1
          · assumption
          · cases h1
        rw [if_pos this]
        exact k
      · rename_i h44
        have k := loc_by 58 (fun _ => True) l T r h trivial T' r' hs trivial
        have : ¬(flT T' ++ r').take 1 = [44] := by
          unfold byP at k
          split at k
          · rename_i q; rw [q]; simp
          · cases k
        rw [if_neg this]
        exact k
    have hd : Hd (fun r => if r.take 1 = [44] then bindP (byP 44 r) (rtP f) else byP 58 r) (fun _ => True) noDl := by
      intro l T r h hA
      simp only at h
      split at h
      · rename_i h44
        intro c hc
        rw [head_take.1 h44] at hc
        cases hc
        decide
      · exact hd_by (A := fun _ => True) (fun l h c hc => by rw [h] at hc; cases hc; decide) _ _ _ h trivial
    exact Loc.bind (loc_by 64 fun _ => True) (Loc.bind loc_dm hq hd) fun _ _ _ _ _ => trivial
theorem rt_fuel : ∀ (f f' : Nat) (l : List UInt8) (x : List Tok × List UInt8), rtP f l = some x → l.length < f' → rtP f' l = some x
  | 0, f', l, x, h, _ => by cases h
  | f + 1, 0, l, x, h, hl => by omega
  | f + 1, f' + 1, l, (T, r), h, hl => by
    rw [rtP] at h ⊢
    obtain ⟨T1, r1, T2, h1, h2, rfl⟩ := bindP_is h
    obtain ⟨T3, r3, T4, h3, h4, rfl⟩ := bindP_is h2
    rw [h1]
    refine bindP_two ?_
    rw [h3]
    refine bindP_two ?_
    split at h4
    · rename_i h44
      rw [if_pos h44]
      obtain ⟨T5, r5, T6, h5, h6, rfl⟩ := bindP_is h4
      rw [h5]
      refine bindP_two (rt_fuel f f' _ _ h6 ?_)
      have c1 := (cat_by 64).len h1
      have c3 := cat_dm.len h3
      have c5 := (cat_by 44).len h5
      have : (flT T1).length = 1 := by
        unfold byP at h1
        split at h1
        · cases h1; rfl
        · cases h1
      omega
    · rename_i h44
      rw [if_neg h44]; exact h4
theorem rt_head {f : Nat} {l r : List UInt8} {T : List Tok} (h : rtP f l = some (T, r)) : l.take 1 = [64] := by
  cases f with
  | zero => cases h
  | succ f =>
    rw [rtP] at h
    obtain ⟨T1, r1, T2, h1, h2, rfl⟩ := bindP_is h
    unfold byP at h1
    split at h1
    · assumption
    · cases h1
theorem loc_angT : Loc angT stp := by
  intro l T r h hA T' r' hs hA'
  unfold angT at h
  split at h
  · have hq : Loc (fun r => bindP (blP r) boxP) stp := Loc.bind loc_bl loc_box ((hd_box _).weak fun r h => word_bl h)
    have k := (Loc.bind (loc_rt (l.length + 1)) hq fun _ _ _ _ _ => trivial) l T r h hA T' r' hs hA'
    simp only at k
    obtain ⟨T1, r1, T2, h1, h2, h3⟩ := bindP_is k
    unfold angT
    rw [if_pos (rt_head h1), rt_fuel _ _ _ _ h1 (Nat.lt_succ_self _), bindP_two h2, h3]
  · have k := loc_box l T r h hA T' r' hs hA'
    unfold angT
    rw [if_neg (word_64 (hd_box (fun _ => True) _ _ _ k trivial))]
    exact k
theorem hd_angT : Hd angT stp noBl := by
  intro l T r h hA
  unfold angT at h
  split at h
  · rename_i h64
    intro c hc
    rw [head_take.1 h64] at hc
    cases hc
    decide
  · exact word_bl (hd_box (fun _ => True) _ _ _ h trivial)
theorem loc_ang : Loc angP stp := Loc.bind loc_bl loc_angT hd_angT

/-- Words. -/
theorem ph_loc : ∀ (f f' : Nat) (l : List UInt8) (T : List Tok) (r : List UInt8), l.length < f → phP f l = (T, r) → noWd r → noBl r → ∀ r', noWd r' → noBl r' → (flT T ++ r').length < f' → phP f' (flT T ++ r') = (T, r') ∧ (T ≠ [] → 0 < wordN (flT T ++ r') ∧ flT T ≠ [])
  | 0, f', l, T, r, hl, h, _, _, r', _, _, hf' => by omega
  | f + 1, 0, l, T, r, hl, h, _, _, r', _, _, hf' => by omega
  | f + 1, f' + 1, l, T, r, hl, h, hr1, hr2, r', h1', h2', hf' => by
    rw [phP] at h
    split at h
    · cases h
      refine ⟨?_, fun q => absurd rfl q⟩
      rw [flT_nil, List.nil_append, phP, if_pos (word_no h1')]
    · rename_i h0
      obtain ⟨w, hw⟩ : ∃ w, w = wordN l := ⟨_, rfl⟩
      obtain ⟨l1, hl1⟩ : ∃ l1, l1 = l.drop (wordN l) := ⟨_, rfl⟩
      obtain ⟨b, hb⟩ : ∃ b, b = blN l1 := ⟨_, rfl⟩
      rw [← hl1, ← hb] at h
      obtain ⟨T2, r2, h2⟩ : ∃ T2 r2, phP f (l1.drop b) = (T2, r2) := ⟨_, _, rfl⟩
      rw [h2] at h
      cases h
      have hwl := word_le l
      have hbl := blN_le l1
      have hl1l : l1.length = l.length - wordN l := by rw [hl1, List.length_drop]
      have hcat := cat_ph f (l1.drop b)
      rw [h2] at hcat
      have hT2 : ∀ r0 : List UInt8, (T2 ≠ [] → 0 < wordN (flT T2 ++ r0)) → noBl r0 → noBl (flT T2 ++ r0) := fun r0 q1 q2 => by
        by_cases hT : T2 = []
        · subst hT; exact q2
        · exact word_bl (q1 hT)
      have hf2 : (l1.drop b).length < f := by rw [List.length_drop]; omega
      have c0 : flT (.g (l.take (wordN l)) :: .g (l1.take b) :: T2) = l.take (wordN l) ++ (l1.take b ++ flT T2) := rfl
      have htl : (l.take (wordN l)).length = wordN l := by rw [List.length_take]; omega
      have htb : (l1.take b).length = b := by rw [List.length_take]; omega
      have hlen2 : (flT T2 ++ r').length < f' := by
        rw [c0] at hf'
        simp only [List.length_append, List.length_take] at hf' ⊢
        omega
      obtain ⟨k1, k2⟩ := ph_loc f f' _ _ _ hf2 h2 hr1 hr2 r' h1' h2' hlen2
      obtain ⟨-, k4⟩ := ph_loc f (((flT T2 ++ r2).length) + 1) _ _ _ hf2 h2 hr1 hr2 r2 hr1 hr2 (Nat.lt_succ_self _)
      have n1 : noBl (l1.drop b) := by rw [← hcat]; exact hT2 r2 (fun q => (k4 q).1) hr2
      have n2 : noBl (flT T2 ++ r') := hT2 r' (fun q => (k2 q).1) h2'
      have kb : blN (l1.take b ++ (flT T2 ++ r')) = b := by rw [hb] at n1 ⊢; exact blN_loc n1 n2
      have kw : wordN (l.take (wordN l) ++ (l1.take b ++ (flT T2 ++ r'))) = wordN l := by
        refine word_loc (by omega) ?_
        rw [← hl1]
        by_cases he : l1.take b ++ flT T2 = []
        · rw [List.append_eq_nil_iff] at he
          rw [he.1, he.2]
          exact .inr h1'.wl
        · left
          have e1 : l1 = l1.take b ++ flT T2 ++ r2 := by rw [List.append_assoc, hcat, List.take_append_drop]
          rw [← List.append_assoc]
          conv => rhs; rw [e1]
          exact head_app he
      have hne : flT (.g (l.take (wordN l)) :: .g (l1.take b) :: T2) ≠ [] := by
        rw [c0]
        intro q
        have := congrArg List.length q
        rw [List.length_append, htl] at this
        simp at this
        omega
      rw [c0, List.append_assoc, List.append_assoc]
      refine ⟨?_, fun _ => ⟨by rw [kw]; omega, by rw [← c0]; exact hne⟩⟩
      rw [phP, kw, if_neg h0, List.drop_left' htl, kb, List.take_left' htl, List.take_left' htb, List.drop_left' htb, k1]
theorem ph_all : ∀ (f : Nat) (l : List UInt8) (t : Tok), t ∈ (phP f l).1 → ∃ m, t = .g m
  | 0, l, t, h => by simp [phP] at h
  | f + 1, l, t, h => by
    rw [phP] at h
    split at h
    · simp at h
    · rcases List.mem_cons.1 h with rfl | h
      · exact ⟨_, rfl⟩
      · rcases List.mem_cons.1 h with rfl | h
        · exact ⟨_, rfl⟩
        · exact ph_all f _ _ h
theorem sub_g : ∀ {T T' : List Tok}, (∀ t ∈ T, ∃ m, t = .g m) → Sub T T' → T' = T
  | [], T', _, h => h.nil1
  | t :: T, T', hg, h => by
    obtain ⟨m, rfl⟩ := hg t (by simp)
    match T', h with
    | .g n :: S, h => rw [h.1, sub_g (fun t ht => hg t (List.mem_cons_of_mem _ ht)) h.2]

theorem tl_cases {grp : List UInt8 → PR} {w : Bool} {l r : List UInt8} {T : List Tok} (h : tlP grp w l = some (T, r)) : l.head? = some 60 ∨ (w = true ∧ l.head? = some 58) ∨ (w = false ∧ T = [] ∧ l = r) := by
  unfold tlP at h
  split at h
  · rename_i q; exact .inl (head_take.1 q)
  · split at h
    · rename_i hw
      split at h
      · rename_i q; exact .inr (.inl ⟨hw, head_take.1 q⟩)
      · cases h
    · rename_i hw
      cases h
      exact .inr (.inr ⟨by simpa using hw, rfl, rfl⟩)
theorem hd_tl {grp : List UInt8 → PR} {w : Bool} : Hd (tlP grp w) stp fun l => noWd l ∧ noBl l ∧ ¬l.take 1 = [64] := fun l T r h hA => by
  rcases tl_cases h with q | ⟨-, q⟩ | ⟨-, -, rfl⟩
  · exact ⟨fun c hc => by rw [q] at hc; cases hc; decide, fun c hc => by rw [q] at hc; cases hc; decide, by rw [head_take, q]; decide⟩
  · exact ⟨fun c hc => by rw [q] at hc; cases hc; decide, fun c hc => by rw [q] at hc; cases hc; decide, by rw [head_take, q]; decide⟩
  · exact ⟨hA.wd, hA.bl, fun q => by rcases hA 64 (head_take.1 q) with h | h | h <;> cases h⟩
theorem loc_tl {grp : List UInt8 → PR} (hg : Loc grp stp) (w : Bool) : Loc (tlP grp w) stp := by
  intro l T r h hA T' r' hs hA'
  unfold tlP at h
  split at h
  · have k := (Loc.bind (loc_by 60 fun _ => True) loc_ang fun _ _ _ _ _ => trivial) l T r h hA T' r' hs hA'
    obtain ⟨T1, r1, T2, h1, h2, h3⟩ := bindP_is k
    have : (flT T' ++ r').take 1 = [60] := by
      unfold byP at h1
      split at h1
      · assumption
      · cases h1
    unfold tlP
    rw [if_pos this]
    exact k
  · rename_i h60
    split at h
    · rename_i hw
      split at h
      · have k := (Loc.bind (loc_by 58 fun _ => True) hg fun _ _ _ _ _ => trivial) l T r h hA T' r' hs hA'
        obtain ⟨T1, r1, T2, h1, h2, h3⟩ := bindP_is k
        have : (flT T' ++ r').take 1 = [58] := by
          unfold byP at h1
          split at h1
          · assumption
          · cases h1
        unfold tlP
        rw [if_neg (by rw [this]; simp), if_pos hw, if_pos this]
        exact k
      · cases h
    · rename_i hw
      cases h
      have := hs.nil1
      subst this
      rw [flT_nil, List.nil_append]
      unfold tlP
      rw [if_neg (fun q => by rcases hA' 60 (head_take.1 q) with h | h | h <;> cases h), if_neg hw]

theorem adr_pos {l : List UInt8} {T : List Tok} {r : List UInt8} (h : adrP l = some (T, r)) : 0 < adrN l := by
  obtain ⟨T1, r1, T2, h1, h2, rfl⟩ := bindP_is h
  unfold adP at h1
  split at h1
  · cases h1
  · rename_i h5
    rcases Nat.eq_zero_or_pos (adrN l) with q | q
    · exfalso; apply h5; rw [q, List.take_zero]; decide +kernel
    · exact q
theorem loc_mb {grp : List UInt8 → PR} (hg : Loc grp stp) : Loc (mbP grp) stp := by
  intro l T r h hA T' r' hs hA'
  unfold mbP at h
  split at h
  · have k := loc_adr l T r h hA T' r' hs hA'
    unfold mbP
    rw [if_pos (adr_pos k)]
    exact k
  · rename_i h0
    obtain ⟨T1, r1, T2, h1, h2, rfl⟩ := bindP_is h
    have h1 := Option.some.inj h1
    rw [h1] at h2
    simp only at h2
    obtain ⟨S1, S2, rfl, s1, s2⟩ := hs.app
    have : S1 = T1 := sub_g (fun t ht => ph_all _ _ t (by rw [h1]; exact ht)) s1
    subst this
    have k2 := loc_tl hg _ _ _ _ h2 hA _ _ s2 hA'
    obtain ⟨n1, n2, n3⟩ := hd_tl _ _ _ h2 hA
    obtain ⟨m1, m2, m3⟩ := hd_tl _ _ _ k2 hA'
    obtain ⟨p1, p2⟩ := ph_loc _ ((flT S1 ++ (flT S2 ++ r')).length + 1) _ _ _ (Nat.lt_succ_self _) h1 n1 n2 _ m1 m2 (Nat.lt_succ_self _)
    rw [flT_app, List.append_assoc]
    have hz : ¬0 < adrN (flT S1 ++ (flT S2 ++ r')) := by
      have hcat := cat_ph (l.length + 1) l
      rw [h1] at hcat
      by_cases hS : S1 = []
      · subst hS
        rw [flT_nil, List.nil_append]
        unfold adrN
        rw [word_no m1, List.drop_zero, if_neg m3]
        exact Nat.lt_irrefl 0
      · -- the first word, and what stands behind it, are as they were
        have hl : phP (l.length + 1) l = (S1, r1) := h1
        rw [phP] at hl
        split at hl
        · cases hl; exact absurd rfl hS
        · rename_i hw0
          obtain ⟨q1, q2⟩ := p2 hS
          cases hl
          have hwl := word_le l
          have htl : (l.take (wordN l)).length = wordN l := by rw [List.length_take]; omega
          rw [flT_cons, List.append_assoc] at q1 ⊢
          generalize hB : (flT (.g ((l.drop (wordN l)).take (blN (l.drop (wordN l)))) :: (phP l.length ((l.drop (wordN l)).drop (blN (l.drop (wordN l))))).1) : List UInt8) = B at *
          generalize hR : (phP l.length ((l.drop (wordN l)).drop (blN (l.drop (wordN l))))).2 = R at *
          have hl2 : l.drop (wordN l) = B ++ R := by
            have := cat_ph l.length ((l.drop (wordN l)).drop (blN (l.drop (wordN l))))
            rw [← hB, flT_cons, List.append_assoc, ← hR, this]
            exact (List.take_append_drop _ _).symm
          have hno : ¬(l.drop (wordN l)).take 1 = [64] := fun q => h0 (by unfold adrN; rw [if_pos q]; omega)
          have kw : wordN (Tok.b (.g (l.take (wordN l))) ++ (B ++ (flT S2 ++ r'))) = wordN l := by
            refine word_loc (by omega) ?_
            rw [hl2]
            by_cases he : B = []
            · rw [he]; exact .inr m1.wl
            · exact .inl (head_app he)
          unfold adrN
          rw [kw]
          have e : (Tok.b (.g (l.take (wordN l))) ++ (B ++ (flT S2 ++ r'))).drop (wordN l) = B ++ (flT S2 ++ r') := List.drop_left' htl
          rw [e, if_neg]
          · exact Nat.lt_irrefl 0
          · by_cases he : B = []
            · rw [he]; exact m3
            · rw [head_take, ← head_app (r := R) he, ← hl2, ← head_take]; exact hno
    unfold mbP
    rw [if_neg hz, p1]
    exact bindP_two k2
theorem hd_mb {grp : List UInt8 → PR} : Hd (mbP grp) stp noBl := by
  intro l T r h hA
  unfold mbP at h
  split at h
  · exact word_bl (hd_adr (fun _ => True) _ _ _ h trivial)
  · obtain ⟨T1, r1, T2, h1, h2, rfl⟩ := bindP_is h
    have h1 := Option.some.inj h1
    rw [phP] at h1
    split at h1
    · cases h1
      exact (hd_tl _ _ _ h2 hA).2.1
    · rename_i hw
      exact word_bl (Nat.pos_of_ne_zero hw)
theorem loc_mem {grp : List UInt8 → PR} (hg : Loc grp stp) : Loc (memP grp) stp := Loc.bind loc_bl (loc_mb hg) hd_mb

/-- Members. -/
theorem ms_next {m : List UInt8 → PR} {f : Nat} : Hd (fun r => if r.take 1 = [44] then bindP (byP 44 r) (msP m f) else some ([], r)) stpG stp := fun l T r h hA => by
  simp only at h
  split at h
  · rename_i q
    intro c hc
    rw [head_take.1 q] at hc
    cases hc
    exact .inl rfl
  · cases h; exact hA.stp
theorem loc_ms {m : List UInt8 → PR} (hm : Loc m stp) : ∀ f, Loc (msP m f) stpG
  | 0 => fun l T r h => by cases h
  | f + 1 => by
    refine Loc.bind hm (fun l T r h hA T' r' hs hA' => ?_) ms_next
    split at h
    · have k := (Loc.bind (loc_by 44 fun _ => True) (loc_ms hm f) fun _ _ _ _ _ => trivial) l T r h hA T' r' hs hA'
      obtain ⟨T1, r1, T2, h1, h2, h3⟩ := bindP_is k
      have : (flT T' ++ r').take 1 = [44] := by
        unfold byP at h1
        split at h1
        · assumption
        · cases h1
      rw [if_pos this]
      exact k
    · cases h
      have := hs.nil1
      subst this
      rw [flT_nil, List.nil_append, if_neg (fun q => by rcases hA' 44 (head_take.1 q) with h | h <;> cases h)]
theorem by_len {c : UInt8} {l r : List UInt8} {T : List Tok} (h : byP c l = some (T, r)) : r.length + 1 = l.length := by
  unfold byP at h
  split at h
  · rename_i q
    cases h
    have := take1_pos q
    rw [List.length_drop]
    omega
  · cases h
theorem ms_fuel {m : List UInt8 → PR} (hm : Cat m) : ∀ (f f' : Nat) (l : List UInt8) (x : List Tok × List UInt8), msP m f l = some x → l.length < f' → msP m f' l = some x
  | 0, f', l, x, h, _ => by cases h
  | f + 1, 0, l, x, h, hl => by omega
  | f + 1, f' + 1, l, (T, r), h, hl => by
    rw [msP] at h ⊢
    obtain ⟨T1, r1, T2, h1, h2, rfl⟩ := bindP_is h
    rw [h1]
    refine bindP_two ?_
    split at h2
    · rename_i h44
      rw [if_pos h44]
      obtain ⟨T5, r5, T6, h5, h6, rfl⟩ := bindP_is h2
      rw [h5]
      refine bindP_two (ms_fuel hm f f' _ _ h6 ?_)
      have c1 := hm.len h1
      have c5 := by_len h5
      omega
    · rename_i h44
      rw [if_neg h44]; exact h2
theorem loc_no (A : List UInt8 → Prop) : Loc noP A := fun l T r h => by cases h
theorem loc_ms0 : Loc ms0 stpG := fun l T r h hA T' r' hs hA' => ms_fuel (cat_mem cat_no) _ _ _ _ (loc_ms (loc_mem (loc_no _)) _ l T r h hA T' r' hs hA') (Nat.lt_succ_self _)
theorem loc_gr : Loc grP stp := Loc.bind loc_ms0 (Loc.bind (loc_by 59 fun _ => True) (loc_bl.weak fun r h => h.bl) fun _ _ _ _ _ => trivial) (hd_bind_by fun l h c hc => by rw [h] at hc; cases hc; exact .inl rfl)
theorem loc_m1 : Loc (memP grP) stp := loc_mem loc_gr
theorem loc_ms1 : Loc ms1 stpG := fun l T r h hA T' r' hs hA' => ms_fuel (cat_mem cat_gr) _ _ _ _ (loc_ms loc_m1 _ l T r h hA T' r' hs hA') (Nat.lt_succ_self _)
/-- THE POINT: others in the addresses' places, and all else is read as it was. -/
theorem tok_sub {l : List UInt8} {T T' : List Tok} (h : tokF l = some T) (hs : Sub T T') : tokF (flT T') = some T' := by
  unfold tokF at h
  split at h
  · rename_i T0 h1
    cases h
    have := loc_ms1 _ _ _ h1 stpG_nil T' [] hs stpG_nil
    rw [List.append_nil] at this
    unfold tokF
    rw [this]
  · cases h
end Go.Vf.S
end
/- LiD -/
section
/- Lists of addresses: words, domains, addresses at the front. -/
namespace Go.Vf.S
open Go Go.Vf
attribute [local irreducible] wSeq wRow wp wG
set_option linter.unusedVariables false
set_option linter.unusedSimpArgs false
set_option maxRecDepth 10000

theorem lrow_w {s : SS} {l : List UInt8} {f : FuncId} {g : UInt8 → Bool} (hG : Gb s) (hl : l.length ≤ 1000000) (hf : ∀ x, callV pr (.func (.func f) ⟨[]⟩ ⟨[]⟩) [x] = some (.enter f [x]))
    (hc : ∀ c s1, Gb s1 → CallW pr f [str [c]] s1 fun v s2 => v = .bool (g c) ∧ Chg s1 s2 []) :
    CallW pr n_list_row [str l, .func (.func f) ⟨[]⟩ ⟨[]⟩] s fun v s' => v = .int .i64 ((l.takeWhile g).length : Nat) ∧ Chg s s' [] := by
  refine CallW.run good ok_list_row (by simp) rfl ?_
  (try refine pSeq ?_); (repeat refine sb ?_)
  intro n hn
  obtain rfl : n = (l.length : Int) := hn
  (repeat refine sb ?_)
  refine pLoop (MW.head good (fun x : Nat × SS => l.length - x.1) (fun x => x.1 ≤ l.length ∧ (l.takeWhile g).length = x.1 + ((l.drop x.1).takeWhile g).length ∧ Chg s x.2 []) (fun x => [(0, str l), (1, .func (.func f) ⟨[]⟩ ⟨[]⟩), (7, .int .i64 (l.length : Nat)), (8, .int .i64 x.1)]) (fun x => x.2) (0, s) ⟨Nat.zero_le _, by simp, .refl _ _⟩ (Wk.same ⟨rfl, rfl, rfl, rfl, trivial⟩) ?_)
  intro ⟨i, s1⟩ ⟨h1, h2, c1⟩
  dsimp only at h1 h2 c1 ⊢
  (repeat refine sb ?_)
  intro q hq
  by_cases hlt : i < l.length
  · obtain rfl : q = true := by rw [hq]; simp <;> omega
    obtain ⟨c, hcc⟩ : ∃ c, l[i]? = some c := ⟨_, List.getElem?_eq_getElem hlt⟩
    rw [drop_next hcc, List.takeWhile_cons] at h2
    (repeat refine sb ?_)
    intro z hz
    rw [i64_id (by omega)] at hz
    obtain rfl : z = ((i + 1 : Nat) : Int) := by omega
    (repeat refine sb ?_)
    refine ⟨by omega, ?_⟩
    intro m1 hm1
    refine ⟨by omega, ?_⟩
    intro m2 hm2 r hr
    obtain rfl : m2 = i := by omega
    obtain rfl : m1 = m2 + 1 := by omega
    have er : r = [c] := by
      rw [hr, show m2 + 1 - m2 = 1 by omega, drop_next hcc]
      rfl
    subst er
    (repeat refine sb ?_)
    refine ⟨.call f [str [c]], hf _, ?_⟩
    refine (hc c _ (hG.chg c1 (by simp))).mono fun v s2 q => ?_
    obtain ⟨rfl, c2⟩ := q
    (repeat refine sb ?_)
    intro q hq
    by_cases hp : g c = true
    · obtain rfl : q = false := by rw [hq, hp]; rfl
      rw [if_pos hp, List.length_cons] at h2
      (repeat refine sb ?_)
      intro z hz
      rw [i64_id (by omega)] at hz
      obtain rfl : z = ((m2 + 1 : Nat) : Int) := by omega
      (repeat refine sb ?_)
      exact ⟨(m2 + 1, s2), ⟨hlt, by dsimp only; omega, c1.nil c2⟩, by show l.length - (m2 + 1) < l.length - m2; omega, Wk.same ⟨rfl, rfl, rfl, rfl, trivial⟩⟩
    · obtain rfl : q = true := by rw [hq, Bool.eq_false_iff.2 hp]; rfl
      rw [if_neg hp] at h2
      (repeat refine sb ?_)
      exact ⟨by rw [h2]; rfl, c1.nil c2⟩
  · obtain rfl : q = false := by rw [hq]; simp <;> omega
    rw [List.drop_of_length_le (by omega)] at h2
    have h2 : (l.takeWhile g).length = i := h2
    (repeat refine sb ?_)
    intro n hn
    (repeat refine sb ?_)
    refine ⟨?_, c1⟩
    rw [h2, hn, show i = l.length by omega]
    rfl

theorem word1_w {s : SS} {c : UInt8} (hG : Gb s) : CallW pr n_list_word_1 [str [c]] s fun v s' => v = .bool (wlB c) ∧ Chg s s' [] := by
  refine CallW.run good ok_list_word_1 (by simp) rfl ?_
  have ea : atomF [c] = letB c := by simp [atomF]
  (try refine pSeq ?_); (repeat(first|refine sb ?_|refine gOn rfl ?_|refine gOff rfl rfl ?_|refine gTup rfl ?_))
  intro q hq
  by_cases h46 : c = 46
  · subst h46
    obtain rfl : q = true := by rw [hq]; rfl
    (repeat(first|refine sb ?_|refine gOn rfl ?_|refine gOff rfl rfl ?_|refine gTup rfl ?_))
    exact ⟨rfl, .refl _ _⟩
  · obtain rfl : q = false := by rw [hq]; simp [h46]
    (repeat(first|refine sb ?_|refine gOn rfl ?_|refine gOff rfl rfl ?_|refine gTup rfl ?_))
    refine (atom_w hG).mono fun v s1 q => ?_
    obtain ⟨rfl, c1⟩ := q
    rw [ea]
    (repeat(first|refine sb ?_|refine gOn rfl ?_|refine gOff rfl rfl ?_|refine gTup rfl ?_))
    refine ⟨bool_eq ?_, c1⟩
    have : (c == 46) = false := by simp [h46]
    unfold wlB
    rw [this]
    rfl
def domL : List UInt8 := [65, 66, 67, 68, 69, 70, 71, 72, 73, 74, 75, 76, 77, 78, 79, 80, 81, 82, 83, 84, 85, 86, 87, 88, 89, 90, 97, 98, 99, 100, 101, 102, 103, 104, 105, 106, 107, 108, 109, 110, 111, 112, 113, 114, 115, 116, 117, 118, 119, 120, 121, 122, 48, 49, 50, 51, 52, 53, 54, 55, 56, 57, 45, 46]
theorem in_dom (c : UInt8) : decide (c ∈ domL) = dlB c := by
  have := all_bytes (p := fun c => decide (c ∈ domL) == dlB c) (by decide +kernel) c
  simpa using this
theorem dom1_w {s : SS} {c : UInt8} : CallW pr n_list_domainSize_1 [str [c]] s fun v s' => v = .bool (dlB c) ∧ Chg s s' [] := by
  refine CallW.run good ok_list_domainSize_1 (by simp) rfl ?_
  (try refine pSeq ?_); (repeat refine sb ?_)
  refine (contains1_w (l := domL) (c := c)).mono fun v s q => ?_
  obtain ⟨rfl, rfl⟩ := q
  rw [in_dom]
  (repeat refine sb ?_)
  exact ⟨rfl, .refl _ _⟩

theorem word_w {s : SS} {l : List UInt8} (hG : Gb s) (hl : l.length ≤ 1000000) : CallW pr n_list_word [str l] s fun v s' => v = .int .i64 (wordN l : Nat) ∧ Chg s s' [] := by
  refine CallW.run good ok_list_word (by simp) rfl ?_
  have eF : wordN l = if (quotedF l).2.2 = 0 then (quotedF l).2.1 else (l.takeWhile wlB).length := rfl
  (try refine pSeq ?_); (repeat refine sb ?_)
  refine (quoted_w hl).mono fun v s1 q => ?_
  obtain ⟨rfl, c1⟩ := q
  generalize quotedF l = Q at *
  obtain ⟨a, m, e⟩ := Q
  dsimp only [qRes] at *
  (repeat refine sb ?_)
  intro q hq
  by_cases h0 : e = 0
  · obtain rfl : q = true := by rw [hq, h0]; rfl
    rw [if_pos h0] at eF
    rw [eF]
    (repeat refine sb ?_)
    exact ⟨rfl, c1⟩
  · obtain rfl : q = false := by rw [hq]; simp; omega
    rw [if_neg h0] at eF
    rw [eF]
    (repeat refine sb ?_)
    refine (lrow_w (hG.chg c1 (by simp)) hl (fun x => by kernel_rfl) (fun c s1 h => word1_w h)).mono fun v s2 q => ?_
    obtain ⟨rfl, c2⟩ := q
    (repeat refine sb ?_)
    exact ⟨rfl, c1.nil c2⟩

theorem first_93 {l : List UInt8} (h : (93 : UInt8) ∈ l) : ∃ a b : List UInt8, l = a ++ 93 :: b ∧ (93 : UInt8) ∉ a := by
  have h1 := List.takeWhile_append_dropWhile (p := fun c : UInt8 => c != 93) (l := l)
  have hno : (93 : UInt8) ∉ l.takeWhile (fun c => c != 93) := by
    intro q
    have := List.all_eq_true.1 (while_ok (fun c : UInt8 => c != 93) l) _ q
    simp at this
  cases hd : l.dropWhile fun c : UInt8 => c != 93 with
  | nil =>
    rw [hd, List.append_nil] at h1
    rw [h1] at hno
    exact absurd h hno
  | cons x r =>
    have h3 : x = 93 := by
      have := List.head?_dropWhile_not (fun c : UInt8 => c != 93) l
      rw [hd] at this
      simpa using this
    refine ⟨l.takeWhile (fun c => c != 93), r, ?_, hno⟩
    conv => lhs; rw [← h1, hd, h3]
theorem idx_93 {l : List UInt8} : (Lib.indexByte l 93 + 1 : Int) = ((if (93 : UInt8) ∈ l then (l.takeWhile (· != 93)).length + 1 else 0 : Nat) : Int) := by
  by_cases h : (93 : UInt8) ∈ l
  · rw [if_pos h]
    obtain ⟨a, b, rfl, ha⟩ := first_93 h
    rw [index_first ha, while_first ha]
    omega
  · rw [if_neg h, idx_no h]
    rfl

theorem domainSize_w {s : SS} {l : List UInt8} (hG : Gb s) (hl : l.length ≤ 1000000) : CallW pr n_list_domainSize [str l] s fun v s' => v = .int .i64 (domN l : Nat) ∧ Chg s s' [] := by
  refine CallW.run good ok_list_domainSize (by simp) rfl ?_
  have eF : domN l = if l.take 1 = [91] then (if (93 : UInt8) ∈ l then (l.takeWhile (· != 93)).length + 1 else 0) else (l.takeWhile dlB).length := rfl
  have hle := dom_le l
  (try refine pSeq ?_); (repeat refine sb ?_)
  refine prefix_w.mono fun v s q => ?_
  obtain ⟨rfl, rfl⟩ := q
  have e1 : l.take [(91 : UInt8)].length = l.take 1 := rfl
  rw [e1]
  by_cases h : l.take 1 = [91]
  · rw [decide_eq_true h]
    rw [if_pos h] at eF
    (repeat refine sb ?_)
    refine (index1_w (fun q => by rw [q] at h; cases h)).mono fun v s q => ?_
    obtain ⟨rfl, rfl⟩ := q
    (repeat refine sb ?_)
    intro z hz
    rw [idx_93, ← eF, i64_id (by omega)] at hz
    subst hz
    (repeat refine sb ?_)
    exact ⟨rfl, .refl _ _⟩
  · rw [decide_eq_false h]
    rw [if_neg h] at eF
    rw [eF]
    (repeat refine sb ?_)
    refine (lrow_w hG hl (fun x => by kernel_rfl) (fun c s1 h => dom1_w)).mono fun v s2 q => ?_
    obtain ⟨rfl, c2⟩ := q
    (repeat refine sb ?_)
    exact ⟨rfl, c2⟩

theorem addressSize_w {s : SS} {l : List UInt8} (hG : Gb s) (hl : l.length ≤ 900000) : CallW pr n_list_addressSize [str l] s fun v s' => v = .int .i64 (adrN l : Nat) ∧ Chg s s' [] := by
  refine CallW.run good ok_list_addressSize (by simp) rfl ?_
  have eF : adrN l = if (l.drop (wordN l)).take 1 = [64] then wordN l + 1 + domN (l.drop (wordN l + 1)) else 0 := rfl
  have hw := word_le l
  have ha := adr_le l
  (try refine pSeq ?_); (repeat refine sb ?_)
  refine (word_w hG (by omega)).mono fun v s1 q => ?_
  obtain ⟨rfl, c1⟩ := q
  generalize wordN l = w at *
  (repeat refine sb ?_)
  refine ⟨by omega, ?_⟩
  intro m hm r hr
  obtain rfl : m = w := by omega
  rw [List.take_of_length_le (by simp)] at hr
  subst hr
  (repeat refine sb ?_)
  refine cutP_w.mono fun v s2 q => ?_
  obtain ⟨rfl, rfl⟩ := q
  have e1 : (l.drop m).take [(64 : UInt8)].length = (l.drop m).take 1 := rfl
  rw [e1]
  by_cases h : (l.drop m).take 1 = [64]
  · rw [if_pos h] at eF
    rw [if_pos h, decide_eq_true h]
    have e2 : (l.drop m).drop [(64 : UInt8)].length = l.drop (m + 1) := by rw [List.drop_drop]; rfl
    rw [e2]
    have hd := dom_le (l.drop (m + 1))
    rw [List.length_drop] at hd
    (repeat refine sb ?_)
    intro q hq; obtain rfl : q = false := (by rw [hq]; simp <;> omega); (repeat refine sb ?_)
    intro z hz
    rw [i64_id (by omega)] at hz
    obtain rfl : z = ((m + 1 : Nat) : Int) := by omega
    (repeat refine sb ?_)
    refine (domainSize_w (hG.chg c1 (by simp)) (by rw [List.length_drop]; omega)).mono fun v s2 q => ?_
    obtain ⟨rfl, c2⟩ := q
    (repeat refine sb ?_)
    intro z hz
    rw [i64_id (by omega)] at hz
    (repeat refine sb ?_)
    rw [eF]
    refine ⟨?_, c1.nil c2⟩
    rw [hz]
    rfl
  · rw [if_neg h] at eF
    rw [if_neg h, decide_eq_false h, eF]
    (repeat refine sb ?_)
    intro q hq; obtain rfl : q = true := (by rw [hq]; simp <;> omega); (repeat refine sb ?_)
    exact ⟨rfl, c1⟩
end Go.Vf.S
end
/- LiE -/
section
/- Lists of addresses: the reader. -/
namespace Go.Vf.S
open Go Go.Vf
attribute [local irreducible] wSeq wRow wp wG
set_option linter.unusedVariables false
set_option linter.unusedSimpArgs false
set_option maxRecDepth 10000

abbrev tSp : TypeId := 40
abbrev tRd : TypeId := 61
def spC (x : Spt) : List Value := [.int .i64 x.f, .int .i64 x.t, str x.a, str x.d]
def spsC (xs : List Spt) : List Value := xs.flatMap spC
theorem spsC_len (xs : List Spt) : (spsC xs).length = xs.length * 4 := by
  induction xs with
  | nil => rfl
  | cons x xs ih =>
    unfold spsC at ih ⊢
    rw [List.flatMap_cons, List.length_append, ih, List.length_cons]
    show 4 + _ = _
    omega
theorem spsC_app (a b : List Spt) : spsC (a ++ b) = spsC a ++ spsC b := by unfold spsC; rw [List.flatMap_append]
/-- The reader's cells. -/
def rdC (l : List UInt8) (i : Nat) (xs : List Spt) (lg : Bool) (W : Option Addr) (cw : Nat) : List Value := [str l, .int .i64 i, .slice W xs.length cw, .bool lg]

/-- The reader, since a state. -/
structure RdAt (s0 s : SS) (b : Nat) (l : List UInt8) (i : Nat) (xs : List Spt) (lg : Bool) (W : Option Addr) (cw : Nat) : Prop where
  chg : Chg s0 s []
  lt : b < s.next
  ge : s0.next ≤ b
  look : lookH s.heap b = some (.cells (rdC l i xs lg W cw) tRd false false)
  own : OwnR tSp s W cw xs.length (spsC xs)
  new : ∀ id ∈ blkOf W, s0.next ≤ id
  le : i ≤ l.length
abbrev Rdx (s0 s : SS) (b : Nat) (l : List UInt8) (i : Nat) (xs : List Spt) (lg : Bool) : Prop := ∃ W cw, RdAt s0 s b l i xs lg W cw ∧ xs.length ≤ i

variable {s0 s s' : SS} {b : Nat} {l : List UInt8} {i : Nat} {xs : List Spt} {lg : Bool} {W : Option Addr} {cw : Nat}
theorem RdAt.off (h : RdAt s0 s b l i xs lg W cw) : ∀ id ∈ blkOf W, id ≠ b := fun id hid e => by
  obtain ⟨g, hg⟩ := h.own.at id hid
  exact tyNe hg h.look (by decide) e
theorem RdAt.step (h : RdAt s0 s b l i xs lg W cw) (c : Chg s s' []) : RdAt s0 s' b l i xs lg W cw :=
  ⟨h.chg.nil c, Nat.lt_of_lt_of_le h.lt c.next, h.ge, c.blk _ _ h.lt (by simp) h.look, h.own.chg c (by simp), h.new, h.le⟩
theorem RdAt.other {Z : List Nat} (h : RdAt s0 s b l i xs lg W cw) (c : Chg s s' Z) (hz : ∀ id ∈ Z, s0.next ≤ id ∧ id ≠ b ∧ id ∉ blkOf W) : RdAt s0 s' b l i xs lg W cw :=
  ⟨h.chg.fresh c (fun id q => (hz id q).1), Nat.lt_of_lt_of_le h.lt c.next, h.ge, c.blk _ _ h.lt (fun q => (hz _ q).2.1 rfl) h.look, h.own.chg c (fun id hid q => (hz id q).2.2 hid), h.new, h.le⟩
/-- A number that is turned, a bool. -/
theorem RdAt.turn {j : Nat} {k : Bool} (h : RdAt s0 s b l i xs lg W cw) (e : lookH s'.heap b = some (.cells (rdC l j xs k W cw) tRd false false)) (c : Chg s s' [b]) (hj : j ≤ l.length) : RdAt s0 s' b l j xs k W cw :=
  ⟨h.chg.fresh c (by simpa using h.ge), Nat.lt_of_lt_of_le h.lt c.next, h.ge, e, h.own.chg c (fun id hid q => h.off id hid (by simpa using q)), h.new, hj⟩

theorem rest_w (h : RdAt s0 s b l i xs lg W cw) : CallW pr n_list_reader_rest [.pointer (some ⟨b, 0, none⟩)] s fun v s' => v = str (l.drop i) ∧ s' = s := by
  have hle := h.le
  refine CallW.run good ok_list_reader_rest (by simp) rfl ?_
  (try refine pSeq ?_); (repeat(first|refine sb ?_|refine kNo ?_))
  refine ldS_is rfl h.look rfl ?_
  (repeat(first|refine sb ?_|refine kNo ?_))
  refine ldI_is rfl h.look rfl ?_
  (repeat(first|refine sb ?_|refine kNo ?_))
  refine ⟨by omega, ?_⟩
  intro m hm r hr
  obtain rfl : m = i := by omega
  rw [List.take_of_length_le (by simp)] at hr
  subst hr
  (repeat(first|refine sb ?_|refine kNo ?_))
  exact ⟨rfl, rfl⟩

theorem take_w {c : UInt8} (hl : l.length ≤ 900000) (h : RdAt s0 s b l i xs lg W cw) : CallW pr n_list_reader_take [.pointer (some ⟨b, 0, none⟩), .int .u8 c.toNat] s fun v s' =>
    v = .bool (decide ((l.drop i).take 1 = [c])) ∧ ((l.drop i).take 1 = [c] → RdAt s0 s' b l (i + 1) xs lg W cw) ∧ (¬(l.drop i).take 1 = [c] → s' = s) := by
  have hle := h.le
  refine CallW.run good ok_list_reader_take (by simp) rfl ?_
  (try refine pSeq ?_); (repeat(first|refine sb ?_|refine kNo ?_|refine gOn rfl ?_|refine gOff rfl rfl ?_|refine gTup rfl ?_))
  refine ldI_is rfl h.look rfl ?_
  (repeat(first|refine sb ?_|refine kNo ?_|refine gOn rfl ?_|refine gOff rfl rfl ?_|refine gTup rfl ?_))
  refine ldS_is rfl h.look rfl ?_
  (repeat(first|refine sb ?_|refine kNo ?_|refine gOn rfl ?_|refine gOff rfl rfl ?_|refine gTup rfl ?_))
  intro n hn
  (repeat(first|refine sb ?_|refine kNo ?_|refine gOn rfl ?_|refine gOff rfl rfl ?_|refine gTup rfl ?_))
  intro q hq
  by_cases he : i = l.length
  · obtain rfl : q = true := by rw [hq, hn, he]; simp
    have hno : ¬(l.drop i).take 1 = [c] := by rw [List.drop_of_length_le (by omega)]; simp
    (repeat(first|refine sb ?_|refine kNo ?_|refine gOn rfl ?_|refine gOff rfl rfl ?_|refine gTup rfl ?_))
    exact ⟨by rw [decide_eq_false hno]; rfl, fun q => absurd q hno, fun _ => rfl⟩
  · obtain rfl : q = false := by rw [hq, hn]; simp; omega
    obtain ⟨d, hd⟩ : ∃ d, l[i]? = some d := ⟨_, List.getElem?_eq_getElem (by omega)⟩
    have ed : (l.drop i).take 1 = [d] := by rw [drop_next hd]; rfl
    (repeat(first|refine sb ?_|refine kNo ?_|refine gOn rfl ?_|refine gOff rfl rfl ?_|refine gTup rfl ?_))
    refine ldS_is rfl h.look rfl ?_
    (repeat(first|refine sb ?_|refine kNo ?_|refine gOn rfl ?_|refine gOff rfl rfl ?_|refine gTup rfl ?_))
    refine ldI_is rfl h.look rfl ?_
    (repeat(first|refine sb ?_|refine kNo ?_|refine gOn rfl ?_|refine gOff rfl rfl ?_|refine gTup rfl ?_))
    refine ⟨by omega, ?_⟩
    intro m hm
    obtain rfl : m = i := by omega
    refine ⟨d, hd, ?_⟩
    (repeat(first|refine sb ?_|refine kNo ?_|refine gOn rfl ?_|refine gOff rfl rfl ?_|refine gTup rfl ?_))
    intro q hq
    by_cases hc : d = c
    · subst hc
      obtain rfl : q = false := by rw [hq]; simp
      (repeat(first|refine sb ?_|refine kNo ?_|refine gOn rfl ?_|refine gOff rfl rfl ?_|refine gTup rfl ?_))
      refine ldI_is rfl h.look rfl ?_
      (repeat(first|refine sb ?_|refine kNo ?_|refine gOn rfl ?_|refine gOff rfl rfl ?_|refine gTup rfl ?_))
      intro z hz
      rw [i64_id (by omega)] at hz
      obtain rfl : z = ((m + 1 : Nat) : Int) := by omega
      (repeat(first|refine sb ?_|refine kNo ?_|refine gOn rfl ?_|refine gOff rfl rfl ?_|refine gTup rfl ?_))
      refine st_abs (cs' := rdC l (m + 1) xs lg W cw) rfl rfl h.look h.lt rfl rfl fun s1 e1 c1 n1 => ?_
      (repeat(first|refine sb ?_|refine kNo ?_|refine gOn rfl ?_|refine gOff rfl rfl ?_|refine gTup rfl ?_))
      exact ⟨by rw [decide_eq_true ed]; rfl, fun _ => h.turn e1 c1 (by omega), fun q => absurd ed q⟩
    · have := byte_ne hc
      obtain rfl : q = true := by rw [hq]; simp; omega
      have hno : ¬(l.drop m).take 1 = [c] := by rw [ed]; simpa using hc
      (repeat(first|refine sb ?_|refine kNo ?_|refine gOn rfl ?_|refine gOff rfl rfl ?_|refine gTup rfl ?_))
      exact ⟨by rw [decide_eq_false hno]; rfl, fun q => absurd q hno, fun _ => rfl⟩

theorem blank_r (hF : Fine s0) (hl : l.length ≤ 900000) (h : RdAt s0 s b l i xs lg W cw) : CallW pr n_list_reader_blank [.pointer (some ⟨b, 0, none⟩)] s fun v s' => RdAt s0 s' b l (i + blN (l.drop i)) xs lg W cw := by
  have hle := h.le
  have hb := blN_le (l.drop i)
  rw [List.length_drop] at hb
  refine CallW.run good ok_list_reader_blank (by simp) rfl ?_
  (try refine pSeq ?_); (repeat refine sb ?_)
  refine (rest_w h).mono fun v s q => ?_
  obtain ⟨rfl, rfl⟩ := q
  (repeat refine sb ?_)
  refine (blank_w (by rw [List.length_drop]; omega)).mono fun v s1 q => ?_
  obtain ⟨rfl, c1⟩ := q
  have h1 := h.step c1
  have eb : blN (l.drop i) = (blankF (l.drop i)).1 := rfl
  rw [eb] at hb ⊢
  generalize blankF (l.drop i) = Q at *
  obtain ⟨n, e⟩ := Q
  dsimp only [cRes] at *
  (repeat refine sb ?_)
  refine ldI_is rfl h1.look rfl ?_
  (repeat refine sb ?_)
  intro z hz
  rw [i64_id (by omega)] at hz
  obtain rfl : z = ((i + n : Nat) : Int) := by omega
  (repeat refine sb ?_)
  refine st_abs (cs' := rdC l (i + n) xs lg W cw) rfl rfl h1.look h1.lt rfl rfl fun s2 e2 c2 n2 => ?_
  (repeat refine sb ?_)
  exact h1.turn e2 c2 (by omega)
end Go.Vf.S
end
/- LiF -/
section
/- Lists of addresses: the reader's address, domain, words. -/
namespace Go.Vf.S
open Go Go.Vf
attribute [local irreducible] wSeq wRow wp wG
set_option linter.unusedVariables false
set_option linter.unusedSimpArgs false
set_option maxRecDepth 10000

theorem alloc_r {P : Program} {T : TL} {s : SS} {K : RR → Prop} {e : TypeId} {z : List Value} (h : K (.new (.cells z e false false) fun id => .pointer (some ⟨id, 0, none⟩))) : wN P (.alloc e z) T s K := h

variable {s0 s s' : SS} {b : Nat} {l : List UInt8} {i : Nat} {xs : List Spt} {lg : Bool} {W : Option Addr} {cw : Nat}

theorem parse_vals (t : List UInt8) : (parseF t).2.2 = 0 ∨ (parseF t).2.2 = 3 ∨ (parseF t).2.2 = 5 := by
  by_cases h : (parseF t).2.2 = 0
  · exact .inl h
  · rcases parse_err h with q | q <;> rw [q] <;> simp

theorem fresh_off (h : RdAt s0 s b l i xs lg W cw) : ∀ id ∈ [s.next], s0.next ≤ id ∧ id ≠ b ∧ id ∉ blkOf W := fun id q => by
  have hb := h.lt
  rw [List.mem_singleton] at q
  subst q
  exact ⟨h.chg.next, by omega, fun q => Nat.lt_irrefl _ (h.own.lt _ q)⟩
theorem parse_r {t : List UInt8} (hG : Gb s0) (ht : t.length ≤ 1000000) (h : RdAt s0 s b l i xs lg W cw) : CallW pr n_list_reader_parse [.pointer (some ⟨b, 0, none⟩), str t] s fun v s' =>
    v = .tuple ⟨[adV (parseF t).1 (parseF t).2.1, .bool (decide ((parseF t).2.2 ≠ 5))]⟩ ∧ RdAt s0 s' b l i xs (lg || decide ((parseF t).2.2 = 3)) W cw ∧ Chg s s' [b] := by
  refine CallW.run good ok_list_reader_parse (by simp) rfl ?_
  have hb := h.lt
  (try refine pSeq ?_); (repeat(first|refine sb ?_|refine gOn rfl ?_|refine gOff rfl rfl ?_|refine gTup rfl ?_))
  have c0 : Chg s { s with heap := (s.next, some (.cells [str [], str []] tAd false false)) :: s.heap, next := s.next + 1 } [] := .new _
  refine (parse_w ((hG.chg h.chg (by simp)).chg c0 (by simp)) ht).mono fun v s1 q => ?_
  obtain ⟨rfl, c1⟩ := q
  have hk : lookH s1.heap s.next = some (.cells [str [], str []] tAd false false) := c1.blk _ _ (Nat.lt_succ_self _) (by simp) lkH
  have n1 : s.next + 1 ≤ s1.next := c1.next
  have h1 := (h.step c0).step c1
  have hv := parse_vals t
  generalize parseF t = Q at *
  obtain ⟨a, d, e⟩ := Q
  dsimp only at hv ⊢
  (repeat(first|refine sb ?_|refine gOn rfl ?_|refine gOff rfl rfl ?_|refine gTup rfl ?_))
  refine st_abs (cs' := [str a, str d]) rfl rfl lkH (Nat.lt_succ_self _) rfl rfl fun s2 e2 c2 n2 => ?_
  have c12 : Chg s1 s2 [] := (Chg.new []).fresh c2 (by simp)
  have h2 := h1.step c12
  have k2 := c12.blk _ _ (by omega) (by simp) hk
  have e2 : lookH s2.heap s1.next = some (.cells [str a, str d] tAd false false) := e2
  have n2 : s2.next = s1.next + 1 := n2
  (repeat(first|refine sb ?_|refine gOn rfl ?_|refine gOff rfl rfl ?_|refine gTup rfl ?_))
  refine ldB_is rfl h2.look rfl ?_
  have key : ∀ (k : Bool) (s3 : SS), k = (lg || decide (e = 3)) → lookH s3.heap b = some (.cells (rdC l i xs k W cw) tRd false false) → Chg s2 s3 [b] → RdAt s0 s3 b l i xs (lg || decide (e = 3)) W cw ∧ Chg s s3 [b] := fun k s3 hk e3 c3 => by
    subst hk
    exact ⟨h2.turn e3 c3 h2.le, ((c0.nil c1).nil c12).nil c3⟩
  cases lg with
  | true =>
    (repeat(first|refine sb ?_|refine gOn rfl ?_|refine gOff rfl rfl ?_|refine gTup rfl ?_))
    refine st_abs (cs' := rdC l i xs true W cw) rfl rfl h2.look h2.lt rfl rfl fun s3 e3 c3 n3 => ?_
    obtain ⟨h3, c03⟩ := key true s3 (by simp) e3 c3
    have k3 := c3.blk _ _ (by omega) (by simp; omega) k2
    have j3 := c3.blk _ _ (by omega) (by simp; omega) e2
    (repeat(first|refine sb ?_|refine gOn rfl ?_|refine gOff rfl rfl ?_|refine gTup rfl ?_))
    refine ldN_is rfl j3 agg2 ?_
    (repeat(first|refine sb ?_|refine gOn rfl ?_|refine gOff rfl rfl ?_|refine gTup rfl ?_))
    intro q hq
    have eq : decide (e ≠ 5) = q := by rw [hq]; by_cases h5 : e = 5 <;> simp [h5] <;> omega
    (repeat(first|refine sb ?_|refine gOn rfl ?_|refine gOff rfl rfl ?_|refine gTup rfl ?_))
    refine st_abs (cs' := [str a, str d]) rfl rfl k3 (by omega) rfl rfl fun s4 e4 c4 n4 => ?_
    (repeat(first|refine sb ?_|refine gOn rfl ?_|refine gOff rfl rfl ?_|refine gTup rfl ?_))
    (repeat (first | with_reducible refine sqRet ?_ | with_reducible refine bkRet ?_ | with_reducible refine hdRet ?_))
    exact ret_cell agg_Ad sz_Ad rfl e4 agg2 rfl ⟨by rw [eq], h3.other c4 (fresh_off h), c03.trans' c4 (fun id q _ => q) (fun id q hid => absurd (List.mem_singleton.1 q) (Nat.ne_of_lt hid))⟩
  | false =>
    (repeat(first|refine sb ?_|refine gOn rfl ?_|refine gOff rfl rfl ?_|refine gTup rfl ?_))
    intro q hq
    (repeat(first|refine sb ?_|refine gOn rfl ?_|refine gOff rfl rfl ?_|refine gTup rfl ?_))
    refine st_abs (cs' := rdC l i xs q W cw) rfl rfl h2.look h2.lt rfl rfl fun s3 e3 c3 n3 => ?_
    obtain ⟨h3, c03⟩ := key q s3 (by rw [hq]; by_cases h5 : e = 3 <;> simp [h5] <;> omega) e3 c3
    have k3 := c3.blk _ _ (by omega) (by simp; omega) k2
    have j3 := c3.blk _ _ (by omega) (by simp; omega) e2
    (repeat(first|refine sb ?_|refine gOn rfl ?_|refine gOff rfl rfl ?_|refine gTup rfl ?_))
    refine ldN_is rfl j3 agg2 ?_
    (repeat(first|refine sb ?_|refine gOn rfl ?_|refine gOff rfl rfl ?_|refine gTup rfl ?_))
    intro q hq
    have eq : decide (e ≠ 5) = q := by rw [hq]; by_cases h5 : e = 5 <;> simp [h5] <;> omega
    (repeat(first|refine sb ?_|refine gOn rfl ?_|refine gOff rfl rfl ?_|refine gTup rfl ?_))
    refine st_abs (cs' := [str a, str d]) rfl rfl k3 (by omega) rfl rfl fun s4 e4 c4 n4 => ?_
    (repeat(first|refine sb ?_|refine gOn rfl ?_|refine gOff rfl rfl ?_|refine gTup rfl ?_))
    (repeat (first | with_reducible refine sqRet ?_ | with_reducible refine bkRet ?_ | with_reducible refine hdRet ?_))
    exact ret_cell agg_Ad sz_Ad rfl e4 agg2 rfl ⟨by rw [eq], h3.other c4 (fresh_off h), c03.trans' c4 (fun id q _ => q) (fun id q hid => absurd (List.mem_singleton.1 q) (Nat.ne_of_lt hid))⟩

theorem parse_120 (l : List UInt8) : (parseF ([120, 64] ++ l)).2.2 = domF l := by
  have h2 : partsF (120 :: 64 :: l) = ([120], l, true) := by
    unfold partsF
    rw [if_neg (by simp)]
    have h1 : cutF 64 (120 :: 64 :: l) = ([120], l, true) := cut_at (f := [120]) (by simp)
    rw [h1]
    have : dotF [120] = true := by decide +kernel
    simp [this]
  show (parseF (120 :: 64 :: l)).2.2 = _
  unfold parseF
  rw [h2]
  by_cases hd : domF l = 0
  · simp [hd]
  · simp [hd]

/-- What a reader answers, told of what is read. -/
def Ans (q : PR) (s0 : SS) (b : Nat) (l : List UInt8) (i : Nat) (xs : List Spt) (lg : Bool) (v : Value) (s' : SS) : Prop := match q with
  | some (T, r) => v = .bool true ∧ Rdx s0 s' b l (i + (flT T).length) (xs ++ spT i T) (lg || lgT T)
  | none => v = .bool false ∧ Chg s0 s' []
theorem Ans.two {T1 : List Tok} {r1 : List UInt8} {q : List UInt8 → PR} {v : Value} (h : Ans (q r1) s0 b l (i + (flT T1).length) (xs ++ spT i T1) (lg || lgT T1) v s') : Ans (bindP (some (T1, r1)) q) s0 b l i xs lg v s' := by
  cases hq : q r1 with
  | none =>
    rw [bindP_one hq]
    rw [hq] at h
    exact h
  | some x =>
    obtain ⟨T2, r2⟩ := x
    rw [bindP_two hq]
    rw [hq] at h
    unfold Ans at h ⊢
    simp only at h ⊢
    rw [flT_app, List.length_append, spT_app, lgT_app, ← Bool.or_assoc, ← List.append_assoc, ← Nat.add_assoc]
    exact h

set_option maxHeartbeats 1000000 in
theorem domain_r (hF : Fine s0) (hG : Gb s0) (hl : l.length ≤ 900000) (h : RdAt s0 s b l i xs lg W cw) (hx : xs.length ≤ i) : CallW pr n_list_reader_domain [.pointer (some ⟨b, 0, none⟩)] s fun v s' => Ans (dmP (l.drop i)) s0 b l i xs lg v s' := by
  have hle := h.le
  have hd := dom_le (l.drop i)
  rw [List.length_drop] at hd
  refine CallW.run good ok_list_reader_domain (by simp) rfl ?_
  (try refine pSeq ?_); (repeat(first|refine sb ?_|refine kNo ?_))
  refine ldI_is rfl h.look rfl ?_
  (repeat(first|refine sb ?_|refine kNo ?_))
  refine ldI_is rfl h.look rfl ?_
  (repeat(first|refine sb ?_|refine kNo ?_))
  refine (rest_w h).mono fun v s q => ?_
  obtain ⟨rfl, rfl⟩ := q
  refine kAll .refl ?_
  (repeat(first|refine sb ?_|refine kNo ?_))
  refine (domainSize_w (hG.chg h.chg (by simp)) (by rw [List.length_drop]; omega)).mono fun v s1 q => ?_
  obtain ⟨rfl, c1⟩ := q
  have h1 := h.step c1
  refine kAll (c1.keep (h.chg.fine hF)) ?_
  (repeat(first|refine sb ?_|refine kNo ?_))
  intro z hz
  rw [i64_id (by omega)] at hz
  obtain rfl : z = ((i + domN (l.drop i) : Nat) : Int) := by omega
  (repeat(first|refine sb ?_|refine kNo ?_))
  refine st_abs (cs' := rdC l (i + domN (l.drop i)) xs lg W cw) rfl rfl h1.look h1.lt rfl rfl fun s2 e2 c2 n2 => ?_
  have h2 := h1.turn e2 c2 (by omega)
  (repeat(first|refine sb ?_|refine kNo ?_))
  refine ldS_is rfl h2.look rfl ?_
  (repeat(first|refine sb ?_|refine kNo ?_))
  refine ldI_is rfl h2.look rfl ?_
  (repeat(first|refine sb ?_|refine kNo ?_))
  refine ⟨by omega, ?_⟩
  intro m1 hm1
  refine ⟨by omega, ?_⟩
  intro m2 hm2 r hr
  obtain rfl : m2 = i := by omega
  obtain rfl : m1 = m2 + domN (l.drop m2) := by omega
  have er : r = (l.drop m2).take (domN (l.drop m2)) := by rw [hr, Nat.add_sub_cancel_left]
  subst er
  (repeat(first|refine sb ?_|refine kNo ?_))
  refine ⟨by simp only [List.length_cons, List.length_nil, List.length_take, List.length_drop]; omega, ?_⟩
  intro w hw
  subst hw
  (repeat(first|refine sb ?_|refine kNo ?_))
  refine alloc_r (rNew (h2.chg.fine hF).at ?_)
  have c3 : Chg s2 { s2 with heap := (s2.next, some (.cells [str [], str []] tAd false false)) :: s2.heap, next := s2.next + 1 } [] := .new _
  have h3 := h2.step c3
  (repeat(first|refine sb ?_|refine kNo ?_))
  refine (parse_r hG (by simp only [List.length_append, List.length_cons, List.length_nil, List.length_take, List.length_drop]; omega) h3).mono fun v s4 q => ?_
  obtain ⟨rfl, h4, c4⟩ := q
  have hb3 := h2.lt
  have k4 := c4.blk _ _ (Nat.lt_succ_self s2.next) (by simp; omega) lkH
  have n4 := c4.next
  have n4 : s2.next + 1 ≤ s4.next := n4
  refine kEach ⟨fun _ => k4, trivial⟩ ?_
  have ev := parse_120 ((l.drop m2).take (domN (l.drop m2)))
  rw [ev] at h4
  rw [ev]
  (repeat(first|refine sb ?_|refine kNo ?_))
  refine st_abs (cs' := [str (parseF ([120, 64] ++ (l.drop m2).take (domN (l.drop m2)))).1, str (parseF ([120, 64] ++ (l.drop m2).take (domN (l.drop m2)))).2.1]) rfl rfl k4 (by omega) rfl rfl fun s5 e5 c5 n5 => ?_
  have h5 := h4.other c5 (fun id q => by
    rw [List.mem_singleton] at q
    subst q
    exact ⟨h2.chg.next, by omega, fun q => Nat.lt_irrefl _ (h2.own.lt _ q)⟩)
  (repeat(first|refine sb ?_|refine kNo ?_))
  unfold dmP
  by_cases hd5 : domF ((l.drop m2).take (domN (l.drop m2))) = 5
  · rw [if_pos hd5]
    exact ⟨by rw [hd5]; rfl, h5.chg⟩
  · rw [if_neg hd5]
    have e1 : (flT [Tok.d ((l.drop m2).take (domN (l.drop m2)))]).length = domN (l.drop m2) := by rw [flT_d, List.length_take, List.length_drop]; omega
    refine ⟨by rw [decide_eq_true hd5]; rfl, W, cw, ?_⟩
    rw [e1]
    have e2 : spT m2 [Tok.d ((l.drop m2).take (domN (l.drop m2)))] = [] := rfl
    have e3 : lgT [Tok.d ((l.drop m2).take (domN (l.drop m2)))] = decide (domF ((l.drop m2).take (domN (l.drop m2))) = 3) := by simp [lgT, lgK]
    rw [e2, e3, List.append_nil]
    exact ⟨h5, by omega⟩

set_option maxHeartbeats 1000000 in
theorem address_r (hF : Fine s0) (hG : Gb s0) (hl : l.length ≤ 900000) (h : RdAt s0 s b l i xs lg W cw) (hx : xs.length ≤ i) : CallW pr n_list_reader_address [.pointer (some ⟨b, 0, none⟩)] s fun v s' => Ans (adrP (l.drop i)) s0 b l i xs lg v s' := by
  have hle := h.le
  have hd := adr_le (l.drop i)
  rw [List.length_drop] at hd
  refine CallW.run good ok_list_reader_address (by simp) rfl ?_
  (try refine pSeq ?_); (repeat(first|refine sb ?_|refine kNo ?_))
  refine ldI_is rfl h.look rfl ?_
  (repeat(first|refine sb ?_|refine kNo ?_))
  refine ldI_is rfl h.look rfl ?_
  (repeat(first|refine sb ?_|refine kNo ?_))
  refine (rest_w h).mono fun v s q => ?_
  obtain ⟨rfl, rfl⟩ := q
  refine kAll .refl ?_
  (repeat(first|refine sb ?_|refine kNo ?_))
  refine (addressSize_w (hG.chg h.chg (by simp)) (by rw [List.length_drop]; omega)).mono fun v s1 q => ?_
  obtain ⟨rfl, c1⟩ := q
  have h1 := h.step c1
  refine kAll (c1.keep (h.chg.fine hF)) ?_
  (repeat(first|refine sb ?_|refine kNo ?_))
  intro z hz
  rw [i64_id (by omega)] at hz
  obtain rfl : z = ((i + adrN (l.drop i) : Nat) : Int) := by omega
  (repeat(first|refine sb ?_|refine kNo ?_))
  refine st_abs (cs' := rdC l (i + adrN (l.drop i)) xs lg W cw) rfl rfl h1.look h1.lt rfl rfl fun s2 e2 c2 n2 => ?_
  have h2 := h1.turn e2 c2 (by omega)
  (repeat(first|refine sb ?_|refine kNo ?_))
  refine ldS_is rfl h2.look rfl ?_
  (repeat(first|refine sb ?_|refine kNo ?_))
  refine ldI_is rfl h2.look rfl ?_
  (repeat(first|refine sb ?_|refine kNo ?_))
  refine ⟨by omega, ?_⟩
  intro m1 hm1
  refine ⟨by omega, ?_⟩
  intro m2 hm2 r hr
  obtain rfl : m2 = i := by omega
  obtain rfl : m1 = m2 + adrN (l.drop m2) := by omega
  have er : r = (l.drop m2).take (adrN (l.drop m2)) := by rw [hr, Nat.add_sub_cancel_left]
  subst er
  (repeat(first|refine sb ?_|refine kNo ?_))
  refine alloc_r (rNew (h2.chg.fine hF).at ?_)
  have c3 : Chg s2 { s2 with heap := (s2.next, some (.cells [str [], str []] tAd false false)) :: s2.heap, next := s2.next + 1 } [] := .new _
  have h3 := h2.step c3
  (repeat(first|refine sb ?_|refine kNo ?_))
  refine (parse_r hG (by simp only [List.length_take, List.length_drop]; omega) h3).mono fun v s4 q => ?_
  obtain ⟨rfl, h4, c4⟩ := q
  have hb3 := h2.lt
  have k4 := c4.blk _ _ (Nat.lt_succ_self s2.next) (by simp; omega) lkH
  have n4 := c4.next
  have n4 : s2.next + 1 ≤ s4.next := n4
  refine kEach ⟨fun _ => k4, trivial⟩ ?_
  have htl : ((l.drop m2).take (adrN (l.drop m2))).length = adrN (l.drop m2) := by rw [List.length_take, List.length_drop]; omega
  have eA : adP (l.drop m2) = if (parseF ((l.drop m2).take (adrN (l.drop m2)))).2.2 = 5 then none else some ([.a ((l.drop m2).take (adrN (l.drop m2)))], (l.drop m2).drop (adrN (l.drop m2))) := rfl
  have eS : spT m2 [Tok.a ((l.drop m2).take (adrN (l.drop m2)))] = [⟨m2, m2 + adrN (l.drop m2), (parseF ((l.drop m2).take (adrN (l.drop m2)))).1, (parseF ((l.drop m2).take (adrN (l.drop m2)))).2.1⟩] := by
    show [(⟨m2, m2 + ((l.drop m2).take (adrN (l.drop m2))).length, _, _⟩ : Spt)] = _
    rw [htl]
  have eL : lgT [Tok.a ((l.drop m2).take (adrN (l.drop m2)))] = decide ((parseF ((l.drop m2).take (adrN (l.drop m2)))).2.2 = 3) := by simp [lgT, lgK]
  have eT : (flT [Tok.a ((l.drop m2).take (adrN (l.drop m2)))]).length = adrN (l.drop m2) := by rw [flT_a, htl]
  have eB : blN ((l.drop m2).drop (adrN (l.drop m2))) = blN (l.drop (m2 + adrN (l.drop m2))) := by rw [List.drop_drop]
  generalize hQ : parseF ((l.drop m2).take (adrN (l.drop m2))) = Q at *
  obtain ⟨a, d, e⟩ := Q
  generalize ht : (l.drop m2).take (adrN (l.drop m2)) = t at *
  generalize hn : adrN (l.drop m2) = n at *
  dsimp only at h4 eA eS eL ⊢
  (repeat(first|refine sb ?_|refine kNo ?_))
  refine st_abs (cs' := [str a, str d]) rfl rfl k4 (by omega) rfl rfl fun s5 e5 c5 n5 => ?_
  have h5 := h4.other c5 (fun id q => by
    rw [List.mem_singleton] at q
    subst q
    exact ⟨h2.chg.next, by omega, fun q => Nat.lt_irrefl _ (h2.own.lt _ q)⟩)
  (repeat(first|refine sb ?_|refine kNo ?_))
  refine ld1_is rfl h5.look rfl ?_
  (repeat(first|refine sb ?_|refine kNo ?_))
  refine ldI_is rfl h5.look rfl ?_
  (repeat(first|refine sb ?_|refine kNo ?_))
  refine ldN_is rfl e5 agg2 ?_
  (repeat(first|refine sb ?_|refine kNo ?_))
  refine mkS_is rfl rfl (rNew (h5.chg.fine hF).at ?_)
  have c6 : Chg s5 { s5 with heap := (s5.next, some (.cells (spC ⟨m2, m2 + n, a, d⟩) tSp false false)) :: s5.heap, next := s5.next + 1 } [] := .new _
  have h6 := h5.step c6
  (repeat(first|refine sb ?_|refine kNo ?_))
  refine appR (new := spC ⟨m2, m2 + n, a, d⟩) h6.own (spsC_len xs) ⟨by omega, by omega⟩ rfl rfl lkH rfl rfl fun s7 r7 c7 n7 => ?_
  (repeat(first|refine sb ?_|refine kNo ?_))
  have hoff := h6.off
  have k7 := c7.blk _ _ h6.lt (fun q => hoff _ q rfl) h6.look
  have n7 : s7.next = s5.next + 2 := n7
  have hb5 := h5.lt
  refine st_abs (cs' := rdC l (m2 + n) (xs ++ [⟨m2, m2 + n, a, d⟩]) (lg || decide (e = 3)) (some ⟨s5.next + 1, 0, none⟩) 0) rfl rfl k7 (by omega) rfl (by simp only [rdC, List.length_append]; rfl) fun s8 e8 c8 n8 => ?_
  have h8 : RdAt s0 s8 b l (m2 + n) (xs ++ [⟨m2, m2 + n, a, d⟩]) (lg || decide (e = 3)) (some ⟨s5.next + 1, 0, none⟩) 0 := by
    have c68 := (h6.chg.fresh c7 h6.new).fresh c8 (by simpa using h6.ge)
    refine ⟨c68, by omega, h6.ge, e8, ?_, fun id hid => ?_, by omega⟩
    · rw [spsC_app, List.length_append]
      refine OwnR.chg r7 c8 (fun id hid q => ?_)
      simp only [blkOf, List.mem_singleton] at hid q
      have : s5.next + 1 = b := by rw [← q, ← hid]
      omega
    · simp only [blkOf, List.mem_singleton] at hid
      have := h5.chg.next
      have : id = s5.next + 1 := hid
      omega
  (repeat(first|refine sb ?_|refine kNo ?_))
  refine (blank_r hF hl h8).mono fun v s9 h9 => ?_
  (repeat(first|refine sb ?_|refine kNo ?_))
  show Ans (adrP (l.drop m2)) s0 b l m2 xs lg (.bool (decide (e ≠ 5))) s9
  unfold adrP
  rw [eA]
  by_cases h5e : e = 5
  · rw [if_pos h5e, bindP_none]
    exact ⟨by rw [h5e]; rfl, h9.chg⟩
  · rw [if_neg h5e]
    refine Ans.two ?_
    unfold blP
    rw [eT, eS, eL]
    have hn1 : 1 ≤ n := by
      rcases Nat.eq_zero_or_pos n with q | q
      · exfalso
        rw [q, List.take_zero] at ht
        subst ht
        have : parseF [] = ([], [], 5) := by decide +kernel
        rw [this] at hQ
        cases hQ
        exact h5e rfl
      · exact q
    have hbl := blN_le ((l.drop m2).drop n)
    rw [List.length_drop, List.length_drop] at hbl
    refine ⟨by rw [decide_eq_true h5e], some ⟨s5.next + 1, 0, none⟩, 0, ?_, ?_⟩
    · rw [flT_g, List.length_take, Nat.min_eq_left (by rw [List.length_drop, List.length_drop]; omega), eB]
      have e2 : spT (m2 + n) [Tok.g (((l.drop m2).drop n).take (blN (l.drop (m2 + n))))] = [] := rfl
      have e3 : lgT [Tok.g (((l.drop m2).drop n).take (blN (l.drop (m2 + n))))] = false := rfl
      rw [e2, e3, List.append_nil, Bool.or_false]
      exact h9
    · have e2 : spT (m2 + n) [Tok.g (((l.drop m2).drop n).take (blN ((l.drop m2).drop n)))] = [] := rfl
      rw [e2, List.append_nil, List.length_append]
      simp only [List.length_cons, List.length_nil]
      omega
structure PhI where
  f : Nat
  i : Nat
  T : List Tok
  w : Nat
  s : SS

/-- Words, and how many. -/
theorem phrase_r (hF : Fine s0) (hG : Gb s0) (hl : l.length ≤ 900000) (h : RdAt s0 s b l i xs lg W cw) : CallW pr n_list_reader_phrase [.pointer (some ⟨b, 0, none⟩)] s fun v s' =>
    ∃ w : Nat, v = .int .i64 w ∧ (w = 0 ↔ (phP ((l.drop i).length + 1) (l.drop i)).1 = []) ∧ RdAt s0 s' b l (i + (flT (phP ((l.drop i).length + 1) (l.drop i)).1).length) xs lg W cw := by
  have hle := h.le
  generalize hP : (phP ((l.drop i).length + 1) (l.drop i)).1 = P at *
  refine CallW.run good ok_list_reader_phrase (by simp) rfl ?_
  (try refine pSeq ?_); (repeat refine sb ?_)
  refine pLoop (MW.head good (fun x : PhI => l.length - x.i) (fun x => P = x.T ++ (phP x.f (l.drop x.i)).1 ∧ (l.drop x.i).length < x.f ∧ x.i = i + (flT x.T).length ∧ x.T.length = 2 * x.w ∧ x.w ≤ x.i ∧ RdAt s0 x.s b l x.i xs lg W cw)
    (fun x => [(0, .pointer (some ⟨b, 0, none⟩)), (3, .int .i64 (x.w : Nat))]) (fun x => x.s) ⟨(l.drop i).length + 1, i, [], 0, s⟩ ⟨by rw [← hP]; rfl, Nat.lt_succ_self _, rfl, rfl, Nat.zero_le _, h⟩ (Wk.same ⟨rfl, rfl, trivial⟩) ?_)
  rintro ⟨f, j, T, k, s1⟩ ⟨i1, i2, i3, i4, i5, h1⟩
  dsimp only at i1 i2 i3 i4 i5 h1 ⊢
  have hje := h1.le
  cases f with
  | zero => omega
  | succ f =>
  have hw := word_le (l.drop j)
  rw [List.length_drop] at hw i2
  rw [phP] at i1
  (repeat refine sb ?_)
  refine (rest_w h1).mono fun v s1 q => ?_
  obtain ⟨rfl, rfl⟩ := q
  (repeat refine sb ?_)
  refine (word_w (hG.chg h1.chg (by simp)) (by rw [List.length_drop]; omega)).mono fun v s2 q => ?_
  obtain ⟨rfl, c2⟩ := q
  have h2 := h1.step c2
  (repeat refine sb ?_)
  intro q hq
  by_cases h0 : wordN (l.drop j) = 0
  · obtain rfl : q = true := by rw [hq, h0]; rfl
    rw [if_pos h0, List.append_nil] at i1
    (repeat refine sb ?_)
    refine ⟨k, rfl, ?_, ?_⟩
    · rw [i1]
      constructor
      · intro q
        exact List.length_eq_zero_iff.1 (by omega)
      · intro q
        rw [q] at i4
        have i4 : 0 = 2 * k := i4
        omega
    · rw [i1, ← i3]; exact h2
  · obtain rfl : q = false := by rw [hq]; simp; omega
    rw [if_neg h0] at i1
    (repeat refine sb ?_)
    intro z hz
    rw [i64_id (by omega)] at hz
    obtain rfl : z = ((k + 1 : Nat) : Int) := by omega
    (repeat refine sb ?_)
    refine ldI_is rfl h2.look rfl ?_
    (repeat refine sb ?_)
    intro z hz
    rw [i64_id (by omega)] at hz
    obtain rfl : z = ((j + wordN (l.drop j) : Nat) : Int) := by omega
    (repeat refine sb ?_)
    refine st_abs (cs' := rdC l (j + wordN (l.drop j)) xs lg W cw) rfl rfl h2.look h2.lt rfl rfl fun s3 e3 c3 n3 => ?_
    have h3 := h2.turn e3 c3 (by omega)
    (repeat refine sb ?_)
    refine (blank_r hF hl h3).mono fun v s4 h4 => ?_
    (repeat refine sb ?_)
    have hb := blN_le (l.drop (j + wordN (l.drop j)))
    rw [List.length_drop] at hb
    rw [List.drop_drop, List.drop_drop] at i1
    generalize hB : blN (l.drop (j + wordN (l.drop j))) = B at *
    generalize hWd : wordN (l.drop j) = w at *
    have e1 : (flT (T ++ [.g ((l.drop j).take w), .g ((l.drop (j + w)).take B)])).length = (flT T).length + w + B := by
      rw [flT_app, List.length_append, flT_cons, flT_g, List.length_append]
      show (flT T).length + (((l.drop j).take w).length + _) = _
      rw [List.length_take, List.length_take, List.length_drop, List.length_drop]
      omega
    have e0 : (T ++ [Tok.g ((l.drop j).take w), .g ((l.drop (j + w)).take B)]).length = T.length + 2 := by simp
    refine ⟨⟨f, j + w + B, T ++ [.g ((l.drop j).take w), .g ((l.drop (j + w)).take B)], k + 1, s4⟩, ⟨by rw [i1, List.append_assoc]; rfl, by dsimp only; rw [List.length_drop]; omega, by dsimp only; rw [e1]; omega, by dsimp only; rw [e0]; omega, by dsimp only; omega, h4⟩, by show l.length - (j + w + B) < l.length - j; omega, Wk.same ⟨rfl, rfl, trivial⟩⟩
end Go.Vf.S
end
/- LiG -/
section
/- Lists of addresses: the reader's route, angle, member, members; Find. -/
namespace Go.Vf.S
open Go Go.Vf
attribute [local irreducible] wSeq wRow wp wG
attribute [local irreducible] rtP phP msP parseF domF blankF quotedF wordN domN adrN blN adrP boxP angT angP mbP memP tlP dmP
set_option linter.unusedVariables false
set_option linter.unusedSimpArgs false
set_option maxRecDepth 10000

variable {s0 s s' : SS} {b : Nat} {l : List UInt8} {i : Nat} {xs : List Spt} {lg : Bool} {W : Option Addr} {cw : Nat}

theorem cat_drop {q : List UInt8 → PR} (hq : Cat q) {T : List Tok} {r : List UInt8} (h : q (l.drop i) = some (T, r)) : r = l.drop (i + (flT T).length) := by
  have := hq _ _ _ h
  rw [← List.drop_drop, ← this, List.drop_left]
theorem Ans.none {q : PR} {v : Value} (hq : q = none) (hv : v = .bool false) (h : Chg s0 s' []) : Ans q s0 b l i xs lg v s' := by
  subst hq
  exact ⟨hv, h⟩
theorem Ans.g {t r1 : List UInt8} {q : List UInt8 → PR} {v : Value} (h : Ans (q r1) s0 b l (i + t.length) xs lg v s') : Ans (bindP (some ([.g t], r1)) q) s0 b l i xs lg v s' := by
  refine Ans.two ?_
  have e1 : spT i [Tok.g t] = [] := rfl
  have e2 : lgT [Tok.g t] = false := rfl
  rw [flT_g, e1, e2, List.append_nil, Bool.or_false]
  exact h
theorem Ans.by {c : UInt8} {q : List UInt8 → PR} {v : Value} (hc : (l.drop i).take 1 = [c]) (h : Ans (q (l.drop (i + 1))) s0 b l (i + 1) xs lg v s') : Ans (bindP (byP c (l.drop i)) q) s0 b l i xs lg v s' := by
  unfold byP
  rw [if_pos hc, List.drop_drop]
  exact Ans.g h
theorem by_none {c : UInt8} {r : List UInt8} (hc : ¬r.take 1 = [c]) : byP c r = none := if_neg hc
theorem Ans.bl {q : List UInt8 → PR} {v : Value} (h : Ans (q (l.drop (i + blN (l.drop i)))) s0 b l (i + blN (l.drop i)) xs lg v s') : Ans (bindP (blP (l.drop i)) q) s0 b l i xs lg v s' := by
  unfold blP
  refine Ans.g ?_
  have hb := blN_le (l.drop i)
  rw [List.drop_drop, List.length_take, Nat.min_eq_left hb]
  exact h
/-- What ends with a byte, or with white space. -/
theorem Ans.end {v : Value} (hv : v = .bool true) (h : RdAt s0 s' b l i xs lg W cw) (hx : xs.length ≤ i) {r : List UInt8} : Ans (some ([], r)) s0 b l i xs lg v s' := by
  refine ⟨hv, W, cw, ?_⟩
  have e1 : spT i [] = [] := rfl
  have e2 : lgT [] = false := rfl
  rw [flT_nil, e1, e2, List.append_nil, Bool.or_false]
  exact ⟨h, hx⟩
theorem Ans.endG {v : Value} {t r : List UInt8} (hv : v = .bool true) (h : RdAt s0 s' b l (i + t.length) xs lg W cw) (hx : xs.length ≤ i + t.length) : Ans (some ([.g t], r)) s0 b l i xs lg v s' := by
  refine ⟨hv, W, cw, ?_⟩
  have e1 : spT i [Tok.g t] = [] := rfl
  have e2 : lgT [Tok.g t] = false := rfl
  rw [flT_g, e1, e2, List.append_nil, Bool.or_false]
  exact ⟨h, hx⟩
theorem Ans.endB {v : Value} (hv : v = .bool true) (h : RdAt s0 s' b l (i + blN (l.drop i)) xs lg W cw) (hx : xs.length ≤ i) : Ans (blP (l.drop i)) s0 b l i xs lg v s' := by
  have hb := blN_le (l.drop i)
  have e : ((l.drop i).take (blN (l.drop i))).length = blN (l.drop i) := by rw [List.length_take, Nat.min_eq_left hb]
  exact Ans.endG hv (by rw [e]; exact h) (by omega)

structure RtI where
  f : Nat
  j : Nat
  ys : List Spt
  k : Bool
  W : Option Addr
  cw : Nat
  s : SS

set_option maxHeartbeats 1000000 in
theorem route_r (hF : Fine s0) (hG : Gb s0) (hl : l.length ≤ 900000) (h : RdAt s0 s b l i xs lg W cw) (hx : xs.length ≤ i) : CallW pr n_list_reader_route [.pointer (some ⟨b, 0, none⟩)] s fun v s' =>
    ((l.drop i).take 1 = [64] → Ans (rtP ((l.drop i).length + 1) (l.drop i)) s0 b l i xs lg v s') ∧ (¬(l.drop i).take 1 = [64] → v = .bool true ∧ s' = s) := by
  have hle := h.le
  refine CallW.run good ok_list_reader_route (by simp) rfl ?_
  (try refine pSeq ?_); (repeat(first|refine sb ?_|refine gOn rfl ?_|refine gOff rfl rfl ?_|refine gTup rfl ?_))
  refine (rest_w h).mono fun v s q => ?_
  obtain ⟨rfl, rfl⟩ := q
  (repeat(first|refine sb ?_|refine gOn rfl ?_|refine gOff rfl rfl ?_|refine gTup rfl ?_))
  refine prefix_w.mono fun v s q => ?_
  obtain ⟨rfl, rfl⟩ := q
  have e1 : (l.drop i).take [(64 : UInt8)].length = (l.drop i).take 1 := rfl
  rw [e1]
  by_cases h64 : (l.drop i).take 1 = [64]
  · rw [decide_eq_true h64]
    (repeat(first|refine sb ?_|refine gOn rfl ?_|refine gOff rfl rfl ?_|refine gTup rfl ?_))
    intro q hq; obtain rfl : q = false := (by rw [hq]; simp <;> omega); (repeat(first|refine sb ?_|refine gOn rfl ?_|refine gOff rfl rfl ?_|refine gTup rfl ?_))
    refine pLoop (MW.head good (fun x : RtI => l.length - x.j) (fun x => (∀ v s', Ans (rtP x.f (l.drop x.j)) s0 b l x.j x.ys x.k v s' → Ans (rtP ((l.drop i).length + 1) (l.drop i)) s0 b l i xs lg v s') ∧ (l.drop x.j).length < x.f ∧ RdAt s0 x.s b l x.j x.ys x.k x.W x.cw ∧ x.ys.length ≤ x.j)
      (fun x => [(0, .pointer (some ⟨b, 0, none⟩))]) (fun x => x.s) ⟨(l.drop i).length + 1, i, xs, lg, W, cw, s⟩ ⟨fun _ _ q => q, Nat.lt_succ_self _, h, hx⟩ (Wk.same ⟨rfl, trivial⟩) ?_)
    rintro ⟨f, j, ys, k, V, cv, s1⟩ ⟨i1, i2, h1, i4⟩
    dsimp only at i1 i2 h1 i4 ⊢
    have hje := h1.le
    rw [List.length_drop] at i2
    cases f with
    | zero => omega
    | succ f =>
    (repeat(first|refine sb ?_|refine gOn rfl ?_|refine gOff rfl rfl ?_|refine gTup rfl ?_))
    refine (take_w (c := 64) hl h1).mono fun v s2 q => ?_
    obtain ⟨rfl, q1, q2⟩ := q
    by_cases hj : (l.drop j).take 1 = [64]
    · have h2 := q1 hj
      have hj1 := h2.le
      rw [decide_eq_true hj]
      (repeat(first|refine sb ?_|refine gOn rfl ?_|refine gOff rfl rfl ?_|refine gTup rfl ?_))
      refine (domain_r hF hG hl h2 (by omega)).mono fun v s3 q => ?_
      cases hd : dmP (l.drop (j + 1)) with
      | none =>
        rw [hd] at q
        obtain ⟨rfl, c3⟩ := q
        (repeat(first|refine sb ?_|refine gOn rfl ?_|refine gOff rfl rfl ?_|refine gTup rfl ?_))
        refine ⟨fun _ => i1 _ _ ?_, fun q => absurd h64 q⟩
        rw [rtP]
        refine Ans.by hj ?_
        rw [hd]
        exact Ans.none rfl rfl c3
      | some x =>
        obtain ⟨T, r⟩ := x
        have hr := cat_drop cat_dm hd
        have hlen := cat_dm.len hd
        rw [hd] at q
        obtain ⟨rfl, V3, cv3, h3, hx3⟩ := q
        generalize hys : ys ++ spT (j + 1) T = zs at *
        generalize hk3 : (k || lgT T) = k3 at *
        subst hr
        have key : ∀ v s', Ans (if (l.drop (j + 1 + (flT T).length)).take 1 = [44] then bindP (byP 44 (l.drop (j + 1 + (flT T).length))) (rtP f) else byP 58 (l.drop (j + 1 + (flT T).length))) s0 b l (j + 1 + (flT T).length) zs k3 v s' → Ans (rtP ((l.drop i).length + 1) (l.drop i)) s0 b l i xs lg v s' := fun v s' q => i1 v s' (by
          rw [rtP]
          refine Ans.by hj ?_
          rw [hd]
          refine Ans.two ?_
          rw [hys, hk3]
          exact q)
        have hj3 : j + 1 ≤ j + 1 + (flT T).length := Nat.le_add_right _ _
        clear i1 hd
        generalize j + 1 + (flT T).length = j3 at *
        (repeat(first|refine sb ?_|refine gOn rfl ?_|refine gOff rfl rfl ?_|refine gTup rfl ?_))
        refine (take_w (c := 44) hl h3).mono fun v s4 q => ?_
        obtain ⟨rfl, p1, p2⟩ := q
        by_cases h44 : (l.drop j3).take 1 = [44]
        · have h4 := p1 h44
          have hj4 := h4.le
          rw [if_pos h44] at key
          rw [decide_eq_true h44]
          (repeat(first|refine sb ?_|refine gOn rfl ?_|refine gOff rfl rfl ?_|refine gTup rfl ?_))
          intro q hq; obtain rfl : q = false := (by rw [hq]; simp <;> omega); (repeat(first|refine sb ?_|refine gOn rfl ?_|refine gOff rfl rfl ?_|refine gTup rfl ?_))
          exact ⟨⟨f, j3 + 1, zs, k3, V3, cv3, s4⟩, ⟨fun v s' q => key v s' (Ans.by h44 q), by dsimp only; rw [List.length_drop]; omega, h4, by dsimp only; omega⟩, by show l.length - (j3 + 1) < l.length - j; omega, Wk.same ⟨rfl, trivial⟩⟩
        · obtain rfl := p2 h44
          rw [if_neg h44] at key
          rw [decide_eq_false h44]
          (repeat(first|refine sb ?_|refine gOn rfl ?_|refine gOff rfl rfl ?_|refine gTup rfl ?_))
          intro q hq; obtain rfl : q = true := (by rw [hq]; simp <;> omega); (repeat(first|refine sb ?_|refine gOn rfl ?_|refine gOff rfl rfl ?_|refine gTup rfl ?_))
          refine (take_w (c := 58) hl h3).mono fun v s5 q => ?_
          obtain ⟨rfl, p1, p2⟩ := q
          (repeat(first|refine sb ?_|refine gOn rfl ?_|refine gOff rfl rfl ?_|refine gTup rfl ?_))
          refine ⟨fun _ => key _ _ ?_, fun q => absurd h64 q⟩
          unfold byP
          by_cases h58 : (l.drop j3).take 1 = [58]
          · rw [if_pos h58, decide_eq_true h58]
            exact Ans.endG rfl (p1 h58) (by simp; omega)
          · obtain rfl := p2 h58
            rw [if_neg h58, decide_eq_false h58]
            exact Ans.none rfl rfl h3.chg
    · obtain rfl := q2 hj
      rw [decide_eq_false hj]
      (repeat(first|refine sb ?_|refine gOn rfl ?_|refine gOff rfl rfl ?_|refine gTup rfl ?_))
      refine ⟨fun _ => i1 _ _ ?_, fun q => absurd h64 q⟩
      rw [rtP, by_none hj]
      exact Ans.none rfl rfl h1.chg
  · rw [decide_eq_false h64]
    (repeat(first|refine sb ?_|refine gOn rfl ?_|refine gOff rfl rfl ?_|refine gTup rfl ?_))
    intro q hq; obtain rfl : q = true := (by rw [hq]; simp <;> omega); (repeat(first|refine sb ?_|refine gOn rfl ?_|refine gOff rfl rfl ?_|refine gTup rfl ?_))
    exact ⟨fun q => absurd q h64, fun _ => ⟨rfl, rfl⟩⟩

theorem Ans.val {q : PR} {v : Value} (h : Ans q s0 b l i xs lg v s') : v = .bool q.isSome := by
  cases q with
  | none => exact h.1
  | some x => exact h.1
set_option maxHeartbeats 1000000 in
theorem angle_r (hF : Fine s0) (hG : Gb s0) (hl : l.length ≤ 900000) (h : RdAt s0 s b l i xs lg W cw) (hx : xs.length ≤ i) : CallW pr n_list_reader_angle [.pointer (some ⟨b, 0, none⟩)] s fun v s' => Ans (angP (l.drop i)) s0 b l i xs lg v s' := by
  refine CallW.run good ok_list_reader_angle (by simp) rfl ?_
  (try refine pSeq ?_); (repeat(first|refine sb ?_|refine gOn rfl ?_|refine gOff rfl rfl ?_|refine gTup rfl ?_))
  refine (blank_r hF hl h).mono fun v s1 h1 => ?_
  have hbi := bl_idem (l.drop i)
  rw [List.drop_drop] at hbi
  have hA : ∀ v s', Ans (angT (l.drop (i + blN (l.drop i)))) s0 b l (i + blN (l.drop i)) xs lg v s' → Ans (angP (l.drop i)) s0 b l i xs lg v s' := fun v s' q => by unfold angP; exact Ans.bl q
  generalize hi1 : i + blN (l.drop i) = i1 at *
  have hx1 : xs.length ≤ i1 := by omega
  (repeat(first|refine sb ?_|refine gOn rfl ?_|refine gOff rfl rfl ?_|refine gTup rfl ?_))
  refine (route_r hF hG hl h1 hx1).mono fun v s2 q => ?_
  have key : (v = .bool false ∧ Chg s0 s2 [] ∧ ∀ u s', u = .bool false → Chg s0 s' [] → Ans (angP (l.drop i)) s0 b l i xs lg u s') ∨ (v = .bool true ∧ ∃ j ys k V cv, RdAt s0 s2 b l j ys k V cv ∧ ys.length ≤ j ∧ ∀ u s', Ans (boxP (l.drop (j + blN (l.drop j)))) s0 b l (j + blN (l.drop j)) ys k u s' → Ans (angP (l.drop i)) s0 b l i xs lg u s') := by
    by_cases h64 : (l.drop i1).take 1 = [64]
    · have q := q.1 h64
      have eT : angT (l.drop i1) = bindP (rtP ((l.drop i1).length + 1) (l.drop i1)) fun r => bindP (blP r) boxP := by unfold angT; rw [if_pos h64]
      rw [eT] at hA
      cases hr : rtP ((l.drop i1).length + 1) (l.drop i1) with
      | none =>
        rw [hr] at q hA
        exact .inl ⟨q.1, q.2, fun u s' e c => hA u s' (Ans.none rfl e c)⟩
      | some x =>
        obtain ⟨T, r⟩ := x
        have hrr := cat_drop (cat_rt _) hr
        rw [hr] at q hA
        obtain ⟨e, V, cv, h3, hx3⟩ := q
        refine .inr ⟨e, _, _, _, V, cv, h3, hx3, fun u s' q => hA u s' (Ans.two ?_)⟩
        rw [hrr]
        exact Ans.bl q
    · obtain ⟨e, rfl⟩ := q.2 h64
      have eT : angT (l.drop i1) = boxP (l.drop i1) := by unfold angT; rw [if_neg h64]
      rw [eT] at hA
      refine .inr ⟨e, i1, xs, lg, W, cw, h1, hx1, fun u s' q => hA u s' ?_⟩
      rw [hbi, Nat.add_zero] at q
      exact q
  clear q hA h1
  rcases key with ⟨rfl, c2, hA⟩ | ⟨rfl, j, ys, k, V, cv, h2, hy, hA⟩
  · (repeat(first|refine sb ?_|refine gOn rfl ?_|refine gOff rfl rfl ?_|refine gTup rfl ?_))
    intro q hq; obtain rfl : q = true := (by rw [hq]; simp <;> omega); (repeat(first|refine sb ?_|refine gOn rfl ?_|refine gOff rfl rfl ?_|refine gTup rfl ?_))
    exact hA _ _ rfl c2
  · (repeat(first|refine sb ?_|refine gOn rfl ?_|refine gOff rfl rfl ?_|refine gTup rfl ?_))
    intro q hq; obtain rfl : q = false := (by rw [hq]; simp <;> omega); (repeat(first|refine sb ?_|refine gOn rfl ?_|refine gOff rfl rfl ?_|refine gTup rfl ?_))
    refine (blank_r hF hl h2).mono fun v s3 h3 => ?_
    have hy3 : ys.length ≤ j + blN (l.drop j) := by omega
    generalize j + blN (l.drop j) = j3 at *
    (repeat(first|refine sb ?_|refine gOn rfl ?_|refine gOff rfl rfl ?_|refine gTup rfl ?_))
    refine (address_r hF hG hl h3 hy3).mono fun v s4 q => ?_
    unfold boxP at hA
    cases ha : adrP (l.drop j3) with
    | none =>
      rw [ha] at q hA
      obtain ⟨rfl, c4⟩ := q
      (repeat(first|refine sb ?_|refine gOn rfl ?_|refine gOff rfl rfl ?_|refine gTup rfl ?_))
      intro q hq; obtain rfl : q = true := (by rw [hq]; simp <;> omega); (repeat(first|refine sb ?_|refine gOn rfl ?_|refine gOff rfl rfl ?_|refine gTup rfl ?_))
      exact hA _ _ (Ans.none rfl rfl c4)
    | some x =>
      obtain ⟨T, r⟩ := x
      have hr := cat_drop cat_adr ha
      rw [ha] at q hA
      obtain ⟨rfl, V4, cv4, h4, hx4⟩ := q
      have hA : ∀ u s', Ans (bindP (byP 62 r) blP) s0 b l (j3 + (flT T).length) (ys ++ spT j3 T) (k || lgT T) u s' → Ans (angP (l.drop i)) s0 b l i xs lg u s' := fun u s' q => hA u s' (Ans.two q)
      rw [hr] at hA
      generalize j3 + (flT T).length = j4 at *
      generalize ys ++ spT j3 T = ys4 at *
      generalize (k || lgT T) = k4 at *
      (repeat(first|refine sb ?_|refine gOn rfl ?_|refine gOff rfl rfl ?_|refine gTup rfl ?_))
      intro q hq; obtain rfl : q = false := (by rw [hq]; simp <;> omega); (repeat(first|refine sb ?_|refine gOn rfl ?_|refine gOff rfl rfl ?_|refine gTup rfl ?_))
      refine (take_w (c := 62) hl h4).mono fun v s5 q => ?_
      obtain ⟨rfl, p1, p2⟩ := q
      by_cases h62 : (l.drop j4).take 1 = [62]
      · rw [decide_eq_true h62]
        (repeat(first|refine sb ?_|refine gOn rfl ?_|refine gOff rfl rfl ?_|refine gTup rfl ?_))
        intro q hq; obtain rfl : q = false := (by rw [hq]; simp <;> omega); (repeat(first|refine sb ?_|refine gOn rfl ?_|refine gOff rfl rfl ?_|refine gTup rfl ?_))
        refine (blank_r hF hl (p1 h62)).mono fun v s6 h6 => ?_
        (repeat(first|refine sb ?_|refine gOn rfl ?_|refine gOff rfl rfl ?_|refine gTup rfl ?_))
        exact hA _ _ (Ans.by h62 (Ans.endB rfl h6 (by omega)))
      · obtain rfl := p2 h62
        rw [decide_eq_false h62]
        (repeat(first|refine sb ?_|refine gOn rfl ?_|refine gOff rfl rfl ?_|refine gTup rfl ?_))
        intro q hq; obtain rfl : q = true := (by rw [hq]; simp <;> omega); (repeat(first|refine sb ?_|refine gOn rfl ?_|refine gOff rfl rfl ?_|refine gTup rfl ?_))
        rw [by_none h62] at hA
        exact hA _ _ (Ans.none rfl rfl h4.chg)

theorem ph_sp {f : Nat} {m : List UInt8} {n : Nat} : spT n (phP f m).1 = [] ∧ lgT (phP f m).1 = false := by
  have := ph_all f m
  generalize (phP f m).1 = T at *
  induction T generalizing n with
  | nil => exact ⟨rfl, rfl⟩
  | cons t T ih =>
    obtain ⟨x, rfl⟩ := this t (by simp)
    have := ih (n := n + x.length) (fun t ht => this t (List.mem_cons_of_mem _ ht))
    exact ⟨this.1, this.2⟩

set_option maxHeartbeats 1000000 in
/-- A member; what a group's colon leads to is told ahead. -/
theorem member_r (hF : Fine s0) (hG : Gb s0) (hl : l.length ≤ 900000) {g : Bool} {grp : List UInt8 → PR} (hno : g = false → grp = noP)
    (hgr : g = true → ∀ {s : SS} {i : Nat} {xs : List Spt} {lg : Bool} {W : Option Addr} {cw : Nat}, RdAt s0 s b l i xs lg W cw → xs.length ≤ i → CallW pr n_list_reader_group [.pointer (some ⟨b, 0, none⟩)] s fun v s' => Ans (grp (l.drop i)) s0 b l i xs lg v s')
    (h : RdAt s0 s b l i xs lg W cw) (hx : xs.length ≤ i) : CallW pr n_list_reader_member [.pointer (some ⟨b, 0, none⟩), .bool g] s fun v s' => Ans (memP grp (l.drop i)) s0 b l i xs lg v s' := by
  refine CallW.run good ok_list_reader_member (by simp) rfl ?_
  (try refine pSeq ?_); (repeat(first|refine sb ?_|refine gOn rfl ?_|refine gOff rfl rfl ?_|refine gTup rfl ?_))
  refine (blank_r hF hl h).mono fun v s1 h1 => ?_
  have hA : ∀ v s', Ans (mbP grp (l.drop (i + blN (l.drop i)))) s0 b l (i + blN (l.drop i)) xs lg v s' → Ans (memP grp (l.drop i)) s0 b l i xs lg v s' := fun v s' q => by unfold memP; exact Ans.bl q
  generalize hi1 : i + blN (l.drop i) = i1 at *
  have hx1 : xs.length ≤ i1 := by omega
  have hle := h1.le
  (repeat(first|refine sb ?_|refine gOn rfl ?_|refine gOff rfl rfl ?_|refine gTup rfl ?_))
  refine (rest_w h1).mono fun v s1 q => ?_
  obtain ⟨rfl, rfl⟩ := q
  (repeat(first|refine sb ?_|refine gOn rfl ?_|refine gOff rfl rfl ?_|refine gTup rfl ?_))
  refine (addressSize_w (hG.chg h1.chg (by simp)) (by rw [List.length_drop]; omega)).mono fun v s2 q => ?_
  obtain ⟨rfl, c2⟩ := q
  have h2 := h1.step c2
  (repeat(first|refine sb ?_|refine gOn rfl ?_|refine gOff rfl rfl ?_|refine gTup rfl ?_))
  intro q hq
  unfold mbP at hA
  by_cases hp : 0 < adrN (l.drop i1)
  · obtain rfl : q = true := by rw [hq]; simp <;> omega
    rw [if_pos hp] at hA
    (repeat(first|refine sb ?_|refine gOn rfl ?_|refine gOff rfl rfl ?_|refine gTup rfl ?_))
    refine (address_r hF hG hl h2 hx1).mono fun v s3 q => ?_
    have := q.val
    subst this
    (repeat(first|refine sb ?_|refine gOn rfl ?_|refine gOff rfl rfl ?_|refine gTup rfl ?_))
    exact hA _ _ q
  · obtain rfl : q = false := by rw [hq]; simp <;> omega
    rw [if_neg hp] at hA
    (repeat(first|refine sb ?_|refine gOn rfl ?_|refine gOff rfl rfl ?_|refine gTup rfl ?_))
    refine (phrase_r hF hG hl h2).mono fun v s3 q => ?_
    obtain ⟨w, rfl, hw, h3⟩ := q
    have hsp := @ph_sp ((l.drop i1).length + 1) (l.drop i1) i1
    have hct := cat_ph ((l.drop i1).length + 1) (l.drop i1)
    have hA : ∀ v s', Ans (tlP grp (!(phP ((l.drop i1).length + 1) (l.drop i1)).1.isEmpty) (l.drop (i1 + (flT (phP ((l.drop i1).length + 1) (l.drop i1)).1).length))) s0 b l (i1 + (flT (phP ((l.drop i1).length + 1) (l.drop i1)).1).length) xs lg v s' → Ans (memP grp (l.drop i)) s0 b l i xs lg v s' := fun v s' q => hA v s' (Ans.two (by
      rw [hsp.1, hsp.2, List.append_nil, Bool.or_false]
      have e : (phP ((l.drop i1).length + 1) (l.drop i1)).2 = l.drop (i1 + (flT (phP ((l.drop i1).length + 1) (l.drop i1)).1).length) := by
        rw [← List.drop_drop]
        conv => rhs; arg 2; rw [← hct]
        rw [List.drop_left]
      rw [e]
      exact q))
    have hx3 : xs.length ≤ i1 + (flT (phP ((l.drop i1).length + 1) (l.drop i1)).1).length := by omega
    have hwe : (!(phP ((l.drop i1).length + 1) (l.drop i1)).1.isEmpty) = decide (0 < w) := by
      by_cases h0 : w = 0
      · rw [hw.1 h0, h0]; rfl
      · have : (phP ((l.drop i1).length + 1) (l.drop i1)).1 ≠ [] := fun q => h0 (hw.2 q)
        rw [decide_eq_true (by omega), Bool.not_eq_true', List.isEmpty_eq_false_iff]
        exact this
    rw [hwe] at hA
    clear hsp hct hwe hw
    generalize i1 + (flT (phP ((l.drop i1).length + 1) (l.drop i1)).1).length = i3 at *
    (repeat(first|refine sb ?_|refine gOn rfl ?_|refine gOff rfl rfl ?_|refine gTup rfl ?_))
    refine (take_w (c := 60) hl h3).mono fun v s4 q => ?_
    obtain ⟨rfl, p1, p2⟩ := q
    unfold tlP at hA
    by_cases h60 : (l.drop i3).take 1 = [60]
    · rw [if_pos h60] at hA
      rw [decide_eq_true h60]
      (repeat(first|refine sb ?_|refine gOn rfl ?_|refine gOff rfl rfl ?_|refine gTup rfl ?_))
      refine (angle_r hF hG hl (p1 h60) (by omega)).mono fun v s5 q => ?_
      have := q.val
      subst this
      (repeat(first|refine sb ?_|refine gOn rfl ?_|refine gOff rfl rfl ?_|refine gTup rfl ?_))
      exact hA _ _ (Ans.by h60 q)
    · obtain rfl := p2 h60
      rw [if_neg h60] at hA
      rw [decide_eq_false h60]
      cases g with
      | false =>
        (repeat(first|refine sb ?_|refine gOn rfl ?_|refine gOff rfl rfl ?_|refine gTup rfl ?_))
        intro q hq
        by_cases h0 : w = 0
        · obtain rfl : q = true := by rw [hq, h0]; rfl
          rw [if_neg (by simp [h0])] at hA
          (repeat(first|refine sb ?_|refine gOn rfl ?_|refine gOff rfl rfl ?_|refine gTup rfl ?_))
          exact hA _ _ (Ans.end rfl h3 hx3)
        · obtain rfl : q = false := by rw [hq]; simp; omega
          have hn : ∀ r, bindP (byP 58 r) grp = none := fun r => by
            rw [hno rfl]
            unfold bindP byP noP
            split
            · rfl
            · rename_i hh; split at hh <;> cases hh; rfl
          (repeat(first|refine sb ?_|refine gOn rfl ?_|refine gOff rfl rfl ?_|refine gTup rfl ?_))
          refine hA _ _ ?_
          rw [if_pos (by simp; omega), hn]
          simp only [ite_self]
          exact Ans.none rfl rfl h3.chg
      | true =>
        (repeat(first|refine sb ?_|refine gOn rfl ?_|refine gOff rfl rfl ?_|refine gTup rfl ?_))
        intro q hq
        by_cases h0 : w = 0
        · obtain rfl : q = false := by rw [hq, h0]; rfl
          rw [if_neg (by simp [h0])] at hA
          (repeat(first|refine sb ?_|refine gOn rfl ?_|refine gOff rfl rfl ?_|refine gTup rfl ?_))
          intro q hq
          obtain rfl : q = true := by rw [hq, h0]; rfl
          (repeat(first|refine sb ?_|refine gOn rfl ?_|refine gOff rfl rfl ?_|refine gTup rfl ?_))
          exact hA _ _ (Ans.end rfl h3 hx3)
        · obtain rfl : q = true := by rw [hq]; simp; omega
          rw [if_pos (by simp; omega)] at hA
          (repeat(first|refine sb ?_|refine gOn rfl ?_|refine gOff rfl rfl ?_|refine gTup rfl ?_))
          refine (take_w (c := 58) hl h3).mono fun v s5 q => ?_
          obtain ⟨rfl, p1, p2⟩ := q
          by_cases h58 : (l.drop i3).take 1 = [58]
          · rw [if_pos h58] at hA
            rw [decide_eq_true h58]
            (repeat(first|refine sb ?_|refine gOn rfl ?_|refine gOff rfl rfl ?_|refine gTup rfl ?_))
            refine (hgr rfl (p1 h58) (by omega)).mono fun v s6 q => ?_
            have := q.val
            subst this
            (repeat(first|refine sb ?_|refine gOn rfl ?_|refine gOff rfl rfl ?_|refine gTup rfl ?_))
            exact hA _ _ (Ans.by h58 q)
          · obtain rfl := p2 h58
            rw [if_neg h58] at hA
            rw [decide_eq_false h58]
            (repeat(first|refine sb ?_|refine gOn rfl ?_|refine gOff rfl rfl ?_|refine gTup rfl ?_))
            intro q hq
            obtain rfl : q = false := by rw [hq]; simp; omega
            (repeat(first|refine sb ?_|refine gOn rfl ?_|refine gOff rfl rfl ?_|refine gTup rfl ?_))
            exact hA _ _ (Ans.none rfl rfl h3.chg)
end Go.Vf.S
end
/- LiH -/
section
/- Lists of addresses: members, groups; what is found. -/
namespace Go.Vf.S
open Go Go.Vf
attribute [local irreducible] wSeq wRow wp wG
attribute [local irreducible] rtP phP msP parseF domF blankF quotedF wordN domN adrN blN adrP boxP angT angP mbP memP tlP dmP
set_option linter.unusedVariables false
set_option linter.unusedSimpArgs false
set_option maxRecDepth 10000

variable {s0 s s' : SS} {b : Nat} {l : List UInt8} {i : Nat} {xs : List Spt} {lg : Bool} {W : Option Addr} {cw : Nat}

set_option maxHeartbeats 1000000 in
theorem members_r (hF : Fine s0) (hG : Gb s0) (hl : l.length ≤ 900000) {g : Bool} {m : List UInt8 → PR} (hm : Cat m)
    (hc : ∀ {s : SS} {i : Nat} {xs : List Spt} {lg : Bool} {W : Option Addr} {cw : Nat}, RdAt s0 s b l i xs lg W cw → xs.length ≤ i → CallW pr n_list_reader_member [.pointer (some ⟨b, 0, none⟩), .bool g] s fun v s' => Ans (m (l.drop i)) s0 b l i xs lg v s')
    (h : RdAt s0 s b l i xs lg W cw) (hx : xs.length ≤ i) : CallW pr n_list_reader_members [.pointer (some ⟨b, 0, none⟩), .bool g] s fun v s' => Ans (msP m ((l.drop i).length + 1) (l.drop i)) s0 b l i xs lg v s' := by
  refine CallW.run good ok_list_reader_members (by simp) rfl ?_
  (try refine pSeq ?_); (repeat refine sb ?_)
  refine pLoop (MW.head good (fun x : RtI => l.length - x.j) (fun x => (∀ v s', Ans (msP m x.f (l.drop x.j)) s0 b l x.j x.ys x.k v s' → Ans (msP m ((l.drop i).length + 1) (l.drop i)) s0 b l i xs lg v s') ∧ (l.drop x.j).length < x.f ∧ RdAt s0 x.s b l x.j x.ys x.k x.W x.cw ∧ x.ys.length ≤ x.j)
    (fun x => [(0, .pointer (some ⟨b, 0, none⟩)), (1, .bool g)]) (fun x => x.s) ⟨(l.drop i).length + 1, i, xs, lg, W, cw, s⟩ ⟨fun _ _ q => q, Nat.lt_succ_self _, h, hx⟩ (Wk.same ⟨rfl, rfl, trivial⟩) ?_)
  rintro ⟨f, j, ys, k, V, cv, s1⟩ ⟨i1, i2, h1, i4⟩
  dsimp only at i1 i2 h1 i4 ⊢
  have hje := h1.le
  rw [List.length_drop] at i2
  cases f with
  | zero => omega
  | succ f =>
  (repeat refine sb ?_)
  refine (hc h1 i4).mono fun v s2 q => ?_
  cases hd : m (l.drop j) with
  | none =>
    rw [hd] at q
    obtain ⟨rfl, c2⟩ := q
    (repeat refine sb ?_)
    refine i1 _ _ ?_
    rw [msP, hd]
    exact Ans.none rfl rfl c2
  | some x =>
    obtain ⟨T, r⟩ := x
    have hr := cat_drop hm hd
    rw [hd] at q
    obtain ⟨rfl, V3, cv3, h3, hx3⟩ := q
    generalize hys : ys ++ spT j T = zs at *
    generalize hk3 : (k || lgT T) = k3 at *
    have key : ∀ v s', Ans (if (l.drop (j + (flT T).length)).take 1 = [44] then bindP (byP 44 (l.drop (j + (flT T).length))) (msP m f) else some ([], (l.drop (j + (flT T).length)))) s0 b l (j + (flT T).length) zs k3 v s' → Ans (msP m ((l.drop i).length + 1) (l.drop i)) s0 b l i xs lg v s' := fun v s' q => i1 v s' (by
      rw [msP, hd]
      refine Ans.two ?_
      rw [hys, hk3, hr]
      exact q)
    have hj3 : j ≤ j + (flT T).length := Nat.le_add_right _ _
    clear i1 hd hr
    generalize j + (flT T).length = j3 at *
    (repeat refine sb ?_)
    refine (take_w (c := 44) hl h3).mono fun v s4 q => ?_
    obtain ⟨rfl, p1, p2⟩ := q
    by_cases h44 : (l.drop j3).take 1 = [44]
    · have h4 := p1 h44
      have hj4 := h4.le
      rw [if_pos h44] at key
      rw [decide_eq_true h44]
      (repeat refine sb ?_)
      intro q hq; obtain rfl : q = false := (by rw [hq]; simp <;> omega); (repeat refine sb ?_)
      exact ⟨⟨f, j3 + 1, zs, k3, V3, cv3, s4⟩, ⟨fun v s' q => key v s' (Ans.by h44 q), by dsimp only; rw [List.length_drop]; omega, h4, by dsimp only; omega⟩, by show l.length - (j3 + 1) < l.length - j; omega, Wk.same ⟨rfl, rfl, trivial⟩⟩
    · obtain rfl := p2 h44
      rw [if_neg h44] at key
      rw [decide_eq_false h44]
      (repeat refine sb ?_)
      intro q hq; obtain rfl : q = true := (by rw [hq]; simp <;> omega); (repeat refine sb ?_)
      exact key _ _ (Ans.end rfl h3 hx3)

theorem group_r (hF : Fine s0) (hG : Gb s0) (hl : l.length ≤ 900000) (h : RdAt s0 s b l i xs lg W cw) (hx : xs.length ≤ i) : CallW pr n_list_reader_group [.pointer (some ⟨b, 0, none⟩)] s fun v s' => Ans (grP (l.drop i)) s0 b l i xs lg v s' := by
  refine CallW.run good ok_list_reader_group (by simp) rfl ?_
  (try refine pSeq ?_); (repeat(first|refine sb ?_|refine gOn rfl ?_|refine gOff rfl rfl ?_|refine gTup rfl ?_))
  refine (members_r hF hG hl (m := memP noP) (cat_mem cat_no) (fun h hx => member_r hF hG hl (g := false) (fun _ => rfl) (fun q => by cases q) h hx) h hx).mono fun v s1 q => ?_
  have hA : ∀ u s', Ans (bindP (msP (memP noP) ((l.drop i).length + 1) (l.drop i)) fun r => bindP (byP 59 r) blP) s0 b l i xs lg u s' → Ans (grP (l.drop i)) s0 b l i xs lg u s' := fun u s' q => q
  cases hm : msP (memP noP) ((l.drop i).length + 1) (l.drop i) with
  | none =>
    rw [hm] at q hA
    obtain ⟨rfl, c1⟩ := q
    (repeat(first|refine sb ?_|refine gOn rfl ?_|refine gOff rfl rfl ?_|refine gTup rfl ?_))
    intro q hq; obtain rfl : q = true := (by rw [hq]; simp <;> omega); (repeat(first|refine sb ?_|refine gOn rfl ?_|refine gOff rfl rfl ?_|refine gTup rfl ?_))
    exact hA _ _ (Ans.none rfl rfl c1)
  | some x =>
    obtain ⟨T, r⟩ := x
    have hr := cat_drop (q := msP (memP noP) ((l.drop i).length + 1)) (cat_ms (cat_mem cat_no) _) hm
    rw [hm] at q hA
    obtain ⟨rfl, V, cv, h1, hx1⟩ := q
    have hA : ∀ u s', Ans (bindP (byP 59 r) blP) s0 b l (i + (flT T).length) (xs ++ spT i T) (lg || lgT T) u s' → Ans (grP (l.drop i)) s0 b l i xs lg u s' := fun u s' q => hA u s' (Ans.two q)
    rw [hr] at hA
    generalize i + (flT T).length = j4 at *
    generalize xs ++ spT i T = ys4 at *
    generalize (lg || lgT T) = k4 at *
    (repeat(first|refine sb ?_|refine gOn rfl ?_|refine gOff rfl rfl ?_|refine gTup rfl ?_))
    intro q hq; obtain rfl : q = false := (by rw [hq]; simp <;> omega); (repeat(first|refine sb ?_|refine gOn rfl ?_|refine gOff rfl rfl ?_|refine gTup rfl ?_))
    refine (take_w (c := 59) hl h1).mono fun v s5 q => ?_
    obtain ⟨rfl, p1, p2⟩ := q
    by_cases h62 : (l.drop j4).take 1 = [59]
    · rw [decide_eq_true h62]
      (repeat(first|refine sb ?_|refine gOn rfl ?_|refine gOff rfl rfl ?_|refine gTup rfl ?_))
      intro q hq; obtain rfl : q = false := (by rw [hq]; simp <;> omega); (repeat(first|refine sb ?_|refine gOn rfl ?_|refine gOff rfl rfl ?_|refine gTup rfl ?_))
      refine (blank_r hF hl (p1 h62)).mono fun v s6 h6 => ?_
      (repeat(first|refine sb ?_|refine gOn rfl ?_|refine gOff rfl rfl ?_|refine gTup rfl ?_))
      exact hA _ _ (Ans.by h62 (Ans.endB rfl h6 (by omega)))
    · obtain rfl := p2 h62
      rw [decide_eq_false h62]
      (repeat(first|refine sb ?_|refine gOn rfl ?_|refine gOff rfl rfl ?_|refine gTup rfl ?_))
      intro q hq; obtain rfl : q = true := (by rw [hq]; simp <;> omega); (repeat(first|refine sb ?_|refine gOn rfl ?_|refine gOff rfl rfl ?_|refine gTup rfl ?_))
      rw [by_none h62] at hA
      exact hA _ _ (Ans.none rfl rfl h1.chg)

/-- Spots of one's own. -/
abbrev SpO (s : SS) (W : Option Addr) (cw : Nat) (xs : List Spt) : Prop := OwnR tSp s W cw xs.length (spsC xs)

set_option maxHeartbeats 1000000 in
theorem find_w {s : SS} (hF : Fine s) (hG : Gb s) (hl : l.length ≤ 900000) : CallW pr n_list_Find [str l] s fun v s' => ∃ W cw, v = .tuple ⟨[.slice W (findF l).1.length cw, .int .i64 (findF l).2]⟩ ∧ SpO s' W cw (findF l).1 ∧ Chg s s' [] ∧ ∀ id ∈ blkOf W, s.next ≤ id := by
  refine CallW.run good ok_list_Find (by simp) rfl ?_
  (try refine pSeq ?_); (repeat(first|refine sb ?_|refine gOn rfl ?_|refine gOff rfl rfl ?_|refine gTup rfl ?_))
  refine st_abs (cs' := rdC l 0 [] false none 0) rfl rfl lkH (Nat.lt_succ_self _) rfl rfl fun s1 e1 c1 n1 => ?_
  have c01 : Chg s s1 [] := (Chg.new []).fresh c1 (by simp)
  have n1 : s1.next = s.next + 1 := n1
  have h1 : RdAt s s1 s.next l 0 [] false none 0 := ⟨c01, by omega, Nat.le_refl _, e1, ⟨rfl, rfl, rfl⟩, by simp [blkOf], Nat.zero_le _⟩
  have hno : ∃ W cw, (Value.tuple ⟨[.slice none 0 0, .int .i64 5]⟩) = .tuple ⟨[.slice W ([] : List Spt).length cw, .int .i64 (5 : Nat)]⟩ := ⟨none, 0, rfl⟩
  (repeat(first|refine sb ?_|refine gOn rfl ?_|refine gOff rfl rfl ?_|refine gTup rfl ?_))
  refine (members_r hF hG hl (m := memP grP) (cat_mem cat_gr) (fun h hx => member_r hF hG hl (g := true) (fun q => by cases q) (fun _ {_ _ _ _ _ _} h hx => group_r hF hG hl h hx) h hx) h1 (Nat.zero_le _)).mono fun v s2 q => ?_
  rw [List.drop_zero] at q
  have eT : tokF l = match msP (memP grP) (l.length + 1) l with
    | some (T, []) => some T
    | _ => none := rfl
  cases hm : msP (memP grP) (l.length + 1) l with
  | none =>
    rw [hm] at q eT
    obtain ⟨rfl, c2⟩ := q
    have eF : findF l = ([], 5) := by unfold findF; rw [eT]
    rw [eF]
    (repeat(first|refine sb ?_|refine gOn rfl ?_|refine gOff rfl rfl ?_|refine gTup rfl ?_))
    intro q hq; obtain rfl : q = true := (by rw [hq]; simp <;> omega); (repeat(first|refine sb ?_|refine gOn rfl ?_|refine gOff rfl rfl ?_|refine gTup rfl ?_))
    exact ⟨none, 0, rfl, ⟨rfl, rfl, rfl⟩, c2, by simp [blkOf]⟩
  | some x =>
    obtain ⟨T, r⟩ := x
    have hr := cat_drop (i := 0) (q := msP (memP grP) (l.length + 1)) (cat_ms (cat_mem cat_gr) _) (by rw [List.drop_zero]; exact hm)
    rw [hm] at q eT
    obtain ⟨rfl, V, cv, h2, hx2⟩ := q
    rw [Nat.zero_add] at h2 hx2 hr
    rw [List.nil_append] at h2 hx2
    rw [Bool.false_or] at h2
    have hle := h2.le
    (repeat(first|refine sb ?_|refine gOn rfl ?_|refine gOff rfl rfl ?_|refine gTup rfl ?_))
    intro q hq; obtain rfl : q = false := (by rw [hq]; simp <;> omega); (repeat(first|refine sb ?_|refine gOn rfl ?_|refine gOff rfl rfl ?_|refine gTup rfl ?_))
    refine ldI_is rfl h2.look rfl ?_
    (repeat(first|refine sb ?_|refine gOn rfl ?_|refine gOff rfl rfl ?_|refine gTup rfl ?_))
    intro n hn
    (repeat(first|refine sb ?_|refine gOn rfl ?_|refine gOff rfl rfl ?_|refine gTup rfl ?_))
    intro q hq
    by_cases hlt : (flT T).length < l.length
    · obtain rfl : q = true := by rw [hq, hn]; simp; omega
      have eF : findF l = ([], 5) := by
        have : r ≠ [] := fun q => by rw [q] at hr; have := congrArg List.length hr; simp at this; omega
        have : tokF l = none := by
          rw [eT]
          cases r with
          | nil => exact absurd rfl this
          | cons c r => rfl
        unfold findF
        rw [this]
      rw [eF]
      (repeat(first|refine sb ?_|refine gOn rfl ?_|refine gOff rfl rfl ?_|refine gTup rfl ?_))
      exact ⟨none, 0, rfl, ⟨rfl, rfl, rfl⟩, h2.chg, by simp [blkOf]⟩
    · obtain rfl : q = false := by rw [hq, hn]; simp; omega
      have hr0 : r = [] := by rw [hr]; exact List.drop_of_length_le (by omega)
      subst hr0
      have eF : findF l = if lgT T = true then ([], 3) else if 64 < (spT 0 T).length then ([], 7) else (spT 0 T, 0) := by
        have : tokF l = some T := eT
        unfold findF
        rw [this]
      (repeat(first|refine sb ?_|refine gOn rfl ?_|refine gOff rfl rfl ?_|refine gTup rfl ?_))
      refine ldB_is rfl h2.look rfl ?_
      cases hk : lgT T with
      | true =>
        rw [hk, if_pos rfl] at eF
        rw [eF]
        (repeat(first|refine sb ?_|refine gOn rfl ?_|refine gOff rfl rfl ?_|refine gTup rfl ?_))
        exact ⟨none, 0, rfl, ⟨rfl, rfl, rfl⟩, h2.chg, by simp [blkOf]⟩
      | false =>
        rw [hk, if_neg (by simp)] at eF
        (repeat(first|refine sb ?_|refine gOn rfl ?_|refine gOff rfl rfl ?_|refine gTup rfl ?_))
        refine ld1_is rfl h2.look rfl ?_
        (repeat(first|refine sb ?_|refine gOn rfl ?_|refine gOff rfl rfl ?_|refine gTup rfl ?_))
        intro q hq
        by_cases h64 : 64 < (spT 0 T).length
        · obtain rfl : q = true := by rw [hq]; simp; omega
          rw [if_pos h64] at eF
          rw [eF]
          (repeat(first|refine sb ?_|refine gOn rfl ?_|refine gOff rfl rfl ?_|refine gTup rfl ?_))
          exact ⟨none, 0, rfl, ⟨rfl, rfl, rfl⟩, h2.chg, by simp [blkOf]⟩
        · obtain rfl : q = false := by rw [hq]; simp; omega
          rw [if_neg h64] at eF
          rw [eF]
          (repeat(first|refine sb ?_|refine gOn rfl ?_|refine gOff rfl rfl ?_|refine gTup rfl ?_))
          refine ld1_is rfl h2.look rfl ?_
          (repeat(first|refine sb ?_|refine gOn rfl ?_|refine gOff rfl rfl ?_|refine gTup rfl ?_))
          exact ⟨V, cv, rfl, h2.own, h2.chg, h2.new⟩
end Go.Vf.S
end

import Derived.Test.YtgnhkclddahdnaaGreatDoorBnL
import Derived.Test.YtgnhkclddahdnaaGreatDoorBnE
section
namespace Go.Vf.S
open Go Go.Vf
attribute [local irreducible] parseF domF blankF quotedF wordN domN adrN
set_option linter.unusedVariables false
set_option linter.unusedSimpArgs false
set_option maxRecDepth 10000

def blS (l : List UInt8) : PR := if (blankF l).2 = 0 then blP l else none
def boxQ (l : List UInt8) : PR := bindP (adP l) fun r => bindP (blS r) (byP 62)
def angU (l : List UInt8) : PR := if l.take 1 = [64] then bindP (rtP (l.length + 1) l) fun r => bindP (blS r) boxQ else boxQ l
def angQ (l : List UInt8) : PR := bindP (blS l) angU
def badW (l : List UInt8) : Bool := decide (l.take 1 = [34] ∧ (quotedF l).2.2 ≠ 0)
def phS : Nat → List UInt8 → PR
 | 0, l => none
 | f + 1, l => if badW l = true then none else if wordN l = 0 then some ([], l) else
  bindP (some ([.g (l.take (wordN l))], l.drop (wordN l))) fun r => bindP (blS r) (phS f)
def tlS (grp : List UInt8 → PR) (w : Bool) (l : List UInt8) : PR := if l.take 1 = [60] then bindP (bindP (byP 60 l) angQ) blS else if w = true then (if l.take 1 = [58] then bindP (bindP (byP 58 l) grp) blS else none) else some ([], l)
def mbS (grp : List UInt8 → PR) (l : List UInt8) : PR := if 0 < adrN l then bindP (adP l) blS else match phS (l.length + 1) l with
 | none => none
 | some (T, r) => bindP (some (T, r)) (tlS grp (!T.isEmpty))
def memS (grp : List UInt8 → PR) (l : List UInt8) : PR := bindP (blS l) (mbS grp)
def ms0S (l : List UInt8) : PR := msP (memS noP) (l.length + 1) l
def grQ (l : List UInt8) : PR := bindP (ms0S l) (byP 59)
def ms1S (l : List UInt8) : PR := msP (memS grQ) (l.length + 1) l

theorem bindP_assoc (p : PR) (q r : List UInt8 → PR) : bindP (bindP p q) r = bindP p fun l => bindP (q l) r := by
 cases p with
 | none => rfl
 | some x =>
  obtain ⟨T, l⟩ := x
  show bindP (bindP (some (T, l)) q) r = bindP (some (T, l)) fun l => bindP (q l) r
  cases hq : q l with
  | none => rw [bindP_one hq, bindP_one (by rw [hq]; rfl)]; rfl
  | some y =>
   obtain ⟨T2, l2⟩ := y
   rw [bindP_two hq]
   cases hr : r l2 with
   | none => rw [bindP_one hr, bindP_one (by rw [hq, bindP_one hr])]
   | some z =>
    obtain ⟨T3, l3⟩ := z
    rw [bindP_two hr, bindP_two (by rw [hq, bindP_two hr]), List.append_assoc]

def Eqv (A : List UInt8 → Prop) (p q : List UInt8 → PR) : Prop := ∀ l T r, A r → (p l = some (T, r) ↔ q l = some (T, r))
theorem Eqv.weak {A B : List UInt8 → Prop} {p q : List UInt8 → PR} (h : Eqv A p q) (hb : ∀ r, B r → A r) : Eqv B p q := fun l T r hr => h l T r (hb r hr)
theorem blS_no {l r : List UInt8} {T : List Tok} (h : blS l = some (T, r)) : blP l = some (T, r) ∧ noBl r := by
 unfold blS at h
 split at h
 ·rename_i h0
  refine ⟨h, ?_⟩
  have hb : blankF l = (blN l, 0) := Prod.ext rfl h0
  have := (bl_loc _ _ l 0 (blN l) (Nat.le_refl _) (Nat.lt_succ_self _) (by unfold blankF at hb; exact hb)).2.2.1
  cases h
  exact this
 ·cases h
theorem blS_of {l r : List UInt8} {T : List Tok} (h : blP l = some (T, r)) (hn : noBl r) : blS l = some (T, r) := by
 unfold blS
 by_cases h0 : (blankF l).2 = 0
 ·rw [if_pos h0]; exact h
 ·exfalso
  have hb : bl (l.length + 1) l 0 = (blN l, (blankF l).2) := by unfold blN; unfold blankF; rfl
  obtain ⟨h1, h2⟩ := bl_err _ l 0 _ _ hb h0
  unfold blP at h
  rw [h1] at h
  cases h
  exact h2 hn
theorem eqv_bl : Eqv noBl blP blS := fun l T r hr => ⟨fun h => blS_of h hr, fun h => (blS_no h).1⟩
theorem Eqv.bind {A B : List UInt8 → Prop} {p p' q q' : List UInt8 → PR} (hp : Eqv B p p') (hq : Eqv A q q') (hd : Hd q A B) (hn : ∀ l T r, p' l = some (T, r) → B r) : Eqv A (fun l => bindP (p l) q) (fun l => bindP (p' l) q') := fun l T r hr => by
 constructor
 ·intro h
  obtain ⟨T1, r1, T2, h1, h2, rfl⟩ := bindP_is h
  simp only
  rw [(hp _ _ _ (hd _ _ _ h2 hr)).1 h1]
  exact bindP_two ((hq _ _ _ hr).1 h2)
 ·intro h
  obtain ⟨T1, r1, T2, h1, h2, rfl⟩ := bindP_is h
  simp only
  rw [(hp _ _ _ (hn _ _ _ h1)).2 h1]
  exact bindP_two ((hq _ _ _ hr).2 h2)
theorem Eqv.left {A : List UInt8 → Prop} {p q q' : List UInt8 → PR} (hq : Eqv A q q') : Eqv A (fun l => bindP (p l) q) (fun l => bindP (p l) q') := fun l T r hr => by
 constructor <;> intro h <;> obtain ⟨T1, r1, T2, h1, h2, rfl⟩ := bindP_is h <;> simp only <;> rw [h1]
 ·exact bindP_two ((hq _ _ _ hr).1 h2)
 ·exact bindP_two ((hq _ _ _ hr).2 h2)
theorem Eqv.of {A : List UInt8 → Prop} {p p' q q' : List UInt8 → PR} (h : Eqv A p q) (hp : ∀ l, p' l = p l) (hq : ∀ l, q' l = q l) : Eqv A p' q' := fun l T r hr => by rw [hp, hq]; exact h l T r hr
theorem hd_byb_no {c : UInt8} {q : List UInt8 → PR} (hc : wh c = false ∧ c ≠ 40) (A : List UInt8 → Prop) : Hd (fun l => bindP (byP c l) q) A noBl := hd_bind_by fun l h d hd => by rw [h] at hd; cases hd; exact hc
theorem eqv_box : Eqv noBl boxP (fun l => bindP (boxQ l) blS) := by
 have h1 : Eqv noBl (fun l => bindP (adP l) fun r => bindP (blP r) fun r => bindP (byP 62 r) blP) (fun l => bindP (adP l) fun r => bindP (blS r) fun r => bindP (byP 62 r) blS) :=
  Eqv.left (Eqv.bind eqv_bl (Eqv.left eqv_bl) (hd_byb_no (by decide) _) fun l T r h => (blS_no h).2)
 refine h1.of (fun l => ?_) (fun l => ?_)
 ·unfold boxP adrP
  rw [bindP_assoc]
 ·unfold boxQ
  rw [bindP_assoc]
  congr 1
  funext r
  rw [bindP_assoc]
theorem hd_boxn : Hd boxP noBl noBl := (hd_box _).weak fun r h => word_bl h
theorem eqv_angT : Eqv noBl angT (fun l => bindP (angU l) blS) := fun l T r hr => by
 simp only
 unfold angT angU
 by_cases h : l.take 1 = [64]
 ·rw [if_pos h, if_pos h, bindP_assoc]
  have h1 : Eqv noBl (fun l' => bindP (rtP (l.length + 1) l') fun r => bindP (blP r) boxP) (fun l' => bindP (rtP (l.length + 1) l') fun r => bindP (bindP (blS r) boxQ) blS) := by
   refine Eqv.left ?_
   refine (Eqv.bind eqv_bl eqv_box hd_boxn fun l T r h => (blS_no h).2).of (fun _ => rfl) (fun r => ?_)
   rw [bindP_assoc]
  exact h1 l T r hr
 ·rw [if_neg h, if_neg h]
  exact eqv_box l T r hr
theorem hd_angTn : Hd angT noBl noBl := by
 intro l T r h hA
 unfold angT at h
 split at h
 ·rename_i h64
  intro c hc
  rw [head_take.1 h64] at hc
  cases hc
  decide
 ·exact word_bl (hd_box (fun _ => True) _ _ _ h trivial)
theorem eqv_ang : Eqv noBl angP (fun l => bindP (angQ l) blS) := by
 refine (Eqv.bind eqv_bl eqv_angT hd_angTn fun l T r h => (blS_no h).2).of (fun _ => rfl) (fun l => ?_)
 unfold angQ
 rw [bindP_assoc]

theorem bad_no {l : List UInt8} (h : badW l = true) : wordN l = 0 ∧ l.take 1 = [34] := by
 obtain ⟨h1, h2⟩ := of_decide_eq_true h
 refine ⟨?_, h1⟩
 unfold wordN
 rw [if_neg h2, take1_cons h1, List.takeWhile_cons, if_neg (by decide)]
 rfl
theorem bad_good {l : List UInt8} (h : 0 < wordN l) : badW l = false := by
 cases hb : badW l with
 | false => rfl
 | true => rw [(bad_no hb).1] at h; exact absurd h (Nat.lt_irrefl 0)
theorem ph_two : ∀ (f : Nat) (l : List UInt8), l.length < f → ∀ T r, noBl r → ¬r.take 1 = [34] → (phP f l = (T, r) ↔ phS f l = some (T, r))
 | 0, l, hl, T, r, hr, h34 => by omega
 | f + 1, l, hl, T, r, hr, h34 => by
  rw [phP, phS]
  by_cases hb : badW l = true
  ·obtain ⟨h0, hq⟩ := bad_no hb
   rw [if_pos hb, if_pos h0]
   constructor
   ·intro h; cases h; exact absurd hq h34
   ·intro h; cases h
  ·rw [if_neg hb]
   by_cases h0 : wordN l = 0
   ·rw [if_pos h0, if_pos h0]
    constructor
    ·intro h; rw [h]
    ·intro h; exact Option.some.inj h
   ·rw [if_neg h0, if_neg h0]
    have hwl := word_le l
    have hlen : ((l.drop (wordN l)).drop (blN (l.drop (wordN l)))).length < f := by rw [List.length_drop, List.length_drop]; omega
    have hb2 : blP (l.drop (wordN l)) = some ([.g ((l.drop (wordN l)).take (blN (l.drop (wordN l))))], (l.drop (wordN l)).drop (blN (l.drop (wordN l)))) := rfl
    constructor
    ·intro h
     cases h
     have ih := (ph_two f _ hlen _ _ hr h34).1 rfl
     have hno : noBl ((l.drop (wordN l)).drop (blN (l.drop (wordN l)))) := by
      cases f with
      | zero => omega
      | succ f =>
       rw [phP] at hr
       split at hr
       ·exact hr
       ·rename_i hw; exact word_bl (Nat.pos_of_ne_zero hw)
     have h3 := blS_of hb2 hno
     exact bindP_two (by rw [h3]; exact bindP_two ih)
    ·intro h
     obtain ⟨T1, r1, T2, h1, h2, rfl⟩ := bindP_is h
     cases h1
     obtain ⟨T3, r3, T4, h3, h4, rfl⟩ := bindP_is h2
     obtain ⟨h5, h6⟩ := blS_no h3
     rw [hb2] at h5
     cases h5
     have ih := (ph_two f _ hlen _ _ hr h34).2 h4
     rw [ih]
     rfl
theorem eqv_tl {A : List UInt8 → Prop} (hA : ∀ r, A r → noBl r) {grp grpS : List UInt8 → PR} (hg : Eqv A grp (fun l => bindP (grpS l) blS)) (w : Bool) : Eqv A (tlP grp w) (tlS grpS w) := fun l T r hr => by
 unfold tlP tlS
 by_cases h60 : l.take 1 = [60]
 ·rw [if_pos h60, if_pos h60, bindP_assoc]
  exact (Eqv.left (p := byP 60) eqv_ang) l T r (hA r hr)
 ·rw [if_neg h60, if_neg h60]
  by_cases hw : w = true
  ·rw [if_pos hw, if_pos hw]
   by_cases h58 : l.take 1 = [58]
   ·rw [if_pos h58, if_pos h58, bindP_assoc]
    exact (Eqv.left (p := byP 58) hg) l T r hr
   ·rw [if_neg h58, if_neg h58]
  ·rw [if_neg hw, if_neg hw]
def noBq (l : List UInt8) : Prop := noBl l ∧ ¬l.take 1 = [34]
theorem tl_noq {grp : List UInt8 → PR} {w : Bool} {l r : List UInt8} {T : List Tok} (h : tlP grp w l = some (T, r)) (hr : noBq r) : noBq l := by
 rcases tl_cases h with q | ⟨-, q⟩ | ⟨-, -, rfl⟩
 ·exact ⟨fun c hc => by rw [q] at hc; cases hc; decide, by rw [head_take, q]; decide⟩
 ·exact ⟨fun c hc => by rw [q] at hc; cases hc; decide, by rw [head_take, q]; decide⟩
 ·exact hr
theorem tlS_noq {grp : List UInt8 → PR} {w : Bool} {l r : List UInt8} {T : List Tok} (h : tlS grp w l = some (T, r)) (hr : noBq r) : noBq l := by
 unfold tlS at h
 split at h
 ·rename_i q
  exact ⟨fun c hc => by rw [head_take.1 q] at hc; cases hc; decide, by rw [q]; decide⟩
 ·split at h
  ·split at h
   ·rename_i q
    exact ⟨fun c hc => by rw [head_take.1 q] at hc; cases hc; decide, by rw [q]; decide⟩
   ·cases h
  ·cases h
   exact hr
theorem eqv_mb {grp grpS : List UInt8 → PR} (hg : Eqv noBq grp (fun l => bindP (grpS l) blS)) : Eqv noBq (mbP grp) (mbS grpS) := fun l T r hr => by
 unfold mbP mbS
 by_cases h0 : 0 < adrN l
 ·rw [if_pos h0, if_pos h0]
  exact (Eqv.left (p := adP) eqv_bl) l T r hr.1
 ·rw [if_neg h0, if_neg h0]
  constructor
  ·intro h
   obtain ⟨T1, r1, T2, h1, h2, rfl⟩ := bindP_is h
   have h1 := Option.some.inj h1
   have hq := tl_noq h2 hr
   rw [(ph_two _ l (Nat.lt_succ_self _) _ _ hq.1 hq.2).1 h1]
   rw [h1] at h2
   exact bindP_two ((eqv_tl (fun r h => h.1) hg _ _ _ _ hr).1 h2)
  ·intro h
   cases hp : phS (l.length + 1) l with
   | none => rw [hp] at h; cases h
   | some x =>
    obtain ⟨T1, r1⟩ := x
    rw [hp] at h
    obtain ⟨T3, r3, T2, h1, h2, rfl⟩ := bindP_is h
    cases h1
    have hq := tlS_noq h2 hr
    rw [(ph_two _ l (Nat.lt_succ_self _) _ _ hq.1 hq.2).2 hp]
    exact bindP_two ((eqv_tl (fun r h => h.1) hg _ _ _ _ hr).2 h2)
theorem hd_mbq {grp : List UInt8 → PR} : Hd (mbP grp) noBq noBl := by
 intro l T r h hA
 unfold mbP at h
 split at h
 ·exact word_bl (hd_adr (fun _ => True) _ _ _ h trivial)
 ·obtain ⟨T1, r1, T2, h1, h2, rfl⟩ := bindP_is h
  have h1 := Option.some.inj h1
  rw [phP] at h1
  split at h1
  ·cases h1
   exact (tl_noq h2 hA).1
  ·rename_i hw
   exact word_bl (Nat.pos_of_ne_zero hw)
theorem eqv_mem {grp grpS : List UInt8 → PR} (hg : Eqv noBq grp (fun l => bindP (grpS l) blS)) : Eqv noBq (memP grp) (memS grpS) :=
 Eqv.bind eqv_bl (eqv_mb hg) hd_mbq fun l T r h => (blS_no h).2
theorem noBq_of {c : UInt8} {l : List UInt8} (h : l.take 1 = [c]) (hc : wh c = false ∧ c ≠ 40 ∧ c ≠ 34) : noBq l :=
 ⟨fun d hd => by rw [head_take.1 h] at hd; cases hd; exact ⟨hc.1, hc.2.1⟩, fun q => by rw [h] at q; cases q; exact hc.2.2 rfl⟩
theorem eqv_ms {m m' : List UInt8 → PR} (hm : Eqv noBq m m') : ∀ f, Eqv noBq (msP m f) (msP m' f)
 | 0 => fun l T r hr => Iff.rfl
 | f + 1 => fun l T r hr => by
  rw [msP, msP]
  have ih := eqv_ms hm f
  have key : ∀ r1 T2, (if r1.take 1 = [44] then bindP (byP 44 r1) (msP m f) else some ([], r1)) = some (T2, r) ↔ (if r1.take 1 = [44] then bindP (byP 44 r1) (msP m' f) else some ([], r1)) = some (T2, r) := fun r1 T2 => by
   split
   ·exact (Eqv.left (p := byP 44) ih) r1 T2 r hr
   ·exact Iff.rfl
  have good : ∀ {r1 : List UInt8} {T2 : List Tok} {q : List UInt8 → PR}, (if r1.take 1 = [44] then bindP (byP 44 r1) q else some ([], r1)) = some (T2, r) → noBq r1 := fun {r1 T2 q} h => by
   split at h
   ·rename_i h44; exact noBq_of h44 (by decide)
   ·cases h; exact hr
  constructor
  ·intro h
   obtain ⟨T1, r1, T2, h1, h2, rfl⟩ := bindP_is h
   rw [(hm _ _ _ (good h2)).1 h1]
   exact bindP_two ((key _ _).1 h2)
  ·intro h
   obtain ⟨T1, r1, T2, h1, h2, rfl⟩ := bindP_is h
   rw [(hm _ _ _ (good h2)).2 h1]
   exact bindP_two ((key _ _).2 h2)
theorem eqv_no : Eqv noBq noP (fun l => bindP (noP l) blS) := fun l T r hr => Iff.rfl
theorem eqv_ms0 : Eqv noBq ms0 ms0S := fun l T r hr => eqv_ms (eqv_mem eqv_no) _ l T r hr
theorem eqv_gr : Eqv noBq grP (fun l => bindP (grQ l) blS) := fun l T r hr => by
 have h2 : Eqv noBl (fun r => bindP (byP 59 r) blP) (fun r => bindP (byP 59 r) blS) := Eqv.left eqv_bl
 have hd : Hd (fun r => bindP (byP 59 r) blP) noBl noBq := fun l T r h _ => by
  obtain ⟨T1, r1, T2, h1, h2, rfl⟩ := bindP_is h
  unfold byP at h1
  split at h1
  ·rename_i q; exact noBq_of q (by decide)
  ·cases h1
 unfold grP grQ
 simp only
 rw [bindP_assoc]
 constructor
 ·intro h
  obtain ⟨T1, r1, T2, h1, h3, rfl⟩ := bindP_is h
  rw [(eqv_ms0 _ _ _ (hd _ _ _ h3 hr.1)).1 h1]
  exact bindP_two ((h2 _ _ _ hr.1).1 h3)
 ·intro h
  obtain ⟨T1, r1, T2, h1, h3, rfl⟩ := bindP_is h
  have h3' := (h2 _ _ _ hr.1).2 h3
  rw [(eqv_ms0 _ _ _ (hd _ _ _ h3' hr.1)).2 h1]
  exact bindP_two h3'
theorem eqv_ms1 : Eqv noBq ms1 ms1S := fun l T r hr => eqv_ms (eqv_mem eqv_gr) _ l T r hr
theorem tok_S (l : List UInt8) : tokF l = match ms1S l with
  | some (T, []) => some T
  | _ => none := by
 have hn : noBq [] := And.intro (fun c h => by cases h) (by simp)
 have key := fun T => eqv_ms1 l T [] hn
 unfold tokF
 cases h1 : ms1 l with
 | none =>
  cases h2 : ms1S l with
  | none => rfl
  | some x =>
   obtain ⟨T, r⟩ := x
   cases r with
   | nil => have := (key T).2 h2; rw [h1] at this; cases this
   | cons c r => rfl
 | some x =>
  obtain ⟨T, r⟩ := x
  cases r with
  | nil => rw [(key T).1 h1]
  | cons c r =>
   cases h2 : ms1S l with
   | none => rfl
   | some x =>
    obtain ⟨T2, r2⟩ := x
    cases r2 with
    | nil => have := (key T2).2 h2; rw [h1] at this; cases this
    | cons c r => rfl
end Go.Vf.S
end
section
namespace Go.Vf.S
open Go Go.Vf
attribute [local irreducible] wSeq wRow wp wG
set_option linter.unusedVariables false
set_option linter.unusedSimpArgs false
set_option maxRecDepth 10000

def atF (l : List UInt8) (i : Nat) : UInt8 := (l[i]?).getD 0
theorem at_is {l : List UInt8} {i : Nat} {c : UInt8} (hc : c ≠ 0) : (atF l i).toNat = c.toNat ↔ (l.drop i).take 1 = [c] := by
 unfold atF
 rcases Nat.lt_or_ge i l.length with h | h
 ·obtain ⟨d, hd⟩ : ∃ d, l[i]? = some d := ⟨_, List.getElem?_eq_getElem h⟩
  rw [hd, drop_next hd]
  simp only [Option.getD_some, List.take_succ_cons, List.take_zero, List.cons.injEq, and_true]
  exact UInt8.toNat_inj
 ·rw [List.getElem?_eq_none h, List.drop_of_length_le h]
  simp only [Option.getD_none, List.take_nil]
  constructor
  ·intro q; exact absurd (UInt8.toNat_inj.1 q).symm hc
  ·intro q; cases q
theorem rat_w {s : SS} {l : List UInt8} {i : Nat} (hl : l.length ≤ 1000000) : CallW pr n_ref08_at [str l, .int .i64 i] s fun v s' => v = .int .u8 (atF l i).toNat ∧ s' = s := by
 refine CallW.run good ok_ref08_at (by simp) rfl ?_
 (try refine pSeq ?_); (repeat refine sb ?_)
 intro n hn
 (repeat refine sb ?_)
 intro q hq
 by_cases h : i < l.length
 ·obtain rfl : q = true := by rw [hq, hn]; simp; omega
  obtain ⟨d, hd⟩ : ∃ d, l[i]? = some d := ⟨_, List.getElem?_eq_getElem h⟩
  (repeat refine sb ?_)
  refine ⟨by omega, ?_⟩
  intro m hm
  obtain rfl : m = i := by omega
  refine ⟨d, hd, ?_⟩
  (repeat refine sb ?_)
  exact ⟨by unfold atF; rw [hd]; rfl, rfl⟩
 ·obtain rfl : q = false := by rw [hq, hn]; simp; omega
  (repeat refine sb ?_)
  exact ⟨by unfold atF; rw [List.getElem?_eq_none (by omega)]; rfl, rfl⟩

theorem r8blank_w {s : SS} {l : List UInt8} {i : Nat} (hl : l.length ≤ 900000) (hi : i ≤ l.length) : CallW pr n_ref08_blank [str l, .int .i64 i] s fun v s' => v = .int .i64 (if (blankF (l.drop i)).2 = 0 then ((i + blN (l.drop i) : Nat) : Int) else -1) ∧ s' = s := by
 have hb := blN_le (l.drop i)
 rw [List.length_drop] at hb
 have eb : blN (l.drop i) = (blankF (l.drop i)).1 := rfl
 refine CallW.run good ok_ref08_blank (by simp) rfl ?_
 (try refine pSeq ?_); (repeat refine sb ?_)
 refine ⟨by omega, ?_⟩
 intro m hm r hr
 obtain rfl : m = i := by omega
 rw [List.take_of_length_le (by simp)] at hr
 subst hr
 (repeat refine sb ?_)
 refine (rblank_w (by rw [List.length_drop]; omega)).mono fun v s q => ?_
 obtain ⟨rfl, rfl⟩ := q
 rw [eb] at hb ⊢
 generalize blankF (l.drop m) = Q at *
 obtain ⟨n, e⟩ := Q
 dsimp only [cRes] at *
 (repeat refine sb ?_)
 intro q hq
 by_cases h0 : e = 0
 ·obtain rfl : q = false := by rw [hq, h0]; rfl
  rw [if_pos h0]
  (repeat refine sb ?_)
  intro z hz
  rw [i64_id (by omega)] at hz
  (repeat refine sb ?_)
  exact ⟨by rw [hz, Int.natCast_add]; rfl, rfl⟩
 ·obtain rfl : q = true := by rw [hq]; simp; omega
  rw [if_neg h0]
  (repeat refine sb ?_)
  exact ⟨rfl, rfl⟩

theorem r8word_w {s : SS} {l : List UInt8} {i : Nat} (hl : l.length ≤ 900000) (hi : i ≤ l.length) : CallW pr n_ref08_word [str l, .int .i64 i] s fun v s' => v = .int .i64 (if badW (l.drop i) = true then -1 else ((i + wordN (l.drop i) : Nat) : Int)) ∧ s' = s := by
 have hw := word_le (l.drop i)
 rw [List.length_drop] at hw
 refine CallW.run good ok_ref08_word (by simp) rfl ?_
 (try refine pSeq ?_); (repeat(first|refine sb ?_|refine gOn rfl ?_|refine gOff rfl rfl ?_|refine gTup rfl ?_))
 refine (rat_w (by omega)).mono fun v s q => ?_
 obtain ⟨rfl, rfl⟩ := q
 (repeat(first|refine sb ?_|refine gOn rfl ?_|refine gOff rfl rfl ?_|refine gTup rfl ?_))
 intro q hq
 by_cases h34 : (l.drop i).take 1 = [34]
 ·obtain rfl : q = true := by
   rw [hq, decide_eq_true_eq]
   have := (at_is (c := 34) (by decide)).2 h34
   rw [this]
   rfl
  have eB : badW (l.drop i) = decide ((quotedF (l.drop i)).2.2 ≠ 0) := by unfold badW; simp [h34]
  have eW : (quotedF (l.drop i)).2.2 = 0 → wordN (l.drop i) = (quotedF (l.drop i)).2.1 := fun h => by unfold wordN; rw [if_pos h]
  rw [eB]
  (repeat(first|refine sb ?_|refine gOn rfl ?_|refine gOff rfl rfl ?_|refine gTup rfl ?_))
  refine ⟨by omega, ?_⟩
  intro m hm r hr
  obtain rfl : m = i := by omega
  rw [List.take_of_length_le (by simp)] at hr
  subst hr
  (repeat(first|refine sb ?_|refine gOn rfl ?_|refine gOff rfl rfl ?_|refine gTup rfl ?_))
  refine (rquoted_w (by rw [List.length_drop]; omega)).mono fun v s q => ?_
  obtain ⟨rfl, rfl⟩ := q
  generalize quotedF (l.drop m) = Q at *
  obtain ⟨a, n, e⟩ := Q
  dsimp only [qRes] at *
  (repeat(first|refine sb ?_|refine gOn rfl ?_|refine gOff rfl rfl ?_|refine gTup rfl ?_))
  intro q hq
  by_cases h0 : e = 0
  ·obtain rfl : q = false := by rw [hq, h0]; rfl
   have := eW h0
   rw [this] at hw ⊢
   rw [if_neg (by simp [h0])]
   (repeat(first|refine sb ?_|refine gOn rfl ?_|refine gOff rfl rfl ?_|refine gTup rfl ?_))
   intro z hz
   rw [i64_id (by omega)] at hz
   (repeat(first|refine sb ?_|refine gOn rfl ?_|refine gOff rfl rfl ?_|refine gTup rfl ?_))
   exact ⟨by rw [hz, Int.natCast_add]; rfl, rfl⟩
  ·obtain rfl : q = true := by rw [hq]; simp; omega
   rw [if_pos (by simp [h0])]
   (repeat(first|refine sb ?_|refine gOn rfl ?_|refine gOff rfl rfl ?_|refine gTup rfl ?_))
   exact ⟨rfl, rfl⟩
 ·obtain rfl : q = false := by
   rw [hq, decide_eq_false_iff_not]
   intro q
   apply h34
   refine (at_is (c := 34) (by decide)).1 ?_
   have : ((34 : UInt8).toNat : Int) = 34 := rfl
   omega
  have eB : badW (l.drop i) = false := by unfold badW; simp [h34]
  have eW : wordN (l.drop i) = ((l.drop i).takeWhile wlB).length := by
   unfold wordN
   rw [if_neg]
   unfold quotedF
   rw [if_neg h34]
   simp
  rw [eB, if_neg (by simp)]
  rw [eW] at hw ⊢
  (repeat(first|refine sb ?_|refine gOn rfl ?_|refine gOff rfl rfl ?_|refine gTup rfl ?_))
  refine pLoop (MW.head good (fun x : Nat => l.length - x) (fun x => i + ((l.drop i).takeWhile wlB).length = x + ((l.drop x).takeWhile wlB).length ∧ x ≤ l.length) (fun x => [(0, str l), (1, .int .i64 x)]) (fun x => s) i ⟨rfl, hi⟩ (Wk.same ⟨rfl, rfl, trivial⟩) ?_)
  intro x ⟨h1, h2⟩
  (repeat(first|refine sb ?_|refine gOn rfl ?_|refine gOff rfl rfl ?_|refine gTup rfl ?_))
  intro n hn
  (repeat(first|refine sb ?_|refine gOn rfl ?_|refine gOff rfl rfl ?_|refine gTup rfl ?_))
  intro q hq
  by_cases hlt : x < l.length
  ·obtain rfl : q = true := by rw [hq, hn]; simp; omega
   obtain ⟨d, hd⟩ : ∃ d, l[x]? = some d := ⟨_, List.getElem?_eq_getElem hlt⟩
   rw [drop_next hd, List.takeWhile_cons] at h1
   have hwl : wlB d = (d == 46 || letB d) := rfl
   (repeat(first|refine sb ?_|refine gOn rfl ?_|refine gOff rfl rfl ?_|refine gTup rfl ?_))
   refine ⟨by omega, ?_⟩
   intro m hm
   obtain rfl : m = x := by omega
   refine ⟨d, hd, ?_⟩
   (repeat(first|refine sb ?_|refine gOn rfl ?_|refine gOff rfl rfl ?_|refine gTup rfl ?_))
   intro q hq
   by_cases h46 : d = 46
   ·obtain rfl : q = true := by rw [hq, h46]; rfl
    rw [if_pos (by rw [hwl, h46]; rfl), List.length_cons] at h1
    (repeat(first|refine sb ?_|refine gOn rfl ?_|refine gOff rfl rfl ?_|refine gTup rfl ?_))
    intro z hz
    rw [i64_id (by omega)] at hz
    obtain rfl : z = ((m + 1 : Nat) : Int) := by omega
    (repeat(first|refine sb ?_|refine gOn rfl ?_|refine gOff rfl rfl ?_|refine gTup rfl ?_))
    exact ⟨m + 1, ⟨by omega, by omega⟩, by show l.length - (m + 1) < l.length - m; omega, Wk.same ⟨rfl, rfl, trivial⟩⟩
   ·have := byte_ne h46
    have e46 : (46 : UInt8).toNat = 46 := rfl
    obtain rfl : q = false := by rw [hq]; simp; omega
    (repeat(first|refine sb ?_|refine gOn rfl ?_|refine gOff rfl rfl ?_|refine gTup rfl ?_))
    refine ⟨by omega, ?_⟩
    intro m2 hm2
    obtain rfl : m2 = m := by omega
    refine ⟨d, hd, ?_⟩
    (repeat(first|refine sb ?_|refine gOn rfl ?_|refine gOff rfl rfl ?_|refine gTup rfl ?_))
    refine letter_w.mono fun v s q => ?_
    obtain ⟨rfl, rfl⟩ := q
    have hwl2 : wlB d = letB d := by rw [hwl]; simp [h46]
    rw [hwl2] at h1
    cases hlb : letB d with
    | true =>
     rw [if_pos hlb, List.length_cons] at h1
     (repeat(first|refine sb ?_|refine gOn rfl ?_|refine gOff rfl rfl ?_|refine gTup rfl ?_))
     intro z hz
     rw [i64_id (by omega)] at hz
     obtain rfl : z = ((m2 + 1 : Nat) : Int) := by omega
     (repeat(first|refine sb ?_|refine gOn rfl ?_|refine gOff rfl rfl ?_|refine gTup rfl ?_))
     exact ⟨m2 + 1, ⟨by omega, by omega⟩, by show l.length - (m2 + 1) < l.length - m2; omega, Wk.same ⟨rfl, rfl, trivial⟩⟩
    | false =>
     rw [if_neg (by rw [hlb]; simp)] at h1
     (repeat(first|refine sb ?_|refine gOn rfl ?_|refine gOff rfl rfl ?_|refine gTup rfl ?_))
     exact ⟨by rw [h1]; rfl, rfl⟩
  ·obtain rfl : q = false := by rw [hq, hn]; simp; omega
   rw [show l.drop x = [] from List.drop_of_length_le (by omega)] at h1
   (repeat(first|refine sb ?_|refine gOn rfl ?_|refine gOff rfl rfl ?_|refine gTup rfl ?_))
   exact ⟨by rw [h1]; rfl, rfl⟩

theorem dl_is (d : UInt8) : dlB d = decide (97 ≤ d.toNat ∧ d.toNat ≤ 122 ∨ 65 ≤ d.toNat ∧ d.toNat ≤ 90 ∨ 48 ≤ d.toNat ∧ d.toNat ≤ 57 ∨ d.toNat = 45 ∨ d.toNat = 46) := by
 have := all_bytes (p := fun d => dlB d == decide (97 ≤ d.toNat ∧ d.toNat ≤ 122 ∨ 65 ≤ d.toNat ∧ d.toNat ≤ 90 ∨ 48 ≤ d.toNat ∧ d.toNat ≤ 57 ∨ d.toNat = 45 ∨ d.toNat = 46)) (by decide +kernel) d
 simpa using this
set_option maxHeartbeats 1000000 in
theorem r8domain_w {s : SS} {l : List UInt8} {i : Nat} (hl : l.length ≤ 900000) (hi : i ≤ l.length) : CallW pr n_ref08_domain [str l, .int .i64 i] s fun v s' => v = .int .i64 (if domN (l.drop i) = 0 then -1 else ((i + domN (l.drop i) : Nat) : Int)) ∧ s' = s := by
  have hw := dom_le (l.drop i)
  rw [List.length_drop] at hw
  refine CallW.run good ok_ref08_domain (by simp) rfl ?_
  (try refine pSeq ?_); (repeat(first|refine sb ?_|refine gOn rfl ?_|refine gOff rfl rfl ?_|refine gTup rfl ?_))
  refine (rat_w (by omega)).mono fun v s q => ?_
  obtain ⟨rfl, rfl⟩ := q
  (repeat(first|refine sb ?_|refine gOn rfl ?_|refine gOff rfl rfl ?_|refine gTup rfl ?_))
  intro q hq
  by_cases h91 : (l.drop i).take 1 = [91]
  · obtain rfl : q = true := by
      rw [hq, decide_eq_true_eq]
      have := (at_is (c := 91) (by decide)).2 h91
      rw [this]
      rfl
    have eD : domN (l.drop i) = if (93 : UInt8) ∈ l.drop i then ((l.drop i).takeWhile (· != 93)).length + 1 else 0 := by unfold domN; rw [if_pos h91]
    (repeat(first|refine sb ?_|refine gOn rfl ?_|refine gOff rfl rfl ?_|refine gTup rfl ?_))
    refine pLoop (MW.head good (fun x : Nat => l.length - x) (fun x => i + ((l.drop i).takeWhile (· != 93)).length = x + ((l.drop x).takeWhile (· != 93)).length ∧ x ≤ l.length) (fun x => [(0, str l), (1, .int .i64 x)]) (fun x => s) i ⟨rfl, hi⟩ (Wk.same ⟨rfl, rfl, trivial⟩) ?_)
    intro x ⟨h1, h2⟩
    (repeat(first|refine sb ?_|refine gOn rfl ?_|refine gOff rfl rfl ?_|refine gTup rfl ?_))
    intro n hn
    (repeat(first|refine sb ?_|refine gOn rfl ?_|refine gOff rfl rfl ?_|refine gTup rfl ?_))
    intro q hq
    by_cases hlt : x < l.length
    · obtain rfl : q = true := by rw [hq, hn]; simp; omega
      obtain ⟨d, hd⟩ : ∃ d, l[x]? = some d := ⟨_, List.getElem?_eq_getElem hlt⟩
      rw [drop_next hd, List.takeWhile_cons] at h1
      (repeat(first|refine sb ?_|refine gOn rfl ?_|refine gOff rfl rfl ?_|refine gTup rfl ?_))
      refine ⟨by omega, ?_⟩
      intro m hm
      obtain rfl : m = x := by omega
      refine ⟨d, hd, ?_⟩
      (repeat(first|refine sb ?_|refine gOn rfl ?_|refine gOff rfl rfl ?_|refine gTup rfl ?_))
      intro q hq
      by_cases h93 : d = 93
      · obtain rfl : q = false := by rw [hq, h93]; rfl
        rw [if_neg (by rw [h93]; simp)] at h1
        (repeat(first|refine sb ?_|refine gOn rfl ?_|refine gOff rfl rfl ?_|refine gTup rfl ?_))
        intro n hn
        (repeat(first|refine sb ?_|refine gOn rfl ?_|refine gOff rfl rfl ?_|refine gTup rfl ?_))
        intro q hq
        obtain rfl : q = false := by rw [hq, hn]; simp; omega
        (repeat(first|refine sb ?_|refine gOn rfl ?_|refine gOff rfl rfl ?_|refine gTup rfl ?_))
        intro z hz
        rw [i64_id (by omega)] at hz
        (repeat(first|refine sb ?_|refine gOn rfl ?_|refine gOff rfl rfl ?_|refine gTup rfl ?_))
        have hlen : m = i + ((l.drop i).takeWhile (· != 93)).length := by rw [h1]; simp
        have hmem : (93 : UInt8) ∈ l.drop i := by
          have : (l.drop i)[m - i]? = some 93 := by rw [List.getElem?_drop, show i + (m - i) = m by omega, hd, h93]
          exact List.mem_of_getElem? this
        rw [eD, if_pos hmem, if_neg (by omega)]
        refine ⟨?_, rfl⟩
        rw [hz, hlen]
        exact congrArg (Value.int .i64) (by omega)
      · have := byte_ne h93
        have e93 : (93 : UInt8).toNat = 93 := rfl
        obtain rfl : q = true := by rw [hq]; simp; omega
        rw [if_pos (by simpa using h93), List.length_cons] at h1
        (repeat(first|refine sb ?_|refine gOn rfl ?_|refine gOff rfl rfl ?_|refine gTup rfl ?_))
        intro z hz
        rw [i64_id (by omega)] at hz
        obtain rfl : z = ((m + 1 : Nat) : Int) := by omega
        (repeat(first|refine sb ?_|refine gOn rfl ?_|refine gOff rfl rfl ?_|refine gTup rfl ?_))
        exact ⟨m + 1, ⟨by omega, by omega⟩, by show l.length - (m + 1) < l.length - m; omega, Wk.same ⟨rfl, rfl, trivial⟩⟩
    · obtain rfl : q = false := by rw [hq, hn]; simp; omega
      rw [show l.drop x = [] from List.drop_of_length_le (by omega)] at h1
      have h1 : i + ((l.drop i).takeWhile (· != 93)).length = x := h1
      (repeat(first|refine sb ?_|refine gOn rfl ?_|refine gOff rfl rfl ?_|refine gTup rfl ?_))
      intro n hn
      (repeat(first|refine sb ?_|refine gOn rfl ?_|refine gOff rfl rfl ?_|refine gTup rfl ?_))
      intro q hq
      obtain rfl : q = true := by rw [hq, hn]; simp; omega
      (repeat(first|refine sb ?_|refine gOn rfl ?_|refine gOff rfl rfl ?_|refine gTup rfl ?_))
      have hno : (93 : UInt8) ∉ l.drop i := fun q => by
        have := while_lt (f := fun c : UInt8 => c != 93) q (by decide)
        rw [List.length_drop] at this
        omega
      rw [eD, if_neg hno]
      exact ⟨rfl, rfl⟩
  · obtain rfl : q = false := by
      rw [hq, decide_eq_false_iff_not]
      intro q
      apply h91
      refine (at_is (c := 91) (by decide)).1 ?_
      have : ((91 : UInt8).toNat : Int) = 91 := rfl
      omega
    have eD : domN (l.drop i) = ((l.drop i).takeWhile dlB).length := by unfold domN; rw [if_neg h91]
    rw [eD] at hw ⊢
    (repeat(first|refine sb ?_|refine gOn rfl ?_|refine gOff rfl rfl ?_|refine gTup rfl ?_))
    refine pLoop (MW.head good (fun x : Nat => l.length - x) (fun x => i + ((l.drop i).takeWhile dlB).length = x + ((l.drop x).takeWhile dlB).length ∧ x ≤ l.length) (fun x => [(0, str l), (1, .int .i64 x), (5, .int .i64 i)]) (fun x => s) i ⟨rfl, hi⟩ (Wk.same ⟨rfl, rfl, rfl, trivial⟩) ?_)
    intro x ⟨h1, h2⟩
    have stop : ∀ {y : Nat} {T : TL}, i + ((l.drop i).takeWhile dlB).length = y → (Value.int .i64 (if ((l.drop i).takeWhile dlB).length = 0 then -1 else ((i + ((l.drop i).takeWhile dlB).length : Nat) : Int)) = Value.int .i64 (if y = i then -1 else (y : Int))) := fun {y T} e => by
      congr 1
      by_cases h : y = i
      · rw [if_pos h, if_pos (by omega)]
      · rw [if_neg h, if_neg (by omega), e]
    (repeat(first|refine sb ?_|refine gOn rfl ?_|refine gOff rfl rfl ?_|refine gTup rfl ?_))
    intro n hn
    (repeat(first|refine sb ?_|refine gOn rfl ?_|refine gOff rfl rfl ?_|refine gTup rfl ?_))
    intro q hq
    by_cases hlt : x < l.length
    · obtain rfl : q = true := by rw [hq, hn]; simp; omega
      obtain ⟨d, hd⟩ : ∃ d, l[x]? = some d := ⟨_, List.getElem?_eq_getElem hlt⟩
      rw [drop_next hd, List.takeWhile_cons, dl_is] at h1
      (repeat(first|refine sb ?_|refine gOn rfl ?_|refine gOff rfl rfl ?_|refine gTup rfl ?_))
      refine ⟨by omega, ?_⟩
      intro m hm
      obtain rfl : m = x := by omega
      refine ⟨d, hd, ?_⟩
      have go : dlB d = true → i + ((l.drop i).takeWhile dlB).length = m + 1 + ((l.drop (m + 1)).takeWhile dlB).length := fun h => by
        rw [dl_is] at h
        rw [if_pos h, List.length_cons] at h1
        omega
      have no : dlB d = false → i + ((l.drop i).takeWhile dlB).length = m := fun h => by
        rw [dl_is] at h
        rw [if_neg (by rw [h]; simp)] at h1
        exact h1
      clear h1 stop
      have e45 : (45 : UInt8).toNat = 45 := rfl
      (repeat' (first | refine pSeq ?_ | refine pReg ?_ | refine sCons ?_ | refine sNil ?_ | refine pBlock ?_ | refine pSkip ?_ | refine pExit ?_ | refine pRet ?_ | refine pCond ?_ | refine gNone ?_ | refine gOn rfl ?_ | refine gOff rfl rfl ?_ | refine gTup rfl ?_ | (intro (q : Bool) hq; cases q <;> first | (replace hq := of_decide_eq_true hq.symm) | (replace hq := of_decide_eq_false hq.symm) | (cases hq; done) | skip)))
      all_goals first
        | (refine ⟨?_, rfl⟩
           have hn := no (by rw [dl_is]; exact decide_eq_false (by omega))
           first
             | (rw [if_pos (by omega)]; rfl)
             | (rw [if_neg (by omega), hn]; rfl))
        | (intro z hz
           rw [i64_id (by omega)] at hz
           obtain rfl : z = ((m + 1 : Nat) : Int) := by omega
           (repeat(first|refine sb ?_|refine gOn rfl ?_|refine gOff rfl rfl ?_|refine gTup rfl ?_))
           exact ⟨m + 1, ⟨go (by rw [dl_is]; exact decide_eq_true (by omega)), by omega⟩, by show l.length - (m + 1) < l.length - m; omega, Wk.same ⟨rfl, rfl, rfl, trivial⟩⟩)
    · obtain rfl : q = false := by rw [hq, hn]; simp; omega
      rw [show l.drop x = [] from List.drop_of_length_le (by omega)] at h1
      have h1 : i + ((l.drop i).takeWhile dlB).length = x := h1
      (repeat(first|refine sb ?_|refine gOn rfl ?_|refine gOff rfl rfl ?_|refine gTup rfl ?_))
      intro q hq
      by_cases hx : x = i
      · obtain rfl : q = true := by rw [hq, hx]; simp
        (repeat(first|refine sb ?_|refine gOn rfl ?_|refine gOff rfl rfl ?_|refine gTup rfl ?_))
        rw [if_pos (by omega)]
        exact ⟨rfl, rfl⟩
      · obtain rfl : q = false := by rw [hq]; simp; omega
        (repeat(first|refine sb ?_|refine gOn rfl ?_|refine gOff rfl rfl ?_|refine gTup rfl ?_))
        rw [if_neg (by omega)]
        exact ⟨by rw [h1]; rfl, rfl⟩
end Go.Vf.S
end
section
namespace Go.Vf.S
open Go Go.Vf
attribute [local irreducible] wSeq wRow wp wG
attribute [local irreducible] rtP phP msP parseF domF blankF quotedF wordN domN adrN blN
set_option linter.unusedVariables false
set_option linter.unusedSimpArgs false
set_option maxRecDepth 10000

abbrev tSq : TypeId := 55
abbrev tRw : TypeId := 87
def rwC (xs : List Spt) (lg : Bool) (W : Option Addr) (cw : Nat) : List Value := [.slice W xs.length cw, .bool lg]
structure RwAt (s0 s : SS) (b : Nat) (xs : List Spt) (lg : Bool) (W : Option Addr) (cw : Nat) : Prop where
 chg : Chg s0 s []
 lt : b < s.next
 ge : s0.next ≤ b
 look : lookH s.heap b = some (.cells (rwC xs lg W cw) tRw false false)
 own : OwnR tSq s W cw xs.length (spsC xs)
 new : ∀ id ∈ blkOf W, s0.next ≤ id

variable {s0 s s' : SS} {b : Nat} {l : List UInt8} {i : Nat} {xs : List Spt} {lg : Bool} {W : Option Addr} {cw : Nat}
theorem RwAt.off (h : RwAt s0 s b xs lg W cw) : ∀ id ∈ blkOf W, id ≠ b := fun id hid e => by
 obtain ⟨g, hg⟩ := h.own.at id hid
 exact tyNe hg h.look (by decide) e
theorem RwAt.step (h : RwAt s0 s b xs lg W cw) (c : Chg s s' []) : RwAt s0 s' b xs lg W cw :=
 ⟨h.chg.nil c, Nat.lt_of_lt_of_le h.lt c.next, h.ge, c.blk _ _ h.lt (by simp) h.look, h.own.chg c (by simp), h.new⟩
theorem RwAt.long (h : RwAt s0 s b xs lg W cw) (e : lookH s'.heap b = some (.cells (rwC xs true W cw) tRw false false)) (c : Chg s s' [b]) : RwAt s0 s' b xs true W cw :=
 ⟨h.chg.fresh c (by simpa using h.ge), Nat.lt_of_lt_of_le h.lt c.next, h.ge, e, h.own.chg c (fun id hid q => h.off id hid (by simpa using q)), h.new⟩

def RAns (q : PR) (s0 : SS) (b : Nat) (i : Nat) (xs : List Spt) (lg : Bool) (v : Value) (s' : SS) : Prop := match q with
 | some (T, r) => v = .int .i64 ((i + (flT T).length : Nat) : Int) ∧ ∃ W cw, RwAt s0 s' b (xs ++ spT i T) (lg || lgT T) W cw ∧ (xs ++ spT i T).length ≤ i + (flT T).length
 | none => v = .int .i64 (-1) ∧ Chg s0 s' []
theorem RAns.two {T1 : List Tok} {r1 : List UInt8} {q : List UInt8 → PR} {v : Value} (h : RAns (q r1) s0 b (i + (flT T1).length) (xs ++ spT i T1) (lg || lgT T1) v s') : RAns (bindP (some (T1, r1)) q) s0 b i xs lg v s' := by
 cases hq : q r1 with
 | none =>
  rw [bindP_one hq]
  rw [hq] at h
  exact h
 | some x =>
  obtain ⟨T2, r2⟩ := x
  rw [bindP_two hq]
  rw [hq] at h
  unfold RAns at h ⊢
  simp only at h ⊢
  rw [flT_app, List.length_append, spT_app, lgT_app, ← Bool.or_assoc, ← List.append_assoc, ← Nat.add_assoc]
  exact h
theorem RAns.none {q : PR} {v : Value} (hq : q = none) (hv : v = .int .i64 (-1)) (h : Chg s0 s' []) : RAns q s0 b i xs lg v s' := by
 subst hq
 exact ⟨hv, h⟩
theorem RAns.g {t r1 : List UInt8} {q : List UInt8 → PR} {v : Value} (h : RAns (q r1) s0 b (i + t.length) xs lg v s') : RAns (bindP (some ([.g t], r1)) q) s0 b i xs lg v s' := by
 refine RAns.two ?_
 have e1 : spT i [Tok.g t] = [] := rfl
 have e2 : lgT [Tok.g t] = false := rfl
 rw [flT_g, e1, e2, List.append_nil, Bool.or_false]
 exact h
theorem RAns.by {c : UInt8} {q : List UInt8 → PR} {v : Value} (hc : (l.drop i).take 1 = [c]) (h : RAns (q (l.drop (i + 1))) s0 b (i + 1) xs lg v s') : RAns (bindP (byP c (l.drop i)) q) s0 b i xs lg v s' := by
 unfold byP
 rw [if_pos hc, List.drop_drop]
 exact RAns.g h
theorem blS_ok (h : (blankF (l.drop i)).2 = 0) : blS (l.drop i) = some ([.g ((l.drop i).take (blN (l.drop i)))], l.drop (i + blN (l.drop i))) := by
 unfold blS blP
 rw [if_pos h, List.drop_drop]
theorem RAns.bl {q : List UInt8 → PR} {v : Value} (h0 : (blankF (l.drop i)).2 = 0) (h : RAns (q (l.drop (i + blN (l.drop i)))) s0 b (i + blN (l.drop i)) xs lg v s') : RAns (bindP (blS (l.drop i)) q) s0 b i xs lg v s' := by
 rw [blS_ok h0]
 refine RAns.g ?_
 have hb := blN_le (l.drop i)
 rw [List.length_take, Nat.min_eq_left hb]
 exact h
theorem blS_bad {r : List UInt8} (h : ¬(blankF r).2 = 0) : blS r = none := if_neg h
theorem RAns.end {v : Value} (hv : v = .int .i64 (i : Nat)) (h : RwAt s0 s' b xs lg W cw) (hx : xs.length ≤ i) {r : List UInt8} : RAns (some ([], r)) s0 b i xs lg v s' := by
 unfold RAns
 simp only
 have e1 : spT i [] = [] := rfl
 have e2 : lgT [] = false := rfl
 rw [flT_nil, e1, e2, List.append_nil, Bool.or_false]
 exact ⟨hv, W, cw, h, hx⟩
theorem RAns.endG {v : Value} {t r : List UInt8} (hv : v = .int .i64 ((i + t.length : Nat) : Int)) (h : RwAt s0 s' b xs lg W cw) (hx : xs.length ≤ i + t.length) : RAns (some ([.g t], r)) s0 b i xs lg v s' := by
 unfold RAns
 simp only
 have e1 : spT i [Tok.g t] = [] := rfl
 have e2 : lgT [Tok.g t] = false := rfl
 rw [flT_g, e1, e2, List.append_nil, Bool.or_false]
 exact ⟨hv, W, cw, h, hx⟩
theorem RAns.endB {v : Value} (h0 : (blankF (l.drop i)).2 = 0) (hv : v = .int .i64 ((i + blN (l.drop i) : Nat) : Int)) (h : RwAt s0 s' b xs lg W cw) (hx : xs.length ≤ i) : RAns (blS (l.drop i)) s0 b i xs lg v s' := by
 have hb := blN_le (l.drop i)
 have e : ((l.drop i).take (blN (l.drop i))).length = blN (l.drop i) := by rw [List.length_take, Nat.min_eq_left hb]
 rw [blS_ok h0]
 exact RAns.endG (by rw [e]; exact hv) h (by omega)

theorem ad_none {r : List UInt8} (h : ¬(0 < wordN r ∧ (r.drop (wordN r)).take 1 = [64])) : adP r = none := by
 cases ha : adP r with
 | none => rfl
 | some x =>
  exfalso
  obtain ⟨T, r'⟩ := x
  have h1 := ad_head ha
  apply h
  refine ⟨h1, ?_⟩
  unfold adP at ha
  split at ha
  ·cases ha
  ·rename_i h5
   by_cases q : (r.drop (wordN r)).take 1 = [64]
   ·exact q
   ·exfalso
    apply h5
    have : adrN r = 0 := by unfold adrN; rw [if_neg q]
    rw [this, List.take_zero]
    decide +kernel

theorem ad_none2 {r : List UInt8} (h : (r.drop (wordN r)).take 1 = [64]) (hd : domN (r.drop (wordN r + 1)) = 0) : adP r = none := by
 cases ha : adP r with
 | none => rfl
 | some x =>
  exfalso
  obtain ⟨T, r'⟩ := x
  have h1 := ad_head ha
  have hw := word_le r
  unfold adP at ha
  split at ha
  ·cases ha
  ·rename_i h5
   have hA : adrN r = wordN r + 1 := by unfold adrN; rw [if_pos h, hd]
   rw [hA] at h5
   have h2 := adr_read (r := []) h5 (fun c h => by cases h)
   have h3 := take1_pos h
   rw [List.length_drop] at h3
   have e : r.take (wordN r + 1) = r.take (wordN r) ++ [64] := by
    rw [List.take_add, h]
   rw [List.append_nil, List.length_take, e] at h2
   have h4 := word_loc (r := [64]) h1 (.inr fun c hc => by cases hc; decide)
   rw [h4] at h2
   omega

set_option maxHeartbeats 1000000 in
theorem r8address_w (hF : Fine s0) (hl : l.length ≤ 900000) (h : RwAt s0 s b xs lg W cw) (hi : i ≤ l.length) (hx : xs.length ≤ i) : CallW pr n_ref08_Row_address [.pointer (some ⟨b, 0, none⟩), str l, .int .i64 i, .int .i64 ((i + wordN (l.drop i) : Nat) : Int)] s fun v s' => RAns (adP (l.drop i)) s0 b i xs lg v s' := by
 have hw := word_le (l.drop i)
 have ha := adr_le (l.drop i)
 rw [List.length_drop] at hw ha
 have hA : adrN (l.drop i) = if ((l.drop i).drop (wordN (l.drop i))).take 1 = [64] then wordN (l.drop i) + 1 + domN ((l.drop i).drop (wordN (l.drop i) + 1)) else 0 := by unfold adrN; rfl
 rw [List.drop_drop, List.drop_drop] at hA
 have hN := @ad_none (l.drop i)
 rw [List.drop_drop] at hN
 obtain ⟨w, hw0⟩ : ∃ w, wordN (l.drop i) = w := ⟨_, rfl⟩
 rw [hw0] at hw hA hN
 rw [hw0]
 refine CallW.run good ok_ref08_Row_address (by simp) rfl ?_
 (try refine pSeq ?_); (repeat(first|refine sb ?_|refine kNo ?_|refine gOn rfl ?_|refine gOff rfl rfl ?_|refine gTup rfl ?_))
 intro q hq
 by_cases h0 : w = 0
 ·obtain rfl : q = true := by rw [hq]; simp; omega
  (repeat(first|refine sb ?_|refine kNo ?_|refine gOn rfl ?_|refine gOff rfl rfl ?_|refine gTup rfl ?_))
  exact RAns.none (hN (by omega)) rfl h.chg
 ·obtain rfl : q = false := by rw [hq]; simp; omega
  (repeat(first|refine sb ?_|refine kNo ?_|refine gOn rfl ?_|refine gOff rfl rfl ?_|refine gTup rfl ?_))
  refine (rat_w (by omega)).mono fun v s q => ?_
  obtain ⟨rfl, rfl⟩ := q
  (repeat(first|refine sb ?_|refine kNo ?_|refine gOn rfl ?_|refine gOff rfl rfl ?_|refine gTup rfl ?_))
  intro q hq
  have hat := @at_is l (i + w) 64 (by decide)
  by_cases h64 : (l.drop (i + w)).take 1 = [64]
  ·have := hat.2 h64
   obtain rfl : q = false := by rw [hq, this]; rfl
   rw [if_pos h64] at hA
   (repeat(first|refine sb ?_|refine kNo ?_|refine gOn rfl ?_|refine gOff rfl rfl ?_|refine gTup rfl ?_))
   intro z hz
   rw [i64_id (by omega)] at hz
   obtain rfl : z = ((i + w + 1 : Nat) : Int) := by omega
   (repeat(first|refine sb ?_|refine kNo ?_|refine gOn rfl ?_|refine gOff rfl rfl ?_|refine gTup rfl ?_))
   have hle : i + w + 1 ≤ l.length := by have := take1_pos h64; rw [List.length_drop] at this; omega
   refine (r8domain_w hl hle).mono fun v s q => ?_
   obtain ⟨rfl, rfl⟩ := q
   have hd := dom_le (l.drop (i + w + 1))
   rw [List.length_drop] at hd
   rw [show i + (w + 1) = i + w + 1 by omega] at hA
   generalize hdn : domN (l.drop (i + w + 1)) = d at *
   by_cases hd0 : d = 0
   ·rw [if_pos hd0]
    (repeat(first|refine sb ?_|refine kNo ?_|refine gOn rfl ?_|refine gOff rfl rfl ?_|refine gTup rfl ?_))
    intro q hq; obtain rfl : q = true := (by rw [hq]; simp <;> omega); (repeat(first|refine sb ?_|refine kNo ?_|refine gOn rfl ?_|refine gOff rfl rfl ?_|refine gTup rfl ?_))
    refine RAns.none (ad_none2 ?_ ?_) rfl h.chg
    ·rw [hw0, List.drop_drop]; exact h64
    ·rw [hw0, List.drop_drop, show i + (w + 1) = i + w + 1 by omega, hdn, hd0]
   ·rw [if_neg hd0]
    (repeat(first|refine sb ?_|refine kNo ?_|refine gOn rfl ?_|refine gOff rfl rfl ?_|refine gTup rfl ?_))
    intro q hq; obtain rfl : q = false := (by rw [hq]; simp <;> omega); (repeat(first|refine sb ?_|refine kNo ?_|refine gOn rfl ?_|refine gOff rfl rfl ?_|refine gTup rfl ?_))
    refine ⟨by omega, ?_⟩
    intro m1 hm1
    refine ⟨by omega, ?_⟩
    intro m2 hm2 r hr
    obtain rfl : m2 = i := by omega
    obtain rfl : m1 = m2 + w + 1 + d := by omega
    have er : r = (l.drop m2).take (adrN (l.drop m2)) := by rw [hr, hA, show m2 + w + 1 + d - m2 = w + 1 + d by omega]
    subst er
    (repeat(first|refine sb ?_|refine kNo ?_|refine gOn rfl ?_|refine gOff rfl rfl ?_|refine gTup rfl ?_))
    refine (rparse_w (by rw [List.length_take, List.length_drop]; omega)).mono fun v s1 q => ?_
    obtain ⟨rfl, c1⟩ := q
    have h1 := h.step c1
    have htl : ((l.drop m2).take (adrN (l.drop m2))).length = m2 + w + 1 + d - m2 := by rw [List.length_take, List.length_drop]; omega
    have eA : adP (l.drop m2) = if (parseF ((l.drop m2).take (adrN (l.drop m2)))).2.2 = 5 then none else some ([.a ((l.drop m2).take (adrN (l.drop m2)))], (l.drop m2).drop (adrN (l.drop m2))) := rfl
    have eS : spT m2 [Tok.a ((l.drop m2).take (adrN (l.drop m2)))] = [⟨m2, m2 + w + 1 + d, (parseF ((l.drop m2).take (adrN (l.drop m2)))).1, (parseF ((l.drop m2).take (adrN (l.drop m2)))).2.1⟩] := by
     show [(⟨m2, m2 + ((l.drop m2).take (adrN (l.drop m2))).length, _, _⟩ : Spt)] = _
     rw [htl, show m2 + (m2 + w + 1 + d - m2) = m2 + w + 1 + d by omega]
    have eL : lgT [Tok.a ((l.drop m2).take (adrN (l.drop m2)))] = decide ((parseF ((l.drop m2).take (adrN (l.drop m2)))).2.2 = 3) := by simp [lgT, lgK]
    have eT : m2 + (flT [Tok.a ((l.drop m2).take (adrN (l.drop m2)))]).length = m2 + w + 1 + d := by rw [flT_a, htl]; omega
    have hv := parse_vals ((l.drop m2).take (adrN (l.drop m2)))
    generalize parseF ((l.drop m2).take (adrN (l.drop m2))) = Q at *
    obtain ⟨a, dd, e⟩ := Q
    generalize (l.drop m2).take (adrN (l.drop m2)) = t at *
    dsimp only at eA eS eL hv ⊢
    (repeat(first|refine sb ?_|refine kNo ?_|refine gOn rfl ?_|refine gOff rfl rfl ?_|refine gTup rfl ?_))
    refine st_abs (cs' := [str a, str dd]) rfl rfl lkH (Nat.lt_succ_self _) rfl rfl fun s2 e2 c2 n2 => ?_
    have c12 : Chg s1 s2 [] := (Chg.new []).fresh c2 (by simp)
    have h2 := h1.step c12
    have n2 : s2.next = s1.next + 1 := n2
    have e2 : lookH s2.heap s1.next = some (.cells [str a, str dd] tRf false false) := e2
    (repeat(first|refine sb ?_|refine kNo ?_|refine gOn rfl ?_|refine gOff rfl rfl ?_|refine gTup rfl ?_))
    intro q hq
    by_cases h5 : e = 5
    ·obtain rfl : q = true := by rw [hq, h5]; rfl
     rw [if_pos h5] at eA
     (repeat(first|refine sb ?_|refine kNo ?_|refine gOn rfl ?_|refine gOff rfl rfl ?_|refine gTup rfl ?_))
     exact RAns.none eA rfl h2.chg
    ·obtain rfl : q = false := by rw [hq]; simp; omega
     rw [if_neg h5] at eA
     (repeat(first|refine sb ?_|refine kNo ?_|refine gOn rfl ?_|refine gOff rfl rfl ?_|refine gTup rfl ?_))
     intro q hq
     by_cases he : e = 0
     ·obtain rfl : q = false := by rw [hq, he]; rfl
      obtain ⟨s3, hs3⟩ : ∃ s3, s3 = s2 := ⟨_, rfl⟩
      have h3 : RwAt s0 s3 b xs (lg || decide (e = 3)) W cw := by rw [hs3, he]; simpa using h2
      have e3 : lookH s3.heap s1.next = some (.cells [str a, str dd] tRf false false) := by rw [hs3]; exact e2
      rw [← hs3]
      (repeat(first|refine sb ?_|refine kNo ?_|refine gOn rfl ?_|refine gOff rfl rfl ?_|refine gTup rfl ?_))
      refine ld1_is rfl h3.look rfl ?_
      (repeat(first|refine sb ?_|refine kNo ?_|refine gOn rfl ?_|refine gOff rfl rfl ?_|refine gTup rfl ?_))
      refine ldN_is rfl e3 agg2 ?_
      (repeat(first|refine sb ?_|refine kNo ?_|refine gOn rfl ?_|refine gOff rfl rfl ?_|refine gTup rfl ?_))
      refine mkS_is rfl rfl (rNew (h3.chg.fine hF).at ?_)
      have c4 : Chg s3 { s3 with heap := (s3.next, some (.cells (spC ⟨m2, m2 + w + 1 + d, a, dd⟩) tSq false false)) :: s3.heap, next := s3.next + 1 } [] := .new _
      have h4 := h3.step c4
      (repeat(first|refine sb ?_|refine kNo ?_|refine gOn rfl ?_|refine gOff rfl rfl ?_|refine gTup rfl ?_))
      refine appR (new := spC ⟨m2, m2 + w + 1 + d, a, dd⟩) h4.own (spsC_len xs) ⟨by omega, by omega⟩ rfl rfl lkH rfl rfl fun s5 r5 c5 n5 => ?_
      have hoff := h4.off
      have k5 := c5.blk _ _ h4.lt (fun q => hoff _ q rfl) h4.look
      have n5 : s5.next = s3.next + 2 := n5
      have hb3 := h3.lt
      (repeat(first|refine sb ?_|refine kNo ?_|refine gOn rfl ?_|refine gOff rfl rfl ?_|refine gTup rfl ?_))
      refine st_abs (cs' := rwC (xs ++ [⟨m2, m2 + w + 1 + d, a, dd⟩]) (lg || decide (e = 3)) (some ⟨s3.next + 1, 0, none⟩) 0) rfl rfl k5 (by omega) rfl (by simp only [rwC, List.length_append]; rfl) fun s6 e6 c6 n6 => ?_
      have h6 : RwAt s0 s6 b (xs ++ [⟨m2, m2 + w + 1 + d, a, dd⟩]) (lg || decide (e = 3)) (some ⟨s3.next + 1, 0, none⟩) 0 := by
       have c46 := (h4.chg.fresh c5 h4.new).fresh c6 (by simpa using h4.ge)
       refine ⟨c46, by omega, h4.ge, e6, ?_, fun id hid => ?_⟩
       ·rw [spsC_app, List.length_append]
        refine OwnR.chg r5 c6 (fun id hid q => ?_)
        simp only [blkOf, List.mem_singleton] at hid q
        have : s3.next + 1 = b := by rw [← q, ← hid]
        omega
       ·simp only [blkOf, List.mem_singleton] at hid
        have := h3.chg.next
        have : id = s3.next + 1 := hid
        omega
      (repeat(first|refine sb ?_|refine kNo ?_|refine gOn rfl ?_|refine gOff rfl rfl ?_|refine gTup rfl ?_))
      show RAns (adP (l.drop m2)) s0 b m2 xs lg (.int .i64 ((m2 + w + 1 + d : Nat) : Int)) s6
      rw [eA]
      unfold RAns
      simp only
      rw [eT, eS, eL]
      exact ⟨rfl, _, _, h6, by rw [List.length_append]; simp only [List.length_cons, List.length_nil]; omega⟩
     ·obtain rfl : q = true := by rw [hq]; simp; omega
      have he3 : e = 3 := by omega
      (repeat(first|refine sb ?_|refine kNo ?_|refine gOn rfl ?_|refine gOff rfl rfl ?_|refine gTup rfl ?_))
      refine st_abs (cs' := rwC xs true W cw) rfl rfl h2.look h2.lt rfl rfl fun s3 e3' c3 n3 => ?_
      have h3 : RwAt s0 s3 b xs (lg || decide (e = 3)) W cw := by rw [he3]; simpa using h2.long e3' c3
      have hb1 := h1.lt
      have e3 := c3.blk _ _ (show s1.next < s2.next by omega) (by simp; omega) e2
      (repeat(first|refine sb ?_|refine kNo ?_|refine gOn rfl ?_|refine gOff rfl rfl ?_|refine gTup rfl ?_))
      refine ld1_is rfl h3.look rfl ?_
      (repeat(first|refine sb ?_|refine kNo ?_|refine gOn rfl ?_|refine gOff rfl rfl ?_|refine gTup rfl ?_))
      refine ldN_is rfl e3 agg2 ?_
      (repeat(first|refine sb ?_|refine kNo ?_|refine gOn rfl ?_|refine gOff rfl rfl ?_|refine gTup rfl ?_))
      refine mkS_is rfl rfl (rNew (h3.chg.fine hF).at ?_)
      have c4 : Chg s3 { s3 with heap := (s3.next, some (.cells (spC ⟨m2, m2 + w + 1 + d, a, dd⟩) tSq false false)) :: s3.heap, next := s3.next + 1 } [] := .new _
      have h4 := h3.step c4
      (repeat(first|refine sb ?_|refine kNo ?_|refine gOn rfl ?_|refine gOff rfl rfl ?_|refine gTup rfl ?_))
      refine appR (new := spC ⟨m2, m2 + w + 1 + d, a, dd⟩) h4.own (spsC_len xs) ⟨by omega, by omega⟩ rfl rfl lkH rfl rfl fun s5 r5 c5 n5 => ?_
      have hoff := h4.off
      have k5 := c5.blk _ _ h4.lt (fun q => hoff _ q rfl) h4.look
      have n5 : s5.next = s3.next + 2 := n5
      have hb3 := h3.lt
      (repeat(first|refine sb ?_|refine kNo ?_|refine gOn rfl ?_|refine gOff rfl rfl ?_|refine gTup rfl ?_))
      refine st_abs (cs' := rwC (xs ++ [⟨m2, m2 + w + 1 + d, a, dd⟩]) (lg || decide (e = 3)) (some ⟨s3.next + 1, 0, none⟩) 0) rfl rfl k5 (by omega) rfl (by simp only [rwC, List.length_append]; rfl) fun s6 e6 c6 n6 => ?_
      have h6 : RwAt s0 s6 b (xs ++ [⟨m2, m2 + w + 1 + d, a, dd⟩]) (lg || decide (e = 3)) (some ⟨s3.next + 1, 0, none⟩) 0 := by
       have c46 := (h4.chg.fresh c5 h4.new).fresh c6 (by simpa using h4.ge)
       refine ⟨c46, by omega, h4.ge, e6, ?_, fun id hid => ?_⟩
       ·rw [spsC_app, List.length_append]
        refine OwnR.chg r5 c6 (fun id hid q => ?_)
        simp only [blkOf, List.mem_singleton] at hid q
        have : s3.next + 1 = b := by rw [← q, ← hid]
        omega
       ·simp only [blkOf, List.mem_singleton] at hid
        have := h3.chg.next
        have : id = s3.next + 1 := hid
        omega
      (repeat(first|refine sb ?_|refine kNo ?_|refine gOn rfl ?_|refine gOff rfl rfl ?_|refine gTup rfl ?_))
      show RAns (adP (l.drop m2)) s0 b m2 xs lg (.int .i64 ((m2 + w + 1 + d : Nat) : Int)) s6
      rw [eA]
      unfold RAns
      simp only
      rw [eT, eS, eL]
      exact ⟨rfl, _, _, h6, by rw [List.length_append]; simp only [List.length_cons, List.length_nil]; omega⟩
  ·obtain rfl : q = true := by
    rw [hq]
    have : ¬(atF l (i + w)).toNat = 64 := fun q => h64 (hat.1 q)
    simp
    omega
   (repeat(first|refine sb ?_|refine kNo ?_|refine gOn rfl ?_|refine gOff rfl rfl ?_|refine gTup rfl ?_))
   exact RAns.none (hN (by simp [h64])) rfl h.chg
end Go.Vf.S
end
section
namespace Go.Vf.S
open Go Go.Vf
attribute [local irreducible] wSeq wRow wp wG
attribute [local irreducible] rtP phP msP parseF domF blankF quotedF wordN domN adrN blN phS
set_option linter.unusedVariables false
set_option linter.unusedSimpArgs false
set_option maxRecDepth 10000

variable {s0 s s' : SS} {b : Nat} {l : List UInt8} {i : Nat} {xs : List Spt} {lg : Bool} {W : Option Addr} {cw : Nat}

theorem dm_none {r : List UInt8} (h : domN r = 0) : dmP r = none := by
 unfold dmP
 rw [h, List.take_zero, if_pos (by decide +kernel)]
theorem bl_none {r : List UInt8} (h : noBl r) : blankF r = (0, 0) := by
 unfold blankF
 cases r with
 | nil => exact bl_nil (Nat.succ_pos _)
 | cons c r =>
  have := h c rfl
  exact bl_no (Nat.succ_pos _) this.1 (byte_ne this.2)
theorem head_no {r : List UInt8} {c d : UInt8} (h : r.take 1 = [c]) (hcd : c ≠ d) : ¬r.take 1 = [d] := fun q => by rw [h] at q; cases q; exact hcd rfl
theorem at_yes {c : UInt8} (hc : c ≠ 0) (h : (l.drop i).take 1 = [c]) : ((atF l i).toNat : Int) = (c.toNat : Int) := by rw [(at_is hc).2 h]
theorem at_not {c : UInt8} (hc : c ≠ 0) (h : ¬(l.drop i).take 1 = [c]) : ((atF l i).toNat : Int) ≠ (c.toNat : Int) := fun q => h ((at_is hc).1 (by omega))

structure R8I where
 f : Nat
 j : Nat
 ys : List Spt
 k : Bool
 W : Option Addr
 cw : Nat
 s : SS

set_option maxHeartbeats 1000000 in
theorem r8route_w (hF : Fine s0) (hl : l.length ≤ 900000) (h : RwAt s0 s b xs lg W cw) (hi : i ≤ l.length) (hx : xs.length ≤ i) : CallW pr n_ref08_Row_route [.pointer (some ⟨b, 0, none⟩), str l, .int .i64 i] s fun v s' => RAns (rtP ((l.drop i).length + 1) (l.drop i)) s0 b i xs lg v s' := by
 refine CallW.run good ok_ref08_Row_route (by simp) rfl ?_
 (try refine pSeq ?_); (repeat refine sb ?_)
 refine pLoop (MW.head good (fun x : R8I => l.length - x.j) (fun x => (∀ v s', RAns (rtP x.f (l.drop x.j)) s0 b x.j x.ys x.k v s' → RAns (rtP ((l.drop i).length + 1) (l.drop i)) s0 b i xs lg v s') ∧ (l.drop x.j).length < x.f ∧ RwAt s0 x.s b x.ys x.k x.W x.cw ∧ x.ys.length ≤ x.j ∧ x.j ≤ l.length)
  (fun x => [(0, .pointer (some ⟨b, 0, none⟩)), (1, str l), (2, .int .i64 x.j)]) (fun x => x.s) ⟨(l.drop i).length + 1, i, xs, lg, W, cw, s⟩ ⟨fun _ _ q => q, Nat.lt_succ_self _, h, hx, hi⟩ (Wk.same ⟨rfl, rfl, rfl, trivial⟩) ?_)
 rintro ⟨f, j, ys, k, V, cv, s1⟩ ⟨i1, i2, h1, i4, hj⟩
 dsimp only at i1 i2 h1 i4 hj ⊢
 rw [List.length_drop] at i2
 cases f with
 | zero => omega
 | succ f =>
 (repeat refine sb ?_)
 refine (rat_w (by omega)).mono fun v s1 q => ?_
 obtain ⟨rfl, rfl⟩ := q
 (repeat refine sb ?_)
 intro q hq
 by_cases h64 : (l.drop j).take 1 = [64]
 ·have ha := at_yes (by decide) h64
  have e64 : (64 : UInt8).toNat = 64 := rfl
  obtain rfl : q = false := by rw [hq]; simp; omega
  have hj1 : j + 1 ≤ l.length := by have := take1_pos h64; rw [List.length_drop] at this; omega
  (repeat refine sb ?_)
  intro z hz
  rw [i64_id (by omega)] at hz
  obtain rfl : z = ((j + 1 : Nat) : Int) := by omega
  (repeat refine sb ?_)
  refine (r8domain_w hl hj1).mono fun v s1 q => ?_
  obtain ⟨rfl, rfl⟩ := q
  have hd := dom_le (l.drop (j + 1))
  rw [List.length_drop] at hd
  by_cases hd0 : domN (l.drop (j + 1)) = 0
  ·rw [if_pos hd0]
   (repeat refine sb ?_)
   intro q hq; obtain rfl : q = true := (by rw [hq]; simp <;> omega); (repeat refine sb ?_)
   refine i1 _ _ ?_
   rw [rtP]
   refine RAns.by h64 ?_
   rw [dm_none hd0]
   exact RAns.none rfl rfl h1.chg
  ·rw [if_neg hd0]
   obtain ⟨D, hD⟩ : ∃ D, (l.drop (j + 1)).take (domN (l.drop (j + 1))) = D := ⟨_, rfl⟩
   have hDl : D.length = domN (l.drop (j + 1)) := by rw [← hD, List.length_take, List.length_drop]; omega
   have eD : dmP (l.drop (j + 1)) = if domF D = 5 then none else some ([.d D], l.drop (j + 1 + domN (l.drop (j + 1)))) := by unfold dmP; rw [hD, List.drop_drop]
   have eT : (l.drop j).take (1 + domN (l.drop (j + 1))) = 64 :: D := by
    rw [take1_cons h64, Nat.add_comm, List.take_succ_cons, List.drop_drop, hD]
   have hx4 : domN (l.drop (j + 1)) + (j + 1) ≤ l.length := by omega
   have i1 : ∀ v s', RAns (bindP (dmP (l.drop (j + 1))) fun r => if r.take 1 = [44] then bindP (byP 44 r) (rtP f) else byP 58 r) s0 b (j + 1) ys k v s' → RAns (rtP ((l.drop i).length + 1) (l.drop i)) s0 b i xs lg v s' := fun v s' q => i1 v s' (by rw [rtP]; exact RAns.by h64 q)
   rw [eD] at i1
   generalize domN (l.drop (j + 1)) = d at *
   (repeat refine sb ?_)
   intro q hq; obtain rfl : q = false := (by rw [hq]; simp <;> omega); (repeat refine sb ?_)
   refine ⟨by omega, ?_⟩
   intro m1 hm1
   refine ⟨by omega, ?_⟩
   intro m2 hm2 r hr
   obtain rfl : m2 = j := by omega
   obtain rfl : m1 = m2 + 1 + d := by omega
   have er : r = 64 :: D := by rw [hr, show m2 + 1 + d - m2 = 1 + d by omega, eT]
   subst er
   (repeat refine sb ?_)
   refine ⟨by simp only [List.length_cons, List.length_nil]; omega, ?_⟩
   intro w hw
   obtain rfl : w = [120, 64] ++ D := by rw [hw]; rfl
   (repeat refine sb ?_)
   refine (rparse_w (by simp only [List.length_append, List.length_cons, List.length_nil]; omega)).mono fun v s2 q => ?_
   obtain ⟨rfl, c2⟩ := q
   have h2 := h1.step c2
   have ev := parse_120 D
   have hv := dom_vals D
   rw [ev]
   generalize (parseF ([120, 64] ++ D)).1 = pa at *
   generalize (parseF ([120, 64] ++ D)).2.1 = pd at *
   (repeat refine sb ?_)
   refine st_abs (cs' := [str pa, str pd]) rfl rfl lkH (Nat.lt_succ_self _) rfl rfl fun s3 e3 c3 n3 => ?_
   have h3 := h2.step ((Chg.new []).fresh c3 (by simp))
   (repeat refine sb ?_)
   intro q hq
   by_cases h5 : domF D = 5
   ·obtain rfl : q = true := by rw [hq, h5]; rfl
    rw [if_pos h5] at i1
    (repeat refine sb ?_)
    exact i1 _ _ (RAns.none rfl rfl h3.chg)
   ·obtain rfl : q = false := by rw [hq]; simp; omega
    rw [if_neg h5] at i1
    have i1 : ∀ v s', RAns (if (l.drop (m2 + 1 + d)).take 1 = [44] then bindP (byP 44 (l.drop (m2 + 1 + d))) (rtP f) else byP 58 (l.drop (m2 + 1 + d))) s0 b (m2 + 1 + d) ys (k || decide (domF D = 3)) v s' → RAns (rtP ((l.drop i).length + 1) (l.drop i)) s0 b i xs lg v s' := fun v s' q => i1 v s' (RAns.two (by
     have e1 : spT (m2 + 1) [Tok.d D] = [] := rfl
     have e2 : lgT [Tok.d D] = decide (domF D = 3) := by simp [lgT, lgK]
     rw [e1, e2, List.append_nil, flT_d, hDl]
     exact q))
    (repeat refine sb ?_)
    intro q hq
    by_cases h0 : domF D = 0
    ·obtain rfl : q = false := by rw [hq, h0]; rfl
     obtain ⟨s4, hs4⟩ : ∃ s4, s4 = s3 := ⟨_, rfl⟩
     have h4 : RwAt s0 s4 b ys (k || decide (domF D = 3)) V cv := by rw [hs4, h0]; simpa using h3
     rw [← hs4]
     (repeat refine sb ?_)
     refine (rat_w (by omega)).mono fun v s4 q => ?_
     obtain ⟨rfl, rfl⟩ := q
     have e58 : (58 : UInt8).toNat = 58 := rfl
     have e44 : (44 : UInt8).toNat = 44 := rfl
     (repeat refine sb ?_)
     intro q hq
     by_cases h58 : (l.drop (m2 + 1 + d)).take 1 = [58]
     ·have ha := at_yes (by decide) h58
      obtain rfl : q = true := by rw [hq]; simp; omega
      rw [if_neg (head_no h58 (by decide))] at i1
      (repeat refine sb ?_)
      intro z hz
      rw [i64_id (by omega)] at hz
      obtain rfl : z = ((m2 + 1 + d + 1 : Nat) : Int) := by omega
      (repeat refine sb ?_)
      refine i1 _ _ ?_
      unfold byP
      rw [if_pos h58]
      exact RAns.endG rfl h4 (by simp; omega)
     ·have ha := at_not (by decide) h58
      obtain rfl : q = false := by rw [hq]; simp; omega
      (repeat refine sb ?_)
      refine (rat_w (by omega)).mono fun v s4 q => ?_
      obtain ⟨rfl, rfl⟩ := q
      (repeat refine sb ?_)
      intro q hq
      by_cases h44 : (l.drop (m2 + 1 + d)).take 1 = [44]
      ·have ha := at_yes (by decide) h44
       obtain rfl : q = false := by rw [hq]; simp; omega
       rw [if_pos h44] at i1
       have hj1 : m2 + 1 + d + 1 ≤ l.length := by have := take1_pos h44; rw [List.length_drop] at this; omega
       (repeat refine sb ?_)
       intro z hz
       rw [i64_id (by omega)] at hz
       obtain rfl : z = ((m2 + 1 + d + 1 : Nat) : Int) := by omega
       (repeat refine sb ?_)
       exact ⟨⟨f, m2 + 1 + d + 1, ys, k || decide (domF D = 3), V, cv, s4⟩, ⟨fun v s' q => i1 v s' (RAns.by h44 q), by dsimp only; rw [List.length_drop]; omega, h4, by dsimp only; omega, hj1⟩, by show l.length - (m2 + 1 + d + 1) < l.length - m2; omega, Wk.same ⟨rfl, rfl, rfl, trivial⟩⟩
      ·have ha := at_not (by decide) h44
       obtain rfl : q = true := by rw [hq]; simp; omega
       rw [if_neg h44, by_none h58] at i1
       (repeat refine sb ?_)
       exact i1 _ _ (RAns.none rfl rfl h4.chg)
    ·obtain rfl : q = true := by rw [hq]; simp; omega
     have he3 : domF D = 3 := by omega
     (repeat refine sb ?_)
     refine st_abs (cs' := rwC ys true V cv) rfl rfl h3.look h3.lt rfl rfl fun s4 e4 c4 n4 => ?_
     have h4 : RwAt s0 s4 b ys (k || decide (domF D = 3)) V cv := by rw [he3]; simpa using h3.long e4 c4
     (repeat refine sb ?_)
     refine (rat_w (by omega)).mono fun v s4 q => ?_
     obtain ⟨rfl, rfl⟩ := q
     have e58 : (58 : UInt8).toNat = 58 := rfl
     have e44 : (44 : UInt8).toNat = 44 := rfl
     (repeat refine sb ?_)
     intro q hq
     by_cases h58 : (l.drop (m2 + 1 + d)).take 1 = [58]
     ·have ha := at_yes (by decide) h58
      obtain rfl : q = true := by rw [hq]; simp; omega
      rw [if_neg (head_no h58 (by decide))] at i1
      (repeat refine sb ?_)
      intro z hz
      rw [i64_id (by omega)] at hz
      obtain rfl : z = ((m2 + 1 + d + 1 : Nat) : Int) := by omega
      (repeat refine sb ?_)
      refine i1 _ _ ?_
      unfold byP
      rw [if_pos h58]
      exact RAns.endG rfl h4 (by simp; omega)
     ·have ha := at_not (by decide) h58
      obtain rfl : q = false := by rw [hq]; simp; omega
      (repeat refine sb ?_)
      refine (rat_w (by omega)).mono fun v s4 q => ?_
      obtain ⟨rfl, rfl⟩ := q
      (repeat refine sb ?_)
      intro q hq
      by_cases h44 : (l.drop (m2 + 1 + d)).take 1 = [44]
      ·have ha := at_yes (by decide) h44
       obtain rfl : q = false := by rw [hq]; simp; omega
       rw [if_pos h44] at i1
       have hj1 : m2 + 1 + d + 1 ≤ l.length := by have := take1_pos h44; rw [List.length_drop] at this; omega
       (repeat refine sb ?_)
       intro z hz
       rw [i64_id (by omega)] at hz
       obtain rfl : z = ((m2 + 1 + d + 1 : Nat) : Int) := by omega
       (repeat refine sb ?_)
       exact ⟨⟨f, m2 + 1 + d + 1, ys, k || decide (domF D = 3), V, cv, s4⟩, ⟨fun v s' q => i1 v s' (RAns.by h44 q), by dsimp only; rw [List.length_drop]; omega, h4, by dsimp only; omega, hj1⟩, by show l.length - (m2 + 1 + d + 1) < l.length - m2; omega, Wk.same ⟨rfl, rfl, rfl, trivial⟩⟩
      ·have ha := at_not (by decide) h44
       obtain rfl : q = true := by rw [hq]; simp; omega
       rw [if_neg h44, by_none h58] at i1
       (repeat refine sb ?_)
       exact i1 _ _ (RAns.none rfl rfl h4.chg)
 ·have ha := at_not (by decide) h64
  have e64 : (64 : UInt8).toNat = 64 := rfl
  obtain rfl : q = true := by rw [hq]; simp; omega
  (repeat refine sb ?_)
  refine i1 _ _ ?_
  rw [rtP, by_none h64]
  exact RAns.none rfl rfl h1.chg

set_option maxHeartbeats 1000000 in
theorem r8angle_w (hF : Fine s0) (hl : l.length ≤ 900000) (h : RwAt s0 s b xs lg W cw) (hi : i ≤ l.length) (hx : xs.length ≤ i) : CallW pr n_ref08_Row_angle [.pointer (some ⟨b, 0, none⟩), str l, .int .i64 i] s fun v s' => RAns (angQ (l.drop i)) s0 b i xs lg v s' := by
 have e62 : (62 : UInt8).toNat = 62 := rfl
 have e64 : (64 : UInt8).toNat = 64 := rfl
 have hb := blN_le (l.drop i)
 rw [List.length_drop] at hb
 refine CallW.run good ok_ref08_Row_angle (by simp) rfl ?_
 (try refine pSeq ?_); (repeat(first|refine sb ?_|refine gOn rfl ?_|refine gOff rfl rfl ?_|refine gTup rfl ?_))
 refine (r8blank_w hl hi).mono fun v s q => ?_
 obtain ⟨rfl, rfl⟩ := q
 by_cases h0 : (blankF (l.drop i)).2 = 0
 ·rw [if_pos h0]
  have hno := (blS_no (blS_ok h0)).2
  have hA : ∀ v s', RAns (angU (l.drop (i + blN (l.drop i)))) s0 b (i + blN (l.drop i)) xs lg v s' → RAns (angQ (l.drop i)) s0 b i xs lg v s' := fun v s' q => RAns.bl h0 q
  have hi1 : i + blN (l.drop i) ≤ l.length := by omega
  have hx1 : xs.length ≤ i + blN (l.drop i) := by omega
  generalize i + blN (l.drop i) = i1 at *
  unfold angU at hA
  (repeat(first|refine sb ?_|refine gOn rfl ?_|refine gOff rfl rfl ?_|refine gTup rfl ?_))
  intro q hq; obtain rfl : q = false := (by rw [hq]; simp <;> omega); (repeat(first|refine sb ?_|refine gOn rfl ?_|refine gOff rfl rfl ?_|refine gTup rfl ?_))
  refine (rat_w (by omega)).mono fun v s q => ?_
  obtain ⟨rfl, rfl⟩ := q
  (repeat(first|refine sb ?_|refine gOn rfl ?_|refine gOff rfl rfl ?_|refine gTup rfl ?_))
  intro q hq
  by_cases h64 : (l.drop i1).take 1 = [64]
  ·have ha := at_yes (by decide) h64
   obtain rfl : q = true := by rw [hq]; simp; omega
   rw [if_pos h64] at hA
   (repeat(first|refine sb ?_|refine gOn rfl ?_|refine gOff rfl rfl ?_|refine gTup rfl ?_))
   refine (r8route_w hF hl h hi1 hx1).mono fun v s1 q => ?_
   cases hr : rtP ((l.drop i1).length + 1) (l.drop i1) with
   | none =>
    rw [hr] at q hA
    obtain ⟨rfl, c1⟩ := q
    (repeat(first|refine sb ?_|refine gOn rfl ?_|refine gOff rfl rfl ?_|refine gTup rfl ?_))
    intro q hq; obtain rfl : q = true := (by rw [hq]; simp <;> omega); (repeat(first|refine sb ?_|refine gOn rfl ?_|refine gOff rfl rfl ?_|refine gTup rfl ?_))
    exact hA _ _ (RAns.none rfl rfl c1)
   | some x =>
    obtain ⟨T, r⟩ := x
    have hrr := cat_drop (cat_rt _) hr
    have hln := (cat_rt _).len hr
    rw [List.length_drop] at hln
    rw [hr] at q hA
    obtain ⟨rfl, V1, cv1, h1, hx2⟩ := q
    have hA : ∀ v s', RAns (bindP (blS r) boxQ) s0 b (i1 + (flT T).length) (xs ++ spT i1 T) (lg || lgT T) v s' → RAns (angQ (l.drop i)) s0 b i xs lg v s' := fun v s' q => hA v s' (RAns.two q)
    rw [hrr] at hA
    have hi2 : i1 + (flT T).length ≤ l.length := by omega
    generalize i1 + (flT T).length = i2 at *
    generalize xs ++ spT i1 T = ys at *
    generalize (lg || lgT T) = k at *
    (repeat(first|refine sb ?_|refine gOn rfl ?_|refine gOff rfl rfl ?_|refine gTup rfl ?_))
    intro q hq; obtain rfl : q = false := (by rw [hq]; simp <;> omega); (repeat(first|refine sb ?_|refine gOn rfl ?_|refine gOff rfl rfl ?_|refine gTup rfl ?_))
    have hb2 := blN_le (l.drop i2)
    rw [List.length_drop] at hb2
    refine (r8blank_w hl hi2).mono fun v s1 q => ?_
    obtain ⟨rfl, rfl⟩ := q
    by_cases h02 : (blankF (l.drop i2)).2 = 0
    ·rw [if_pos h02]
     have hA : ∀ v s', RAns (boxQ (l.drop (i2 + blN (l.drop i2)))) s0 b (i2 + blN (l.drop i2)) ys k v s' → RAns (angQ (l.drop i)) s0 b i xs lg v s' := fun v s' q => hA v s' (RAns.bl h02 q)
     have hi3 : i2 + blN (l.drop i2) ≤ l.length := by omega
     have hx3 : ys.length ≤ i2 + blN (l.drop i2) := by omega
     generalize i2 + blN (l.drop i2) = i3 at *
     (repeat(first|refine sb ?_|refine gOn rfl ?_|refine gOff rfl rfl ?_|refine gTup rfl ?_))
     intro q hq; obtain rfl : q = false := (by rw [hq]; simp <;> omega); (repeat(first|refine sb ?_|refine gOn rfl ?_|refine gOff rfl rfl ?_|refine gTup rfl ?_))
     unfold boxQ at hA
     refine (r8word_w hl hi3).mono fun v s1 q => ?_
     obtain ⟨rfl, rfl⟩ := q
     by_cases hbw : badW (l.drop i3) = true
     ·rw [if_pos hbw]
      (repeat(first|refine sb ?_|refine gOn rfl ?_|refine gOff rfl rfl ?_|refine gTup rfl ?_))
      intro q hq; obtain rfl : q = true := (by rw [hq]; simp <;> omega); (repeat(first|refine sb ?_|refine gOn rfl ?_|refine gOff rfl rfl ?_|refine gTup rfl ?_))
      rw [ad_none (by rw [(bad_no hbw).1]; simp)] at hA
      exact hA _ _ (RAns.none rfl rfl h1.chg)
     ·rw [if_neg hbw]
      (repeat(first|refine sb ?_|refine gOn rfl ?_|refine gOff rfl rfl ?_|refine gTup rfl ?_))
      intro q hq; obtain rfl : q = false := (by rw [hq]; simp <;> omega); (repeat(first|refine sb ?_|refine gOn rfl ?_|refine gOff rfl rfl ?_|refine gTup rfl ?_))
      refine (r8address_w hF hl h1 hi3 hx3).mono fun v s2 q => ?_
      cases ha : adP (l.drop i3) with
      | none =>
       rw [ha] at q hA
       obtain ⟨rfl, c2⟩ := q
       (repeat(first|refine sb ?_|refine gOn rfl ?_|refine gOff rfl rfl ?_|refine gTup rfl ?_))
       intro q hq; obtain rfl : q = true := (by rw [hq]; simp <;> omega); (repeat(first|refine sb ?_|refine gOn rfl ?_|refine gOff rfl rfl ?_|refine gTup rfl ?_))
       exact hA _ _ (RAns.none rfl rfl c2)
      | some x =>
       obtain ⟨T3, r3⟩ := x
       have hr3 := cat_drop cat_ad ha
       have hln3 := cat_ad.len ha
       rw [List.length_drop] at hln3
       rw [ha] at q hA
       obtain ⟨rfl, V2, cv2, h2, hx4⟩ := q
       have hA := fun v s' q => hA v s' (RAns.two q)
       rw [hr3] at hA
       have hi4 : i3 + (flT T3).length ≤ l.length := by omega
       generalize i3 + (flT T3).length = i4 at *
       generalize ys ++ spT i3 T3 = zs at *
       generalize hk4 : (_ || lgT T3) = k4 at h2 hA
       have hb4 := blN_le (l.drop i4)
       rw [List.length_drop] at hb4
       (repeat(first|refine sb ?_|refine gOn rfl ?_|refine gOff rfl rfl ?_|refine gTup rfl ?_))
       intro q hq; obtain rfl : q = false := (by rw [hq]; simp <;> omega); (repeat(first|refine sb ?_|refine gOn rfl ?_|refine gOff rfl rfl ?_|refine gTup rfl ?_))
       refine (r8blank_w hl hi4).mono fun v s2 q => ?_
       obtain ⟨rfl, rfl⟩ := q
       by_cases h04 : (blankF (l.drop i4)).2 = 0
       ·rw [if_pos h04]
        have hA := fun v s' q => hA v s' (RAns.bl h04 q)
        have hi5 : i4 + blN (l.drop i4) ≤ l.length := by omega
        have hx5 : zs.length ≤ i4 + blN (l.drop i4) := by omega
        generalize i4 + blN (l.drop i4) = i5 at *
        (repeat(first|refine sb ?_|refine gOn rfl ?_|refine gOff rfl rfl ?_|refine gTup rfl ?_))
        intro q hq; obtain rfl : q = false := (by rw [hq]; simp <;> omega); (repeat(first|refine sb ?_|refine gOn rfl ?_|refine gOff rfl rfl ?_|refine gTup rfl ?_))
        refine (rat_w (by omega)).mono fun v s2 q => ?_
        obtain ⟨rfl, rfl⟩ := q
        (repeat(first|refine sb ?_|refine gOn rfl ?_|refine gOff rfl rfl ?_|refine gTup rfl ?_))
        intro q hq
        by_cases h62 : (l.drop i5).take 1 = [62]
        ·have hat := at_yes (by decide) h62
         obtain rfl : q = false := by rw [hq]; simp; omega
         have hj1 : i5 + 1 ≤ l.length := by have := take1_pos h62; rw [List.length_drop] at this; omega
         (repeat(first|refine sb ?_|refine gOn rfl ?_|refine gOff rfl rfl ?_|refine gTup rfl ?_))
         intro z hz
         rw [i64_id (by omega)] at hz
         obtain rfl : z = ((i5 + 1 : Nat) : Int) := by omega
         (repeat(first|refine sb ?_|refine gOn rfl ?_|refine gOff rfl rfl ?_|refine gTup rfl ?_))
         refine hA _ _ ?_
         unfold byP
         rw [if_pos h62]
         exact RAns.endG rfl h2 (by simp; omega)
        ·have hat := at_not (by decide) h62
         obtain rfl : q = true := by rw [hq]; simp; omega
         (repeat(first|refine sb ?_|refine gOn rfl ?_|refine gOff rfl rfl ?_|refine gTup rfl ?_))
         rw [by_none h62] at hA
         exact hA _ _ (RAns.none rfl rfl h2.chg)
       ·rw [if_neg h04]
        (repeat(first|refine sb ?_|refine gOn rfl ?_|refine gOff rfl rfl ?_|refine gTup rfl ?_))
        intro q hq; obtain rfl : q = true := (by rw [hq]; simp <;> omega); (repeat(first|refine sb ?_|refine gOn rfl ?_|refine gOff rfl rfl ?_|refine gTup rfl ?_))
        rw [blS_bad h04] at hA
        exact hA _ _ (RAns.none rfl rfl h2.chg)
    ·rw [if_neg h02]
     (repeat(first|refine sb ?_|refine gOn rfl ?_|refine gOff rfl rfl ?_|refine gTup rfl ?_))
     intro q hq; obtain rfl : q = true := (by rw [hq]; simp <;> omega); (repeat(first|refine sb ?_|refine gOn rfl ?_|refine gOff rfl rfl ?_|refine gTup rfl ?_))
     rw [blS_bad h02] at hA
     exact hA _ _ (RAns.none rfl rfl h1.chg)
  ·have ha := at_not (by decide) h64
   obtain rfl : q = false := by rw [hq]; simp; omega
   rw [if_neg h64] at hA
   obtain ⟨i3, hi3e⟩ : ∃ i3, i3 = i1 := ⟨_, rfl⟩
   have hbz := bl_none hno
   have hbn : blN (l.drop i1) = 0 := by unfold blN; rw [hbz]
   (repeat(first|refine sb ?_|refine gOn rfl ?_|refine gOff rfl rfl ?_|refine gTup rfl ?_))
   refine (r8blank_w hl hi1).mono fun v s q => ?_
   obtain ⟨rfl, rfl⟩ := q
   rw [hbz, hbn, Nat.add_zero]
   have h1 := h
   have hi3 := hi1
   have hx3 := hx1
   rw [← hi3e] at hi3 hx3 hA ⊢
   obtain ⟨ys, hys⟩ : ∃ ys, ys = xs := ⟨_, rfl⟩
   rw [← hys] at hx3 h1
   have hA : ∀ v s', RAns (boxQ (l.drop i3)) s0 b i3 ys lg v s' → RAns (angQ (l.drop i)) s0 b i xs lg v s' := fun v s' q => hA v s' (by rw [hys] at q; exact q)
   clear hys
   rw [if_pos rfl]
   (repeat(first|refine sb ?_|refine gOn rfl ?_|refine gOff rfl rfl ?_|refine gTup rfl ?_))
   intro q hq; obtain rfl : q = false := (by rw [hq]; simp <;> omega); (repeat(first|refine sb ?_|refine gOn rfl ?_|refine gOff rfl rfl ?_|refine gTup rfl ?_))
   unfold boxQ at hA
   refine (r8word_w hl hi3).mono fun v s1 q => ?_
   obtain ⟨rfl, rfl⟩ := q
   by_cases hbw : badW (l.drop i3) = true
   ·rw [if_pos hbw]
    (repeat(first|refine sb ?_|refine gOn rfl ?_|refine gOff rfl rfl ?_|refine gTup rfl ?_))
    intro q hq; obtain rfl : q = true := (by rw [hq]; simp <;> omega); (repeat(first|refine sb ?_|refine gOn rfl ?_|refine gOff rfl rfl ?_|refine gTup rfl ?_))
    rw [ad_none (by rw [(bad_no hbw).1]; simp)] at hA
    exact hA _ _ (RAns.none rfl rfl h1.chg)
   ·rw [if_neg hbw]
    (repeat(first|refine sb ?_|refine gOn rfl ?_|refine gOff rfl rfl ?_|refine gTup rfl ?_))
    intro q hq; obtain rfl : q = false := (by rw [hq]; simp <;> omega); (repeat(first|refine sb ?_|refine gOn rfl ?_|refine gOff rfl rfl ?_|refine gTup rfl ?_))
    refine (r8address_w hF hl h1 hi3 hx3).mono fun v s2 q => ?_
    cases ha : adP (l.drop i3) with
    | none =>
     rw [ha] at q hA
     obtain ⟨rfl, c2⟩ := q
     (repeat(first|refine sb ?_|refine gOn rfl ?_|refine gOff rfl rfl ?_|refine gTup rfl ?_))
     intro q hq; obtain rfl : q = true := (by rw [hq]; simp <;> omega); (repeat(first|refine sb ?_|refine gOn rfl ?_|refine gOff rfl rfl ?_|refine gTup rfl ?_))
     exact hA _ _ (RAns.none rfl rfl c2)
    | some x =>
     obtain ⟨T3, r3⟩ := x
     have hr3 := cat_drop cat_ad ha
     have hln3 := cat_ad.len ha
     rw [List.length_drop] at hln3
     rw [ha] at q hA
     obtain ⟨rfl, V2, cv2, h2, hx4⟩ := q
     have hA := fun v s' q => hA v s' (RAns.two q)
     rw [hr3] at hA
     have hi4 : i3 + (flT T3).length ≤ l.length := by omega
     generalize i3 + (flT T3).length = i4 at *
     generalize ys ++ spT i3 T3 = zs at *
     generalize hk4 : (_ || lgT T3) = k4 at h2 hA
     have hb4 := blN_le (l.drop i4)
     rw [List.length_drop] at hb4
     (repeat(first|refine sb ?_|refine gOn rfl ?_|refine gOff rfl rfl ?_|refine gTup rfl ?_))
     intro q hq; obtain rfl : q = false := (by rw [hq]; simp <;> omega); (repeat(first|refine sb ?_|refine gOn rfl ?_|refine gOff rfl rfl ?_|refine gTup rfl ?_))
     refine (r8blank_w hl hi4).mono fun v s2 q => ?_
     obtain ⟨rfl, rfl⟩ := q
     by_cases h04 : (blankF (l.drop i4)).2 = 0
     ·rw [if_pos h04]
      have hA := fun v s' q => hA v s' (RAns.bl h04 q)
      have hi5 : i4 + blN (l.drop i4) ≤ l.length := by omega
      have hx5 : zs.length ≤ i4 + blN (l.drop i4) := by omega
      generalize i4 + blN (l.drop i4) = i5 at *
      (repeat(first|refine sb ?_|refine gOn rfl ?_|refine gOff rfl rfl ?_|refine gTup rfl ?_))
      intro q hq; obtain rfl : q = false := (by rw [hq]; simp <;> omega); (repeat(first|refine sb ?_|refine gOn rfl ?_|refine gOff rfl rfl ?_|refine gTup rfl ?_))
      refine (rat_w (by omega)).mono fun v s2 q => ?_
      obtain ⟨rfl, rfl⟩ := q
      (repeat(first|refine sb ?_|refine gOn rfl ?_|refine gOff rfl rfl ?_|refine gTup rfl ?_))
      intro q hq
      by_cases h62 : (l.drop i5).take 1 = [62]
      ·have hat := at_yes (by decide) h62
       obtain rfl : q = false := by rw [hq]; simp; omega
       have hj1 : i5 + 1 ≤ l.length := by have := take1_pos h62; rw [List.length_drop] at this; omega
       (repeat(first|refine sb ?_|refine gOn rfl ?_|refine gOff rfl rfl ?_|refine gTup rfl ?_))
       intro z hz
       rw [i64_id (by omega)] at hz
       obtain rfl : z = ((i5 + 1 : Nat) : Int) := by omega
       (repeat(first|refine sb ?_|refine gOn rfl ?_|refine gOff rfl rfl ?_|refine gTup rfl ?_))
       refine hA _ _ ?_
       unfold byP
       rw [if_pos h62]
       exact RAns.endG rfl h2 (by simp; omega)
      ·have hat := at_not (by decide) h62
       obtain rfl : q = true := by rw [hq]; simp; omega
       (repeat(first|refine sb ?_|refine gOn rfl ?_|refine gOff rfl rfl ?_|refine gTup rfl ?_))
       rw [by_none h62] at hA
       exact hA _ _ (RAns.none rfl rfl h2.chg)
     ·rw [if_neg h04]
      (repeat(first|refine sb ?_|refine gOn rfl ?_|refine gOff rfl rfl ?_|refine gTup rfl ?_))
      intro q hq; obtain rfl : q = true := (by rw [hq]; simp <;> omega); (repeat(first|refine sb ?_|refine gOn rfl ?_|refine gOff rfl rfl ?_|refine gTup rfl ?_))
      rw [blS_bad h04] at hA
      exact hA _ _ (RAns.none rfl rfl h2.chg)
 ·rw [if_neg h0]
  (repeat(first|refine sb ?_|refine gOn rfl ?_|refine gOff rfl rfl ?_|refine gTup rfl ?_))
  intro q hq; obtain rfl : q = true := (by rw [hq]; simp <;> omega); (repeat(first|refine sb ?_|refine gOn rfl ?_|refine gOff rfl rfl ?_|refine gTup rfl ?_))
  refine RAns.none ?_ rfl h.chg
  unfold angQ
  rw [blS_bad h0]
  rfl
end Go.Vf.S
end
section
namespace Go.Vf.S
open Go Go.Vf
attribute [local irreducible] wSeq wRow wp wG
attribute [local irreducible] rtP phP msP parseF domF blankF quotedF wordN domN adrN blN phS angQ
set_option linter.unusedVariables false
set_option linter.unusedSimpArgs false
set_option maxRecDepth 10000

variable {s0 s s' : SS} {b : Nat} {l : List UInt8} {i : Nat} {xs : List Spt} {lg : Bool} {W : Option Addr} {cw : Nat}

theorem sp_g : ∀ {T : List Tok} {n : Nat}, (∀ t ∈ T, ∃ m, t = .g m) → spT n T = [] ∧ lgT T = false
 | [], n, _ => ⟨rfl, rfl⟩
 | t :: T, n, h => by
  obtain ⟨x, rfl⟩ := h t (by simp)
  have := sp_g (T := T) (n := n + x.length) (fun t ht => h t (List.mem_cons_of_mem _ ht))
  exact ⟨this.1, this.2⟩
theorem cat_blS : Cat blS := fun l T r h => cat_bl _ _ _ (blS_no h).1
theorem cat_boxQ : Cat boxQ := fun l T r h => Cat.bind (cat_ad l) (fun l T r h => Cat.bind (cat_blS l) (cat_by 62) h) h
theorem cat_angU : Cat angU := fun l T r h => by
 unfold angU at h
 split at h
 ·exact Cat.bind (cat_rt _ l) (fun l T r h => Cat.bind (cat_blS l) cat_boxQ h) h
 ·exact cat_boxQ _ _ _ h
theorem cat_angQ : Cat angQ := fun l T r h => by
 unfold angQ at h
 exact Cat.bind (cat_blS l) cat_angU h
theorem cat_phS : ∀ f, Cat (phS f)
 | 0 => fun l T r h => by rw [phS] at h; cases h
 | f + 1 => fun l T r h => by
  rw [phS] at h
  split at h
  ·cases h
  ·split at h
   ·exact cat_nil h
   ·refine Cat.bind (fun T r h => ?_) (fun l T r h => Cat.bind (cat_blS l) (cat_phS f) h) h
    cases h
    rw [flT_g, List.take_append_drop]
theorem cat_tlS {grp : List UInt8 → PR} (hg : Cat grp) (w : Bool) : Cat (tlS grp w) := fun l T r h => by
 unfold tlS at h
 split at h
 ·exact Cat.bind (fun T r h => Cat.bind (cat_by 60 l) cat_angQ h) cat_blS h
 ·split at h
  ·split at h
   ·exact Cat.bind (fun T r h => Cat.bind (cat_by 58 l) hg h) cat_blS h
   ·cases h
  ·exact cat_nil h
theorem cat_mbS {grp : List UInt8 → PR} (hg : Cat grp) : Cat (mbS grp) := fun l T r h => by
 unfold mbS at h
 split at h
 ·exact Cat.bind (cat_ad l) cat_blS h
 ·cases hp : phS (l.length + 1) l with
  | none => rw [hp] at h; cases h
  | some x =>
   obtain ⟨T1, r1⟩ := x
   rw [hp] at h
   refine Cat.bind (fun T r h => ?_) (cat_tlS hg _) h
   cases h
   exact cat_phS _ _ _ _ hp
theorem cat_memS {grp : List UInt8 → PR} (hg : Cat grp) : Cat (memS grp) := fun l T r h => Cat.bind (cat_blS l) (cat_mbS hg) h
theorem cat_ms0S : Cat ms0S := fun l T r h => cat_ms (cat_memS cat_no) _ _ _ _ h
theorem cat_grQ : Cat grQ := fun l T r h => Cat.bind (cat_ms0S l) (cat_by 59) h

structure R8M where
 f : Nat
 j : Nat
 T : List Tok
 k : Nat
 e : Nat

set_option maxHeartbeats 4000000 in
theorem r8member_w (hF : Fine s0) (hl : l.length ≤ 900000) {g : Bool} {grp : List UInt8 → PR} (hno : g = true → grp = noP) (hyes : g = false → grp = grQ)
  (hgr : g = false → ∀ {s : SS} {i : Nat} {xs : List Spt} {lg : Bool} {W : Option Addr} {cw : Nat}, RwAt s0 s b xs lg W cw → i ≤ l.length → xs.length ≤ i → CallW pr n_ref08_Row_members [.pointer (some ⟨b, 0, none⟩), str l, .int .i64 i, .bool true] s fun v s' => RAns (ms0S (l.drop i)) s0 b i xs lg v s')
  (h : RwAt s0 s b xs lg W cw) (hi : i ≤ l.length) (hx : xs.length ≤ i) : CallW pr n_ref08_Row_member [.pointer (some ⟨b, 0, none⟩), str l, .int .i64 i, .bool g] s fun v s' => RAns (memS grp (l.drop i)) s0 b i xs lg v s' := by
 have e58 : (58 : UInt8).toNat = 58 := rfl
 have e59 : (59 : UInt8).toNat = 59 := rfl
 have e60 : (60 : UInt8).toNat = 60 := rfl
 have e64 : (64 : UInt8).toNat = 64 := rfl
 have hb := blN_le (l.drop i)
 rw [List.length_drop] at hb
 refine CallW.run good ok_ref08_Row_member (by simp) rfl ?_
 (try refine pSeq ?_); (repeat(first|refine sb ?_|refine gOn rfl ?_|refine gOff rfl rfl ?_|refine gTup rfl ?_))
 refine (r8blank_w hl hi).mono fun v s q => ?_
 obtain ⟨rfl, rfl⟩ := q
 by_cases h0 : (blankF (l.drop i)).2 = 0
 ·rw [if_pos h0]
  have hno1 := (blS_no (blS_ok h0)).2
  have hA : ∀ v s', RAns (mbS grp (l.drop (i + blN (l.drop i)))) s0 b (i + blN (l.drop i)) xs lg v s' → RAns (memS grp (l.drop i)) s0 b i xs lg v s' := fun v s' q => RAns.bl h0 q
  have hi1 : i + blN (l.drop i) ≤ l.length := by omega
  have hx1 : xs.length ≤ i + blN (l.drop i) := by omega
  generalize i + blN (l.drop i) = i1 at *
  (repeat(first|refine sb ?_|refine gOn rfl ?_|refine gOff rfl rfl ?_|refine gTup rfl ?_))
  intro q hq; obtain rfl : q = false := (by rw [hq]; simp <;> omega); (repeat(first|refine sb ?_|refine gOn rfl ?_|refine gOff rfl rfl ?_|refine gTup rfl ?_))
  unfold mbS at hA
  by_cases hp : 0 < adrN (l.drop i1)
  ·rw [if_pos hp] at hA
   have hw1 := word_le (l.drop i1)
   rw [List.length_drop] at hw1
   have h64 : (l.drop (i1 + wordN (l.drop i1))).take 1 = [64] := by
    rw [← List.drop_drop]
    unfold adrN at hp
    split at hp
    ·assumption
    ·exact absurd hp (Nat.lt_irrefl 0)
   by_cases hw0 : wordN (l.drop i1) = 0
   ·-- no word at all
    rw [hw0, Nat.add_zero] at h64
    rw [ad_none (by rw [hw0]; simp)] at hA
    refine pLoop (MW.head good (fun x : Nat => x) (fun x => True)
     (fun x => [(0, .pointer (some ⟨b, 0, none⟩)), (1, str l), (2, .int .i64 i1), (3, .bool g), (9, .int .i64 i1), (10, .int .i64 0), (11, .int .i64 i1)]) (fun x => s) 0 trivial (Wk.same ⟨rfl, rfl, rfl, rfl, rfl, rfl, rfl, trivial⟩) ?_)
    intro x _
    (repeat(first|refine sb ?_|refine gOn rfl ?_|refine gOff rfl rfl ?_|refine gTup rfl ?_))
    refine (r8word_w hl hi1).mono fun v s q => ?_
    obtain ⟨rfl, rfl⟩ := q
    rw [if_neg (fun q => head_no h64 (by decide) (bad_no q).2), hw0, Nat.add_zero]
    (repeat(first|refine sb ?_|refine gOn rfl ?_|refine gOff rfl rfl ?_|refine gTup rfl ?_))
    intro q hq; obtain rfl : q = false := (by rw [hq]; simp <;> omega); (repeat(first|refine sb ?_|refine gOn rfl ?_|refine gOff rfl rfl ?_|refine gTup rfl ?_))
    intro q hq; obtain rfl : q = true := (by rw [hq]; simp <;> omega); (repeat(first|refine sb ?_|refine gOn rfl ?_|refine gOff rfl rfl ?_|refine gTup rfl ?_))
    refine (rat_w (by omega)).mono fun v s q => ?_
    obtain ⟨rfl, rfl⟩ := q
    have ha := at_yes (by decide) h64
    (repeat(first|refine sb ?_|refine gOn rfl ?_|refine gOff rfl rfl ?_|refine gTup rfl ?_))
    intro q hq
    obtain rfl : q = true := by rw [hq]; simp; omega
    (repeat(first|refine sb ?_|refine gOn rfl ?_|refine gOff rfl rfl ?_|refine gTup rfl ?_))
    intro q hq; obtain rfl : q = true := (by rw [hq]; simp <;> omega); (repeat(first|refine sb ?_|refine gOn rfl ?_|refine gOff rfl rfl ?_|refine gTup rfl ?_))
    exact hA _ _ (RAns.none rfl rfl h.chg)
   ·-- an address
    have hiw : i1 + wordN (l.drop i1) ≤ l.length := by omega
    have hno2 : noBl (l.drop (i1 + wordN (l.drop i1))) := fun c hc => by rw [head_take.1 h64] at hc; cases hc; decide
    have hbz := bl_none hno2
    have hbn : blN (l.drop (i1 + wordN (l.drop i1))) = 0 := by unfold blN; rw [hbz]
    have hwz : wordN (l.drop (i1 + wordN (l.drop i1))) = 0 := word_no fun c hc => by rw [head_take.1 h64] at hc; cases hc; decide
    refine pLoop (MW.head good (fun x : Nat => 1 - x) (fun x => x ≤ 1)
     (fun x => [(0, .pointer (some ⟨b, 0, none⟩)), (1, str l), (2, .int .i64 (if x = 0 then i1 else i1 + wordN (l.drop i1) : Nat)), (3, .bool g), (9, .int .i64 i1), (10, .int .i64 x), (11, .int .i64 (if x = 0 then i1 else i1 + wordN (l.drop i1) : Nat))]) (fun x => s) 0 (Nat.zero_le _) (Wk.same ⟨rfl, rfl, rfl, rfl, rfl, rfl, rfl, trivial⟩) ?_)
    intro x hx01
    by_cases hx0 : x = 0
    ·subst hx0
     rw [if_pos rfl]
     (repeat(first|refine sb ?_|refine gOn rfl ?_|refine gOff rfl rfl ?_|refine gTup rfl ?_))
     refine (r8word_w hl hi1).mono fun v s q => ?_
     obtain ⟨rfl, rfl⟩ := q
     rw [if_neg (by rw [bad_good (Nat.pos_of_ne_zero hw0)]; simp)]
     (repeat(first|refine sb ?_|refine gOn rfl ?_|refine gOff rfl rfl ?_|refine gTup rfl ?_))
     intro q hq; obtain rfl : q = false := (by rw [hq]; simp <;> omega); (repeat(first|refine sb ?_|refine gOn rfl ?_|refine gOff rfl rfl ?_|refine gTup rfl ?_))
     intro q hq; obtain rfl : q = false := (by rw [hq]; simp <;> omega); (repeat(first|refine sb ?_|refine gOn rfl ?_|refine gOff rfl rfl ?_|refine gTup rfl ?_))
     intro z hz
     rw [i64_id (by omega)] at hz
     obtain rfl : z = 1 := by omega
     (repeat(first|refine sb ?_|refine gOn rfl ?_|refine gOff rfl rfl ?_|refine gTup rfl ?_))
     refine (r8blank_w hl hiw).mono fun v s q => ?_
     obtain ⟨rfl, rfl⟩ := q
     rw [hbz, hbn, Nat.add_zero, if_pos rfl]
     (repeat(first|refine sb ?_|refine gOn rfl ?_|refine gOff rfl rfl ?_|refine gTup rfl ?_))
     intro q hq; obtain rfl : q = false := (by rw [hq]; simp <;> omega); (repeat(first|refine sb ?_|refine gOn rfl ?_|refine gOff rfl rfl ?_|refine gTup rfl ?_))
     exact ⟨1, Nat.le_refl _, by show 1 - 1 < 1 - 0; omega, Wk.same ⟨rfl, rfl, rfl, rfl, rfl, rfl, rfl, trivial⟩⟩
    ·obtain rfl : x = 1 := by omega
     rw [if_neg (by omega)]
     (repeat(first|refine sb ?_|refine gOn rfl ?_|refine gOff rfl rfl ?_|refine gTup rfl ?_))
     refine (r8word_w hl hiw).mono fun v s q => ?_
     obtain ⟨rfl, rfl⟩ := q
     rw [if_neg (fun q => head_no h64 (by decide) (bad_no q).2), hwz, Nat.add_zero]
     (repeat(first|refine sb ?_|refine gOn rfl ?_|refine gOff rfl rfl ?_|refine gTup rfl ?_))
     intro q hq; obtain rfl : q = false := (by rw [hq]; simp <;> omega); (repeat(first|refine sb ?_|refine gOn rfl ?_|refine gOff rfl rfl ?_|refine gTup rfl ?_))
     intro q hq; obtain rfl : q = true := (by rw [hq]; simp <;> omega); (repeat(first|refine sb ?_|refine gOn rfl ?_|refine gOff rfl rfl ?_|refine gTup rfl ?_))
     refine (rat_w (by omega)).mono fun v s q => ?_
     obtain ⟨rfl, rfl⟩ := q
     have ha := at_yes (by decide) h64
     (repeat(first|refine sb ?_|refine gOn rfl ?_|refine gOff rfl rfl ?_|refine gTup rfl ?_))
     intro q hq
     obtain rfl : q = true := by rw [hq]; simp; omega
     (repeat(first|refine sb ?_|refine gOn rfl ?_|refine gOff rfl rfl ?_|refine gTup rfl ?_))
     intro q hq; obtain rfl : q = false := (by rw [hq]; simp <;> omega); (repeat(first|refine sb ?_|refine gOn rfl ?_|refine gOff rfl rfl ?_|refine gTup rfl ?_))
     intro q hq; obtain rfl : q = false := (by rw [hq]; simp <;> omega); (repeat(first|refine sb ?_|refine gOn rfl ?_|refine gOff rfl rfl ?_|refine gTup rfl ?_))
     refine (r8address_w hF hl h hi1 hx1).mono fun v s2 q => ?_
     cases had : adP (l.drop i1) with
     | none =>
      rw [had] at q hA
      obtain ⟨rfl, c2⟩ := q
      (repeat(first|refine sb ?_|refine gOn rfl ?_|refine gOff rfl rfl ?_|refine gTup rfl ?_))
      intro q hq; obtain rfl : q = true := (by rw [hq]; simp <;> omega); (repeat(first|refine sb ?_|refine gOn rfl ?_|refine gOff rfl rfl ?_|refine gTup rfl ?_))
      exact hA _ _ (RAns.none rfl rfl c2)
     | some x =>
      obtain ⟨T3, r3⟩ := x
      have hr3 := cat_drop cat_ad had
      have hln3 := cat_ad.len had
      rw [List.length_drop] at hln3
      rw [had] at q hA
      obtain ⟨rfl, V2, cv2, h2, hx2⟩ := q
      have hA := fun v s' q => hA v s' (RAns.two q)
      rw [hr3] at hA
      have hi2 : i1 + (flT T3).length ≤ l.length := by omega
      generalize i1 + (flT T3).length = i2 at *
      generalize xs ++ spT i1 T3 = zs at *
      (repeat(first|refine sb ?_|refine gOn rfl ?_|refine gOff rfl rfl ?_|refine gTup rfl ?_))
      intro q hq; obtain rfl : q = false := (by rw [hq]; simp <;> omega); (repeat(first|refine sb ?_|refine gOn rfl ?_|refine gOff rfl rfl ?_|refine gTup rfl ?_))
      refine (r8blank_w hl hi2).mono fun v s5 q => ?_
      obtain ⟨rfl, rfl⟩ := q
      by_cases h05 : (blankF (l.drop i2)).2 = 0
      ·rw [if_pos h05]
       (repeat(first|refine sb ?_|refine gOn rfl ?_|refine gOff rfl rfl ?_|refine gTup rfl ?_))
       exact hA _ _ (RAns.endB h05 rfl h2 hx2)
      ·rw [if_neg h05]
       (repeat(first|refine sb ?_|refine gOn rfl ?_|refine gOff rfl rfl ?_|refine gTup rfl ?_))
       rw [blS_bad h05] at hA
       exact hA _ _ (RAns.none rfl rfl h2.chg)
  ·rw [if_neg hp] at hA
   obtain ⟨F, hFu⟩ : ∃ F, F = (l.drop i1).length + 1 := ⟨_, rfl⟩
   rw [← hFu] at hA
   refine pLoop (MW.head good (fun x : R8M => l.length - x.j) (fun x => phS F (l.drop i1) = bindP (some (x.T, l.drop x.j)) (phS x.f) ∧ (l.drop x.j).length < x.f ∧ x.j = i1 + (flT x.T).length ∧ x.j ≤ l.length ∧ noBl (l.drop x.j) ∧ (∀ t ∈ x.T, ∃ m, t = Tok.g m) ∧ x.T.length = 2 * x.k ∧ x.k ≤ x.j ∧ (x.k = 1 → x.e = i1 + wordN (l.drop i1)))
    (fun x => [(0, .pointer (some ⟨b, 0, none⟩)), (1, str l), (2, .int .i64 x.j), (3, .bool g), (9, .int .i64 i1), (10, .int .i64 x.k), (11, .int .i64 x.e)]) (fun x => s) ⟨F, i1, [], 0, i1⟩
    ⟨by
     cases hq : phS F (l.drop i1) with
     | none => rw [bindP_one hq]
     | some x => rw [bindP_two hq]; rfl, by rw [hFu]; exact Nat.lt_succ_self _, rfl, hi1, hno1, by simp, rfl, Nat.zero_le _, fun q => by cases q⟩ (Wk.same ⟨rfl, rfl, rfl, rfl, rfl, rfl, rfl, trivial⟩) ?_)
   rintro ⟨f, j, T, k, e⟩ ⟨j1, j2, j3, j4, j5, j6, j7, j8, j9⟩
   dsimp only at j1 j2 j3 j4 j5 j6 j7 j8 j9 ⊢
   have hwj := word_le (l.drop j)
   rw [List.length_drop] at hwj j2
   cases f with
   | zero => omega
   | succ f =>
   (repeat(first|refine sb ?_|refine gOn rfl ?_|refine gOff rfl rfl ?_|refine gTup rfl ?_))
   refine (r8word_w hl j4).mono fun v s q => ?_
   obtain ⟨rfl, rfl⟩ := q
   by_cases hbw : badW (l.drop j) = true
   ·rw [if_pos hbw]
    have : phS F (l.drop i1) = none := by rw [j1, bindP_one (by rw [phS, if_pos hbw])]
    rw [this] at hA
    (repeat(first|refine sb ?_|refine gOn rfl ?_|refine gOff rfl rfl ?_|refine gTup rfl ?_))
    intro q hq; obtain rfl : q = true := (by rw [hq]; simp <;> omega); (repeat(first|refine sb ?_|refine gOn rfl ?_|refine gOff rfl rfl ?_|refine gTup rfl ?_))
    exact hA _ _ (RAns.none rfl rfl h.chg)
   ·rw [if_neg hbw]
    (repeat(first|refine sb ?_|refine gOn rfl ?_|refine gOff rfl rfl ?_|refine gTup rfl ?_))
    intro q hq; obtain rfl : q = false := (by rw [hq]; simp <;> omega); (repeat(first|refine sb ?_|refine gOn rfl ?_|refine gOff rfl rfl ?_|refine gTup rfl ?_))
    intro q hq
    by_cases hw0 : wordN (l.drop j) = 0
    ·obtain rfl : q = true := by rw [hq, hw0]; simp
     have hph : phS F (l.drop i1) = some (T, l.drop j) := by rw [j1, bindP_two (by rw [phS, if_neg hbw, if_pos hw0]), List.append_nil]
     rw [hph] at hA
     have hsp := sp_g (n := i1) j6
     have hA : ∀ v s', RAns (tlS grp (!T.isEmpty) (l.drop j)) s0 b j xs lg v s' → RAns (memS grp (l.drop i)) s0 b i xs lg v s' := fun v s' q => hA v s' (RAns.two (by
      rw [hsp.1, hsp.2, List.append_nil, Bool.or_false, ← j3]
      exact q))
     have hxj : xs.length ≤ j := by omega
     have hTe : T.isEmpty = decide (k = 0) := by
      cases T with
      | nil =>
       have : k = 0 := by simp at j7; omega
       rw [decide_eq_true this]; rfl
      | cons t T =>
       have : ¬k = 0 := by simp at j7; omega
       rw [decide_eq_false this]; rfl
     rw [hTe] at hA
     unfold tlS at hA
     (repeat(first|refine sb ?_|refine gOn rfl ?_|refine gOff rfl rfl ?_|refine gTup rfl ?_))
     refine (rat_w (by omega)).mono fun v s q => ?_
     obtain ⟨rfl, rfl⟩ := q
     (repeat(first|refine sb ?_|refine gOn rfl ?_|refine gOff rfl rfl ?_|refine gTup rfl ?_))
     intro q hq
     by_cases h64 : (l.drop j).take 1 = [64]
     ·have ha := at_yes (by decide) h64
      obtain rfl : q = true := by rw [hq]; simp; omega
      have hke : ¬(k = 1 ∧ e = j) := fun q => by
       have hej := j9 q.1
       apply hp
       unfold adrN
       rw [if_pos (by rw [List.drop_drop, ← hej, q.2]; exact h64)]
       omega
      have hk0 : k ≠ 0 := fun q => by
       subst q
       have hT : T = [] := List.length_eq_zero_iff.1 (by omega)
       subst hT
       have hji : j = i1 := by rw [j3]; rfl
       subst hji
       apply hp
       unfold adrN
       rw [hw0, List.drop_zero, if_pos h64]
       omega
      rw [if_neg (head_no h64 (by decide)), if_pos (by simp [hk0]), if_neg (head_no h64 (by decide))] at hA
      (repeat(first|refine sb ?_|refine gOn rfl ?_|refine gOff rfl rfl ?_|refine gTup rfl ?_))
      intro q hq
      by_cases hk1 : k = 1
      ·obtain rfl : q = false := by rw [hq]; simp; omega
       (repeat(first|refine sb ?_|refine gOn rfl ?_|refine gOff rfl rfl ?_|refine gTup rfl ?_))
       intro q hq
       obtain rfl : q = true := by rw [hq]; simp; omega
       (repeat(first|refine sb ?_|refine gOn rfl ?_|refine gOff rfl rfl ?_|refine gTup rfl ?_))
       exact hA _ _ (RAns.none rfl rfl h.chg)
      ·obtain rfl : q = true := by rw [hq]; simp; omega
       (repeat(first|refine sb ?_|refine gOn rfl ?_|refine gOff rfl rfl ?_|refine gTup rfl ?_))
       exact hA _ _ (RAns.none rfl rfl h.chg)
     ·have ha := at_not (by decide) h64
      obtain rfl : q = false := by rw [hq]; simp; omega
      (repeat(first|refine sb ?_|refine gOn rfl ?_|refine gOff rfl rfl ?_|refine gTup rfl ?_))
      refine (rat_w (by omega)).mono fun v s q => ?_
      obtain ⟨rfl, rfl⟩ := q
      (repeat(first|refine sb ?_|refine gOn rfl ?_|refine gOff rfl rfl ?_|refine gTup rfl ?_))
      intro q hq
      by_cases h60 : (l.drop j).take 1 = [60]
      ·have ha := at_yes (by decide) h60
       obtain rfl : q = true := by rw [hq]; simp; omega
       rw [if_pos h60, bindP_assoc] at hA
       have hj1 : j + 1 ≤ l.length := by have := take1_pos h60; rw [List.length_drop] at this; omega
       have hA := fun v s' q => hA v s' (RAns.by h60 q)
       (repeat(first|refine sb ?_|refine gOn rfl ?_|refine gOff rfl rfl ?_|refine gTup rfl ?_))
       intro z hz
       rw [i64_id (by omega)] at hz
       obtain rfl : z = ((j + 1 : Nat) : Int) := by omega
       (repeat(first|refine sb ?_|refine gOn rfl ?_|refine gOff rfl rfl ?_|refine gTup rfl ?_))
       refine (r8angle_w hF hl h hj1 (by omega)).mono fun v s2 q => ?_
       cases had : angQ (l.drop (j + 1)) with
       | none =>
        rw [had] at q hA
        obtain ⟨rfl, c2⟩ := q
        (repeat(first|refine sb ?_|refine gOn rfl ?_|refine gOff rfl rfl ?_|refine gTup rfl ?_))
        intro q hq; obtain rfl : q = true := (by rw [hq]; simp <;> omega); (repeat(first|refine sb ?_|refine gOn rfl ?_|refine gOff rfl rfl ?_|refine gTup rfl ?_))
        exact hA _ _ (RAns.none rfl rfl c2)
       | some x =>
        obtain ⟨T3, r3⟩ := x
        have hr3 := cat_drop cat_angQ had
        have hln3 := cat_angQ.len had
        rw [List.length_drop] at hln3
        rw [had] at q hA
        obtain ⟨rfl, V2, cv2, h2, hx2⟩ := q
        have hA := fun v s' q => hA v s' (RAns.two q)
        rw [hr3] at hA
        have hi2 : j + 1 + (flT T3).length ≤ l.length := by omega
        generalize j + 1 + (flT T3).length = i2 at *
        generalize xs ++ spT (j + 1) T3 = zs at *
        (repeat(first|refine sb ?_|refine gOn rfl ?_|refine gOff rfl rfl ?_|refine gTup rfl ?_))
        intro q hq; obtain rfl : q = false := (by rw [hq]; simp <;> omega); (repeat(first|refine sb ?_|refine gOn rfl ?_|refine gOff rfl rfl ?_|refine gTup rfl ?_))
        refine (r8blank_w hl hi2).mono fun v s5 q => ?_
        obtain ⟨rfl, rfl⟩ := q
        by_cases h05 : (blankF (l.drop i2)).2 = 0
        ·rw [if_pos h05]
         (repeat(first|refine sb ?_|refine gOn rfl ?_|refine gOff rfl rfl ?_|refine gTup rfl ?_))
         exact hA _ _ (RAns.endB h05 rfl h2 hx2)
        ·rw [if_neg h05]
         (repeat(first|refine sb ?_|refine gOn rfl ?_|refine gOff rfl rfl ?_|refine gTup rfl ?_))
         rw [blS_bad h05] at hA
         exact hA _ _ (RAns.none rfl rfl h2.chg)
      ·have ha := at_not (by decide) h60
       obtain rfl : q = false := by rw [hq]; simp; omega
       rw [if_neg h60] at hA
       (repeat(first|refine sb ?_|refine gOn rfl ?_|refine gOff rfl rfl ?_|refine gTup rfl ?_))
       refine (rat_w (by omega)).mono fun v s q => ?_
       obtain ⟨rfl, rfl⟩ := q
       (repeat(first|refine sb ?_|refine gOn rfl ?_|refine gOff rfl rfl ?_|refine gTup rfl ?_))
       intro q hq
       by_cases hk0 : k = 0
       ·-- nothing
        rw [if_neg (by simp [hk0])] at hA
        have hbz := bl_none j5
        have hbn : blN (l.drop j) = 0 := by unfold blN; rw [hbz]
        have goal : ∀ s, RwAt s0 s b xs lg W cw → RAns (memS grp (l.drop i)) s0 b i xs lg (.int .i64 (j : Nat)) s := fun s h => hA _ _ (RAns.end rfl h hxj)
        by_cases h58 : (l.drop j).take 1 = [58]
        ·have ha := at_yes (by decide) h58
         obtain rfl : q = true := by rw [hq]; simp; omega
         (repeat(first|refine sb ?_|refine gOn rfl ?_|refine gOff rfl rfl ?_|refine gTup rfl ?_))
         intro q hq
         obtain rfl : q = false := by rw [hq]; simp; omega
         (repeat(first|refine sb ?_|refine gOn rfl ?_|refine gOff rfl rfl ?_|refine gTup rfl ?_))
         intro q hq
         obtain rfl : q = false := by rw [hq]; simp; omega
         (repeat(first|refine sb ?_|refine gOn rfl ?_|refine gOff rfl rfl ?_|refine gTup rfl ?_))
         intro q hq; obtain rfl : q = false := (by rw [hq]; simp <;> omega); (repeat(first|refine sb ?_|refine gOn rfl ?_|refine gOff rfl rfl ?_|refine gTup rfl ?_))
         refine (r8blank_w hl j4).mono fun v s5 q => ?_
         obtain ⟨rfl, rfl⟩ := q
         rw [hbz, hbn, Nat.add_zero, if_pos rfl]
         (repeat(first|refine sb ?_|refine gOn rfl ?_|refine gOff rfl rfl ?_|refine gTup rfl ?_))
         exact goal _ h
        ·have ha := at_not (by decide) h58
         obtain rfl : q = false := by rw [hq]; simp; omega
         (repeat(first|refine sb ?_|refine gOn rfl ?_|refine gOff rfl rfl ?_|refine gTup rfl ?_))
         intro q hq
         obtain rfl : q = false := by rw [hq]; simp; omega
         (repeat(first|refine sb ?_|refine gOn rfl ?_|refine gOff rfl rfl ?_|refine gTup rfl ?_))
         intro q hq; obtain rfl : q = false := (by rw [hq]; simp <;> omega); (repeat(first|refine sb ?_|refine gOn rfl ?_|refine gOff rfl rfl ?_|refine gTup rfl ?_))
         refine (r8blank_w hl j4).mono fun v s5 q => ?_
         obtain ⟨rfl, rfl⟩ := q
         rw [hbz, hbn, Nat.add_zero, if_pos rfl]
         (repeat(first|refine sb ?_|refine gOn rfl ?_|refine gOff rfl rfl ?_|refine gTup rfl ?_))
         exact goal _ h
       ·rw [if_pos (by simp [hk0])] at hA
        by_cases h58 : (l.drop j).take 1 = [58]
        ·have ha := at_yes (by decide) h58
         obtain rfl : q = true := by rw [hq]; simp; omega
         rw [if_pos h58, bindP_assoc] at hA
         (repeat(first|refine sb ?_|refine gOn rfl ?_|refine gOff rfl rfl ?_|refine gTup rfl ?_))
         intro q hq
         obtain rfl : q = true := by rw [hq]; simp; omega
         cases g with
         | true =>
          have hz : ∀ r, bindP (byP 58 r) (fun l => bindP (grp l) blS) = none := fun r => by
           rw [hno rfl]
           unfold bindP byP noP
           split
           ·rfl
           ·rename_i hh; split at hh <;> cases hh; rfl
          rw [hz] at hA
          (repeat(first|refine sb ?_|refine gOn rfl ?_|refine gOff rfl rfl ?_|refine gTup rfl ?_))
          intro q hq
          obtain rfl : q = false := by rw [hq]; rfl
          (repeat(first|refine sb ?_|refine gOn rfl ?_|refine gOff rfl rfl ?_|refine gTup rfl ?_))
          intro q hq
          obtain rfl : q = true := by rw [hq]; simp; omega
          (repeat(first|refine sb ?_|refine gOn rfl ?_|refine gOff rfl rfl ?_|refine gTup rfl ?_))
          exact hA _ _ (RAns.none rfl rfl h.chg)
         | false =>
          have hj1 : j + 1 ≤ l.length := by have := take1_pos h58; rw [List.length_drop] at this; omega
          have hA : ∀ v s', RAns (bindP (ms0S (l.drop (j + 1))) fun r => bindP (byP 59 r) blS) s0 b (j + 1) xs lg v s' → RAns (memS grp (l.drop i)) s0 b i xs lg v s' := fun v s' q => hA v s' (RAns.by h58 (by
           rw [hyes rfl]
           unfold grQ
           rw [bindP_assoc]
           exact q))
          (repeat(first|refine sb ?_|refine gOn rfl ?_|refine gOff rfl rfl ?_|refine gTup rfl ?_))
          intro q hq
          obtain rfl : q = true := by rw [hq]; rfl
          (repeat(first|refine sb ?_|refine gOn rfl ?_|refine gOff rfl rfl ?_|refine gTup rfl ?_))
          intro z hz
          rw [i64_id (by omega)] at hz
          obtain rfl : z = ((j + 1 : Nat) : Int) := by omega
          (repeat(first|refine sb ?_|refine gOn rfl ?_|refine gOff rfl rfl ?_|refine gTup rfl ?_))
          refine (hgr rfl h hj1 (by omega)).mono fun v s2 q => ?_
          cases had : ms0S (l.drop (j + 1)) with
          | none =>
           rw [had] at q hA
           obtain ⟨rfl, c2⟩ := q
           (repeat(first|refine sb ?_|refine gOn rfl ?_|refine gOff rfl rfl ?_|refine gTup rfl ?_))
           intro q hq; obtain rfl : q = true := (by rw [hq]; simp <;> omega); (repeat(first|refine sb ?_|refine gOn rfl ?_|refine gOff rfl rfl ?_|refine gTup rfl ?_))
           exact hA _ _ (RAns.none rfl rfl c2)
          | some x =>
           obtain ⟨T3, r3⟩ := x
           have hr3 := cat_drop cat_ms0S had
           have hln3 := cat_ms0S.len had
           rw [List.length_drop] at hln3
           rw [had] at q hA
           obtain ⟨rfl, V2, cv2, h2, hx2⟩ := q
           have hA := fun v s' q => hA v s' (RAns.two q)
           rw [hr3] at hA
           have hi2 : j + 1 + (flT T3).length ≤ l.length := by omega
           generalize j + 1 + (flT T3).length = i3 at *
           generalize xs ++ spT (j + 1) T3 = zs at *
           (repeat(first|refine sb ?_|refine gOn rfl ?_|refine gOff rfl rfl ?_|refine gTup rfl ?_))
           intro q hq; obtain rfl : q = false := (by rw [hq]; simp <;> omega); (repeat(first|refine sb ?_|refine gOn rfl ?_|refine gOff rfl rfl ?_|refine gTup rfl ?_))
           refine (rat_w (by omega)).mono fun v s2 q => ?_
           obtain ⟨rfl, rfl⟩ := q
           (repeat(first|refine sb ?_|refine gOn rfl ?_|refine gOff rfl rfl ?_|refine gTup rfl ?_))
           intro q hq
           by_cases h59 : (l.drop i3).take 1 = [59]
           ·have ha := at_yes (by decide) h59
            obtain rfl : q = false := by rw [hq]; simp; omega
            have hj3 : i3 + 1 ≤ l.length := by have := take1_pos h59; rw [List.length_drop] at this; omega
            have hA := fun v s' q => hA v s' (RAns.by h59 q)
            (repeat(first|refine sb ?_|refine gOn rfl ?_|refine gOff rfl rfl ?_|refine gTup rfl ?_))
            intro z hz
            rw [i64_id (by omega)] at hz
            obtain rfl : z = ((i3 + 1 : Nat) : Int) := by omega
            have hi2 := hj3
            have hx2 : zs.length ≤ i3 + 1 := by omega
            generalize i3 + 1 = i2 at *
            (repeat(first|refine sb ?_|refine gOn rfl ?_|refine gOff rfl rfl ?_|refine gTup rfl ?_))
            intro q hq; obtain rfl : q = false := (by rw [hq]; simp <;> omega); (repeat(first|refine sb ?_|refine gOn rfl ?_|refine gOff rfl rfl ?_|refine gTup rfl ?_))
            refine (r8blank_w hl hi2).mono fun v s5 q => ?_
            obtain ⟨rfl, rfl⟩ := q
            by_cases h05 : (blankF (l.drop i2)).2 = 0
            ·rw [if_pos h05]
             (repeat(first|refine sb ?_|refine gOn rfl ?_|refine gOff rfl rfl ?_|refine gTup rfl ?_))
             exact hA _ _ (RAns.endB h05 rfl h2 hx2)
            ·rw [if_neg h05]
             (repeat(first|refine sb ?_|refine gOn rfl ?_|refine gOff rfl rfl ?_|refine gTup rfl ?_))
             rw [blS_bad h05] at hA
             exact hA _ _ (RAns.none rfl rfl h2.chg)
           ·have ha := at_not (by decide) h59
            obtain rfl : q = true := by rw [hq]; simp; omega
            rw [by_none h59] at hA
            (repeat(first|refine sb ?_|refine gOn rfl ?_|refine gOff rfl rfl ?_|refine gTup rfl ?_))
            exact hA _ _ (RAns.none rfl rfl h2.chg)
        ·have ha := at_not (by decide) h58
         obtain rfl : q = false := by rw [hq]; simp; omega
         rw [if_neg h58] at hA
         (repeat(first|refine sb ?_|refine gOn rfl ?_|refine gOff rfl rfl ?_|refine gTup rfl ?_))
         intro q hq
         obtain rfl : q = true := by rw [hq]; simp; omega
         (repeat(first|refine sb ?_|refine gOn rfl ?_|refine gOff rfl rfl ?_|refine gTup rfl ?_))
         exact hA _ _ (RAns.none rfl rfl h.chg)
    ·obtain rfl : q = false := by rw [hq]; simp; omega
     have hiw : j + wordN (l.drop j) ≤ l.length := by omega
     have hb2 := blN_le (l.drop (j + wordN (l.drop j)))
     rw [List.length_drop] at hb2
     (repeat(first|refine sb ?_|refine gOn rfl ?_|refine gOff rfl rfl ?_|refine gTup rfl ?_))
     intro z hz
     rw [i64_id (by omega)] at hz
     obtain rfl : z = ((k + 1 : Nat) : Int) := by omega
     (repeat(first|refine sb ?_|refine gOn rfl ?_|refine gOff rfl rfl ?_|refine gTup rfl ?_))
     refine (r8blank_w hl hiw).mono fun v s q => ?_
     obtain ⟨rfl, rfl⟩ := q
     by_cases h02 : (blankF (l.drop (j + wordN (l.drop j)))).2 = 0
     ·rw [if_pos h02]
      have hno3 := (blS_no (blS_ok h02)).2
      have hst : phS (f + 1) (l.drop j) = bindP (some ([.g ((l.drop j).take (wordN (l.drop j)))], l.drop (j + wordN (l.drop j)))) fun r => bindP (blS r) (phS f) := by
       rw [phS, if_neg hbw, if_neg hw0, List.drop_drop]
      have hbl := blS_ok h02
      have hk1 : k = 0 → j = i1 := fun q => by
       subst q
       have hT : T = [] := List.length_eq_zero_iff.1 (by omega)
       rw [j3, hT]; rfl
      have hwe : k = 0 → j + wordN (l.drop j) = i1 + wordN (l.drop i1) := fun q => by rw [hk1 q]
      generalize hB : blN (l.drop (j + wordN (l.drop j))) = B at *
      generalize hWd : wordN (l.drop j) = w at *
      have e1 : (flT (T ++ [.g ((l.drop j).take w), .g ((l.drop (j + w)).take B)])).length = (flT T).length + w + B := by
       rw [flT_app, List.length_append, flT_cons, flT_g, List.length_append]
       show (flT T).length + (((l.drop j).take w).length + _) = _
       rw [List.length_take, List.length_take, List.length_drop, List.length_drop]
       omega
      (repeat(first|refine sb ?_|refine gOn rfl ?_|refine gOff rfl rfl ?_|refine gTup rfl ?_))
      intro q hq; obtain rfl : q = false := (by rw [hq]; simp <;> omega); (repeat(first|refine sb ?_|refine gOn rfl ?_|refine gOff rfl rfl ?_|refine gTup rfl ?_))
      refine ⟨⟨f, j + w + B, T ++ [.g ((l.drop j).take w), .g ((l.drop (j + w)).take B)], k + 1, j + w⟩, ⟨?_, by dsimp only; rw [List.length_drop]; omega, by dsimp only; rw [e1]; omega, by dsimp only; omega, hno3, ?_, by dsimp only; rw [List.length_append, j7]; simp only [List.length_cons, List.length_nil]; omega, by dsimp only; omega, fun q => hwe (by dsimp only at q; omega)⟩, by show l.length - (j + w + B) < l.length - j; omega, Wk.same ⟨rfl, rfl, rfl, rfl, rfl, rfl, rfl, trivial⟩⟩
      ·dsimp only
       rw [j1]
       cases hq : phS f (l.drop (j + w + B)) with
       | none => rw [bindP_one hq, bindP_one (by rw [hst, bindP_one (by rw [hbl, bindP_one hq])])]
       | some y =>
        obtain ⟨T5, r5⟩ := y
        rw [bindP_two hq, bindP_two (by rw [hst, bindP_two (by rw [hbl, bindP_two hq])]), List.append_assoc]
        rfl
      ·intro t ht
       rcases List.mem_append.1 ht with ht | ht
       ·exact j6 t ht
       ·simp only [List.mem_cons, List.not_mem_nil, or_false] at ht
        rcases ht with rfl | rfl <;> exact ⟨_, rfl⟩
     ·rw [if_neg h02]
      have : phS F (l.drop i1) = none := by
       rw [j1, bindP_one]
       rw [phS, if_neg hbw, if_neg hw0, List.drop_drop]
       exact bindP_one (by rw [blS_bad h02]; rfl)
      rw [this] at hA
      (repeat(first|refine sb ?_|refine gOn rfl ?_|refine gOff rfl rfl ?_|refine gTup rfl ?_))
      intro q hq; obtain rfl : q = true := (by rw [hq]; simp <;> omega); (repeat(first|refine sb ?_|refine gOn rfl ?_|refine gOff rfl rfl ?_|refine gTup rfl ?_))
      exact hA _ _ (RAns.none rfl rfl h.chg)
 ·rw [if_neg h0]
  (repeat(first|refine sb ?_|refine gOn rfl ?_|refine gOff rfl rfl ?_|refine gTup rfl ?_))
  intro q hq; obtain rfl : q = true := (by rw [hq]; simp <;> omega); (repeat(first|refine sb ?_|refine gOn rfl ?_|refine gOff rfl rfl ?_|refine gTup rfl ?_))
  refine RAns.none ?_ rfl h.chg
  unfold memS
  rw [blS_bad h0]
  rfl

set_option maxHeartbeats 1000000 in
theorem r8members_w (hF : Fine s0) (hl : l.length ≤ 900000) {g : Bool} {m : List UInt8 → PR} (hm : Cat m)
    (hc : ∀ {s : SS} {i : Nat} {xs : List Spt} {lg : Bool} {W : Option Addr} {cw : Nat}, RwAt s0 s b xs lg W cw → i ≤ l.length → xs.length ≤ i → CallW pr n_ref08_Row_member [.pointer (some ⟨b, 0, none⟩), str l, .int .i64 i, .bool g] s fun v s' => RAns (m (l.drop i)) s0 b i xs lg v s')
    (h : RwAt s0 s b xs lg W cw) (hi : i ≤ l.length) (hx : xs.length ≤ i) : CallW pr n_ref08_Row_members [.pointer (some ⟨b, 0, none⟩), str l, .int .i64 i, .bool g] s fun v s' => RAns (msP m ((l.drop i).length + 1) (l.drop i)) s0 b i xs lg v s' := by
  have e44 : (44 : UInt8).toNat = 44 := rfl
  refine CallW.run good ok_ref08_Row_members (by simp) rfl ?_
  (try refine pSeq ?_); (repeat(first|refine sb ?_|refine gOn rfl ?_|refine gOff rfl rfl ?_|refine gTup rfl ?_))
  refine pLoop (MW.head good (fun x : R8I => l.length - x.j) (fun x => (∀ v s', RAns (msP m x.f (l.drop x.j)) s0 b x.j x.ys x.k v s' → RAns (msP m ((l.drop i).length + 1) (l.drop i)) s0 b i xs lg v s') ∧ (l.drop x.j).length < x.f ∧ RwAt s0 x.s b x.ys x.k x.W x.cw ∧ x.ys.length ≤ x.j ∧ x.j ≤ l.length)
    (fun x => [(0, .pointer (some ⟨b, 0, none⟩)), (1, str l), (2, .int .i64 x.j), (3, .bool g)]) (fun x => x.s) ⟨(l.drop i).length + 1, i, xs, lg, W, cw, s⟩ ⟨fun _ _ q => q, Nat.lt_succ_self _, h, hx, hi⟩ (Wk.same ⟨rfl, rfl, rfl, rfl, trivial⟩) ?_)
  rintro ⟨f, j, ys, k, V, cv, s1⟩ ⟨i1, i2, h1, i4, hj⟩
  dsimp only at i1 i2 h1 i4 hj ⊢
  rw [List.length_drop] at i2
  cases f with
  | zero => omega
  | succ f =>
  (repeat(first|refine sb ?_|refine gOn rfl ?_|refine gOff rfl rfl ?_|refine gTup rfl ?_))
  refine (hc h1 hj i4).mono fun v s2 q => ?_
  cases hd : m (l.drop j) with
  | none =>
    rw [hd] at q
    obtain ⟨rfl, c2⟩ := q
    (repeat(first|refine sb ?_|refine gOn rfl ?_|refine gOff rfl rfl ?_|refine gTup rfl ?_))
    intro q hq; obtain rfl : q = true := (by rw [hq]; simp <;> omega); (repeat(first|refine sb ?_|refine gOn rfl ?_|refine gOff rfl rfl ?_|refine gTup rfl ?_))
    refine i1 _ _ ?_
    rw [msP, hd]
    exact RAns.none rfl rfl c2
  | some x =>
    obtain ⟨T, r⟩ := x
    have hr := cat_drop hm hd
    have hln := hm.len hd
    rw [List.length_drop] at hln
    rw [hd] at q
    obtain ⟨rfl, V3, cv3, h3, hx3⟩ := q
    generalize hys : ys ++ spT j T = zs at *
    generalize hk3 : (k || lgT T) = k3 at *
    have key : ∀ v s', RAns (if (l.drop (j + (flT T).length)).take 1 = [44] then bindP (byP 44 (l.drop (j + (flT T).length))) (msP m f) else some ([], (l.drop (j + (flT T).length)))) s0 b (j + (flT T).length) zs k3 v s' → RAns (msP m ((l.drop i).length + 1) (l.drop i)) s0 b i xs lg v s' := fun v s' q => i1 v s' (by
      rw [msP, hd]
      refine RAns.two ?_
      rw [hys, hk3, hr]
      exact q)
    have hj3 : j ≤ j + (flT T).length := Nat.le_add_right _ _
    have hj4 : j + (flT T).length ≤ l.length := by omega
    clear i1 hd hr hln
    generalize j + (flT T).length = j3 at *
    (repeat(first|refine sb ?_|refine gOn rfl ?_|refine gOff rfl rfl ?_|refine gTup rfl ?_))
    intro q hq; obtain rfl : q = false := (by rw [hq]; simp <;> omega); (repeat(first|refine sb ?_|refine gOn rfl ?_|refine gOff rfl rfl ?_|refine gTup rfl ?_))
    refine (rat_w (by omega)).mono fun v s2 q => ?_
    obtain ⟨rfl, rfl⟩ := q
    (repeat(first|refine sb ?_|refine gOn rfl ?_|refine gOff rfl rfl ?_|refine gTup rfl ?_))
    intro q hq
    by_cases h44 : (l.drop j3).take 1 = [44]
    · have ha := at_yes (by decide) h44
      obtain rfl : q = false := by rw [hq]; simp; omega
      have hj1 : j3 + 1 ≤ l.length := by have := take1_pos h44; rw [List.length_drop] at this; omega
      rw [if_pos h44] at key
      (repeat(first|refine sb ?_|refine gOn rfl ?_|refine gOff rfl rfl ?_|refine gTup rfl ?_))
      intro z hz
      rw [i64_id (by omega)] at hz
      obtain rfl : z = ((j3 + 1 : Nat) : Int) := by omega
      (repeat(first|refine sb ?_|refine gOn rfl ?_|refine gOff rfl rfl ?_|refine gTup rfl ?_))
      exact ⟨⟨f, j3 + 1, zs, k3, V3, cv3, s2⟩, ⟨fun v s' q => key v s' (RAns.by h44 q), by dsimp only; rw [List.length_drop]; omega, h3, by dsimp only; omega, hj1⟩, by show l.length - (j3 + 1) < l.length - j; omega, Wk.same ⟨rfl, rfl, rfl, rfl, trivial⟩⟩
    · have ha := at_not (by decide) h44
      obtain rfl : q = true := by rw [hq]; simp; omega
      rw [if_neg h44] at key
      (repeat(first|refine sb ?_|refine gOn rfl ?_|refine gOff rfl rfl ?_|refine gTup rfl ?_))
      exact key _ _ (RAns.end rfl h3 hx3)

abbrev SqO (s : SS) (W : Option Addr) (cw : Nat) (xs : List Spt) : Prop := OwnR tSq s W cw xs.length (spsC xs)

set_option maxHeartbeats 1000000 in
theorem r8find_w {s : SS} (hF : Fine s) (hl : l.length ≤ 900000) : CallW pr n_ref08_Find [str l] s fun v s' => ∃ W cw, v = .tuple ⟨[.slice W (findF l).1.length cw, .int .i64 (findF l).2]⟩ ∧ SqO s' W cw (findF l).1 ∧ Chg s s' [] ∧ ∀ id ∈ blkOf W, s.next ≤ id := by
 refine CallW.run good ok_ref08_Find (by simp) rfl ?_
 (try refine pSeq ?_); (repeat refine sb ?_)
 have c01 : Chg s { s with heap := (s.next, some (.cells (rwC [] false none 0) tRw false false)) :: s.heap, next := s.next + 1 } [] := .new _
 have h1 : RwAt s { s with heap := (s.next, some (.cells (rwC [] false none 0) tRw false false)) :: s.heap, next := s.next + 1 } s.next [] false none 0 := ⟨c01, Nat.lt_succ_self _, Nat.le_refl _, lkH, ⟨rfl, rfl, rfl⟩, by simp [blkOf]⟩
 refine (r8members_w (i := 0) hF hl (m := memS grQ) (cat_memS cat_grQ) (fun h hi hx => r8member_w hF hl (g := false) (fun q => by cases q) (fun _ => rfl) (fun _ {_ _ _ _ _ _} h hi hx => r8members_w hF hl (cat_memS cat_no) (fun h hi hx => r8member_w hF hl (g := true) (fun _ => rfl) (fun q => by cases q) (fun q => by cases q) h hi hx) h hi hx) h hi hx) h1 (Nat.zero_le _) (Nat.zero_le _)).mono fun v s2 q => ?_
 rw [List.drop_zero] at q
 have eT : tokF l = match msP (memS grQ) (l.length + 1) l with
  | some (T, []) => some T
  | _ => none := tok_S l
 cases hm : msP (memS grQ) (l.length + 1) l with
 | none =>
  rw [hm] at q eT
  obtain ⟨rfl, c2⟩ := q
  have eF : findF l = ([], 5) := by unfold findF; rw [eT]
  rw [eF]
  (repeat refine sb ?_)
  intro n hn
  (repeat refine sb ?_)
  intro q hq
  obtain rfl : q = true := by rw [hq, hn]; exact decide_eq_true (by omega)
  (repeat refine sb ?_)
  exact ⟨none, 0, rfl, ⟨rfl, rfl, rfl⟩, c2, by simp [blkOf]⟩
 | some x =>
  obtain ⟨T, r⟩ := x
  have hr := cat_drop (i := 0) (q := msP (memS grQ) (l.length + 1)) (cat_ms (cat_memS cat_grQ) _) (by rw [List.drop_zero]; exact hm)
  have hln := (cat_ms (cat_memS cat_grQ) _).len hm
  rw [hm] at q eT
  obtain ⟨rfl, V, cv, h2, hx2⟩ := q
  rw [Nat.zero_add] at hx2 hr ⊢
  rw [List.nil_append] at h2 hx2
  rw [Bool.false_or] at h2
  (repeat refine sb ?_)
  intro n hn
  (repeat refine sb ?_)
  intro q hq
  by_cases hlt : (flT T).length < l.length
  ·obtain rfl : q = true := by rw [hq, hn]; simp; omega
   have eF : findF l = ([], 5) := by
    have : r ≠ [] := fun q => by rw [q] at hr; have := congrArg List.length hr; simp at this; omega
    have : tokF l = none := by
     rw [eT]
     cases r with
     | nil => exact absurd rfl this
     | cons c r => rfl
    unfold findF
    rw [this]
   rw [eF]
   (repeat refine sb ?_)
   exact ⟨none, 0, rfl, ⟨rfl, rfl, rfl⟩, h2.chg, by simp [blkOf]⟩
  ·obtain rfl : q = false := by rw [hq, hn]; simp; omega
   have hr0 : r = [] := by rw [hr]; exact List.drop_of_length_le (by omega)
   subst hr0
   have eF : findF l = if lgT T = true then ([], 3) else if 64 < (spT 0 T).length then ([], 7) else (spT 0 T, 0) := by
    have : tokF l = some T := eT
    unfold findF
    rw [this]
   (repeat refine sb ?_)
   refine ldB_is rfl h2.look rfl ?_
   cases hk : lgT T with
   | true =>
    rw [hk, if_pos rfl] at eF
    rw [eF]
    (repeat refine sb ?_)
    exact ⟨none, 0, rfl, ⟨rfl, rfl, rfl⟩, h2.chg, by simp [blkOf]⟩
   | false =>
    rw [hk, if_neg (by simp)] at eF
    (repeat refine sb ?_)
    refine ld1_is rfl h2.look rfl ?_
    (repeat refine sb ?_)
    intro q hq
    by_cases h64 : 64 < (spT 0 T).length
    ·obtain rfl : q = true := by rw [hq]; simp; omega
     rw [if_pos h64] at eF
     rw [eF]
     (repeat refine sb ?_)
     exact ⟨none, 0, rfl, ⟨rfl, rfl, rfl⟩, h2.chg, by simp [blkOf]⟩
    ·obtain rfl : q = false := by rw [hq]; simp; omega
     rw [if_neg h64] at eF
     rw [eF]
     (repeat refine sb ?_)
     refine ld1_is rfl h2.look rfl ?_
     (repeat refine sb ?_)
     exact ⟨V, cv, rfl, h2.own, h2.chg, h2.new⟩
end Go.Vf.S
end

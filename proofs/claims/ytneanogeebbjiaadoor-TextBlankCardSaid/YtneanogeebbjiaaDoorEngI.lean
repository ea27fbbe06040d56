import Derived.Test.YtneanogeebbjiaaDoorEngH
/- The machine of plain blocks: every operation, in one. -/
namespace Go.Vf
open Go.RowKit

def FRel (ρ : Ren) (nt : Nat) (T : ATmp) (tmps : Array Value) : Prop :=
  tmps.size = nt ∧ ∀ t v, T.get t = some v → ∃ v', tmps[t]? = some v' ∧ VRel ρ v v'

section
variable {P : Program} {B : Nat} {w0 : World} {ρ : Ren} {s : ASt} {w : World} {T : ATmp} {o : Oper}

theorem FRel.mono {ρ ρ' : Ren} (h : ρ.Le ρ') {nt : Nat} {T : ATmp} {tmps : Array Value} (r : FRel ρ nt T tmps) : FRel ρ' nt T tmps :=
  ⟨r.1, fun t v ht => let ⟨v', a, b⟩ := r.2 t v ht; ⟨v', a, b.mono h⟩⟩

theorem FRel.ev {nt : Nat} {tmps : Array Value} (H : HRel P B w0 ρ s w) (F : FRel ρ nt T tmps) (ds : List Deferred) (x : Operand) (v : Value) (h : operand T s x = some v) :
    VRel ρ v ((⟨tmps, ds⟩ : Act).eval x) := by
  cases x with
  | tmp t =>
    obtain ⟨v', h1, h2⟩ := F.2 t v h
    simp only [Act.eval, Array.getD_eq_getD_getElem?, h1, Option.getD_some]
    exact h2
  | const c =>
    simp only [operand] at h
    cases hc : plainV c with
    | false => simp [hc] at h
    | true => simp [hc] at h; subst h; exact plain_rel hc
  | global g =>
    simp only [operand] at h
    cases hc : Nat.blt g s.gl with
    | false => simp [hc] at h
    | true =>
      simp [hc] at h
      subst h
      rw [Nat.blt_eq] at hc
      obtain ⟨e, h1, h2, h3⟩ := H.glob g hc
      exact .pointer ⟨rfl, rfl, e, h1, h2.symm, by simp [h3]⟩
  | func f =>
    simp only [operand] at h
    cases h
    exact .func _ rfl rfl rfl (fun i v v' ha => by simp at ha) (fun i v v' ha => by simp at ha)

theorem FRel.put {ρ : Ren} {nt : Nat} {tmps : Array Value} (F : FRel ρ nt T tmps) {dst : Option Tmp} {v v' : Value} {T' : ATmp} (h : putT nt T dst v = some T') (hv : VRel ρ v v') (ds : List Deferred) :
    ∃ tmps', ((⟨tmps, ds⟩ : Act).put dst v') = ⟨tmps', ds⟩ ∧ FRel ρ nt T' tmps' := by
  cases dst with
  | none => simp [putT] at h; subst h; exact ⟨tmps, rfl, F⟩
  | some d =>
    simp only [putT] at h
    cases hd : Nat.blt d nt with
    | false => simp [hd] at h
    | true =>
      simp [hd] at h
      subst h
      rw [Nat.blt_eq] at hd
      refine ⟨_, rfl, by rw [Array.size_setIfInBounds]; exact F.1, fun t u ht => ?_⟩
      rw [Tr.get_put] at ht
      by_cases e : t = d
      · rw [if_pos e] at ht; cases ht
        subst e
        exact ⟨v', by rw [Array.getElem?_setIfInBounds_self_of_lt (by rw [F.1]; exact hd)], hv⟩
      · rw [if_neg e] at ht
        obtain ⟨u', h1, h2⟩ := F.2 t u ht
        exact ⟨u', by rw [Array.getElem?_setIfInBounds_ne (Ne.symm e)]; exact h1, h2⟩

theorem post_makeMap {t : TypeId} {ev : Operand → Value} (ho : o.op = .makeMap t none) : Post P B w0 ρ s w ev o (.new (.map [] 0) fun id => .map (some id)) := by
  refine ⟨rfl, fun id σ hid Hσ hb => ?_⟩
  refine ⟨.map (some w.heap.size), w.alloc (.map #[] 0), ⟨w.heap.size, 0, 0, 0, false⟩, ?_, ?_, .map Ren.ext_self rfl⟩
  · simp only [execOp, ho, Option.map_none, Instr.makeMap, Sem.run_bind, Sem.run_pure, Result.andThen_ok, run_newObj, World.alloc_eq]
  · refine Hσ.new hid hb rfl rfl rfl rfl rfl rfl ⟨rfl, [], ?_, rfl, fun i a b ha => by simp at ha⟩
    show (w.heap.push _)[w.heap.size]? = _
    simp

theorem aOp_post (G : Good P) (H : HRel P B w0 ρ s w) {nt : Nat} {tmps : Array Value} (F : FRel ρ nt T tmps) (ds : List Deferred) {nx : ANext} (h : aOp P T s o.op = some nx) :
    Post P B w0 ρ s w (⟨tmps, ds⟩ : Act).eval o nx := by
  have hE := fun x v => F.ev H ds x v
  generalize hop : o.op = op at h
  cases op with
  | move x => exact post_move hE (.inl hop) h
  | assign x => exact post_move hE (.inr hop) h
  | pick c a b => exact post_pick hE hop h
  | alloc e => exact post_alloc hop h
  | box e x => exact post_box hE hop h
  | build t ps => exact post_build hE hop h
  | buildSlice t n ps => exact post_buildSlice hE hop h
  | load t a => exact post_load H hE hop h
  | store t a x => exact post_store H hE hop h
  | nilCheck x => exact post_nilCheck hE hop h
  | binOp op t x y u => exact post_binOp hE hop h
  | unOp op t x => exact post_unOp hE hop h
  | convert a b x => exact post_convert H hE hop h
  | makeInterface t x => exact post_makeInterface hE hop h
  | makeFunc fn a b => exact post_makeFunc hE hop h
  | makeMap t r =>
    cases r with
    | none => simp only [aOp] at h; cases h; exact post_makeMap hop
    | some x => simp only [aOp] at h; cases h
  | makeSlice t l c => exact post_makeSlice hE hop h
  | slice t x lo hi mx => exact post_slice H hE hop h
  | fieldAddr t x f => exact post_fieldAddr hE hop h
  | field t x f => exact post_field hE hop h
  | indexAddr t x ix => exact post_indexAddr hE hop h
  | index t x ix => exact post_index hE hop h
  | extract x i => exact post_extract hE hop h
  | call c =>
    obtain ⟨callee, args, argTypes⟩ := c
    cases callee with
    | builtin b =>
      simp only [aOp] at h
      split at h
      · cases h
      · rename_i vs hvs
        have hr := operands_rel hE hvs
        cases b <;> simp only at h <;> first
          | (cases h; done)
          | exact post_append H hop hr h
          | exact post_copy H hop hr h
          | (cases hl : lenV P s argTypes.toList vs with
             | none => simp [hl] at h
             | some v => simp [hl] at h; subst h; exact post_len H hop hr hl)
          | (cases hl : capV P s argTypes.toList vs with
             | none => simp [hl] at h
             | some v => simp [hl] at h; subst h; exact post_cap H hop hr hl)
          | (split at h
             · rename_i x r
               cases hl : foldV true x r with
               | none => simp [hl] at h
               | some v => simp [hl] at h; subst h; exact post_max hop hr hl
             · cases h)
          | (split at h
             · rename_i x r
               cases hl : foldV false x r with
               | none => simp [hl] at h
               | some v => simp [hl] at h; subst h; exact post_min hop hr hl
             · cases h)
    | value f =>
      simp only [aOp] at h
      split at h
      · rename_i fv vs hf hvs
        exact post_call G hE hop hf (operands_rel hE hvs) h
      · cases h
    | invoke r n => simp only [aOp] at h; cases h
  | _ => simp only [aOp] at h; cases h

/-! ### What hangs on the state -/

theorem operand_gl {s s' : ASt} (h : s'.gl = s.gl) (x : Operand) : operand T s' x = operand T s x := by
  cases x <;> simp only [operand, h]

theorem operands_gl {s s' : ASt} (h : s'.gl = s.gl) : ∀ (l : List Operand), operands T s' l = operands T s l
  | [] => rfl
  | x :: r => by simp only [operands, operand_gl h, operands_gl h r]

theorem partsOf_gl {s s' : ASt} (h : s'.gl = s.gl) : ∀ (l : List (Nat × Operand)), partsOf T s' l = partsOf T s l
  | [] => rfl
  | (i, x) :: r => by simp only [partsOf, operand_gl h, partsOf_gl h r]

/-- What only computes tells the same at every state. -/
theorem aOp_pure {s s' : ASt} (hg : s'.gl = s.gl) {op : Op} (hc : cls op = 0) : aOp P T s' op = aOp P T s op := by
  cases op <;> first
    | (simp only [cls] at hc; cases hc; done)
    | (simp only [cls, Bool.cond_eq_ite] at hc; split at hc <;> cases hc; done)
    | (simp only [aOp, operand_gl hg, operands_gl hg, partsOf_gl hg]; done)
    | (rename_i c
       obtain ⟨callee, args, argTypes⟩ := c
       cases callee with
       | builtin b => cases b <;> first
         | (simp only [cls] at hc; cases hc; done)
         | (simp only [aOp, operands_gl hg]; done)
       | value f => simp only [cls] at hc; cases hc
       | invoke r n => simp only [cls] at hc; cases hc)

theorem appendV_not_new {tys : List TypeId} {vs : List Value} {b : ABlk} {vf : Nat → Value} : appendV P s tys vs ≠ some (.new b vf) := by
  intro h
  unfold appendV at h
  repeat' (first | (cases h; done) | split at h)
  all_goals (simp only [cond] at h; repeat' (first | (cases h; done) | split at h))

theorem copyV_not_new {tys : List TypeId} {vs : List Value} {b : ABlk} {vf : Nat → Value} : copyV P s tys vs ≠ some (.new b vf) := by
  intro h
  unfold copyV at h
  repeat' (first | (cases h; done) | split at h)
  all_goals (simp only [cond] at h; repeat' (first | (cases h; done) | split at h))

theorem callV_not_new {f : Value} {vs : List Value} {b : ABlk} {vf : Nat → Value} : callV P f vs ≠ some (.new b vf) := by
  intro h
  unfold callV at h
  repeat' (first | (cases h; done) | split at h)
  all_goals (simp only [cond] at h; repeat' (first | (cases h; done) | split at h))

theorem map_val_ne {x : Option Value} {b : ABlk} {vf : Nat → Value} : x.map ANext.val ≠ some (.new b vf) := by
  cases x <;> simp

theorem map_val_eff {x : Option Value} {v : Value} {s : ASt} : x.map ANext.val ≠ some (.eff v s) := by
  cases x <;> simp

/-- What lays a block tells the same at every state. -/
theorem aOp_new {s s' : ASt} (hg : s'.gl = s.gl) {op : Op} {b : ABlk} {vf : Nat → Value} (h : aOp P T s op = some (.new b vf)) : aOp P T s' op = some (.new b vf) := by
  cases op with
  | alloc e => exact h
  | box e x => simp only [aOp, operand_gl hg] at h ⊢; exact h
  | buildSlice t n ps => simp only [aOp, partsOf_gl hg] at h ⊢; exact h
  | makeMap t r => cases r <;> exact h
  | makeSlice t l c => simp only [aOp, operand_gl hg] at h ⊢; exact h
  | convert a c x =>
    simp only [aOp, operand_gl hg] at h ⊢
    split at h
    · rename_i v hv
      unfold convertV at h ⊢
      split at h
      · cases h
      · cases h
      · rename_i h1 h2
        exact h
      · split at h <;> cases h
      · split at h
        · split at h
          · cases h
          · split at h <;> cases h
        · cases h
      · simp only [Bool.cond_eq_ite] at h
        repeat' (first | (cases h; done) | split at h)
      · cases h
    · cases h
  | call c =>
    obtain ⟨callee, args, argTypes⟩ := c
    exfalso
    cases callee with
    | builtin bb =>
      simp only [aOp] at h
      split at h
      · cases h
      · cases bb <;> simp only at h <;> first
          | (cases h; done)
          | exact appendV_not_new h
          | exact copyV_not_new h
          | exact map_val_ne h
          | (split at h
             · exact map_val_ne h
             · cases h)
    | value f =>
      simp only [aOp] at h
      split at h
      · exact callV_not_new h
      · cases h
    | invoke r n => simp only [aOp] at h; cases h
  | _ =>
    exfalso
    simp only [aOp] at h
    first
      | (cases h; done)
      | exact map_val_ne h
      | (repeat' (first | (cases h; done) | exact map_val_ne h | split at h)
         all_goals (simp only [cond] at h; repeat' (first | (cases h; done) | exact map_val_ne h | split at h)))


theorem storeRow_gl {s s' : ASt} {a : Addr} {vs : List Value} (h : storeRow s a vs = some s') : s'.gl = s.gl := by
  unfold storeRow at h
  cases hsp : a.spot.isSome with
  | true => simp [hsp] at h
  | false =>
    simp only [hsp, cond_false] at h
    split at h
    · split at h
      · cases h
      · cases h; rfl
    · cases h

theorem aOp_gl {s s' : ASt} {op : Op} {v : Value} (h : aOp P T s op = some (.eff v s')) : s'.gl = s.gl := by
  cases op with
  | store t a x =>
    simp only [aOp, cond] at h
    repeat' (first | (cases h; done) | split at h)
    rename_i hs
    cases h
    exact storeRow_gl hs
  | call c =>
    obtain ⟨callee, args, argTypes⟩ := c
    cases callee with
    | builtin bb =>
      simp only [aOp] at h
      split at h
      · cases h
      · rename_i vs hvs
        cases bb <;> simp only at h <;> first
          | (cases h; done)
          | (cases hx : lenV P s argTypes.toList vs <;> simp [hx] at h; done)
          | (cases hx : capV P s argTypes.toList vs <;> simp [hx] at h; done)
          | (split at h
             · rename_i x r; cases hx : foldV true x r <;> simp [hx] at h
             · cases h)
          | (split at h
             · rename_i x r; cases hx : foldV false x r <;> simp [hx] at h
             · cases h)
          | (simp only [appendV, cond] at h
             repeat' (first | (cases h; done) | (cases h; rfl) | split at h)
             all_goals (first | (rename_i hs; cases h; exact storeRow_gl hs) | (cases h; rfl)))
          | (simp only [copyV, cond] at h
             repeat' (first | (cases h; done) | (cases h; rfl) | split at h)
             all_goals (first | (rename_i hs; cases h; exact storeRow_gl hs) | (cases h; rfl)))
    | value f =>
      simp only [aOp, callV, cond] at h
      repeat' (first | (cases h; done) | split at h)
    | invoke r n => simp only [aOp] at h; cases h
  | convert a c x =>
    simp only [aOp, convertV, cond] at h
    repeat' (first | (cases h; done) | (cases h; rfl) | split at h)
  | makeMap t r => cases r <;> (simp only [aOp] at h; cases h)
  | _ =>
    exfalso
    simp only [aOp, cond] at h
    first
      | (cases h; done)
      | exact map_val_eff h
      | (repeat' (first | (cases h; done) | exact map_val_eff h | split at h))

end
end Go.Vf

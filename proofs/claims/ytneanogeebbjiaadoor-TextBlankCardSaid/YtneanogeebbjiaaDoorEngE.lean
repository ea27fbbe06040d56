import Derived.Test.YtneanogeebbjiaaDoorEngD
/- The machine of plain blocks: addresses, parts, new blocks, builtins, calls. -/
namespace Go.Vf
open Go.RowKit
section
variable {P : Program} {B : Nat} {w0 : World} {ρ : Ren} {s : ASt} {w : World} {T : ATmp} {ev : Operand → Value} {o : Oper}

theorem idx_int {v : Value} {len n : Nat} (h : idx v len = some n) : ∃ k, v = .int k (n : Int) ∧ n < len := by
  unfold idx at h
  split at h
  · rename_i k m
    cases hb : Nat.blt m len with
    | false => simp [hb] at h
    | true => simp [hb] at h; subst h; exact ⟨k, rfl, by rwa [Nat.blt_eq] at hb⟩
  · cases h

theorem partB_run {t : TypeId} {x y : List Value} {off : Nat} {v : Value} (h : partB P t x off = some v) (r : LRel ρ x y) (w : World) :
    ∃ v', (part t ⟨y⟩ off).run P w = .ok v' w ∧ VRel ρ v v' := by
  unfold partB at h
  split at h
  · cases h
  · rename_i hag
    split at h
    · cases h
    · rename_i n hn
      split at h
      · cases h
      · rename_i l hl
        cases h
        obtain ⟨rfl, hn'⟩ := takeN_eq _ _ _ hl
        refine ⟨.agg ⟨(y.drop off).take n⟩, ?_, .agg' ((r.drop off).take n)⟩
        simp only [part, Sem.run_bind, run_aggB hag, Result.andThen_ok, if_true, run_sizeB hn, Sem.run_pure]
        simp [List.take_drop]
  · rename_i hag
    obtain ⟨v', q1, q2⟩ := r.get h
    refine ⟨v', ?_, q2⟩
    have : (⟨y⟩ : Array Value)[off]? = some v' := by simpa using q1
    simp only [part, Sem.run_bind, run_aggB hag, Result.andThen_ok, Bool.false_eq_true, if_false, this, Sem.run_pure]

theorem post_fieldAddr (hE : ∀ x v, operand T s x = some v → VRel ρ v (ev x)) {t : TypeId} {x : Operand} {f : Nat} (ho : o.op = .fieldAddr t x f) {nx : ANext}
    (h : aOp P T s (.fieldAddr t x f) = some nx) : Post P B w0 ρ s w ev o nx := by
  simp only [aOp] at h
  split at h
  · rename_i fields a hu ha
    obtain ⟨a', ha', hr⟩ := ptr_inv (hE _ _ ha)
    split at h
    · rename_i fd hfd
      rw [hr.1] at h
      simp only [Option.isSome_none, cond_false] at h
      split at h
      · rename_i z hz
        cases h
        refine ⟨.pointer (some (a'.add fd.offset)), ?_, .pointer (hr.add _)⟩
        simp only [execOp, ho, Instr.fieldAt, Sem.run_bind, run_underlying hu, Result.andThen_ok, hfd, ha', Instr.sureAddr, Sem.run_pure, fieldPlace, run_sizeB hz, Nat.succ_ne_zero, if_false]
      · cases h
    · cases h
  · cases h

theorem post_field (hE : ∀ x v, operand T s x = some v → VRel ρ v (ev x)) {t : TypeId} {x : Operand} {f : Nat} (ho : o.op = .field t x f) {nx : ANext}
    (h : aOp P T s (.field t x f) = some nx) : Post P B w0 ρ s w ev o nx := by
  simp only [aOp] at h
  split at h
  · rename_i fields a hu ha
    obtain ⟨⟨a'⟩, ha', hr⟩ := agg_inv (hE _ _ ha)
    split at h
    · rename_i fd hfd
      cases hp : partB P fd.type a.toList fd.offset with
      | none => simp [hp] at h
      | some v =>
        simp [hp] at h
        subst h
        obtain ⟨v', q1, q2⟩ := partB_run hp hr w
        refine ⟨v', ?_, q2⟩
        simp only [execOp, ho, Instr.field, Sem.run_bind, run_underlying hu, Result.andThen_ok, hfd, ha', asAgg, Sem.run_pure, q1]
    · cases h
  · cases h

theorem post_indexAddr (hE : ∀ x v, operand T s x = some v → VRel ρ v (ev x)) {t : TypeId} {x ix : Operand} (ho : o.op = .indexAddr t x ix) {nx : ANext}
    (h : aOp P T s (.indexAddr t x ix) = some nx) : Post P B w0 ρ s w ev o nx := by
  simp only [aOp] at h
  split at h
  · rename_i elem a len c i hu hx hi
    obtain ⟨a', c', hx', hr⟩ := slice_inv (hE _ _ hx)
    split at h
    · rename_i n z hn hz
      cases h
      obtain ⟨k, rfl, hlt⟩ := idx_int hn
      have hr' := hr.addr (by omega)
      refine ⟨.pointer (some (a'.add (n * z))), ?_, .pointer (hr'.add _)⟩
      simp only [execOp, ho, Instr.indexAt, int_inv (hE _ _ hi), hx', asIntOf, Sem.run_bind, Sem.run_pure, Result.andThen_ok, run_underlying hu]
      simp [run_sizeB hz, hlt]
    · cases h
  · rename_i len elem a i hu hx hi
    obtain ⟨a', hx', hr⟩ := ptr_inv (hE _ _ hx)
    split at h
    · rename_i n z hn hz
      cases h
      obtain ⟨k, rfl, hlt⟩ := idx_int hn
      refine ⟨.pointer (some (a'.add (n * z))), ?_, .pointer (hr.add _)⟩
      simp only [execOp, ho, Instr.indexAt, int_inv (hE _ _ hi), hx', asIntOf, Sem.run_bind, Sem.run_pure, Result.andThen_ok, run_underlying hu, Instr.sureAddr]
      simp [run_sizeB hz, hlt]
    · cases h
  · cases h

theorem post_index (hE : ∀ x v, operand T s x = some v → VRel ρ v (ev x)) {t : TypeId} {x ix : Operand} (ho : o.op = .index t x ix) {nx : ANext}
    (h : aOp P T s (.index t x ix) = some nx) : Post P B w0 ρ s w ev o nx := by
  simp only [aOp] at h
  split at h
  · rename_i len elem cs i hu hx hi
    obtain ⟨⟨a'⟩, hx', hr⟩ := agg_inv (hE _ _ hx)
    split at h
    · rename_i n z hn hz
      obtain ⟨k, rfl, hlt⟩ := idx_int hn
      cases hp : partB P elem cs.toList (n * z) with
      | none => simp [hp] at h
      | some v =>
        simp [hp] at h
        subst h
        obtain ⟨v', q1, q2⟩ := partB_run hp hr w
        refine ⟨v', ?_, q2⟩
        simp only [execOp, ho, Instr.index, int_inv (hE _ _ hi), hx', asIntOf, Sem.run_bind, Sem.run_pure, Result.andThen_ok, run_underlying hu]
        simp [run_sizeB hz, hlt, q1]
    · cases h
  · rename_i b i hu hx hi
    split at h
    · rename_i n hn
      obtain ⟨k, rfl, hlt⟩ := idx_int hn
      split at h
      · rename_i c hc
        cases h
        refine ⟨.int .u8 c.toNat, ?_, .int _ _⟩
        have hb : b[n]? = some c := by
          have hlt' : n < b.size := hlt
          rw [getElem?_pos b n hlt']
          have : b.data.toList[n]? = some b[n] := by
            rw [List.getElem?_eq_getElem (show n < b.data.toList.length from hlt')]
            rfl
          rw [this] at hc; exact hc
        have e1 := int_inv (hE _ _ hi)
        have e2 := str_inv (hE _ _ hx)
        simp only [execOp, ho, Instr.index, Sem.run_bind]
        rw [e1, e2]
        simp only [asIntOf, Sem.run_pure, Result.andThen_ok, run_underlying hu]
        simp [hb]
      · cases h
    · cases h
  · cases h

/-! ### Slices -/

theorem bound_run {v v' : Option Value} {d most n : Nat} (h : bound v d most = some n) (hr : ∀ x, v = some x → ∃ x', v' = some x' ∧ VRel ρ x x') (hn : v = none → v' = none) :
    (v' = none ∧ n = d) ∨ (∃ k, v' = some (.int k (n : Int)) ∧ n ≤ most) := by
  unfold bound at h
  split at h
  · cases h; exact .inl ⟨hn rfl, rfl⟩
  · rename_i k m
    cases hb : Nat.ble m most with
    | false => simp [hb] at h
    | true =>
      simp [hb] at h
      subst h
      obtain ⟨x', e, hx⟩ := hr _ rfl
      exact .inr ⟨k, by rw [e, int_inv hx]; rfl, by rwa [Nat.ble_eq] at hb⟩
  · cases h

theorem sliceBound_run {k : IntKind} {n y : Nat} (c : BoundsCode) (h : n ≤ y) (w : World) : (Instr.sliceBound (.int k (n : Int)) y c).run P w = .ok n w := by
  unfold Instr.sliceBound
  simp only [asIntOf, Sem.run_bind, Sem.run_pure, Result.andThen_ok]
  simp [h]

/-- The three bounds, as they come out. -/
theorem sliceBounds_run {isS : Bool} {len cap m h l : Nat} {lo hi mx : Option Value}
    (h1 : (mx = none ∧ m = cap) ∨ (∃ k, mx = some (.int k (m : Int)) ∧ m ≤ cap))
    (h2 : (hi = none ∧ h = len ∧ mx = none) ∨ (∃ k, hi = some (.int k (h : Int)) ∧ h ≤ m))
    (h3 : (lo = none ∧ l = 0) ∨ (∃ k, lo = some (.int k (l : Int)) ∧ l ≤ h)) (w : World) :
    (Instr.sliceBounds isS len cap lo hi mx).run P w = .ok (l, h, m) w := by
  unfold Instr.sliceBounds
  rcases h1 with ⟨rfl, rfl⟩ | ⟨k1, rfl, hm⟩ <;> rcases h2 with ⟨rfl, rfl, e⟩ | ⟨k2, rfl, hh⟩ <;> rcases h3 with ⟨rfl, rfl⟩ | ⟨k3, rfl, hl⟩ <;>
    first
      | (cases e; done)
      | simp [sliceBound_run, *]

theorem opt_rel (hE : ∀ x v, operand T s x = some v → VRel ρ v (ev x)) {x : Option Operand} {v : Option Value} (h : opt T s x = some v) :
    (∀ u, v = some u → ∃ u', x.map ev = some u' ∧ VRel ρ u u') ∧ (v = none → x.map ev = none) := by
  cases x with
  | none => simp [opt] at h; subst h; simp
  | some y =>
    simp only [opt] at h
    split at h
    · cases h
    · rename_i u hu
      cases h
      exact ⟨fun _ e => by cases e; exact ⟨ev y, rfl, hE _ _ hu⟩, fun e => by cases e⟩

theorem growOf_get {a : Addr} {g : Bool} {t : TypeId} (h : growOf s a = some (g, t)) : ∃ c ro, s.heap.get a.block = some (.cells c t g ro) := by
  unfold growOf at h
  split at h
  · rename_i c t' g' ro hb
    cases h
    exact ⟨c, ro, hb⟩
  · cases h

theorem mx_hi {m hh m' h' : Option Value} {len l n : Nat} (hk : mxOk m hh = true) (hi1 : ∀ u, hh = some u → ∃ u', h' = some u' ∧ VRel ρ u u') (hi2 : hh = none → h' = none)
    (mx1 : ∀ u, m = some u → ∃ u', m' = some u' ∧ VRel ρ u u') (mx2 : m = none → m' = none)
    (b : (h' = none ∧ l = len) ∨ (∃ k, h' = some (.int k (l : Int)) ∧ l ≤ n)) : (h' = none ∧ l = len ∧ m' = none) ∨ (∃ k, h' = some (.int k (l : Int)) ∧ l ≤ n) := by
  rcases b with ⟨q1, q2⟩ | q
  · refine .inl ⟨q1, q2, ?_⟩
    cases hh with
    | some u => obtain ⟨u', e, -⟩ := hi1 u rfl; rw [e] at q1; cases q1
    | none => cases m with
      | some u => simp [mxOk] at hk
      | none => exact mx2 rfl
  · exact .inr q

theorem post_slice (H : HRel P B w0 ρ s w) (hE : ∀ x v, operand T s x = some v → VRel ρ v (ev x)) {t : TypeId} {x : Operand} {lo hi mx : Option Operand} (ho : o.op = .slice t x lo hi mx) {nx : ANext}
    (h : aOp P T s (.slice t x lo hi mx) = some nx) : Post P B w0 ρ s w ev o nx := by
  simp only [aOp] at h
  split at h
  · rename_i v l hh m hv hlo hhi hmx
    obtain ⟨lo1, lo2⟩ := opt_rel hE hlo
    obtain ⟨hi1, hi2⟩ := opt_rel hE hhi
    obtain ⟨mx1, mx2⟩ := opt_rel hE hmx
    cases hs : sliceV P s t v l hh m with
    | none => simp [hs] at h
    | some r =>
      simp [hs] at h
      subst h
      have hrun : (execOp ev o).run P w = ((Instr.sliceAt t (ev x) (lo.map ev) (hi.map ev) (mx.map ev)).run P w).andThen fun v w => .ok (.value v) w := by
        simp only [execOp, ho, Sem.run_bind, Sem.run_pure]
      unfold sliceV at hs
      split at hs
      · -- a string
        rename_i b hu
        split at hs
        · cases hs
        · split at hs
          · cases hs
          · rename_i h' hh'
            split at hs
            · cases hs
            · rename_i l' hl'
              cases hs
              have b2 := bound_run hh' hi1 hi2
              have b3 := bound_run hl' lo1 lo2
              have e0 := mx2 rfl
              refine ⟨_, ?_, .string _⟩
              rw [hrun, str_inv (hE _ _ hv), e0]
              simp only [Instr.sliceAt, Sem.run_bind, run_underlying hu, Result.andThen_ok, Instr.slice, Option.isSome_none, Bool.false_eq_true, if_false, Sem.run_pure]
              rw [sliceBounds_run (m := b.size) (.inl ⟨rfl, rfl⟩) (by rcases b2 with ⟨q1, q2⟩ | q; exact .inl ⟨q1, q2, rfl⟩; exact .inr q) b3]
              simp only [Result.andThen_ok]
              congr 3
              apply ByteArray.ext
              rw [ByteArray.data_extract]
              apply Array.ext'
              simp
      · -- nil
        rename_i e len cap hu
        split at hs
        · cases hs
        rename_i z hz
        cases hk : mxOk m hh with
        | false => simp [hk] at hs
        | true =>
          simp only [hk, cond_true] at hs
          split at hs
          · cases hs
          · rename_i m' hm'
            split at hs
            · cases hs
            · rename_i h' hh'
              split at hs
              · cases hs
              · rename_i l' hl'
                cases hs
                have b1 := bound_run hm' mx1 mx2
                have b2 := bound_run hh' hi1 hi2
                have b3 := bound_run hl' lo1 lo2
                have b2' := mx_hi hk hi1 hi2 mx1 mx2 b2
                refine ⟨_, ?_, .nilSlice _ _⟩
                rw [hrun, slice0_inv (hE _ _ hv)]
                simp only [Instr.sliceAt, Sem.run_bind, run_underlying hu, Result.andThen_ok, Instr.slice, Sem.run_pure]
                rw [sliceBounds_run b1 b2' b3]
                simp only [Result.andThen_ok, run_sizeB hz]
                congr 3
                split <;> rfl
      · rename_i e a len cap hu
        obtain ⟨a', cap', hx', hr⟩ := slice_inv (hE _ _ hv)
        split at hs
        · -- its room is known
          rename_i t' n hg hn
          obtain ⟨c, ro, hb⟩ := growOf_get hg
          obtain ⟨p1, p2, ee, p3, p4, p5⟩ := hr.known fun e he => (H.blk _ _ _ hb he).1
          have hge := (H.blk _ _ _ hb p3).1
          rcases p5 with ⟨q0, q1, q2⟩ | ⟨q0, -⟩
          case inr => rw [hge] at q0; cases q0
          subst q2
          cases hk : mxOk m hh with
          | false => simp [hk] at hs
          | true =>
            simp only [hk, cond_true] at hs
            split at hs
            · cases hs
            · rename_i m' hm'
              split at hs
              · cases hs
              · rename_i h' hh'
                split at hs
                · cases hs
                · rename_i l' hl'
                  cases hs
                  have b1 := bound_run hm' mx1 mx2
                  have b2 := bound_run hh' hi1 hi2
                  have b3 := bound_run hl' lo1 lo2
                  have b2' := mx_hi hk hi1 hi2 mx1 mx2 b2
                  refine ⟨.slice (some (if m' = l' then a' else a'.add (l' * n))) (h' - l') (m' - l'), ?_, .slice (.inl ?_)⟩
                  · rw [hrun, hx']
                    simp only [Instr.sliceAt, Sem.run_bind, run_underlying hu, Result.andThen_ok, Instr.slice, Sem.run_pure]
                    rw [sliceBounds_run b1 b2' b3]
                    simp only [Result.andThen_ok, run_sizeB hn]
                    congr 3
                    split <;> rfl
                  · by_cases hml : m' = l'
                    · subst hml
                      rw [if_pos rfl, Nat.beq_refl]
                      exact ⟨p1, p2, ee, p3, p4, .inl ⟨q0, q1, rfl⟩⟩
                    · rw [if_neg hml, beqF hml, cond_false, addr_eq p1, addr_eq p2, add_eq, add_eq]
                      exact ⟨rfl, rfl, ee, p3, p4, .inl ⟨q0, by simp only; omega, rfl⟩⟩
        · -- its room is open
          rename_i t' n hg hn
          obtain ⟨c, ro, hb⟩ := growOf_get hg
          rcases hr with hr | ⟨v1, v2, v3, ve, v4, v5⟩
          case inr =>
            subst v2; subst v3
            split at hs
            · rename_i n' hn'
              cases hnn : Nat.beq n n' with
              | false => simp [hnn] at hs
              | true =>
                simp only [hnn, cond_true] at hs
                split at hs
                · cases hs
                · rename_i h' hh'
                  split at hs
                  · cases hs
                  · rename_i l' hl'
                    cases hs
                    have e0 := mx2 rfl
                    have b2 := bound_run hh' hi1 hi2
                    have b3 := bound_run hl' lo1 lo2
                    have hle : h' ≤ 0 := by rcases b2 with ⟨-, q⟩ | ⟨-, -, q⟩ <;> omega
                    have hle2 : l' ≤ h' := by rcases b3 with ⟨-, q⟩ | ⟨-, -, q⟩ <;> omega
                    refine ⟨.slice (some (if 0 = l' then a' else a'.add (l' * n))) (h' - l') (0 - l'), ?_, .slice (.inr ⟨?_, by omega, by omega, ve, ?_, v5⟩)⟩
                    · rw [hrun, hx', e0]
                      simp only [Instr.sliceAt, Sem.run_bind, run_underlying hu, Result.andThen_ok, Instr.slice, Sem.run_pure]
                      rw [sliceBounds_run (m := 0) (.inl ⟨rfl, rfl⟩) (by rcases b2 with ⟨r1, r2⟩ | ⟨k, r1, r2⟩; exact .inl ⟨r1, r2, rfl⟩; exact .inr ⟨k, r1, by omega⟩) b3]
                      simp only [Result.andThen_ok, run_sizeB hn]
                      congr 3
                      split <;> rfl
                    · rw [addr_eq v1, add_eq]
                    · rw [addr_eq v1, add_eq]; exact v4
            · cases hs
          obtain ⟨p1, p2, ee, p3, p4, p5⟩ := hr
          obtain ⟨hge, rc, flo, fhi, t0, -, -, -, -, -, hes, -⟩ := H.blk _ _ _ hb p3
          rcases p5 with ⟨q0, -⟩ | ⟨q0, q1, q2, q3, q4⟩
          · rw [hge] at q0; cases q0
          split at hs
          · rename_i n' hn'
            cases hnn : Nat.beq n n' with
            | false => simp [hnn] at hs
            | true =>
              simp only [hnn, cond_true] at hs
              rw [Nat.beq_eq] at hnn
              subst hnn
              have hes' : ee.es = n := by
                unfold sizeB at hn'
                rw [hes] at hn'
                cases hn'; rfl
              split at hs
              · cases hs
              · rename_i h' hh'
                split at hs
                · cases hs
                · rename_i l' hl'
                  cases hs
                  have e0 := mx2 rfl
                  have b2 := bound_run hh' hi1 hi2
                  have b3 := bound_run hl' lo1 lo2
                  have hle : h' ≤ len := by rcases b2 with ⟨-, q⟩ | ⟨-, -, q⟩ <;> omega
                  have hle2 : l' ≤ h' := by rcases b3 with ⟨-, q⟩ | ⟨-, -, q⟩ <;> omega
                  refine ⟨.slice (some (if cap' = l' then a' else a'.add (l' * n))) (h' - l') (cap' - l'), ?_, .slice (.inl ?_)⟩
                  · rw [hrun, hx', e0]
                    simp only [Instr.sliceAt, Sem.run_bind, run_underlying hu, Result.andThen_ok, Instr.slice, Sem.run_pure]
                    rw [sliceBounds_run (m := cap') (.inl ⟨rfl, rfl⟩) (by rcases b2 with ⟨r1, r2⟩ | ⟨k, r1, r2⟩; exact .inl ⟨r1, r2, rfl⟩; exact .inr ⟨k, r1, by omega⟩) b3]
                    simp only [Result.andThen_ok, run_sizeB hn]
                    congr 3
                    split <;> rfl
                  · by_cases hml : cap' = l'
                    · rw [if_pos hml, addr_eq p1, add_eq]
                      refine ⟨rfl, p2, ee, p3, p4, .inr ⟨q0, by omega, q2, ?_, .inl (by omega)⟩⟩
                      rw [show cap' - l' = 0 from by omega, Nat.zero_mul]
                      have := Nat.zero_le (cap' * ee.es)
                      omega
                    · rw [if_neg hml, addr_eq p1, addr_eq p2, add_eq, add_eq]
                      have hlc : l' ≤ cap' := by omega
                      have hm : l' * n + (cap' - l') * ee.es = cap' * ee.es := by
                        rw [hes', ← Nat.add_mul, show l' + (cap' - l') = cap' from by omega]
                      refine ⟨rfl, rfl, ee, p3, p4, .inr ⟨q0, by omega, by simp only; omega, by simp only; omega, ?_⟩⟩
                      rcases q4 with q4 | q4
                      · left; omega
                      · right; simp only; omega
          · cases hs
        · cases hs
      · rename_i n e a hu
        obtain ⟨a', hx', hr⟩ := ptr_inv (hE _ _ hv)
        split at hs
        · rename_i t' z hg hz
          obtain ⟨c, ro, hb⟩ := growOf_get hg
          obtain ⟨p1, p2, ee, p3, p4, p5⟩ := hr
          have hge := (H.blk _ _ _ hb p3).1
          cases hk : mxOk m hh with
          | false => simp [hk] at hs
          | true =>
            simp only [hk, cond_true] at hs
            split at hs
            · cases hs
            · rename_i m' hm'
              split at hs
              · cases hs
              · rename_i h' hh'
                split at hs
                · cases hs
                · rename_i l' hl'
                  cases hs
                  have b1 := bound_run hm' mx1 mx2
                  have b2 := bound_run hh' hi1 hi2
                  have b3 := bound_run hl' lo1 lo2
                  have b2' := mx_hi hk hi1 hi2 mx1 mx2 b2
                  refine ⟨.slice (some (if m' = l' then a' else a'.add (l' * z))) (h' - l') (m' - l'), ?_, .slice (.inl ?_)⟩
                  · rw [hrun, hx']
                    simp only [Instr.sliceAt, Instr.sureAddr, Sem.run_bind, run_underlying hu, Result.andThen_ok, Sem.run_pure]
                    rw [sliceBounds_run b1 b2' b3]
                    simp only [Result.andThen_ok, run_sizeB hz]
                  · by_cases hml : m' = l'
                    · subst hml
                      rw [if_pos rfl, Nat.beq_refl]
                      exact ⟨p1, p2, ee, p3, p4, .inl ⟨hge, p5, rfl⟩⟩
                    · rw [if_neg hml, beqF hml, cond_false, addr_eq p1, addr_eq p2, add_eq, add_eq]
                      exact ⟨rfl, rfl, ee, p3, p4, .inl ⟨hge, by simp only; omega, rfl⟩⟩
        · cases hs
      · cases hs
  · cases h

end
end Go.Vf

import Derived.Test.YtneanogeebbjiaaDoorEngO
/- From a row's arguments to a state: rows of rows of bytes. -/
namespace Go.Vf
open Go.RowKit Go.ChangeShapes
set_option linter.unusedVariables false
set_option linter.unusedSimpArgs false
section
variable {H : Type} {enc : TypeId × Value → H} {P : Program} {W : World}

theorem cellsOf_one {u : TypeId} (hc : (P.info? u).map (·.size) = some 1) : P.cellsOf u = 1 := by unfold Program.cellsOf; rw [hc]; rfl

/-- Bytes that a cell reads. -/
theorem inner_bytes {e u : TypeId} (he : P.underlying e = some (.slice u)) (hu : P.underlying u = some (.int .u8)) (hc : (P.info? u).map (·.size) = some 1) {fuel : Nat} {v : Value} {x : DataW H × List MemPlace}
    (h : DataW.trod enc P W 0 (fun _ => true) true fuel e [v] = some x) (hnf : ∀ b off, MemPlace.cell b off ∈ x.2 → W.frozen? ⟨b, off, none⟩ = false) {ed : RE} (hd : GoodB P W ed (.cells [] u true true)) (id : Nat) :
    ∃ (ba : Option Addr) (n : Nat) (l : List UInt8) (e1 : RE) (b1 : ABlk), GoodB P W e1 b1 ∧ (∀ ρ : Ren, ρ id = some e1 → VRel ρ (.slice ba n 0) v) ∧ ∀ s : SS, lookH s.heap id = some b1 → id < s.next → Arg P s ba n l := by
  rcases open_ints he hu (cellsOf_one hc) h with ⟨e1, e2⟩ | ⟨a, len, cap, zs, e1, e2, e3, e4, e5, e6, e7, e8⟩
  · cases e1
    exact ⟨none, 0, [], ed, _, hd, fun ρ _ => .nilSlice 0 0, fun s _ _ => ⟨⟨rfl, rfl⟩, trivial⟩⟩
  · cases e1
    simp only [if_true] at e5
    rcases Nat.eq_zero_or_pos cap with h0 | h0
    · obtain rfl : cap = 0 := h0
      obtain rfl : len = 0 := by omega
      refine ⟨some ⟨id, 0, none⟩, 0, [], ed, _, hd, fun ρ hρ => .slice (.inr ⟨rfl, rfl, rfl, ed, hρ, (hd.1 ρ).1⟩), fun s hs hn => ⟨⟨rfl, rfl, hn, _, _, _, _, hs, rfl, rfl⟩, _, _, _, hs, hc⟩⟩
    · obtain ⟨b, off, sp⟩ := a
      have c0 := e7 0 (by omega)
      rw [show (⟨b, off, sp⟩ : Addr).add 0 = ⟨b, off, sp⟩ from rfl] at c0
      have hsp : sp = none := by
        unfold World.cell? at c0
        split at c0
        · split at c0
          · cases c0
          · rename_i hs
            cases sp <;> simp at hs ⊢
        · cases c0
      subst hsp
      cases hb : W.heap[b]? with
      | none => simp [World.cell?, hb] at c0
      | some o =>
        cases o with
        | cells rc T0 fr =>
          obtain ⟨rc⟩ := rc
          obtain ⟨lo, hi⟩ := fr
          have hbs : b < W.heap.size := (Array.getElem?_eq_some_iff.1 hb).1
          have cell : ∀ i, i < zs.length → rc[off + i]? = some (.int .u8 (zs.getD i 0)) := by
            intro i hi
            have := e7 i hi
            rw [add_eq, cell_at hb] at this
            exact this
          have hroom : off + cap ≤ rc.length := by
            have := cell (cap - 1) (by omega)
            have := (List.getElem?_eq_some_iff.1 this).1
            omega
          have hwf : ∀ z ∈ zs.take len, (Lit.int .u8 z).wf = true := fun z hz => e8 z (List.mem_of_mem_take hz)
          have hB : ∀ ρ, BRel P ρ W ⟨b, off, cap, 1, true⟩ (.cells ((zs.take len).map fun z => .int .u8 z) u true true) := by
            intro ρ
            refine ⟨rfl, rc, lo, hi, T0, hb, (fun z => by cases z), fun i hi' hc2 => ?_, hroom, by simp; omega, hc, fun i v hv => ?_⟩
            · have hi2 : i < cap := hi'
              have hc3 : lo ≤ off + i ∧ off + i < hi := hc2
              have hin : MemPlace.cell b (off + i) ∈ x.2 := by
                rw [e6]
                exact List.mem_map.2 ⟨i, List.mem_range.2 (by omega), rfl⟩
              have := hnf b (off + i) hin
              simp only [World.frozen?, hb] at this
              simp at this
              omega
            · have hil : i < len := by
                have := (List.getElem?_eq_some_iff.1 hv).1
                simp at this; omega
              simp only [List.getElem?_map, List.getElem?_take, if_pos hil] at hv
              refine ⟨_, cell i (by omega), ?_⟩
              cases hz : zs[i]? with
              | none => rw [hz] at hv; cases hv
              | some z =>
                rw [hz] at hv; cases hv
                rw [List.getD, hz]
                exact .int _ _
          rw [ints_bytes hwf] at hB
          have hlen : ((zs.take len).map fun z => UInt8.ofNat z.toNat).length = len := by simp; omega
          refine ⟨some ⟨id, 0, none⟩, len, (zs.take len).map fun z => UInt8.ofNat z.toNat, _, _, ⟨hB, rfl, hbs⟩, fun ρ hρ => .slice (.inl ⟨rfl, rfl, _, hρ, rfl, .inr ⟨rfl, e3, Nat.le_refl _, by simp, .inr rfl⟩⟩), fun s hs hn => ?_⟩
          refine ⟨⟨hlen.symm, rfl, hn, _, _, _, _, hs, ?_, bytesV_plain _⟩, _, _, _, hs, hc⟩
          rw [takeN_bytes (by rw [hlen]; omega), List.drop_zero, List.take_of_length_le (by rw [hlen]; omega)]
        | _ => simp [World.cell?, hb] at c0

/-- A row of rows of bytes that is handed in. -/
theorem arg_rows {t e u : TypeId} {v : Value} {d : DataW H} {ps : List MemPlace} {base : Nat} (ht : P.underlying t = some (.slice e)) (he : P.underlying e = some (.slice u)) (hu : P.underlying u = some (.int .u8))
    (hce : (P.info? e).map (·.size) = some 1) (hcu : (P.info? u).map (·.size) = some 1) (hok : Value.okWide P W .any base t v) (h : DataW.Trod enc P W 0 (fun _ => true) true t v d ps)
    (hnf : ∀ b off, MemPlace.cell b off ∈ ps → W.frozen? ⟨b, off, none⟩ = false) (id : Nat) :
    v = .slice none 0 0 ∨ ∃ (rows : List (Option Addr × Nat × List UInt8)) (eo : RE) (xs : List (RE × ABlk)), xs.length = rows.length ∧
      (∀ ρ : Ren, ρ id = some eo → VRel ρ (.slice (some ⟨id, 0, none⟩) rows.length 0) v) ∧
      (∀ ρ : Ren, (∀ i x, xs[i]? = some x → ρ (id + 1 + i) = some x.1) → BRel P ρ W eo (.cells (rows.map fun r => .slice r.1 r.2.1 0) e true true)) ∧ eo.blk < W.heap.size ∧
      (∀ (i : Nat) x, xs[i]? = some x → GoodB P W x.1 x.2) ∧
      (∀ (i : Nat) x r, xs[i]? = some x → rows[i]? = some r → ∀ s : SS, lookH s.heap (id + 1 + i) = some x.2 → id + 1 + i < s.next → Arg P s r.1 r.2.1 r.2.2) := by
  obtain ⟨fuel, h⟩ := h
  have hcell : Cell.ok P W .any base t v := by
    unfold Value.okWide at hok
    rw [ht] at hok
    simp only [Cell.okWide, ht] at hok
    exact hok
  unfold Cell.ok at hcell
  rw [ht] at hcell
  split at hcell <;> first
    | (rename_i q; simp at q; done)
    | exact hcell.elim
    | skip
  · left; rfl
  rename_i e' a len cap q
  cases q
  right
  obtain ⟨h1, h2, h3, h4, row, cells, h5, h6⟩ := hcell
  rcases DataW.trod_slice ht h with ⟨e1, -⟩ | ⟨a', len', cap', elems, rest, m, rfl, e1, e2, e3, e4, e5, e6, e7, e8, -⟩
  · simp [Value.cells] at e1
  simp [Value.cells] at e1
  obtain ⟨rfl, rfl, rfl⟩ := e1
  obtain ⟨b, off, sp⟩ := a
  simp only at h4
  subst h4
  have c1 := cellsOf_one hce
  cases hb : W.heap[b]? with
  | none => simp [World.shape?, hb] at h5
  | some o =>
    cases o with
    | cells rc T0 fr =>
      obtain ⟨rc⟩ := rc
      obtain ⟨lo, hi⟩ := fr
      have hbs : b < W.heap.size := (Array.getElem?_eq_some_iff.1 hb).1
      have hcells : rc.length = cells ∧ T0 = row := by
        simp only [World.shape?, hb, Option.some.injEq, Prod.mk.injEq] at h5
        exact ⟨by have := h5.2; simpa using this, h5.1⟩
      have hoff : off ≤ rc.length := by
        have h6' : off ≤ cells / P.cellsOf row * P.cellsOf row := liesAt_off h6
        have hle := Nat.div_mul_le_self cells (P.cellsOf row)
        omega
      have hrest := e8 rfl
      -- each cell of the row
      have cell : ∀ i, i < cap → ∃ v' y, rc[off + i]? = some v' ∧ DataW.trod enc P W 0 (fun _ => true) true m e [v'] = some y ∧ ∀ z ∈ y.2, z ∈ ps := by
        intro i hi
        have hx : ∃ y, (W.cells? 0 ((⟨b, off, none⟩ : Addr).add (i * P.cellsOf e)) (P.cellsOf e)).bind (DataW.trod enc P W 0 (fun _ => true) true m e) = some y ∧ y ∈ elems ++ rest := by
          by_cases hl : i < len
          · have := e7 i hl
            rw [List.getElem?_eq_getElem (by omega)] at this
            exact ⟨_, this, List.mem_append_left _ (List.getElem_mem _)⟩
          · have := hrest.2 (i - len) (by omega)
            rw [show len + (i - len) = i from by omega, List.getElem?_eq_getElem (by rw [hrest.1]; omega)] at this
            exact ⟨_, this, List.mem_append_right _ (List.getElem_mem _)⟩
        obtain ⟨y, hy, hm⟩ := hx
        rw [c1, Nat.mul_one, Option.bind_eq_some_iff] at hy
        obtain ⟨cs, hcs, hy⟩ := hy
        have hsz := (World.cells?_some hcs)
        obtain ⟨v', rfl⟩ : ∃ v', cs = [v'] := by
          have : cs.length = 1 := hsz.2.1
          match cs, this with
          | [v'], _ => exact ⟨v', rfl⟩
        have hc := cell_of_cells?_one hcs
        rw [add_eq, cell_at hb] at hc
        refine ⟨v', y, hc, hy, fun z hz => ?_⟩
        have := congrArg Prod.snd e2
        simp only at this
        rw [this]
        exact List.mem_append_right _ (List.mem_flatMap.2 ⟨y, hm, hz⟩)
      have hroom : off + cap ≤ rc.length := by
        rcases Nat.eq_zero_or_pos cap with q | q
        · omega
        · obtain ⟨v', y, hv', -⟩ := cell (cap - 1) (by omega)
          have := (List.getElem?_eq_some_iff.1 hv').1
          omega
      have hd : GoodB P W ⟨b, off, 0, 1, true⟩ (.cells [] u true true) :=
        ⟨fun ρ => ⟨rfl, rc, lo, hi, T0, hb, (fun z => by cases z), (fun i hi' => absurd hi' (Nat.not_lt_zero i)), by show off + 0 ≤ rc.length; omega, Nat.le_refl _, hcu, fun i v hv => by simp at hv⟩, rfl, hbs⟩
      have key : ∀ i : Nat, ∃ q : (Option Addr × Nat × List UInt8) × (RE × ABlk), i < cap → GoodB P W q.2.1 q.2.2 ∧ (∃ v', rc[off + i]? = some v' ∧ ∀ ρ : Ren, ρ (id + 1 + i) = some q.2.1 → VRel ρ (.slice q.1.1 q.1.2.1 0) v') ∧
          ∀ s : SS, lookH s.heap (id + 1 + i) = some q.2.2 → id + 1 + i < s.next → Arg P s q.1.1 q.1.2.1 q.1.2.2 := by
        intro i
        by_cases hi : i < cap
        · obtain ⟨v', y, hv', hy, hps⟩ := cell i hi
          obtain ⟨ba, n, l, e1, b1, g1, g2, g3⟩ := inner_bytes he hu hcu hy (fun b off hbo => hnf b off (hps _ hbo)) hd (id + 1 + i)
          exact ⟨((ba, n, l), (e1, b1)), fun _ => ⟨g1, ⟨v', hv', g2⟩, g3⟩⟩
        · exact ⟨((none, 0, []), (⟨b, off, 0, 1, true⟩, .cells [] u true true)), fun q => absurd q hi⟩
      obtain ⟨F, hF⟩ := Classical.axiomOfChoice key
      have gr : ∀ i r, ((List.range len).map fun i => (F i).1)[i]? = some r → i < len ∧ r = (F i).1 := by
        intro i r hr
        rw [List.getElem?_map] at hr
        by_cases hi : i < len
        · rw [List.getElem?_range hi] at hr; cases hr; exact ⟨hi, rfl⟩
        · rw [List.getElem?_eq_none (by simpa using hi)] at hr; cases hr
      have gx : ∀ i x, ((List.range len).map fun i => (F i).2)[i]? = some x → i < len ∧ x = (F i).2 := by
        intro i x hx
        rw [List.getElem?_map] at hx
        by_cases hi : i < len
        · rw [List.getElem?_range hi] at hx; cases hx; exact ⟨hi, rfl⟩
        · rw [List.getElem?_eq_none (by simpa using hi)] at hx; cases hx
      refine ⟨(List.range len).map fun i => (F i).1, ⟨b, off, cap, 1, true⟩, (List.range len).map fun i => (F i).2, by simp, fun ρ hρ => ?_, fun ρ hρ => ?_, hbs, fun i x hx => ?_, fun i x r hx hr => ?_⟩
      · rw [List.length_map, List.length_range]
        exact .slice (.inl ⟨rfl, rfl, _, hρ, rfl, .inr ⟨rfl, h1, Nat.le_refl _, by simp, .inr rfl⟩⟩)
      · refine ⟨rfl, rc, lo, hi, T0, hb, (fun z => by cases z), fun i hi' hc2 => ?_, hroom, by simpa using h1, hce, fun i v hv => ?_⟩
        · have hi2 : i < cap := hi'
          have hc3 : lo ≤ off + i ∧ off + i < hi := hc2
          have hin : MemPlace.cell b (off + i) ∈ ps := by
            have := congrArg Prod.snd e2
            simp only at this
            rw [this]
            refine List.mem_append_left _ (List.mem_map.2 ⟨i, List.mem_range.2 ?_, rfl⟩)
            rw [c1, Nat.mul_one, e6, hrest.1]
            omega
          have := hnf b (off + i) hin
          simp only [World.frozen?, hb] at this
          simp at this
          omega
        · rw [List.getElem?_map] at hv
          cases hr : ((List.range len).map fun i => (F i).1)[i]? with
          | none => rw [hr] at hv; cases hv
          | some r =>
            rw [hr] at hv
            cases hv
            obtain ⟨hi', rfl⟩ := gr i r hr
            obtain ⟨-, ⟨v', hv', hrel⟩, -⟩ := hF i (by omega)
            refine ⟨v', hv', hrel ρ (hρ i (F i).2 ?_)⟩
            rw [List.getElem?_map, List.getElem?_range hi']; rfl
      · obtain ⟨hi, rfl⟩ := gx i x hx
        exact (hF i (by omega)).1
      · obtain ⟨hi, rfl⟩ := gx i x hx
        obtain ⟨_, rfl⟩ := gr i r hr
        exact (hF i (by omega)).2.2
    | _ => simp [World.shape?, hb] at h5
end
end Go.Vf

import Derived.Test.YtneanogeebbjiaaDoorEngY
/- From a row's arguments to a state. -/
namespace Go.Vf
open Go.RowKit Go.ChangeShapes
set_option linter.unusedVariables false
set_option linter.unusedSimpArgs false
section
variable {H : Type} {enc : TypeId × Value → H} {P : Program} {W : World}

/-- A block that a start may have. -/
def GoodB (P : Program) (W : World) (e : RE) (b : ABlk) : Prop := (∀ ρ, BRel P ρ W e b) ∧ b.ro = true ∧ e.blk < W.heap.size

theorem ints_bytes : ∀ {zs : List Int}, (∀ z ∈ zs, (Lit.int .u8 z).wf = true) → (zs.map fun z => Value.int .u8 z) = bytesV (zs.map fun z => UInt8.ofNat z.toNat)
  | [], _ => rfl
  | z :: r, h => by
    have hz : 0 ≤ z ∧ z ≤ 255 := by have := h z (List.mem_cons_self ..); simpa [Lit.wf, IntKind.min, IntKind.max, IntKind.signed, IntKind.bits] using this
    have ih := ints_bytes (zs := r) fun y hy => h y (List.mem_cons_of_mem _ hy)
    simp only [List.map_cons, ih, bytesV]
    congr 2
    simp
    omega

/-- A row of bytes that is handed in. -/
theorem arg_bytes {t e : TypeId} {v : Value} {d : DataW H} {ps : List MemPlace} {base : Nat} (ht : P.underlying t = some (.slice e)) (he : P.underlying e = some (.int .u8)) (hc : (P.info? e).map (·.size) = some 1)
    (hok : Value.okWide P W .any base t v) (h : DataW.Trod enc P W 0 (fun _ => true) true t v d ps) (hnf : ∀ b off, MemPlace.cell b off ∈ ps → W.frozen? ⟨b, off, none⟩ = false) {e0 : RE} {b0 : ABlk} (h0 : GoodB P W e0 b0) (id : Nat) :
    ∃ (ba : Option Addr) (n : Nat) (l : List UInt8) (e1 : RE) (b1 : ABlk), GoodB P W e1 b1 ∧ (∀ ρ : Ren, ρ id = some e1 → VRel ρ (.slice ba n 0) v) ∧ ∀ s : SS, lookH s.heap id = some b1 → id < s.next → Arg P s ba n l := by
  rcases open_slice ht he hc hok h hnf with rfl | ⟨b, off, n, cap, zs, rfl, h1, h2, h3, h4, h5⟩
  · exact ⟨none, 0, [], e0, b0, h0, fun ρ _ => .nilSlice 0 0, fun s _ _ => ⟨⟨rfl, rfl⟩, trivial⟩⟩
  · have hb := ints_bytes h4
    refine ⟨some ⟨id, 0, none⟩, n, zs.map fun z => UInt8.ofNat z.toNat, _, _, ⟨h5, rfl, h3⟩, fun ρ hρ => .slice (.inl ⟨rfl, rfl, _, hρ, rfl, .inr ⟨rfl, h1, Nat.le_refl _, by simp, .inr rfl⟩⟩), fun s hs hn => ?_⟩
    rw [hb] at hs
    refine ⟨⟨by simp [h2], rfl, hn, _, _, _, _, hs, ?_, bytesV_plain _⟩, _, _, _, hs, hc⟩
    rw [takeN_bytes (by simp [h2]), List.drop_zero, List.take_of_length_le (by simp [h2])]

theorem u32_of_wf {z : Int} (h : (Lit.int .u32 z).wf = true) : ∃ y : BitVec 32, z = (y.toNat : Int) := bv32_of (by simpa [Lit.wf, IntKind.min, IntKind.max, IntKind.signed, IntKind.bits] using h)

/-- What was handed in reads as it did. -/
theorem all_stays {W' : World} (hl : laidOutB P = true) (hb : Below W.heap.size W W') {sp : Nat → Bool} : ∀ {ts : List TypeId} {vs : List Value} {ds : List (DataW H)} {ps : List MemPlace}, (ts.all fun t => P.readableRec t && decide (t < P.types.size)) = true →
    DataW.TrodAll enc P W 0 (fun _ => true) true ts vs ds ps → (∀ p ∈ ps, sp p.block = true) → (∀ p ∈ ps, p.block < W.heap.size) → DataW.TrodAll enc P W' 0 sp true ts vs ds ps
  | [], [], [], _, _, h, _, _ => h
  | t :: ts, v :: vs, d :: ds, ps, ht, h, hs, hlt => by
    obtain ⟨p, q, h1, h2, rfl⟩ := h
    simp only [List.all_cons, Bool.and_eq_true, decide_eq_true_eq] at ht
    exact ⟨p, q, WideElems.Trod_stays hl ht.1.1 ht.1.2 h1 (fun x hx => hb.same (hlt x (by simp [hx]))) (fun x hx => hs x (by simp [hx])),
      all_stays hl hb ht.2 h2 (fun x hx => hs x (by simp [hx])) (fun x hx => hlt x (by simp [hx])), rfl⟩
  | [], _ :: _, _, _, _, h, _, _ => h.elim
  | [], [], _ :: _, _, _, h, _, _ => h.elim
  | _ :: _, [], _, _, _, h, _, _ => h.elim
  | _ :: _, _ :: _, [], _, _, h, _, _ => h.elim
end
end Go.Vf

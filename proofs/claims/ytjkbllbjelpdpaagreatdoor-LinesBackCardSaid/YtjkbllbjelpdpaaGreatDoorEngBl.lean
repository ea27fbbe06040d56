import Derived.Test.YtjkbllbjelpdpaaGreatDoorEngBe
import Derived.Shelf.Strings.Builder1
/- The machine of plain blocks: a strings.Builder: its first writing, and the text that is read of it. -/
namespace Go.Vf
open Go.RowKit
set_option linter.unusedVariables false
set_option linter.unusedSimpArgs false

/-- A block that is not spoken of any more, turned. -/
theorem HRel.kill {P : Program} {B : Nat} {w0 : World} {ρ : Ren} {s s' : ASt} {w w' : World} (H : HRel P B w0 ρ s w) {id : Nat} {b : ABlk} {e : RE}
    (hid : ρ id = some e) (hb : s.heap.get id = some b) (hro : b.ro = false) (hget : ∀ i, s'.heap.get i = if i = id then none else s.heap.get i) (hgl : s'.gl = s.gl)
    (hsz : w'.heap.size = w.heap.size) (hold : ∀ k, k ≠ e.blk → w'.heap[k]? = w.heap[k]?) (hos : w'.os = w.os) (htape : w'.tape = w.tape) (hout : w'.output = w.output) : HRel P B w0 ρ s' w' := by
  have hB : B ≤ e.blk := H.own _ _ _ hb hid hro
  have at_ : ∀ i x, s'.heap.get i = some x → i ≠ id ∧ s.heap.get i = some x := by
    intro i x hx
    rw [hget] at hx
    by_cases hi : i = id
    · rw [if_pos hi] at hx; cases hx
    · rw [if_neg hi] at hx; exact ⟨hi, hx⟩
  refine { below := ?_, base := H.base, books := ?_, blk := ?_, own := ?_, inj := ?_, lt := ?_, glob := ?_ }
  · exact H.below.trans ⟨hos, htape, hout, by omega, fun k hk => hold k (by omega)⟩
  · exact H.books.trans fun k hk => (hold k fun q => (H.blk id b e hb hid).noBook (q ▸ hk)).trans hk
  · intro i x y hx hy
    obtain ⟨hi, hx'⟩ := at_ i x hx
    refine (H.blk i x y hx' hy).mono (.refl _) (hold _ ?_)
    exact H.inj i id x b y e hx' hb hy hid hro hi
  · intro i x y hx hy hr; exact H.own i x y (at_ i x hx).2 hy hr
  · intro i j b1 b2 e1 e2 h1 h2 h3 h4 h6 hne
    exact H.inj i j b1 b2 e1 e2 (at_ i b1 h1).2 (at_ j b2 h2).2 h3 h4 h6 hne
  · intro i x hx; rw [hsz]; exact H.lt _ _ hx
  · intro g hg; exact H.glob g (hgl ▸ hg)

theorem lies_self {P : Program} {e : TypeId} {c : Nat} (hc : P.cellsOf e = c + 1) (count : Nat) (h : 1 ≤ count) : liesAt P P.depth e count 0 e 1 = true := by
  have hd : P.depth = (2 * (P.types.size + Made.depth) + 1) + 1 := rfl
  rw [hd]
  simp only [liesAt, Bool.or_eq_true]
  left
  rw [hd]
  simp [rowAt, hc, h, sameLayout]
theorem lies_bytes {P : Program} {e : TypeId} (hc : P.cellsOf e = 1) (count off n : Nat) (hn : off + n ≤ count) : liesAt P P.depth e count off e n = true := by
  have hd : P.depth = (2 * (P.types.size + Made.depth) + 1) + 1 := rfl
  rw [hd]
  simp only [liesAt, Bool.or_eq_true]
  left
  rw [hd]
  simp [rowAt, hc, hn, sameLayout, Nat.mod_one]

/-- The bytes at an address are read as a text, and lie fast from then on. -/
theorem run_strAt {P : Program} {w : World} {pt it ty e : TypeId} (hp : P.underlying pt = some (.pointer e)) (hc : P.cellsOf e = 1) (g off cells : Nat) (hsh : w.shape? g = some (e, cells)) (l : List UInt8) (h0 : l ≠ []) (hn : off + l.length ≤ cells) (h63 : l.length ≤ 1073741824)
    (hcell : ∀ j x, l[j]? = some x → w.cell? ((⟨g, off, none⟩ : Addr).add j) = some (.int .u8 x.toNat)) :
    (Builtin.unsafeString_ #[pt, it] ty #[.pointer (some ⟨g, off, none⟩), .int .i64 l.length]).run P w = .ok (.string ⟨l.toArray⟩) (w.freeze ⟨g, off, none⟩ l.length) := by
  have hl : l.length ≠ 0 := by simpa using h0
  have hlb := Lib.run_loadBytes (P := P) w l ⟨g, off, none⟩ .empty hcell
  have hlies := lies_bytes (P := P) hc (cells / P.cellsOf e) off l.length (by rw [hc]; simpa using hn)
  have hmax : IntKind.i64.max = 9223372036854775807 := rfl
  have h63' : ¬ (9223372036854775807 : Int) < (l.length : Int) := by omega
  have hneg : ¬ (l.length : Int) < 0 := by omega
  change Sem.run P (asInt (.int .i64 (l.length : Int)) >>= _) w = _
  simp [asInt, asIntOf, hmax, h63', hneg, hl, variablesAt, hsh, elemOf, run_underlying hp, hlies, hlb]

section
open Go.Shelf Go.Proofs
variable {P : Program} {κ : Go.Shelf.Ren}

set_option maxHeartbeats 1000000 in
set_option maxRecDepth 100000 in
theorem cc_first (L : Lays.n240 P κ) (X : Builder.X72 P κ) {c : Nat} (hc : P.cellsOf (κ.t 72) = c + 1) (b n : Nat) (w : World) (h0 : w.cell? ⟨b, 0, none⟩ = some (.pointer none)) (hsh : w.shape? b = some (κ.t 72, n)) (hn : c + 1 ≤ n) (hfz : w.frozen? ⟨b, 0, none⟩ = false) :
    Calls P (κ.f 240) #[.pointer (some ⟨b, 0, none⟩)] w fun e w' => e = .returned (.tuple #[]) ∧ w' = w.setCell ⟨b, 0, none⟩ (.pointer (some ⟨b, 0, none⟩)) := by
  obtain ⟨j, hj, hjs⟩ := Option.map_eq_some_iff.1 X.sizeBuilder
  have hlies : liesAt P P.depth (κ.t 72) (n / P.cellsOf (κ.t 72)) 0 (κ.t 72) 1 = true := lies_self hc _ (by rw [hc]; exact (Nat.le_div_iff_mul_le (Nat.succ_pos c)).2 (by omega))
  have mixed := L.mixed
  have t72 := L.t72; have a72 := L.a72; have z72 := L.z72; have v72 := L.v72; have u72 := run_underlying L.t72
  have t70 := L.t70; have a70 := L.a70; have z70 := L.z70; have v70 := L.v70; have u70 := run_underlying L.t70
  have t9 := L.t9; have a9 := L.a9; have z9 := L.z9; have v9 := L.v9; have u9 := run_underlying L.t9
  have t4 := L.t4; have a4 := L.a4; have z4 := L.z4; have v4 := L.v4; have u4 := run_underlying L.t4
  have t164 := L.t164; have a164 := L.a164; have z164 := L.z164; have v164 := L.v164; have u164 := run_underlying L.t164
  go_enter L.f240, Body.n240_ntmps κ
  go_wp2
  rw [Lib.run_to_unsafe w ⟨b, 0, none⟩ L.t70 L.t164 hj (by rw [hjs]; decide) hsh (show 0 < n by omega)]
  simp only [Result.andThen]
  rw [Oper.upon_value]
  go_wp2
  rw [run_callFunc_extern L.f276 (by kernel_rfl) (by kernel_rfl) (by kernel_rfl) (e := Extern.AbiNoEscape.same) (by kernel_rfl), Lib.run_noEscape]
  simp only [Result.andThen]
  rw [Oper.upon_value]
  go_wp2
  rw [Lib.run_from_unsafe w ⟨b, 0, none⟩ L.t164 L.t70 hj hsh hlies]
  simp only [Result.andThen]
  rw [Oper.upon_value]
  go_wp2
  go_end0
  exact ⟨rfl, rfl⟩

set_option maxHeartbeats 2000000 in
set_option maxRecDepth 100000 in
theorem str_first (L : Lays.n169 P κ) (X : Builder.Extra P κ) (b : Nat) (w : World) (r : Value) (w1 : World) (q : Option Addr) (m c : Nat) (c1 : w.drew.cell? ⟨b, 1, none⟩ = some (.slice q m c))
    (p : Option Addr) (hSD : (Builtin.unsafeSliceData_ #[(κ.t 37)] (κ.t 127) #[.slice q m c]).run P w.drew = .ok (.pointer p) w.drew)
    (hUS : (Builtin.unsafeString_ #[(κ.t 127), (κ.t 3)] (κ.t 9) #[.pointer p, .int .i64 m]).run P w.drew = .ok r w1) :
    Calls P (κ.f 169) #[.pointer (some ⟨b, 0, none⟩)] w fun e w' => e = .returned r ∧ w' = w1 := by
  have mixed := L.mixed
  have t72 := L.t72; have a72 := L.a72; have z72 := L.z72; have v72 := L.v72; have u72 := run_underlying L.t72
  have t70 := L.t70; have a70 := L.a70; have z70 := L.z70; have v70 := L.v70; have u70 := run_underlying L.t70
  have t37 := L.t37; have a37 := L.a37; have z37 := L.z37; have v37 := L.v37; have u37 := run_underlying L.t37
  have t127 := L.t127; have a127 := L.a127; have z127 := L.z127; have v127 := L.v127; have u127 := run_underlying L.t127
  have t3 := L.t3; have a3 := L.a3; have z3 := L.z3; have v3 := L.v3; have u3 := run_underlying L.t3
  have t9 := L.t9; have a9 := L.a9; have z9 := L.z9; have v9 := L.v9; have u9 := run_underlying L.t9
  have t5 := X.t5; have a5 := X.a5; have z5 := X.z5; have v5 := X.v5; have u5 := run_underlying X.t5
  go_enter L.f169, Body.n169_ntmps κ
  go_wp2
  go_region_o
  all_goals (go_wp2; go_ret; exact ⟨rfl, rfl⟩)
end
end Go.Vf

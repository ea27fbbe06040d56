import Derived.Test.YtfccipbogdmbnaaDoorSmO
import Derived.Test.YtfccipbogdmbnaaDoorEngBf
/- The chapter's examples, known dates, what is none: the law, from any state. -/
namespace Go.Vf.S
open Go Go.Vf Go.Proofs
attribute [local irreducible] wSeq wRow wp wG
set_option linter.unusedVariables false
set_option linter.unusedSimpArgs false
set_option maxRecDepth 10000

theorem umS1 : pr.underlying 45 = some (.map 2 tS) := by kernel_rfl
theorem umS2 : pr.underlying 46 = some (.map tS 27) := by kernel_rfl
theorem un_I : pr.underlying 2 = some (.int .i64) := by kernel_rfl
def intOf : Value → Int
  | .int .i64 n => n
  | _ => -1
def isI64 : Value → Bool
  | .int .i64 _ => true
  | _ => false
/-- A new key, a number. -/
theorem insert_absI {T : TL} {s : SS} {K : Value → SS → Prop} {t kt et : TypeId} {m key val : Operand} {id clock : Nat} {es : List MapEntry} {n : Int} {v : Value} (hc : (okC m && okC key && okC val) = true) (hm : pr.underlying t = some (.map kt et)) (hd : pr.underlying kt = some (.int .i64))
    (hx : opd T s.gl m = some (.map (some id))) (hy : opd T s.gl key = some (.int .i64 n)) (hz : opd T s.gl val = some v) (hb : lookH s.heap id = some (.map es clock)) (hlt : id < s.next) (hks : (es.all fun x => isI64 x.key) = true) (hnew : (es.all fun x => decide (intOf x.key ≠ n)) = true)
    (h : ∀ s' : SS, lookH s'.heap id = some (.map (es ++ [⟨.int .i64 n, v, clock⟩]) (clock + 1)) → Chg s s' [id] → s'.next = s.next → K (.tuple #[]) s') : OpW pr (.insert t m key val) T s K :=
  insert_W hc hm hd hx hy hz rfl hb (fun x hx => by
    have := List.all_eq_true.1 hks x hx
    cases hk : x.key with
    | int k z => cases k <;> rw [hk] at this <;> first | exact rfl | cases this
    | _ => rw [hk] at this; cases this) (fun x hx e => by
    have := List.all_eq_true.1 hnew x hx
    rw [e] at this
    simp [intOf] at this) (h _ lkH (.turn hlt) rfl)
def esT : List MapEntry := [⟨.int .i64 0, str [84, 104, 117, 44, 32, 48, 49, 32, 74, 97, 110, 32, 49, 57, 55, 48, 32, 48, 48, 58, 48, 48, 58, 48, 48, 32, 43, 48, 48, 48, 48], 0⟩, ⟨.int .i64 59, str [84, 104, 117, 44, 32, 48, 49, 32, 74, 97, 110, 32, 49, 57, 55, 48, 32, 48, 48, 58, 48, 48, 58, 53, 57, 32, 43, 48, 48, 48, 48], 1⟩, ⟨.int .i64 86399, str [84, 104, 117, 44, 32, 48, 49, 32, 74, 97, 110, 32, 49, 57, 55, 48, 32, 50, 51, 58, 53, 57, 58, 53, 57, 32, 43, 48, 48, 48, 48], 2⟩, ⟨.int .i64 68169600, str [84, 117, 101, 44, 32, 50, 57, 32, 70, 101, 98, 32, 49, 57, 55, 50, 32, 48, 48, 58, 48, 48, 58, 48, 48, 32, 43, 48, 48, 48, 48], 3⟩, ⟨.int .i64 1000000000, str [83, 117, 110, 44, 32, 48, 57, 32, 83, 101, 112, 32, 50, 48, 48, 49, 32, 48, 49, 58, 52, 54, 58, 52, 48, 32, 43, 48, 48, 48, 48], 4⟩, ⟨.int .i64 4107542400, str [77, 111, 110, 44, 32, 48, 49, 32, 77, 97, 114, 32, 50, 49, 48, 48, 32, 48, 48, 58, 48, 48, 58, 48, 48, 32, 43, 48, 48, 48, 48], 5⟩, ⟨.int .i64 1234567890, str [70, 114, 105, 44, 32, 49, 51, 32, 70, 101, 98, 32, 50, 48, 48, 57, 32, 50, 51, 58, 51, 49, 58, 51, 48, 32, 43, 48, 48, 48, 48], 6⟩]
theorem dk_0 : dateL 0 = [84, 104, 117, 44, 32, 48, 49, 32, 74, 97, 110, 32, 49, 57, 55, 48, 32, 48, 48, 58, 48, 48, 58, 48, 48, 32, 43, 48, 48, 48, 48] := date_known (y := 1970) (m := 0) (o := 0) (by decide) (by decide +kernel)
theorem dk_1 : dateL 59 = [84, 104, 117, 44, 32, 48, 49, 32, 74, 97, 110, 32, 49, 57, 55, 48, 32, 48, 48, 58, 48, 48, 58, 53, 57, 32, 43, 48, 48, 48, 48] := date_known (y := 1970) (m := 0) (o := 0) (by decide) (by decide +kernel)
theorem dk_2 : dateL 86399 = [84, 104, 117, 44, 32, 48, 49, 32, 74, 97, 110, 32, 49, 57, 55, 48, 32, 50, 51, 58, 53, 57, 58, 53, 57, 32, 43, 48, 48, 48, 48] := date_known (y := 1970) (m := 0) (o := 0) (by decide) (by decide +kernel)
theorem dk_3 : dateL 68169600 = [84, 117, 101, 44, 32, 50, 57, 32, 70, 101, 98, 32, 49, 57, 55, 50, 32, 48, 48, 58, 48, 48, 58, 48, 48, 32, 43, 48, 48, 48, 48] := date_known (y := 1972) (m := 1) (o := 28) (by decide) (by decide +kernel)
theorem dk_4 : dateL 1000000000 = [83, 117, 110, 44, 32, 48, 57, 32, 83, 101, 112, 32, 50, 48, 48, 49, 32, 48, 49, 58, 52, 54, 58, 52, 48, 32, 43, 48, 48, 48, 48] := date_known (y := 2001) (m := 8) (o := 8) (by decide) (by decide +kernel)
theorem dk_5 : dateL 4107542400 = [77, 111, 110, 44, 32, 48, 49, 32, 77, 97, 114, 32, 50, 49, 48, 48, 32, 48, 48, 58, 48, 48, 58, 48, 48, 32, 43, 48, 48, 48, 48] := date_known (y := 2100) (m := 2) (o := 0) (by decide) (by decide +kernel)
theorem dk_6 : dateL 1234567890 = [70, 114, 105, 44, 32, 49, 51, 32, 70, 101, 98, 32, 50, 48, 48, 57, 32, 50, 51, 58, 51, 49, 58, 51, 48, 32, 43, 48, 48, 48, 48] := date_known (y := 2009) (m := 1) (o := 12) (by decide) (by decide +kernel)
theorem esT_is {e : MapEntry} (h : e ∈ esT) : ∃ t : Nat, e.key = .int .i64 t ∧ e.val = str (dateL t) ∧ t ≤ Mx ∧ e.born < 7 := by
  simp only [esT, List.mem_cons, List.not_mem_nil, or_false] at h
  rcases h with rfl | rfl | rfl | rfl | rfl | rfl | rfl
  · exact ⟨0, rfl, by rw [dk_0], by decide, by decide⟩
  · exact ⟨59, rfl, by rw [dk_1], by decide, by decide⟩
  · exact ⟨86399, rfl, by rw [dk_2], by decide, by decide⟩
  · exact ⟨68169600, rfl, by rw [dk_3], by decide, by decide⟩
  · exact ⟨1000000000, rfl, by rw [dk_4], by decide, by decide⟩
  · exact ⟨4107542400, rfl, by rw [dk_5], by decide, by decide⟩
  · exact ⟨1234567890, rfl, by rw [dk_6], by decide, by decide⟩
def esB : List MapEntry := [⟨str [], .int .i64 5, 0⟩, ⟨str [84, 104, 117, 44, 32, 49, 32, 74, 97, 110, 32, 49, 57, 55, 48, 32, 48, 48, 58, 48, 48, 58, 48, 48, 32, 43, 48, 48, 48, 48], .int .i64 5, 1⟩, ⟨str [84, 104, 117, 44, 32, 48, 49, 32, 74, 97, 110, 32, 55, 48, 32, 48, 48, 58, 48, 48, 58, 48, 48, 32, 43, 48, 48, 48, 48], .int .i64 5, 2⟩, ⟨str [84, 104, 117, 44, 32, 48, 49, 32, 74, 97, 110, 32, 49, 57, 55, 48, 32, 48, 48, 58, 48, 48, 32, 43, 48, 48, 48, 48], .int .i64 5, 3⟩, ⟨str [84, 104, 117, 32, 48, 49, 32, 74, 97, 110, 32, 49, 57, 55, 48, 32, 48, 48, 58, 48, 48, 58, 48, 48, 32, 43, 48, 48, 48, 48], .int .i64 5, 4⟩, ⟨str [116, 104, 117, 44, 32, 48, 49, 32, 74, 97, 110, 32, 49, 57, 55, 48, 32, 48, 48, 58, 48, 48, 58, 48, 48, 32, 43, 48, 48, 48, 48], .int .i64 5, 5⟩, ⟨str [84, 104, 117, 44, 32, 48, 49, 32, 74, 97, 110, 32, 49, 57, 55, 48, 32, 48, 48, 58, 48, 48, 58, 48, 48, 32, 71, 77, 84], .int .i64 5, 6⟩, ⟨str [84, 104, 117, 44, 32, 48, 49, 32, 74, 97, 110, 32, 49, 57, 55, 48, 32, 48, 48, 58, 48, 48, 58, 48, 48, 32, 43, 48, 48, 48, 48, 32], .int .i64 5, 7⟩, ⟨str [84, 104, 117, 44, 32, 48, 49, 32, 74, 97, 110, 32, 48, 49, 57, 55, 48, 32, 48, 48, 58, 48, 48, 58, 48, 48, 32, 43, 48, 48, 48, 48], .int .i64 5, 8⟩, ⟨str [70, 114, 105, 44, 32, 48, 49, 32, 74, 97, 110, 32, 49, 57, 55, 48, 32, 48, 48, 58, 48, 48, 58, 48, 48, 32, 43, 48, 48, 48, 48], .int .i64 24, 9⟩, ⟨str [84, 104, 117, 44, 32, 48, 48, 32, 74, 97, 110, 32, 49, 57, 55, 48, 32, 48, 48, 58, 48, 48, 58, 48, 48, 32, 43, 48, 48, 48, 48], .int .i64 24, 10⟩, ⟨str [84, 104, 117, 44, 32, 51, 50, 32, 74, 97, 110, 32, 49, 57, 55, 48, 32, 48, 48, 58, 48, 48, 58, 48, 48, 32, 43, 48, 48, 48, 48], .int .i64 24, 11⟩, ⟨str [77, 111, 110, 44, 32, 50, 57, 32, 70, 101, 98, 32, 50, 49, 48, 48, 32, 48, 48, 58, 48, 48, 58, 48, 48, 32, 43, 48, 48, 48, 48], .int .i64 24, 12⟩, ⟨str [84, 104, 117, 44, 32, 48, 49, 32, 74, 97, 110, 32, 49, 57, 55, 48, 32, 50, 52, 58, 48, 48, 58, 48, 48, 32, 43, 48, 48, 48, 48], .int .i64 24, 13⟩, ⟨str [84, 104, 117, 44, 32, 48, 49, 32, 74, 97, 110, 32, 49, 57, 55, 48, 32, 48, 48, 58, 54, 48, 58, 48, 48, 32, 43, 48, 48, 48, 48], .int .i64 24, 14⟩, ⟨str [84, 104, 117, 44, 32, 48, 49, 32, 74, 97, 110, 32, 49, 57, 55, 48, 32, 48, 48, 58, 48, 48, 58, 54, 48, 32, 43, 48, 48, 48, 48], .int .i64 24, 15⟩, ⟨str [87, 101, 100, 44, 32, 51, 49, 32, 68, 101, 99, 32, 49, 57, 54, 57, 32, 50, 51, 58, 53, 57, 58, 53, 57, 32, 43, 48, 48, 48, 48], .int .i64 24, 16⟩, ⟨str [84, 104, 117, 44, 32, 48, 49, 32, 74, 97, 110, 32, 57, 57, 57, 57, 57, 57, 57, 57, 57, 57, 32, 48, 48, 58, 48, 48, 58, 48, 48, 32, 43, 48, 48, 48, 48], .int .i64 24, 17⟩]
/-- What is no date's text: told byte by byte. -/
def fits (l : List UInt8) : Bool := (List.range 11).any fun k => decide (4 ≤ k ∧ l.length = k + 27 ∧ (List.range 7).any (fun w => l.take 3 == wkT w) = true ∧ (l.drop 3).take 2 = [44, 32] ∧ ((l.drop 5).take 2).all dgt = true ∧ (List.range 12).any (fun m => (l.drop 8).take 3 == moT m) = true ∧ ((l.drop 12).take k).all dgt = true ∧ (4 < k → (l.drop 12).head? ≠ some 48) ∧ l.drop (12 + k + 9) = zoneT)
theorem pd_unfit {l : List UInt8} (h : fits l = false) : pdF l = (0, 5) := by
  refine pd_bad fun f hf P => ?_
  have : fits l = true := by
    refine List.any_eq_true.2 ⟨f.y.length, List.mem_range.2 (by have := hf.y.2.1; omega), decide_eq_true ⟨hf.y.1, P.len, ?_, P.c1, by rw [P.o]; exact hf.o.2, ?_, by rw [P.y]; exact hf.y.2.2.1, fun q => ?_, P.z⟩⟩
    · exact List.any_eq_true.2 ⟨f.w, List.mem_range.2 hf.w, by rw [P.w]; simp⟩
    · exact List.any_eq_true.2 ⟨f.M, List.mem_range.2 hf.M, by rw [P.M]; simp⟩
    · have e := head_tk (r := l.drop 12) (p := f.y.length) (by omega)
      rw [P.y] at e
      rw [← e]
      exact hf.y.2.2.2 q
  rw [h] at this
  cases this
theorem pd_out {l : List UInt8} {w M : Nat} {o y h mi se : List UInt8} (hw : w < 7) (hM : M < 12) (ho : o.length = 2 ∧ o.all dgt = true) (hy : 4 ≤ y.length ∧ y.length ≤ 10 ∧ y.all dgt = true ∧ (4 < y.length → y.head? ≠ some 48)) (hh : h.length = 2 ∧ h.all dgt = true) (hm : mi.length = 2 ∧ mi.all dgt = true) (hs : se.length = 2 ∧ se.all dgt = true)
    (ht : Fd.text ⟨w, M, o, y, h, mi, se⟩ = l) (hn : ¬ Fd.there ⟨w, M, o, y, h, mi, se⟩) : pdF l = (0, 24) := by
  have hf : Fd.ok ⟨w, M, o, y, h, mi, se⟩ := ⟨hw, hM, ho, hy, hh, hm, hs⟩
  rw [pd_some hf (text_pos hf ht), if_neg hn]
theorem bd_0 : pdF [] = (0, 5) := pd_unfit (by decide +kernel)
theorem bd_1 : pdF [84, 104, 117, 44, 32, 49, 32, 74, 97, 110, 32, 49, 57, 55, 48, 32, 48, 48, 58, 48, 48, 58, 48, 48, 32, 43, 48, 48, 48, 48] = (0, 5) := pd_unfit (by decide +kernel)
theorem bd_2 : pdF [84, 104, 117, 44, 32, 48, 49, 32, 74, 97, 110, 32, 55, 48, 32, 48, 48, 58, 48, 48, 58, 48, 48, 32, 43, 48, 48, 48, 48] = (0, 5) := pd_unfit (by decide +kernel)
theorem bd_3 : pdF [84, 104, 117, 44, 32, 48, 49, 32, 74, 97, 110, 32, 49, 57, 55, 48, 32, 48, 48, 58, 48, 48, 32, 43, 48, 48, 48, 48] = (0, 5) := pd_unfit (by decide +kernel)
theorem bd_4 : pdF [84, 104, 117, 32, 48, 49, 32, 74, 97, 110, 32, 49, 57, 55, 48, 32, 48, 48, 58, 48, 48, 58, 48, 48, 32, 43, 48, 48, 48, 48] = (0, 5) := pd_unfit (by decide +kernel)
theorem bd_5 : pdF [116, 104, 117, 44, 32, 48, 49, 32, 74, 97, 110, 32, 49, 57, 55, 48, 32, 48, 48, 58, 48, 48, 58, 48, 48, 32, 43, 48, 48, 48, 48] = (0, 5) := pd_unfit (by decide +kernel)
theorem bd_6 : pdF [84, 104, 117, 44, 32, 48, 49, 32, 74, 97, 110, 32, 49, 57, 55, 48, 32, 48, 48, 58, 48, 48, 58, 48, 48, 32, 71, 77, 84] = (0, 5) := pd_unfit (by decide +kernel)
theorem bd_7 : pdF [84, 104, 117, 44, 32, 48, 49, 32, 74, 97, 110, 32, 49, 57, 55, 48, 32, 48, 48, 58, 48, 48, 58, 48, 48, 32, 43, 48, 48, 48, 48, 32] = (0, 5) := pd_unfit (by decide +kernel)
theorem bd_8 : pdF [84, 104, 117, 44, 32, 48, 49, 32, 74, 97, 110, 32, 48, 49, 57, 55, 48, 32, 48, 48, 58, 48, 48, 58, 48, 48, 32, 43, 48, 48, 48, 48] = (0, 5) := pd_unfit (by decide +kernel)
theorem bd_9 : pdF [70, 114, 105, 44, 32, 48, 49, 32, 74, 97, 110, 32, 49, 57, 55, 48, 32, 48, 48, 58, 48, 48, 58, 48, 48, 32, 43, 48, 48, 48, 48] = (0, 24) := pd_out (w := 5) (M := 0) (o := [48, 49]) (y := [49, 57, 55, 48]) (h := [48, 48]) (mi := [48, 48]) (se := [48, 48]) (by decide) (by decide) (by decide) (by decide) (by decide) (by decide) (by decide) (by decide +kernel) (by decide +kernel)
theorem bd_10 : pdF [84, 104, 117, 44, 32, 48, 48, 32, 74, 97, 110, 32, 49, 57, 55, 48, 32, 48, 48, 58, 48, 48, 58, 48, 48, 32, 43, 48, 48, 48, 48] = (0, 24) := pd_out (w := 4) (M := 0) (o := [48, 48]) (y := [49, 57, 55, 48]) (h := [48, 48]) (mi := [48, 48]) (se := [48, 48]) (by decide) (by decide) (by decide) (by decide) (by decide) (by decide) (by decide) (by decide +kernel) (by decide +kernel)
theorem bd_11 : pdF [84, 104, 117, 44, 32, 51, 50, 32, 74, 97, 110, 32, 49, 57, 55, 48, 32, 48, 48, 58, 48, 48, 58, 48, 48, 32, 43, 48, 48, 48, 48] = (0, 24) := pd_out (w := 4) (M := 0) (o := [51, 50]) (y := [49, 57, 55, 48]) (h := [48, 48]) (mi := [48, 48]) (se := [48, 48]) (by decide) (by decide) (by decide) (by decide) (by decide) (by decide) (by decide) (by decide +kernel) (by decide +kernel)
theorem bd_12 : pdF [77, 111, 110, 44, 32, 50, 57, 32, 70, 101, 98, 32, 50, 49, 48, 48, 32, 48, 48, 58, 48, 48, 58, 48, 48, 32, 43, 48, 48, 48, 48] = (0, 24) := pd_out (w := 1) (M := 1) (o := [50, 57]) (y := [50, 49, 48, 48]) (h := [48, 48]) (mi := [48, 48]) (se := [48, 48]) (by decide) (by decide) (by decide) (by decide) (by decide) (by decide) (by decide) (by decide +kernel) (by decide +kernel)
theorem bd_13 : pdF [84, 104, 117, 44, 32, 48, 49, 32, 74, 97, 110, 32, 49, 57, 55, 48, 32, 50, 52, 58, 48, 48, 58, 48, 48, 32, 43, 48, 48, 48, 48] = (0, 24) := pd_out (w := 4) (M := 0) (o := [48, 49]) (y := [49, 57, 55, 48]) (h := [50, 52]) (mi := [48, 48]) (se := [48, 48]) (by decide) (by decide) (by decide) (by decide) (by decide) (by decide) (by decide) (by decide +kernel) (by decide +kernel)
theorem bd_14 : pdF [84, 104, 117, 44, 32, 48, 49, 32, 74, 97, 110, 32, 49, 57, 55, 48, 32, 48, 48, 58, 54, 48, 58, 48, 48, 32, 43, 48, 48, 48, 48] = (0, 24) := pd_out (w := 4) (M := 0) (o := [48, 49]) (y := [49, 57, 55, 48]) (h := [48, 48]) (mi := [54, 48]) (se := [48, 48]) (by decide) (by decide) (by decide) (by decide) (by decide) (by decide) (by decide) (by decide +kernel) (by decide +kernel)
theorem bd_15 : pdF [84, 104, 117, 44, 32, 48, 49, 32, 74, 97, 110, 32, 49, 57, 55, 48, 32, 48, 48, 58, 48, 48, 58, 54, 48, 32, 43, 48, 48, 48, 48] = (0, 24) := pd_out (w := 4) (M := 0) (o := [48, 49]) (y := [49, 57, 55, 48]) (h := [48, 48]) (mi := [48, 48]) (se := [54, 48]) (by decide) (by decide) (by decide) (by decide) (by decide) (by decide) (by decide) (by decide +kernel) (by decide +kernel)
theorem bd_16 : pdF [87, 101, 100, 44, 32, 51, 49, 32, 68, 101, 99, 32, 49, 57, 54, 57, 32, 50, 51, 58, 53, 57, 58, 53, 57, 32, 43, 48, 48, 48, 48] = (0, 24) := pd_out (w := 3) (M := 11) (o := [51, 49]) (y := [49, 57, 54, 57]) (h := [50, 51]) (mi := [53, 57]) (se := [53, 57]) (by decide) (by decide) (by decide) (by decide) (by decide) (by decide) (by decide) (by decide +kernel) (by decide +kernel)
theorem bd_17 : pdF [84, 104, 117, 44, 32, 48, 49, 32, 74, 97, 110, 32, 57, 57, 57, 57, 57, 57, 57, 57, 57, 57, 32, 48, 48, 58, 48, 48, 58, 48, 48, 32, 43, 48, 48, 48, 48] = (0, 24) := pd_out (w := 4) (M := 0) (o := [48, 49]) (y := [57, 57, 57, 57, 57, 57, 57, 57, 57, 57]) (h := [48, 48]) (mi := [48, 48]) (se := [48, 48]) (by decide) (by decide) (by decide) (by decide) (by decide) (by decide) (by decide) (by decide +kernel) (by decide +kernel)
theorem esB_is {e : MapEntry} (h : e ∈ esB) : ∃ l, ∃ c : Nat, e.key = str l ∧ e.val = .int .i64 c ∧ pdF l = (0, c) ∧ l.length ≤ 1000 ∧ e.born < 18 := by
  simp only [esB, List.mem_cons, List.not_mem_nil, or_false] at h
  rcases h with rfl | rfl | rfl | rfl | rfl | rfl | rfl | rfl | rfl | rfl | rfl | rfl | rfl | rfl | rfl | rfl | rfl | rfl
  · exact ⟨[], 5, rfl, rfl, bd_0, by decide, by decide⟩
  · exact ⟨[84, 104, 117, 44, 32, 49, 32, 74, 97, 110, 32, 49, 57, 55, 48, 32, 48, 48, 58, 48, 48, 58, 48, 48, 32, 43, 48, 48, 48, 48], 5, rfl, rfl, bd_1, by decide, by decide⟩
  · exact ⟨[84, 104, 117, 44, 32, 48, 49, 32, 74, 97, 110, 32, 55, 48, 32, 48, 48, 58, 48, 48, 58, 48, 48, 32, 43, 48, 48, 48, 48], 5, rfl, rfl, bd_2, by decide, by decide⟩
  · exact ⟨[84, 104, 117, 44, 32, 48, 49, 32, 74, 97, 110, 32, 49, 57, 55, 48, 32, 48, 48, 58, 48, 48, 32, 43, 48, 48, 48, 48], 5, rfl, rfl, bd_3, by decide, by decide⟩
  · exact ⟨[84, 104, 117, 32, 48, 49, 32, 74, 97, 110, 32, 49, 57, 55, 48, 32, 48, 48, 58, 48, 48, 58, 48, 48, 32, 43, 48, 48, 48, 48], 5, rfl, rfl, bd_4, by decide, by decide⟩
  · exact ⟨[116, 104, 117, 44, 32, 48, 49, 32, 74, 97, 110, 32, 49, 57, 55, 48, 32, 48, 48, 58, 48, 48, 58, 48, 48, 32, 43, 48, 48, 48, 48], 5, rfl, rfl, bd_5, by decide, by decide⟩
  · exact ⟨[84, 104, 117, 44, 32, 48, 49, 32, 74, 97, 110, 32, 49, 57, 55, 48, 32, 48, 48, 58, 48, 48, 58, 48, 48, 32, 71, 77, 84], 5, rfl, rfl, bd_6, by decide, by decide⟩
  · exact ⟨[84, 104, 117, 44, 32, 48, 49, 32, 74, 97, 110, 32, 49, 57, 55, 48, 32, 48, 48, 58, 48, 48, 58, 48, 48, 32, 43, 48, 48, 48, 48, 32], 5, rfl, rfl, bd_7, by decide, by decide⟩
  · exact ⟨[84, 104, 117, 44, 32, 48, 49, 32, 74, 97, 110, 32, 48, 49, 57, 55, 48, 32, 48, 48, 58, 48, 48, 58, 48, 48, 32, 43, 48, 48, 48, 48], 5, rfl, rfl, bd_8, by decide, by decide⟩
  · exact ⟨[70, 114, 105, 44, 32, 48, 49, 32, 74, 97, 110, 32, 49, 57, 55, 48, 32, 48, 48, 58, 48, 48, 58, 48, 48, 32, 43, 48, 48, 48, 48], 24, rfl, rfl, bd_9, by decide, by decide⟩
  · exact ⟨[84, 104, 117, 44, 32, 48, 48, 32, 74, 97, 110, 32, 49, 57, 55, 48, 32, 48, 48, 58, 48, 48, 58, 48, 48, 32, 43, 48, 48, 48, 48], 24, rfl, rfl, bd_10, by decide, by decide⟩
  · exact ⟨[84, 104, 117, 44, 32, 51, 50, 32, 74, 97, 110, 32, 49, 57, 55, 48, 32, 48, 48, 58, 48, 48, 58, 48, 48, 32, 43, 48, 48, 48, 48], 24, rfl, rfl, bd_11, by decide, by decide⟩
  · exact ⟨[77, 111, 110, 44, 32, 50, 57, 32, 70, 101, 98, 32, 50, 49, 48, 48, 32, 48, 48, 58, 48, 48, 58, 48, 48, 32, 43, 48, 48, 48, 48], 24, rfl, rfl, bd_12, by decide, by decide⟩
  · exact ⟨[84, 104, 117, 44, 32, 48, 49, 32, 74, 97, 110, 32, 49, 57, 55, 48, 32, 50, 52, 58, 48, 48, 58, 48, 48, 32, 43, 48, 48, 48, 48], 24, rfl, rfl, bd_13, by decide, by decide⟩
  · exact ⟨[84, 104, 117, 44, 32, 48, 49, 32, 74, 97, 110, 32, 49, 57, 55, 48, 32, 48, 48, 58, 54, 48, 58, 48, 48, 32, 43, 48, 48, 48, 48], 24, rfl, rfl, bd_14, by decide, by decide⟩
  · exact ⟨[84, 104, 117, 44, 32, 48, 49, 32, 74, 97, 110, 32, 49, 57, 55, 48, 32, 48, 48, 58, 48, 48, 58, 54, 48, 32, 43, 48, 48, 48, 48], 24, rfl, rfl, bd_15, by decide, by decide⟩
  · exact ⟨[87, 101, 100, 44, 32, 51, 49, 32, 68, 101, 99, 32, 49, 57, 54, 57, 32, 50, 51, 58, 53, 57, 58, 53, 57, 32, 43, 48, 48, 48, 48], 24, rfl, rfl, bd_16, by decide, by decide⟩
  · exact ⟨[84, 104, 117, 44, 32, 48, 49, 32, 74, 97, 110, 32, 57, 57, 57, 57, 57, 57, 57, 57, 57, 57, 32, 48, 48, 58, 48, 48, 58, 48, 48, 32, 43, 48, 48, 48, 48], 24, rfl, rfl, bd_17, by decide, by decide⟩
theorem bornT : (esT.map (·.born)).Nodup ∧ (esB.map (·.born)).Nodup := by decide
def roL : List (List UInt8) := [[], [65], [65, 65, 65], [65, 49], [56, 65], [65, 32], [195, 164], [197, 191]]
def roV : List Value := roL.map str
theorem ro_is {n : Nat} (h : n < 8) : pstF (roL.getD n []) = (0, 5) ∧ (roL.getD n []).length ≤ 10 := by
  have : (List.range 8).all (fun n => (pstF (roL.getD n []) == (0, 5)) && decide ((roL.getD n []).length ≤ 10)) = true := by decide +kernel
  have := List.all_eq_true.1 this n (List.mem_range.2 h)
  simpa using this
theorem ix_ro {T : TL} {s : SS} {x i : Tmp} {n : Nat} (hx : look T x = some (.agg ⟨roV⟩)) (hi : look T i = some (.int .i64 n)) (hn : n < 8) : aOp pr (toTr T) s.st (.index 47 (.tmp x) (.tmp i)) = some (RR.val (str (roL.getD n []))).toN := by
  have e1 : operand (toTr T) s.st (.tmp x) = some (.agg ⟨roV⟩) := by simp only [operand, toTr_get]; exact hx
  have e2 : operand (toTr T) s.st (.tmp i) = some (.int .i64 n) := by simp only [operand, toTr_get]; exact hi
  have e3 : pr.underlying 47 = some (.array 8 tS) := by kernel_rfl
  have e4 : sizeB pr tS = some 1 := by kernel_rfl
  simp only [aOp, e1, e2, e3, e4]
  have : n = 0 ∨ n = 1 ∨ n = 2 ∨ n = 3 ∨ n = 4 ∨ n = 5 ∨ n = 6 ∨ n = 7 := by omega
  rcases this with rfl | rfl | rfl | rfl | rfl | rfl | rfl | rfl <;> rfl

set_option maxHeartbeats 4000000 in
theorem sknown_w {s : SS} (hG : Gst s) (hF : Fine s) : CallW pr n_law09_StampKnown [] s fun v s' => v = .bool true := by
  refine CallW.run good ok_law09_StampKnown (by simp) rfl ?_
  (repeat(first|refine pSeq ?_|refine pReg ?_|refine sRaw ?_|refine sCons ?_|refine sNil ?_|refine pBlock ?_|refine pSkip ?_|refine pExit ?_|refine pRet ?_|refine pCond ?_|refine gNone ?_|refine gOn rfl ?_|refine gOff rfl rfl ?_|refine gTup rfl ?_))
  refine ⟨.new (.map [] 0) fun id => .map (some id), rfl, ?_⟩
  (repeat(first|refine pSeq ?_|refine pReg ?_|refine sRaw ?_|refine sCons ?_|refine sNil ?_|refine pBlock ?_|refine pSkip ?_|refine pExit ?_|refine pRet ?_|refine pCond ?_|refine gNone ?_|refine gOn rfl ?_|refine gOff rfl rfl ?_|refine gTup rfl ?_))
  have hmesT_0 : lookH (({ s with heap := (s.next, some (.map [] 0)) :: s.heap, next := s.next + 1 } : SS)).heap s.next = some (.map [] 0) := lkH
  have ccesT_0 : Chg s ({ s with heap := (s.next, some (.map [] 0)) :: s.heap, next := s.next + 1 } : SS) [] := Chg.new []
  have nbesT : s.next ≤ s.next := Nat.le_refl _
  have nxesT_0 : (({ s with heap := (s.next, some (.map [] 0)) :: s.heap, next := s.next + 1 } : SS)).next = s.next + 1 := rfl
  generalize ({ s with heap := (s.next, some (.map [] 0)) :: s.heap, next := s.next + 1 } : SS) = aesT_0 at hmesT_0 ccesT_0 nxesT_0 ⊢
  refine insert_absI rfl umS1 un_I rfl rfl rfl hmesT_0 (by omega) (by decide) (by decide) fun aesT_1 hmesT_1 cesT_1 nesT_1 => ?_
  (repeat(first|refine pSeq ?_|refine pReg ?_|refine sRaw ?_|refine sCons ?_|refine sNil ?_|refine pBlock ?_|refine pSkip ?_|refine pExit ?_|refine pRet ?_|refine pCond ?_|refine gNone ?_|refine gOn rfl ?_|refine gOff rfl rfl ?_|refine gTup rfl ?_))
  have ccesT_1 := ccesT_0.fresh cesT_1 (by simp <;> omega)
  have nxesT_1 : aesT_1.next = s.next + 1 := by omega
  refine insert_absI rfl umS1 un_I rfl rfl rfl hmesT_1 (by omega) (by decide) (by decide) fun aesT_2 hmesT_2 cesT_2 nesT_2 => ?_
  (repeat(first|refine pSeq ?_|refine pReg ?_|refine sRaw ?_|refine sCons ?_|refine sNil ?_|refine pBlock ?_|refine pSkip ?_|refine pExit ?_|refine pRet ?_|refine pCond ?_|refine gNone ?_|refine gOn rfl ?_|refine gOff rfl rfl ?_|refine gTup rfl ?_))
  have ccesT_2 := ccesT_1.fresh cesT_2 (by simp <;> omega)
  have nxesT_2 : aesT_2.next = s.next + 1 := by omega
  refine insert_absI rfl umS1 un_I rfl rfl rfl hmesT_2 (by omega) (by decide) (by decide) fun aesT_3 hmesT_3 cesT_3 nesT_3 => ?_
  (repeat(first|refine pSeq ?_|refine pReg ?_|refine sRaw ?_|refine sCons ?_|refine sNil ?_|refine pBlock ?_|refine pSkip ?_|refine pExit ?_|refine pRet ?_|refine pCond ?_|refine gNone ?_|refine gOn rfl ?_|refine gOff rfl rfl ?_|refine gTup rfl ?_))
  have ccesT_3 := ccesT_2.fresh cesT_3 (by simp <;> omega)
  have nxesT_3 : aesT_3.next = s.next + 1 := by omega
  refine insert_absI rfl umS1 un_I rfl rfl rfl hmesT_3 (by omega) (by decide) (by decide) fun aesT_4 hmesT_4 cesT_4 nesT_4 => ?_
  (repeat(first|refine pSeq ?_|refine pReg ?_|refine sRaw ?_|refine sCons ?_|refine sNil ?_|refine pBlock ?_|refine pSkip ?_|refine pExit ?_|refine pRet ?_|refine pCond ?_|refine gNone ?_|refine gOn rfl ?_|refine gOff rfl rfl ?_|refine gTup rfl ?_))
  have ccesT_4 := ccesT_3.fresh cesT_4 (by simp <;> omega)
  have nxesT_4 : aesT_4.next = s.next + 1 := by omega
  refine insert_absI rfl umS1 un_I rfl rfl rfl hmesT_4 (by omega) (by decide) (by decide) fun aesT_5 hmesT_5 cesT_5 nesT_5 => ?_
  (repeat(first|refine pSeq ?_|refine pReg ?_|refine sRaw ?_|refine sCons ?_|refine sNil ?_|refine pBlock ?_|refine pSkip ?_|refine pExit ?_|refine pRet ?_|refine pCond ?_|refine gNone ?_|refine gOn rfl ?_|refine gOff rfl rfl ?_|refine gTup rfl ?_))
  have ccesT_5 := ccesT_4.fresh cesT_5 (by simp <;> omega)
  have nxesT_5 : aesT_5.next = s.next + 1 := by omega
  refine insert_absI rfl umS1 un_I rfl rfl rfl hmesT_5 (by omega) (by decide) (by decide) fun aesT_6 hmesT_6 cesT_6 nesT_6 => ?_
  (repeat(first|refine pSeq ?_|refine pReg ?_|refine sRaw ?_|refine sCons ?_|refine sNil ?_|refine pBlock ?_|refine pSkip ?_|refine pExit ?_|refine pRet ?_|refine pCond ?_|refine gNone ?_|refine gOn rfl ?_|refine gOff rfl rfl ?_|refine gTup rfl ?_))
  have ccesT_6 := ccesT_5.fresh cesT_6 (by simp <;> omega)
  have nxesT_6 : aesT_6.next = s.next + 1 := by omega
  refine insert_absI rfl umS1 un_I rfl rfl rfl hmesT_6 (by omega) (by decide) (by decide) fun aesT_7 hmesT_7 cesT_7 nesT_7 => ?_
  (repeat(first|refine pSeq ?_|refine pReg ?_|refine sRaw ?_|refine sCons ?_|refine sNil ?_|refine pBlock ?_|refine pSkip ?_|refine pExit ?_|refine pRet ?_|refine pCond ?_|refine gNone ?_|refine gOn rfl ?_|refine gOff rfl rfl ?_|refine gTup rfl ?_))
  have ccesT_7 := ccesT_6.fresh cesT_7 (by simp <;> omega)
  have nxesT_7 : aesT_7.next = s.next + 1 := by omega
  have hmE : lookH aesT_7.heap s.next = some (.map esT 7) := hmesT_7
  have hfE : Fine aesT_7 := ccesT_7.fine hF
  refine range_W rfl umS1 rfl hmE ?_
  (repeat(first|refine pSeq ?_|refine pReg ?_|refine sRaw ?_|refine sCons ?_|refine sNil ?_|refine pBlock ?_|refine pSkip ?_|refine pExit ?_|refine pRet ?_|refine pCond ?_|refine gNone ?_|refine gOn rfl ?_|refine gOff rfl rfl ?_|refine gTup rfl ?_))
  refine pLoop (MW.maps good (id0 := 0) (g := ⟨aesT_7, aesT_7.next, s.next, 7, esT, [(17, .pointer (some ⟨aesT_7.next, 0, none⟩))]⟩) rfl (Wk.same ⟨rfl, trivial⟩) rfl hmE (by show aesT_7.next ≠ s.next; omega) (fun e he => by obtain ⟨_, _, _, _, h⟩ := esT_is he; exact h) ?_ ?_ ?_)
  · intro n seen hn e he hs
    have hn' : aesT_7.next < n := hn
    obtain ⟨t, hk, hv, hl, hb⟩ := esT_is he
    rw [hk, hv]
    (repeat(first|refine pSeq ?_|refine pReg ?_|refine sRaw ?_|refine sCons ?_|refine sNil ?_|refine pBlock ?_|refine pSkip ?_|refine pExit ?_|refine pRet ?_|refine pCond ?_|refine gNone ?_|refine gOn rfl ?_|refine gOff rfl rfl ?_|refine gTup rfl ?_))
    refine entry_W (e := e) rfl rfl lkH (lkT (show aesT_7.next ≠ s.next by omega) hmE) he bornT.1 ?_
    rw [hk, hv]
    have gE : Chg s (MapL.at (⟨aesT_7, aesT_7.next, s.next, 7, esT, [(17, .pointer (some ⟨aesT_7.next, 0, none⟩))]⟩ : MapL) n (seen ++ [e.born])) [] := ccesT_7.nil (MapL.at_chg (⟨aesT_7, aesT_7.next, s.next, 7, esT, [(17, .pointer (some ⟨aesT_7.next, 0, none⟩))]⟩ : MapL) hfE rfl hn')
    (repeat(first|refine pSeq ?_|refine pReg ?_|refine sRaw ?_|refine sCons ?_|refine sNil ?_|refine pBlock ?_|refine pSkip ?_|refine pExit ?_|refine pRet ?_|refine pCond ?_|refine gNone ?_|refine gOn rfl ?_|refine gOff rfl rfl ?_|refine gTup rfl ?_))
    refine (date_w (hG.chg0 gE) (gE.fine hF)).mono fun v s3 q => ?_
    obtain ⟨rfl, c3⟩ := q
    rw [clamp_id hl]
    have dl := date_len hl
    have g3 := gE.nil c3
    (repeat(first|refine pSeq ?_|refine pReg ?_|refine sRaw ?_|refine sCons ?_|refine sNil ?_|refine pBlock ?_|refine pSkip ?_|refine pExit ?_|refine pRet ?_|refine pCond ?_|refine gNone ?_|refine gOn rfl ?_|refine gOff rfl rfl ?_|refine gTup rfl ?_))
    intro q hq
    obtain rfl : q = false := by rw [hq]; exact decide_eq_false (fun h => h rfl)
    (repeat(first|refine pSeq ?_|refine pReg ?_|refine sRaw ?_|refine sCons ?_|refine sNil ?_|refine pBlock ?_|refine pSkip ?_|refine pExit ?_|refine pRet ?_|refine pCond ?_|refine gNone ?_|refine gOn rfl ?_|refine gOff rfl rfl ?_|refine gTup rfl ?_))
    refine (pdate_w (hG.chg0 g3) (g3.fine hF) (by omega)).mono fun v s4 q => ?_
    obtain ⟨rfl, c4⟩ := q
    rw [pd_date hl]
    (repeat(first|refine pSeq ?_|refine pReg ?_|refine sRaw ?_|refine sCons ?_|refine sNil ?_|refine pBlock ?_|refine pSkip ?_|refine pExit ?_|refine pRet ?_|refine pCond ?_|refine gNone ?_|refine gOn rfl ?_|refine gOff rfl rfl ?_|refine gTup rfl ?_))
    intro q hq; obtain rfl : q = false := (by rw [hq]; simp <;> omega); (repeat(first|refine pSeq ?_|refine pReg ?_|refine sRaw ?_|refine sCons ?_|refine sNil ?_|refine pBlock ?_|refine pSkip ?_|refine pExit ?_|refine pRet ?_|refine pCond ?_|refine gNone ?_|refine gOn rfl ?_|refine gOff rfl rfl ?_|refine gTup rfl ?_))
    intro q hq
    obtain rfl : q = false := by rw [hq]; exact decide_eq_false (fun h => h rfl)
    (repeat(first|refine pSeq ?_|refine pReg ?_|refine sRaw ?_|refine sCons ?_|refine sNil ?_|refine pBlock ?_|refine pSkip ?_|refine pExit ?_|refine pRet ?_|refine pCond ?_|refine gNone ?_|refine gOn rfl ?_|refine gOff rfl rfl ?_|refine gTup rfl ?_))
    exact ⟨rfl, MapL.back ⟨rfl, trivial⟩ hfE rfl hn' (c3.nil c4)⟩
  · intro n seen hn
    (repeat(first|refine pSeq ?_|refine pReg ?_|refine sRaw ?_|refine sCons ?_|refine sNil ?_|refine pBlock ?_|refine pSkip ?_|refine pExit ?_|refine pRet ?_|refine pCond ?_|refine gNone ?_|refine gOn rfl ?_|refine gOff rfl rfl ?_|refine gTup rfl ?_))
    exact ⟨rfl, MapL.over ⟨rfl, trivial⟩ hfE rfl⟩
  intro N hN
  have cfesT := ccesT_7.nil ((MapL.fin_chg ⟨aesT_7, aesT_7.next, s.next, 7, esT, [(17, .pointer (some ⟨aesT_7.next, 0, none⟩))]⟩ (n := N) (Nat.le_of_succ_le hN)))
  dsimp only [MapL.fin] at cfesT ⊢
  generalize hst : ({ heap := aesT_7.heap, next := N, gl := aesT_7.gl } : SS) = fesT at cfesT ⊢
  (repeat(first|refine pSeq ?_|refine pReg ?_|refine sRaw ?_|refine sCons ?_|refine sNil ?_|refine pBlock ?_|refine pSkip ?_|refine pExit ?_|refine pRet ?_|refine pCond ?_|refine gNone ?_|refine gOn rfl ?_|refine gOff rfl rfl ?_|refine gTup rfl ?_))
  refine ⟨.new (.map [] 0) fun id => .map (some id), rfl, ?_⟩
  (repeat(first|refine pSeq ?_|refine pReg ?_|refine sRaw ?_|refine sCons ?_|refine sNil ?_|refine pBlock ?_|refine pSkip ?_|refine pExit ?_|refine pRet ?_|refine pCond ?_|refine gNone ?_|refine gOn rfl ?_|refine gOff rfl rfl ?_|refine gTup rfl ?_))
  have hmesB_0 : lookH (({ fesT with heap := (fesT.next, some (.map [] 0)) :: fesT.heap, next := fesT.next + 1 } : SS)).heap fesT.next = some (.map [] 0) := lkH
  have ccesB_0 : Chg s ({ fesT with heap := (fesT.next, some (.map [] 0)) :: fesT.heap, next := fesT.next + 1 } : SS) [] := (cfesT).nil (.new [])
  have nbesB : s.next ≤ fesT.next := (cfesT).next
  have nxesB_0 : (({ fesT with heap := (fesT.next, some (.map [] 0)) :: fesT.heap, next := fesT.next + 1 } : SS)).next = fesT.next + 1 := rfl
  generalize ({ fesT with heap := (fesT.next, some (.map [] 0)) :: fesT.heap, next := fesT.next + 1 } : SS) = aesB_0 at hmesB_0 ccesB_0 nxesB_0 ⊢
  refine insert_abs rfl umS2 un_S rfl rfl rfl hmesB_0 (by omega) (by decide) (by decide) fun aesB_1 hmesB_1 cesB_1 nesB_1 => ?_
  (repeat(first|refine pSeq ?_|refine pReg ?_|refine sRaw ?_|refine sCons ?_|refine sNil ?_|refine pBlock ?_|refine pSkip ?_|refine pExit ?_|refine pRet ?_|refine pCond ?_|refine gNone ?_|refine gOn rfl ?_|refine gOff rfl rfl ?_|refine gTup rfl ?_))
  have ccesB_1 := ccesB_0.fresh cesB_1 (by simp <;> omega)
  have nxesB_1 : aesB_1.next = fesT.next + 1 := by omega
  refine insert_abs rfl umS2 un_S rfl rfl rfl hmesB_1 (by omega) (by decide) (by decide) fun aesB_2 hmesB_2 cesB_2 nesB_2 => ?_
  (repeat(first|refine pSeq ?_|refine pReg ?_|refine sRaw ?_|refine sCons ?_|refine sNil ?_|refine pBlock ?_|refine pSkip ?_|refine pExit ?_|refine pRet ?_|refine pCond ?_|refine gNone ?_|refine gOn rfl ?_|refine gOff rfl rfl ?_|refine gTup rfl ?_))
  have ccesB_2 := ccesB_1.fresh cesB_2 (by simp <;> omega)
  have nxesB_2 : aesB_2.next = fesT.next + 1 := by omega
  refine insert_abs rfl umS2 un_S rfl rfl rfl hmesB_2 (by omega) (by decide) (by decide) fun aesB_3 hmesB_3 cesB_3 nesB_3 => ?_
  (repeat(first|refine pSeq ?_|refine pReg ?_|refine sRaw ?_|refine sCons ?_|refine sNil ?_|refine pBlock ?_|refine pSkip ?_|refine pExit ?_|refine pRet ?_|refine pCond ?_|refine gNone ?_|refine gOn rfl ?_|refine gOff rfl rfl ?_|refine gTup rfl ?_))
  have ccesB_3 := ccesB_2.fresh cesB_3 (by simp <;> omega)
  have nxesB_3 : aesB_3.next = fesT.next + 1 := by omega
  refine insert_abs rfl umS2 un_S rfl rfl rfl hmesB_3 (by omega) (by decide) (by decide) fun aesB_4 hmesB_4 cesB_4 nesB_4 => ?_
  (repeat(first|refine pSeq ?_|refine pReg ?_|refine sRaw ?_|refine sCons ?_|refine sNil ?_|refine pBlock ?_|refine pSkip ?_|refine pExit ?_|refine pRet ?_|refine pCond ?_|refine gNone ?_|refine gOn rfl ?_|refine gOff rfl rfl ?_|refine gTup rfl ?_))
  have ccesB_4 := ccesB_3.fresh cesB_4 (by simp <;> omega)
  have nxesB_4 : aesB_4.next = fesT.next + 1 := by omega
  refine insert_abs rfl umS2 un_S rfl rfl rfl hmesB_4 (by omega) (by decide) (by decide) fun aesB_5 hmesB_5 cesB_5 nesB_5 => ?_
  (repeat(first|refine pSeq ?_|refine pReg ?_|refine sRaw ?_|refine sCons ?_|refine sNil ?_|refine pBlock ?_|refine pSkip ?_|refine pExit ?_|refine pRet ?_|refine pCond ?_|refine gNone ?_|refine gOn rfl ?_|refine gOff rfl rfl ?_|refine gTup rfl ?_))
  have ccesB_5 := ccesB_4.fresh cesB_5 (by simp <;> omega)
  have nxesB_5 : aesB_5.next = fesT.next + 1 := by omega
  refine insert_abs rfl umS2 un_S rfl rfl rfl hmesB_5 (by omega) (by decide) (by decide) fun aesB_6 hmesB_6 cesB_6 nesB_6 => ?_
  (repeat(first|refine pSeq ?_|refine pReg ?_|refine sRaw ?_|refine sCons ?_|refine sNil ?_|refine pBlock ?_|refine pSkip ?_|refine pExit ?_|refine pRet ?_|refine pCond ?_|refine gNone ?_|refine gOn rfl ?_|refine gOff rfl rfl ?_|refine gTup rfl ?_))
  have ccesB_6 := ccesB_5.fresh cesB_6 (by simp <;> omega)
  have nxesB_6 : aesB_6.next = fesT.next + 1 := by omega
  refine insert_abs rfl umS2 un_S rfl rfl rfl hmesB_6 (by omega) (by decide) (by decide) fun aesB_7 hmesB_7 cesB_7 nesB_7 => ?_
  (repeat(first|refine pSeq ?_|refine pReg ?_|refine sRaw ?_|refine sCons ?_|refine sNil ?_|refine pBlock ?_|refine pSkip ?_|refine pExit ?_|refine pRet ?_|refine pCond ?_|refine gNone ?_|refine gOn rfl ?_|refine gOff rfl rfl ?_|refine gTup rfl ?_))
  have ccesB_7 := ccesB_6.fresh cesB_7 (by simp <;> omega)
  have nxesB_7 : aesB_7.next = fesT.next + 1 := by omega
  refine insert_abs rfl umS2 un_S rfl rfl rfl hmesB_7 (by omega) (by decide) (by decide) fun aesB_8 hmesB_8 cesB_8 nesB_8 => ?_
  (repeat(first|refine pSeq ?_|refine pReg ?_|refine sRaw ?_|refine sCons ?_|refine sNil ?_|refine pBlock ?_|refine pSkip ?_|refine pExit ?_|refine pRet ?_|refine pCond ?_|refine gNone ?_|refine gOn rfl ?_|refine gOff rfl rfl ?_|refine gTup rfl ?_))
  have ccesB_8 := ccesB_7.fresh cesB_8 (by simp <;> omega)
  have nxesB_8 : aesB_8.next = fesT.next + 1 := by omega
  refine insert_abs rfl umS2 un_S rfl rfl rfl hmesB_8 (by omega) (by decide) (by decide) fun aesB_9 hmesB_9 cesB_9 nesB_9 => ?_
  (repeat(first|refine pSeq ?_|refine pReg ?_|refine sRaw ?_|refine sCons ?_|refine sNil ?_|refine pBlock ?_|refine pSkip ?_|refine pExit ?_|refine pRet ?_|refine pCond ?_|refine gNone ?_|refine gOn rfl ?_|refine gOff rfl rfl ?_|refine gTup rfl ?_))
  have ccesB_9 := ccesB_8.fresh cesB_9 (by simp <;> omega)
  have nxesB_9 : aesB_9.next = fesT.next + 1 := by omega
  refine insert_abs rfl umS2 un_S rfl rfl rfl hmesB_9 (by omega) (by decide) (by decide) fun aesB_10 hmesB_10 cesB_10 nesB_10 => ?_
  (repeat(first|refine pSeq ?_|refine pReg ?_|refine sRaw ?_|refine sCons ?_|refine sNil ?_|refine pBlock ?_|refine pSkip ?_|refine pExit ?_|refine pRet ?_|refine pCond ?_|refine gNone ?_|refine gOn rfl ?_|refine gOff rfl rfl ?_|refine gTup rfl ?_))
  have ccesB_10 := ccesB_9.fresh cesB_10 (by simp <;> omega)
  have nxesB_10 : aesB_10.next = fesT.next + 1 := by omega
  refine insert_abs rfl umS2 un_S rfl rfl rfl hmesB_10 (by omega) (by decide) (by decide) fun aesB_11 hmesB_11 cesB_11 nesB_11 => ?_
  (repeat(first|refine pSeq ?_|refine pReg ?_|refine sRaw ?_|refine sCons ?_|refine sNil ?_|refine pBlock ?_|refine pSkip ?_|refine pExit ?_|refine pRet ?_|refine pCond ?_|refine gNone ?_|refine gOn rfl ?_|refine gOff rfl rfl ?_|refine gTup rfl ?_))
  have ccesB_11 := ccesB_10.fresh cesB_11 (by simp <;> omega)
  have nxesB_11 : aesB_11.next = fesT.next + 1 := by omega
  refine insert_abs rfl umS2 un_S rfl rfl rfl hmesB_11 (by omega) (by decide) (by decide) fun aesB_12 hmesB_12 cesB_12 nesB_12 => ?_
  (repeat(first|refine pSeq ?_|refine pReg ?_|refine sRaw ?_|refine sCons ?_|refine sNil ?_|refine pBlock ?_|refine pSkip ?_|refine pExit ?_|refine pRet ?_|refine pCond ?_|refine gNone ?_|refine gOn rfl ?_|refine gOff rfl rfl ?_|refine gTup rfl ?_))
  have ccesB_12 := ccesB_11.fresh cesB_12 (by simp <;> omega)
  have nxesB_12 : aesB_12.next = fesT.next + 1 := by omega
  refine insert_abs rfl umS2 un_S rfl rfl rfl hmesB_12 (by omega) (by decide) (by decide) fun aesB_13 hmesB_13 cesB_13 nesB_13 => ?_
  (repeat(first|refine pSeq ?_|refine pReg ?_|refine sRaw ?_|refine sCons ?_|refine sNil ?_|refine pBlock ?_|refine pSkip ?_|refine pExit ?_|refine pRet ?_|refine pCond ?_|refine gNone ?_|refine gOn rfl ?_|refine gOff rfl rfl ?_|refine gTup rfl ?_))
  have ccesB_13 := ccesB_12.fresh cesB_13 (by simp <;> omega)
  have nxesB_13 : aesB_13.next = fesT.next + 1 := by omega
  refine insert_abs rfl umS2 un_S rfl rfl rfl hmesB_13 (by omega) (by decide) (by decide) fun aesB_14 hmesB_14 cesB_14 nesB_14 => ?_
  (repeat(first|refine pSeq ?_|refine pReg ?_|refine sRaw ?_|refine sCons ?_|refine sNil ?_|refine pBlock ?_|refine pSkip ?_|refine pExit ?_|refine pRet ?_|refine pCond ?_|refine gNone ?_|refine gOn rfl ?_|refine gOff rfl rfl ?_|refine gTup rfl ?_))
  have ccesB_14 := ccesB_13.fresh cesB_14 (by simp <;> omega)
  have nxesB_14 : aesB_14.next = fesT.next + 1 := by omega
  refine insert_abs rfl umS2 un_S rfl rfl rfl hmesB_14 (by omega) (by decide) (by decide) fun aesB_15 hmesB_15 cesB_15 nesB_15 => ?_
  (repeat(first|refine pSeq ?_|refine pReg ?_|refine sRaw ?_|refine sCons ?_|refine sNil ?_|refine pBlock ?_|refine pSkip ?_|refine pExit ?_|refine pRet ?_|refine pCond ?_|refine gNone ?_|refine gOn rfl ?_|refine gOff rfl rfl ?_|refine gTup rfl ?_))
  have ccesB_15 := ccesB_14.fresh cesB_15 (by simp <;> omega)
  have nxesB_15 : aesB_15.next = fesT.next + 1 := by omega
  refine insert_abs rfl umS2 un_S rfl rfl rfl hmesB_15 (by omega) (by decide) (by decide) fun aesB_16 hmesB_16 cesB_16 nesB_16 => ?_
  (repeat(first|refine pSeq ?_|refine pReg ?_|refine sRaw ?_|refine sCons ?_|refine sNil ?_|refine pBlock ?_|refine pSkip ?_|refine pExit ?_|refine pRet ?_|refine pCond ?_|refine gNone ?_|refine gOn rfl ?_|refine gOff rfl rfl ?_|refine gTup rfl ?_))
  have ccesB_16 := ccesB_15.fresh cesB_16 (by simp <;> omega)
  have nxesB_16 : aesB_16.next = fesT.next + 1 := by omega
  refine insert_abs rfl umS2 un_S rfl rfl rfl hmesB_16 (by omega) (by decide) (by decide) fun aesB_17 hmesB_17 cesB_17 nesB_17 => ?_
  (repeat(first|refine pSeq ?_|refine pReg ?_|refine sRaw ?_|refine sCons ?_|refine sNil ?_|refine pBlock ?_|refine pSkip ?_|refine pExit ?_|refine pRet ?_|refine pCond ?_|refine gNone ?_|refine gOn rfl ?_|refine gOff rfl rfl ?_|refine gTup rfl ?_))
  have ccesB_17 := ccesB_16.fresh cesB_17 (by simp <;> omega)
  have nxesB_17 : aesB_17.next = fesT.next + 1 := by omega
  refine insert_abs rfl umS2 un_S rfl rfl rfl hmesB_17 (by omega) (by decide) (by decide) fun aesB_18 hmesB_18 cesB_18 nesB_18 => ?_
  (repeat(first|refine pSeq ?_|refine pReg ?_|refine sRaw ?_|refine sCons ?_|refine sNil ?_|refine pBlock ?_|refine pSkip ?_|refine pExit ?_|refine pRet ?_|refine pCond ?_|refine gNone ?_|refine gOn rfl ?_|refine gOff rfl rfl ?_|refine gTup rfl ?_))
  have ccesB_18 := ccesB_17.fresh cesB_18 (by simp <;> omega)
  have nxesB_18 : aesB_18.next = fesT.next + 1 := by omega
  have hmE : lookH aesB_18.heap fesT.next = some (.map esB 18) := hmesB_18
  have hfE : Fine aesB_18 := ccesB_18.fine hF
  refine range_W rfl umS2 rfl hmE ?_
  (repeat(first|refine pSeq ?_|refine pReg ?_|refine sRaw ?_|refine sCons ?_|refine sNil ?_|refine pBlock ?_|refine pSkip ?_|refine pExit ?_|refine pRet ?_|refine pCond ?_|refine gNone ?_|refine gOn rfl ?_|refine gOff rfl rfl ?_|refine gTup rfl ?_))
  refine pLoop (MW.maps good (id0 := 2) (g := ⟨aesB_18, aesB_18.next, fesT.next, 18, esB, [(41, .pointer (some ⟨aesB_18.next, 0, none⟩))]⟩) rfl (Wk.same ⟨rfl, trivial⟩) rfl hmE (by show aesB_18.next ≠ fesT.next; omega) (fun e he => by obtain ⟨_, _, _, _, _, _, h⟩ := esB_is he; exact h) ?_ ?_ ?_)
  · intro n seen hn e he hs
    have hn' : aesB_18.next < n := hn
    obtain ⟨l, cc, hk, hv, hp, hl, hb⟩ := esB_is he
    rw [hk, hv]
    (repeat(first|refine pSeq ?_|refine pReg ?_|refine sRaw ?_|refine sCons ?_|refine sNil ?_|refine pBlock ?_|refine pSkip ?_|refine pExit ?_|refine pRet ?_|refine pCond ?_|refine gNone ?_|refine gOn rfl ?_|refine gOff rfl rfl ?_|refine gTup rfl ?_))
    refine entry_W (e := e) rfl rfl lkH (lkT (show aesB_18.next ≠ fesT.next by omega) hmE) he bornT.2 ?_
    rw [hk, hv]
    have gE : Chg s (MapL.at (⟨aesB_18, aesB_18.next, fesT.next, 18, esB, [(41, .pointer (some ⟨aesB_18.next, 0, none⟩))]⟩ : MapL) n (seen ++ [e.born])) [] := ccesB_18.nil (MapL.at_chg (⟨aesB_18, aesB_18.next, fesT.next, 18, esB, [(41, .pointer (some ⟨aesB_18.next, 0, none⟩))]⟩ : MapL) hfE rfl hn')
    (repeat(first|refine pSeq ?_|refine pReg ?_|refine sRaw ?_|refine sCons ?_|refine sNil ?_|refine pBlock ?_|refine pSkip ?_|refine pExit ?_|refine pRet ?_|refine pCond ?_|refine gNone ?_|refine gOn rfl ?_|refine gOff rfl rfl ?_|refine gTup rfl ?_))
    refine (pdate_w (hG.chg0 gE) (gE.fine hF) hl).mono fun v s4 q => ?_
    obtain ⟨rfl, c4⟩ := q
    rw [hp]
    (repeat(first|refine pSeq ?_|refine pReg ?_|refine sRaw ?_|refine sCons ?_|refine sNil ?_|refine pBlock ?_|refine pSkip ?_|refine pExit ?_|refine pRet ?_|refine pCond ?_|refine gNone ?_|refine gOn rfl ?_|refine gOff rfl rfl ?_|refine gTup rfl ?_))
    intro q hq
    obtain rfl : q = false := by rw [hq]; exact decide_eq_false (fun h => h rfl)
    (repeat(first|refine pSeq ?_|refine pReg ?_|refine sRaw ?_|refine sCons ?_|refine sNil ?_|refine pBlock ?_|refine pSkip ?_|refine pExit ?_|refine pRet ?_|refine pCond ?_|refine gNone ?_|refine gOn rfl ?_|refine gOff rfl rfl ?_|refine gTup rfl ?_))
    intro q hq; obtain rfl : q = false := (by rw [hq]; simp <;> omega); (repeat(first|refine pSeq ?_|refine pReg ?_|refine sRaw ?_|refine sCons ?_|refine sNil ?_|refine pBlock ?_|refine pSkip ?_|refine pExit ?_|refine pRet ?_|refine pCond ?_|refine gNone ?_|refine gOn rfl ?_|refine gOff rfl rfl ?_|refine gTup rfl ?_))
    exact ⟨rfl, MapL.back ⟨rfl, trivial⟩ hfE rfl hn' c4⟩
  · intro n seen hn
    (repeat(first|refine pSeq ?_|refine pReg ?_|refine sRaw ?_|refine sCons ?_|refine sNil ?_|refine pBlock ?_|refine pSkip ?_|refine pExit ?_|refine pRet ?_|refine pCond ?_|refine gNone ?_|refine gOn rfl ?_|refine gOff rfl rfl ?_|refine gTup rfl ?_))
    exact ⟨rfl, MapL.over ⟨rfl, trivial⟩ hfE rfl⟩
  intro N hN
  have cfesB := ccesB_18.nil ((MapL.fin_chg ⟨aesB_18, aesB_18.next, fesT.next, 18, esB, [(41, .pointer (some ⟨aesB_18.next, 0, none⟩))]⟩ (n := N) (Nat.le_of_succ_le hN)))
  dsimp only [MapL.fin] at cfesB ⊢
  generalize hst : ({ heap := aesB_18.heap, next := N, gl := aesB_18.gl } : SS) = fesB at cfesB ⊢
  (repeat(first|refine pSeq ?_|refine pReg ?_|refine sRaw ?_|refine sCons ?_|refine sNil ?_|refine pBlock ?_|refine pSkip ?_|refine pExit ?_|refine pRet ?_|refine pCond ?_|refine gNone ?_|refine gOn rfl ?_|refine gOff rfl rfl ?_|refine gTup rfl ?_))
  refine pLoop (MW.head good (fun i : Nat => 8 - i) (fun i => i ≤ 8) (fun i => [(59, .agg ⟨roV⟩), (60, .int .i64 i)]) (fun _ => fesB) 0 (Nat.zero_le _) (Wk.same ⟨rfl, rfl, trivial⟩) ?_)
  intro i hi
  (repeat(first|refine pSeq ?_|refine pReg ?_|refine sRaw ?_|refine sCons ?_|refine sNil ?_|refine pBlock ?_|refine pSkip ?_|refine pExit ?_|refine pRet ?_|refine pCond ?_|refine gNone ?_|refine gOn rfl ?_|refine gOff rfl rfl ?_|refine gTup rfl ?_))
  intro q hq
  by_cases h8 : i < 8
  · obtain ⟨r1, r2⟩ := ro_is h8
    obtain rfl : q = true := by rw [hq]; simp <;> omega
    (repeat(first|refine pSeq ?_|refine pReg ?_|refine sRaw ?_|refine sCons ?_|refine sNil ?_|refine pBlock ?_|refine pSkip ?_|refine pExit ?_|refine pRet ?_|refine pCond ?_|refine gNone ?_|refine gOn rfl ?_|refine gOff rfl rfl ?_|refine gTup rfl ?_))
    refine ⟨.val (str (roL.getD i [])), ix_ro rfl rfl h8, ?_⟩
    (repeat(first|refine pSeq ?_|refine pReg ?_|refine sRaw ?_|refine sCons ?_|refine sNil ?_|refine pBlock ?_|refine pSkip ?_|refine pExit ?_|refine pRet ?_|refine pCond ?_|refine gNone ?_|refine gOn rfl ?_|refine gOff rfl rfl ?_|refine gTup rfl ?_))
    refine (pst_w (cfesB.fine hF) (by omega)).mono fun v sp q => ?_
    obtain ⟨rfl, rfl⟩ := q
    rw [r1]
    (repeat(first|refine pSeq ?_|refine pReg ?_|refine sRaw ?_|refine sCons ?_|refine sNil ?_|refine pBlock ?_|refine pSkip ?_|refine pExit ?_|refine pRet ?_|refine pCond ?_|refine gNone ?_|refine gOn rfl ?_|refine gOff rfl rfl ?_|refine gTup rfl ?_))
    intro q hq; obtain rfl : q = false := (by rw [hq]; simp <;> omega); (repeat(first|refine pSeq ?_|refine pReg ?_|refine sRaw ?_|refine sCons ?_|refine sNil ?_|refine pBlock ?_|refine pSkip ?_|refine pExit ?_|refine pRet ?_|refine pCond ?_|refine gNone ?_|refine gOn rfl ?_|refine gOff rfl rfl ?_|refine gTup rfl ?_))
    intro z hz
    rw [i64_id (by omega)] at hz
    obtain rfl : z = ((i + 1 : Nat) : Int) := by omega
    (repeat(first|refine pSeq ?_|refine pReg ?_|refine sRaw ?_|refine sCons ?_|refine sNil ?_|refine pBlock ?_|refine pSkip ?_|refine pExit ?_|refine pRet ?_|refine pCond ?_|refine gNone ?_|refine gOn rfl ?_|refine gOff rfl rfl ?_|refine gTup rfl ?_))
    exact ⟨i + 1, h8, by show 8 - (i + 1) < 8 - i; omega, Wk.same ⟨rfl, rfl, trivial⟩⟩
  · obtain rfl : q = false := by rw [hq]; simp <;> omega
    (repeat(first|refine pSeq ?_|refine pReg ?_|refine sRaw ?_|refine sCons ?_|refine sNil ?_|refine pBlock ?_|refine pSkip ?_|refine pExit ?_|refine pRet ?_|refine pCond ?_|refine gNone ?_|refine gOn rfl ?_|refine gOff rfl rfl ?_|refine gTup rfl ?_))
    refine (date_w (hG.chg0 cfesB) (cfesB.fine hF)).mono fun v w1 q => ?_
    obtain ⟨rfl, d1⟩ := q
    have e1 := cfesB.nil d1
    rw [show clampT 4611686018427387904 = Mx by decide +kernel]
    (repeat(first|refine pSeq ?_|refine pReg ?_|refine sRaw ?_|refine sCons ?_|refine sNil ?_|refine pBlock ?_|refine pSkip ?_|refine pExit ?_|refine pRet ?_|refine pCond ?_|refine gNone ?_|refine gOn rfl ?_|refine gOff rfl rfl ?_|refine gTup rfl ?_))
    have dl := date_len (Nat.le_refl Mx)
    refine (pdate_w (hG.chg0 e1) (e1.fine hF) (by omega)).mono fun v wp q => ?_
    obtain ⟨rfl, dp⟩ := q
    have ep := e1.nil dp
    rw [pd_date (Nat.le_refl Mx)]
    (repeat(first|refine pSeq ?_|refine pReg ?_|refine sRaw ?_|refine sCons ?_|refine sNil ?_|refine pBlock ?_|refine pSkip ?_|refine pExit ?_|refine pRet ?_|refine pCond ?_|refine gNone ?_|refine gOn rfl ?_|refine gOff rfl rfl ?_|refine gTup rfl ?_))
    intro q hq
    obtain rfl : q = true := by rw [hq]; first | rfl | exact decide_eq_true rfl
    (repeat(first|refine pSeq ?_|refine pReg ?_|refine sRaw ?_|refine sCons ?_|refine sNil ?_|refine pBlock ?_|refine pSkip ?_|refine pExit ?_|refine pRet ?_|refine pCond ?_|refine gNone ?_|refine gOn rfl ?_|refine gOff rfl rfl ?_|refine gTup rfl ?_))
    intro q hq
    obtain rfl : q = true := by rw [hq]; first | rfl | exact decide_eq_true rfl
    (repeat(first|refine pSeq ?_|refine pReg ?_|refine sRaw ?_|refine sCons ?_|refine sNil ?_|refine pBlock ?_|refine pSkip ?_|refine pExit ?_|refine pRet ?_|refine pCond ?_|refine gNone ?_|refine gOn rfl ?_|refine gOff rfl rfl ?_|refine gTup rfl ?_))
    refine (date_w (hG.chg0 ep) (ep.fine hF)).mono fun v w2 q => ?_
    obtain ⟨rfl, d2⟩ := q
    have e2 := ep.nil d2
    rw [show clampT (-5) = 0 by decide +kernel]
    (repeat(first|refine pSeq ?_|refine pReg ?_|refine sRaw ?_|refine sCons ?_|refine sNil ?_|refine pBlock ?_|refine pSkip ?_|refine pExit ?_|refine pRet ?_|refine pCond ?_|refine gNone ?_|refine gOn rfl ?_|refine gOff rfl rfl ?_|refine gTup rfl ?_))
    refine (date_w (hG.chg0 e2) (e2.fine hF)).mono fun v w3 q => ?_
    obtain ⟨rfl, d3⟩ := q
    have e3 := e2.nil d3
    rw [show clampT 0 = 0 by decide +kernel]
    (repeat(first|refine pSeq ?_|refine pReg ?_|refine sRaw ?_|refine sCons ?_|refine sNil ?_|refine pBlock ?_|refine pSkip ?_|refine pExit ?_|refine pRet ?_|refine pCond ?_|refine gNone ?_|refine gOn rfl ?_|refine gOff rfl rfl ?_|refine gTup rfl ?_))
    intro q hq
    obtain rfl : q = true := by rw [hq]; first | rfl | exact decide_eq_true rfl
    (repeat(first|refine pSeq ?_|refine pReg ?_|refine sRaw ?_|refine sCons ?_|refine sNil ?_|refine pBlock ?_|refine pSkip ?_|refine pExit ?_|refine pRet ?_|refine pCond ?_|refine gNone ?_|refine gOn rfl ?_|refine gOff rfl rfl ?_|refine gTup rfl ?_))
    refine day_w.mono fun v wx q => ?_
    obtain ⟨rfl, rfl⟩ := q
    rw [show clampT (-1) / 86400 = 0 by decide +kernel]
    (repeat(first|refine pSeq ?_|refine pReg ?_|refine sRaw ?_|refine sCons ?_|refine sNil ?_|refine pBlock ?_|refine pSkip ?_|refine pExit ?_|refine pRet ?_|refine pCond ?_|refine gNone ?_|refine gOn rfl ?_|refine gOff rfl rfl ?_|refine gTup rfl ?_))
    intro q hq
    obtain rfl : q = true := by rw [hq]; first | rfl | exact decide_eq_true rfl
    (repeat(first|refine pSeq ?_|refine pReg ?_|refine sRaw ?_|refine sCons ?_|refine sNil ?_|refine pBlock ?_|refine pSkip ?_|refine pExit ?_|refine pRet ?_|refine pCond ?_|refine gNone ?_|refine gOn rfl ?_|refine gOff rfl rfl ?_|refine gTup rfl ?_))
    refine day_w.mono fun v wx q => ?_
    obtain ⟨rfl, rfl⟩ := q
    rw [show clampT 4611686018427387904 / 86400 = 12725829 by decide +kernel]
    (repeat(first|refine pSeq ?_|refine pReg ?_|refine sRaw ?_|refine sCons ?_|refine sNil ?_|refine pBlock ?_|refine pSkip ?_|refine pExit ?_|refine pRet ?_|refine pCond ?_|refine gNone ?_|refine gOn rfl ?_|refine gOff rfl rfl ?_|refine gTup rfl ?_))
    intro q hq
    obtain rfl : q = true := by rw [hq]; first | rfl | exact decide_eq_true rfl
    (repeat(first|refine pSeq ?_|refine pReg ?_|refine sRaw ?_|refine sCons ?_|refine sNil ?_|refine pBlock ?_|refine pSkip ?_|refine pExit ?_|refine pRet ?_|refine pCond ?_|refine gNone ?_|refine gOn rfl ?_|refine gOff rfl rfl ?_|refine gTup rfl ?_))
    refine (stext_w (e3.fine hF) (by decide)).mono fun v w4 q => ?_
    obtain ⟨rfl, d4⟩ := q
    have e4 := e3.nil d4
    rw [show stT (sn (-3)) = [65, 65] by decide +kernel]
    (repeat(first|refine pSeq ?_|refine pReg ?_|refine sRaw ?_|refine sCons ?_|refine sNil ?_|refine pBlock ?_|refine pSkip ?_|refine pExit ?_|refine pRet ?_|refine pCond ?_|refine gNone ?_|refine gOn rfl ?_|refine gOff rfl rfl ?_|refine gTup rfl ?_))
    intro q hq
    obtain rfl : q = true := by rw [hq]; first | rfl | exact decide_eq_true rfl
    (repeat(first|refine pSeq ?_|refine pReg ?_|refine sRaw ?_|refine sCons ?_|refine sNil ?_|refine pBlock ?_|refine pSkip ?_|refine pExit ?_|refine pRet ?_|refine pCond ?_|refine gNone ?_|refine gOn rfl ?_|refine gOff rfl rfl ?_|refine gTup rfl ?_))
    refine (stext_w (e4.fine hF) (by decide)).mono fun v w5 q => ?_
    obtain ⟨rfl, d5⟩ := q
    have e5 := e4.nil d5
    rw [show stT (sn 1024) = [65, 65] by decide +kernel]
    (repeat(first|refine pSeq ?_|refine pReg ?_|refine sRaw ?_|refine sCons ?_|refine sNil ?_|refine pBlock ?_|refine pSkip ?_|refine pExit ?_|refine pRet ?_|refine pCond ?_|refine gNone ?_|refine gOn rfl ?_|refine gOff rfl rfl ?_|refine gTup rfl ?_))
    intro q hq
    obtain rfl : q = true := by rw [hq]; first | rfl | exact decide_eq_true rfl
    (repeat(first|refine pSeq ?_|refine pReg ?_|refine sRaw ?_|refine sCons ?_|refine sNil ?_|refine pBlock ?_|refine pSkip ?_|refine pExit ?_|refine pRet ?_|refine pCond ?_|refine gNone ?_|refine gOn rfl ?_|refine gOff rfl rfl ?_|refine gTup rfl ?_))
    refine (age_w (k := (-4)) (d := (-9)) (by decide) (by decide)).mono fun v wx q => ?_
    obtain ⟨rfl, rfl⟩ := q
    rw [show agF (-4) (-9) = 0 by decide +kernel]
    (repeat(first|refine pSeq ?_|refine pReg ?_|refine sRaw ?_|refine sCons ?_|refine sNil ?_|refine pBlock ?_|refine pSkip ?_|refine pExit ?_|refine pRet ?_|refine pCond ?_|refine gNone ?_|refine gOn rfl ?_|refine gOff rfl rfl ?_|refine gTup rfl ?_))
    intro q hq
    obtain rfl : q = true := by rw [hq]; first | rfl | exact decide_eq_true rfl
    (repeat(first|refine pSeq ?_|refine pReg ?_|refine sRaw ?_|refine sCons ?_|refine sNil ?_|refine pBlock ?_|refine pSkip ?_|refine pExit ?_|refine pRet ?_|refine pCond ?_|refine gNone ?_|refine gOn rfl ?_|refine gOff rfl rfl ?_|refine gTup rfl ?_))
    refine (age_w (k := 3) (d := 2) (by decide) (by decide)).mono fun v wx q => ?_
    obtain ⟨rfl, rfl⟩ := q
    rw [show agF 3 2 = 1023 by decide +kernel]
    (repeat(first|refine pSeq ?_|refine pReg ?_|refine sRaw ?_|refine sCons ?_|refine sNil ?_|refine pBlock ?_|refine pSkip ?_|refine pExit ?_|refine pRet ?_|refine pCond ?_|refine gNone ?_|refine gOn rfl ?_|refine gOff rfl rfl ?_|refine gTup rfl ?_))
    intro q hq
    obtain rfl : q = true := by rw [hq]; first | rfl | exact decide_eq_true rfl
    (repeat(first|refine pSeq ?_|refine pReg ?_|refine sRaw ?_|refine sCons ?_|refine sNil ?_|refine pBlock ?_|refine pSkip ?_|refine pExit ?_|refine pRet ?_|refine pCond ?_|refine gNone ?_|refine gOn rfl ?_|refine gOff rfl rfl ?_|refine gTup rfl ?_))
    refine (age_w (k := 1025) (d := 1) (by decide) (by decide)).mono fun v wx q => ?_
    obtain ⟨rfl, rfl⟩ := q
    rw [show agF 1025 1 = 0 by decide +kernel]
    (repeat(first|refine pSeq ?_|refine pReg ?_|refine sRaw ?_|refine sCons ?_|refine sNil ?_|refine pBlock ?_|refine pSkip ?_|refine pExit ?_|refine pRet ?_|refine pCond ?_|refine gNone ?_|refine gOn rfl ?_|refine gOff rfl rfl ?_|refine gTup rfl ?_))
    intro q hq
    obtain rfl : q = true := by rw [hq]; first | rfl | exact decide_eq_true rfl
    (repeat(first|refine pSeq ?_|refine pReg ?_|refine sRaw ?_|refine sCons ?_|refine sNil ?_|refine pBlock ?_|refine pSkip ?_|refine pExit ?_|refine pRet ?_|refine pCond ?_|refine gNone ?_|refine gOn rfl ?_|refine gOff rfl rfl ?_|refine gTup rfl ?_))
    refine (swakes_w (hG.chg0 e5) (e5.fine hF)).mono fun v wz q => ?_
    obtain ⟨rfl, dz⟩ := q
    (repeat(first|refine pSeq ?_|refine pReg ?_|refine sRaw ?_|refine sCons ?_|refine sNil ?_|refine pBlock ?_|refine pSkip ?_|refine pExit ?_|refine pRet ?_|refine pCond ?_|refine gNone ?_|refine gOn rfl ?_|refine gOff rfl rfl ?_|refine gTup rfl ?_))
    rfl
end Go.Vf.S

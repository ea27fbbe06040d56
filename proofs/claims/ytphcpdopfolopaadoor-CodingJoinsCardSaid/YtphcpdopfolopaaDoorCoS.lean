import Derived.Test.YtphcpdopfolopaaDoorCoQ
import Derived.Test.YtphcpdopfolopaaDoorLbC
import Derived.Test.YtphcpdopfolopaaDoorAdS
import Derived.Test.YtphcpdopfolopaaDoorEngBf
import Derived.Test.YtphcpdopfolopaaDoorEngMb
/- Cases; the law's lengths; same. -/
namespace Go.Vf.S
open Go Go.Vf Go.Proofs Go.RowKit Go.MapKept
attribute [local irreducible] wSeq wRow wp wG
set_option linter.unusedVariables false
set_option linter.unusedSimpArgs false
set_option maxRecDepth 10000

theorem toUpper11_w {s : SS} {l : List UInt8} (hl : l.length ≤ 1000000) (ha : asc l) : CallW pr 13 [str l] s fun v s' => v = str (l.map Lib.upperB) ∧ s' = s := by
  refine CallW.kit rfl fun B w0 ρ args' w H hr => ?_
  obtain ⟨v1, rfl, q1⟩ := lrel_1 hr
  obtain rfl := str_inv q1
  exact Any.strings_ToUpper_ascii Tryd.lays158 Tryd.Builder_Extra_158 ⟨⟨l⟩⟩ w (by show l.length ≤ _; omega) (asc_at ha)
theorem toLower11_w {s : SS} {l : List UInt8} (hl : l.length ≤ 1000000) (ha : asc l) : CallW pr 12 [str l] s fun v s' => v = str (l.map Lib.lowerB) ∧ s' = s := by
  refine CallW.kit rfl fun B w0 ρ args' w H hr => ?_
  obtain ⟨v1, rfl, q1⟩ := lrel_1 hr
  obtain rfl := str_inv q1
  exact Any.strings_ToLower_ascii Tryd.lays159 Tryd.Builder_Extra_159 ⟨⟨l⟩⟩ w (by show l.length ≤ _; omega) (asc_at ha)

/-! ### Cases -/
theorem all_bytes11 {p : UInt8 → Bool} (h : (List.range 256).all (fun n => p (UInt8.ofNat n)) = true) (c : UInt8) : p c = true := by
  have := List.all_eq_true.1 h c.toNat (List.mem_range.2 c.toNat_lt)
  rwa [show UInt8.ofNat c.toNat = c by simp] at this
theorem case_up (c : UInt8) : caseF 5 c = Lib.upperB c := eq_of_beq (all_bytes11 (p := fun c => caseF 5 c == Lib.upperB c) (by decide +kernel) c)
theorem case_low (c : UInt8) : caseF 4 c = Lib.lowerB c := eq_of_beq (all_bytes11 (p := fun c => caseF 4 c == Lib.lowerB c) (by decide +kernel) c)
theorem case_lower {z : Nat} (hz : 4 ≤ z ∧ z ≤ 6) (h6 : z ≠ 6) (c : UInt8) : caseF z (Lib.lowerB c) = caseF z c := by
  rcases (show z = 4 ∨ z = 5 by omega) with rfl | rfl
  · exact eq_of_beq (all_bytes11 (p := fun c => caseF 4 (Lib.lowerB c) == caseF 4 c) (by decide +kernel) c)
  · exact eq_of_beq (all_bytes11 (p := fun c => caseF 5 (Lib.lowerB c) == caseF 5 c) (by decide +kernel) c)
theorem case_upper {z : Nat} (hz : 4 ≤ z ∧ z ≤ 6) (h6 : z ≠ 6) (c : UInt8) : caseF z (Lib.upperB c) = caseF z c := by
  rcases (show z = 4 ∨ z = 5 by omega) with rfl | rfl
  · exact eq_of_beq (all_bytes11 (p := fun c => caseF 4 (Lib.upperB c) == caseF 4 c) (by decide +kernel) c)
  · exact eq_of_beq (all_bytes11 (p := fun c => caseF 5 (Lib.upperB c) == caseF 5 c) (by decide +kernel) c)
theorem read_lower {z : Nat} (hz : 4 ≤ z ∧ z ≤ 6) (h6 : z ≠ 6) (s : List UInt8) : readF z (s.map Lib.lowerB) = readF z s :=
  readF_case h6 (by rw [List.map_map]; exact List.map_congr_left fun c _ => case_lower hz h6 c)
theorem read_upper {z : Nat} (hz : 4 ≤ z ∧ z ≤ 6) (h6 : z ≠ 6) (s : List UInt8) : readF z (s.map Lib.upperB) = readF z s :=
  readF_case h6 (by rw [List.map_map]; exact List.map_congr_left fun c _ => case_upper hz h6 c)
theorem lets_asc {z : Nat} (hz : 4 ≤ z ∧ z ≤ 6) : ∀ c ∈ lets z, c.toNat < 128 := by
  have : (lets z).all (fun c => decide (c.toNat < 128)) = true := by
    rcases (show z = 4 ∨ z = 5 ∨ z = 6 by omega) with rfl | rfl | rfl <;> decide
  intro c hc
  exact of_decide_eq_true (List.all_eq_true.1 this c hc)
theorem tellF_asc {z : Nat} (hz : 4 ≤ z ∧ z ≤ 6) (b : List UInt8) : asc (tellF z b) := by
  intro c hc
  unfold tellF at hc
  rcases List.mem_append.1 hc with h | h
  · obtain ⟨d, hd, rfl⟩ := List.mem_map.1 h
    exact lets_asc hz _ (List.mem_of_getElem? (let_get hz (tellP_lt z b d hd)))
  · rw [(List.mem_replicate.1 h).2]; decide
theorem plc_asc {z : Nat} (hz : 4 ≤ z ∧ z ≤ 6) (c : UInt8) (h : plcF z c ≠ none) : c.toNat < 128 := by
  have key : ∀ z, (z = 4 ∨ z = 5 ∨ z = 6) → (List.range 256).all (fun n => (plcF z (UInt8.ofNat n)).isNone || decide ((UInt8.ofNat n).toNat < 128)) = true := by
    intro z hz
    rcases hz with rfl | rfl | rfl <;> decide +kernel
  have := all_bytes11 (p := fun c => (plcF z c).isNone || decide (c.toNat < 128)) (key z (by omega)) c
  cases hp : plcF z c with
  | none => exact absurd hp h
  | some d =>
    simp only [hp, Option.isNone_some, Bool.false_or] at this
    exact of_decide_eq_true this
theorem plcs_asc {z : Nat} (hz : 4 ≤ z ∧ z ≤ 6) {s : List UInt8} {p : List Nat} (h : plcs z s = some p) : asc s := by
  intro c hc
  refine plc_asc hz c fun hn => ?_
  obtain ⟨i, hi, rfl⟩ := List.mem_iff_getElem.1 hc
  rw [plcs_none (List.getElem?_eq_getElem hi) hn] at h
  cases h
theorem readF_asc {z : Nat} (hz : 4 ≤ z ∧ z ≤ 6) (h6 : z ≠ 6) {s b : List UInt8} (h : readF z s = some b) : asc s := by
  unfold readF at h
  rw [if_neg h6] at h
  cases hp : plcs z s with
  | none => rw [hp] at h; cases h
  | some p => exact plcs_asc hz hp

theorem same_w {s : SS} {z : Nat} {a b : List UInt8} (hz : 4 ≤ z ∧ z ≤ 6) (hl : b.length ≤ 1000000) (hb : z ≠ 6 → asc b) (h : a = b.map (caseF z)) : CallW pr n_law11_same [str a, str b, .int .i64 z] s fun v s' => v = .bool true ∧ s' = s := by
  refine CallW.run good ok_law11_same (by simp) rfl ?_
  (repeat(first|refine pSeq ?_|refine pReg ?_|refine sCons ?_|refine sNil ?_|refine pBlock ?_|refine pSkip ?_|refine pRet ?_|refine pCond ?_|refine gNone ?_))
  intro q hq
  by_cases h5 : z = 5
  · obtain rfl : q = true := by rw [hq, h5]; rfl
    subst h5
    (repeat(first|refine pSeq ?_|refine pReg ?_|refine sCons ?_|refine sNil ?_|refine pBlock ?_|refine pSkip ?_|refine pRet ?_|refine pCond ?_|refine gNone ?_))
    refine (toUpper11_w hl (hb (by decide))).mono fun v s1 q => ?_
    obtain ⟨rfl, rfl⟩ := q
    (repeat(first|refine pSeq ?_|refine pReg ?_|refine sCons ?_|refine sNil ?_|refine pBlock ?_|refine pSkip ?_|refine pRet ?_|refine pCond ?_|refine gNone ?_))
    intro q hq
    obtain rfl : q = true := by rw [hq]; exact decide_eq_true (by rw [h]; exact List.map_congr_left fun c _ => case_up c)
    (repeat(first|refine pSeq ?_|refine pReg ?_|refine sCons ?_|refine sNil ?_|refine pBlock ?_|refine pSkip ?_|refine pRet ?_|refine pCond ?_|refine gNone ?_))
    exact ⟨rfl, rfl⟩
  obtain rfl : q = false := by rw [hq]; simp; omega
  (repeat(first|refine pSeq ?_|refine pReg ?_|refine sCons ?_|refine sNil ?_|refine pBlock ?_|refine pSkip ?_|refine pRet ?_|refine pCond ?_|refine gNone ?_))
  intro q hq
  by_cases h4 : z = 4
  · obtain rfl : q = true := by rw [hq, h4]; rfl
    subst h4
    (repeat(first|refine pSeq ?_|refine pReg ?_|refine sCons ?_|refine sNil ?_|refine pBlock ?_|refine pSkip ?_|refine pRet ?_|refine pCond ?_|refine gNone ?_))
    refine (toLower11_w hl (hb (by decide))).mono fun v s1 q => ?_
    obtain ⟨rfl, rfl⟩ := q
    (repeat(first|refine pSeq ?_|refine pReg ?_|refine sCons ?_|refine sNil ?_|refine pBlock ?_|refine pSkip ?_|refine pRet ?_|refine pCond ?_|refine gNone ?_))
    intro q hq
    obtain rfl : q = true := by rw [hq]; exact decide_eq_true (by rw [h]; exact List.map_congr_left fun c _ => case_low c)
    (repeat(first|refine pSeq ?_|refine pReg ?_|refine sCons ?_|refine sNil ?_|refine pBlock ?_|refine pSkip ?_|refine pRet ?_|refine pCond ?_|refine gNone ?_))
    exact ⟨rfl, rfl⟩
  obtain rfl : q = false := by rw [hq]; simp; omega
  (repeat(first|refine pSeq ?_|refine pReg ?_|refine sCons ?_|refine sNil ?_|refine pBlock ?_|refine pSkip ?_|refine pRet ?_|refine pCond ?_|refine gNone ?_))
  intro q hq
  obtain rfl : q = true := by
    rw [hq]
    obtain rfl : z = 6 := by omega
    exact decide_eq_true (by rw [h, case6_map])
  (repeat(first|refine pSeq ?_|refine pReg ?_|refine sCons ?_|refine sNil ?_|refine pBlock ?_|refine pSkip ?_|refine pRet ?_|refine pCond ?_|refine gNone ?_))
  exact ⟨rfl, rfl⟩

/-! ### Numbers by their kinds: a map of numbers -/
abbrev tMI : TypeId := 37
abbrev tInt : TypeId := 3
theorem un_MI : pr.underlying tMI = some (.map tInt tInt) := by kernel_rfl
theorem un_Int : pr.underlying tInt = some (.int .i64) := by kernel_rfl
abbrev iV (n : Int) : Value := .int .i64 n
theorem isKey_i (z : Int) : IsKey (.int .i64) (iV z) := rfl
def mE (l : List (Int × Int)) : List MapEntry := l.mapIdx fun i x => ⟨iV x.1, iV x.2, i⟩
theorem mE_at {l : List (Int × Int)} {x : MapEntry} (h : x ∈ mE l) : ∃ y ∈ l, x.key = iV y.1 ∧ x.val = iV y.2 := by
  unfold mE at h
  obtain ⟨i, hi, rfl⟩ := List.mem_mapIdx.1 h
  exact ⟨l[i], List.getElem_mem hi, rfl, rfl⟩
theorem insI {T : TL} {s : SS} {K : Value → SS → Prop} {m key val : Operand} {id : Nat} {l : List (Int × Int)} {k v : Int} (hc : (okC m && okC key && okC val) = true) (hx : opd T s.gl m = some (.map (some id))) (hy : opd T s.gl key = some (iV k)) (hz : opd T s.gl val = some (iV v)) (hb : lookH s.heap id = some (.map (mE l) l.length)) (hlt : id < s.next) (hnew : ∀ x ∈ l, x.1 ≠ k)
    (h : ∀ s' : SS, lookH s'.heap id = some (.map (mE (l ++ [(k, v)])) (l ++ [(k, v)]).length) → Chg s s' [id] → s'.next = s.next → K (.tuple #[]) s') : OpW pr (.insert tMI m key val) T s K := by
  refine insert_W (d := .int .i64) hc un_MI un_Int hx hy hz (isKey_i k) hb (fun x hx => ?_) (fun x hx => ?_) (h _ ?_ (.turn hlt) rfl)
  · obtain ⟨y, _, e, _⟩ := mE_at hx
    rw [e]; exact isKey_i _
  · obtain ⟨y, hy, e, _⟩ := mE_at hx
    rw [e]
    exact fun q => hnew y hy (Value.int.inj q).2
  · rw [lkH]
    unfold mE
    rw [List.mapIdx_append, List.length_append]
    simp
theorem lkI {T : TL} {s : SS} {K : Value → SS → Prop} {m key : Operand} {id : Nat} {l : List (Int × Int)} {k v : Int} (hc : (okC m && okC key) = true) (hx : opd T s.gl m = some (.map (some id))) (hy : opd T s.gl key = some (iV k)) (hb : lookH s.heap id = some (.map (mE l) l.length)) (hin : (k, v) ∈ l) (hall : ∀ x ∈ l, x.1 = k → x.2 = v)
    (h : K (iV v) s) : OpW pr (.lookup tMI m key false) T s K := by
  refine lookup_in (d := .int .i64) hc un_MI un_Int hx hy (isKey_i k) rfl hb (fun x hx => ?_) ?_ (fun x hx q => ?_) h
  · obtain ⟨y, _, e, _⟩ := mE_at hx
    rw [e]; exact isKey_i _
  · obtain ⟨i, hi, e⟩ := List.mem_iff_getElem.1 hin
    exact ⟨⟨iV k, iV v, i⟩, by unfold mE; exact List.mem_mapIdx.2 ⟨i, hi, by rw [e]⟩, rfl⟩
  · obtain ⟨y, hy, e1, e2⟩ := mE_at hx
    rw [e1] at q
    rw [e2, hall y hy (Value.int.inj q).2]
end Go.Vf.S

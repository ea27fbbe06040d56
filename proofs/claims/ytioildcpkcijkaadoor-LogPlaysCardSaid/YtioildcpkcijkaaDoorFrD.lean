import Derived.Test.YtioildcpkcijkaaDoorFrC
/- The frames' functions, the program's own: what each tells. -/
namespace Go.Vf.S
open Go Go.Vf Go.Vf.Fr
attribute [local irreducible] wSeq wRow wp wG
set_option linter.unusedVariables false
set_option linter.unusedSimpArgs false
set_option maxRecDepth 10000

theorem gB_plain : stepsV.all plain1 = true := by decide

/-- What holds of a state ahead of a call that reads one row of bytes. -/
structure Pre (s : SS) (base : Option Addr) (n : Nat) (l : List UInt8) : Prop where
  gl : s.gl = 1
  steps : lookH s.heap 0 = some gB
  next : 1 ≤ s.next
  rd : Rdb s base n l

theorem Rdb.plainAt {s : SS} {b off n : Nat} {sp : Option Nat} {l : List UInt8} (h : Rdb s (some ⟨b, off, sp⟩) n l) : PlainAt s b := by
  obtain ⟨_, _, h1, c, t, g, r, h2, _, h3⟩ := h
  exact ⟨h1, c, t, g, r, h2, h3⟩

def needOf : Option Addr → List Nat
  | none => [0]
  | some a => [0, a.block]

theorem Pre.part {s : SS} {base : Option Addr} {n : Nat} {l : List UInt8} (h : Pre s base n l) : Pre (s.part (needOf base)) base n l ∧ ∀ id ∈ needOf base, PlainAt s id := by
  obtain ⟨h1, h2, h3, h4⟩ := h
  have p0 : PlainAt s 0 := ⟨by omega, _, _, _, _, h2, gB_plain⟩
  cases base with
  | none =>
    refine ⟨⟨h1, ?_, h3, h4⟩, fun id hid => ?_⟩
    · show lookH (subH s.heap [0]) 0 = _
      rw [subH_look _ _ _ (by simp), h2]; rfl
    · simp [needOf] at hid; subst hid; exact p0
  | some a =>
    obtain ⟨b, off, sp⟩ := a
    refine ⟨⟨h1, ?_, h3, ?_⟩, fun id hid => ?_⟩
    · show lookH (subH s.heap [0, b]) 0 = _
      rw [subH_look _ _ _ (by simp), h2]; rfl
    · obtain ⟨q1, q2, q3, c, t, g, r, q4, q5, q6⟩ := h4
      refine ⟨q1, q2, q3, c, t, g, true, ?_, q5, q6⟩
      show lookH (subH s.heap [0, b]) b = _
      rw [subH_look _ _ _ (by simp), q4]; rfl
    · simp [needOf] at hid
      rcases hid with rfl | rfl
      · exact p0
      · exact Rdb.plainAt h4

theorem idF_lt {n i : Nat} (h : i < n) : idF n i = some i := by unfold idF; rw [show Nat.blt i n = true from by rw [Nat.blt_eq]; exact h]; rfl

theorem rn_base {s : SS} {base : Option Addr} {n c : Nat} {l : List UInt8} (h : Rdb s base n l) : rnV (idF s.next) (.slice base n c) = some (.slice base n c) := by
  cases base with
  | none => rfl
  | some a =>
    obtain ⟨b, off, sp⟩ := a
    obtain ⟨_, _, h1, _⟩ := h
    simp only [rnV, rn1, idF_lt h1]

theorem run_ok {s : SS} {base : Option Addr} {n c : Nat} {r : BitVec 32} {l : List UInt8} (h : Pre s base n l) (hb : n < 2 ^ 40) : CallOk pr n_frame_run [.int .u32 r.toNat, .slice base n c] s.st (.int .u32 (reg r l).toNat) s.st := by
  obtain ⟨h1, h2⟩ := h.part
  refine CallOk.reads (needOf base) h2 ?_ (by have := h.next; have := h.gl; omega) rfl ((run_w _ _ _ _ _ _ h1.steps h1.gl h1.rd hb).mono fun v s' q => q.1)
  simp only [rnL, rn_base h.rd]
  rfl

/-- A number, its highest byte first. -/
def be4 (x : BitVec 32) : List UInt8 := [byteOf (x >>> 24), byteOf (x >>> 16), byteOf (x >>> 8), byteOf x]

def sumS (ahead number : BitVec 32) (n : Nat) (l : List UInt8) : BitVec 32 := crc (be4 ahead ++ be4 number ++ [UInt8.ofNat (n / 256), UInt8.ofNat n] ++ l)


theorem look_tail {b n : Nat} {H : List (Nat × Option ABlk)} {x : Option ABlk} {y : ABlk} (hlt : b < n) (h : lookH H b = some y) : lookH ((n, x) :: H) b = some y := by
  simp only [lookH]
  rw [beqF (show n ≠ b by omega)]
  exact h

theorem Rdb.head {s : SS} {n k : Nat} {l : List UInt8} (H : List (Nat × Option ABlk)) (e : TypeId) (g : Bool) (hk : k = l.length) : Rdb ⟨(n, some (.cells (bytesV l) e g false)) :: H, n + 1, s.gl⟩ (some ⟨n, 0, none⟩) k l := by
  refine ⟨hk, rfl, Nat.lt_succ_self n, bytesV l, e, g, false, ?_, ?_, bytesV_plain l⟩
  · simp only [lookH, Nat.beq_refl, cond_true]
  · rw [takeN_bytes (by omega), List.drop_zero, List.take_of_length_le (by omega)]

theorem nat_lo (n : Nat) : IntKind.wrap .u8 (n : Int) = ((UInt8.ofNat n).toNat : Int) := by rw [wrap_u8]; simp
theorem nat_hi {n : Nat} (h : n < 65536) : IntKind.wrap .u8 (Int.fdiv (n : Int) (2 ^ 8)) = ((UInt8.ofNat (n / 256)).toNat : Int) := by
  rw [wrap_u8, Int.fdiv_eq_ediv_of_nonneg _ (by decide)]
  simp

theorem word_nil {s : SS} {x : BitVec 32} : CallW pr n_frame_word [.slice none 0 0, .int .u32 x.toNat] s fun v s' => v = .slice (some ⟨s.next + 1, 0, none⟩) 4 0 ∧
    s' = ⟨(s.next + 1, some (.cells (bytesV (be4 x)) 5 true false)) :: (s.next, some (.cells (bytesV (be4 x)) 5 false false)) :: s.heap, s.next + 2, s.gl⟩ := by
  refine CallW.run good ok_frame_word (by simp) rfl ?_
  (repeat(first|refine pSeq ?_|refine pReg ?_|refine sCons ?_|refine sNil ?_|refine pRet ?_|refine gNone ?_))
  intro z hz; rw [shr_u32] at hz; subst hz
  (repeat(first|refine pSeq ?_|refine pReg ?_|refine sCons ?_|refine sNil ?_|refine pRet ?_|refine gNone ?_))
  intro z hz; rw [u32_u8] at hz; subst hz
  (repeat(first|refine pSeq ?_|refine pReg ?_|refine sCons ?_|refine sNil ?_|refine pRet ?_|refine gNone ?_))
  intro z hz; rw [shr_u32] at hz; subst hz
  (repeat(first|refine pSeq ?_|refine pReg ?_|refine sCons ?_|refine sNil ?_|refine pRet ?_|refine gNone ?_))
  intro z hz; rw [u32_u8] at hz; subst hz
  (repeat(first|refine pSeq ?_|refine pReg ?_|refine sCons ?_|refine sNil ?_|refine pRet ?_|refine gNone ?_))
  intro z hz; rw [shr_u32] at hz; subst hz
  (repeat(first|refine pSeq ?_|refine pReg ?_|refine sCons ?_|refine sNil ?_|refine pRet ?_|refine gNone ?_))
  intro z hz; rw [u32_u8] at hz; subst hz
  (repeat(first|refine pSeq ?_|refine pReg ?_|refine sCons ?_|refine sNil ?_|refine pRet ?_|refine gNone ?_))
  intro z hz; rw [u32_u8] at hz; subst hz
  (repeat(first|refine pSeq ?_|refine pReg ?_|refine sCons ?_|refine sNil ?_|refine pRet ?_|refine gNone ?_))
  refine appB_nil rfl rfl (Rdb.head (s := s) (n := s.next) (l := (be4 x)) s.heap 5 false rfl) (by omega) (by omega) ?_
  (repeat(first|refine pSeq ?_|refine pReg ?_|refine sCons ?_|refine sNil ?_|refine pRet ?_|refine gNone ?_))
  exact ⟨rfl, rfl⟩

theorem word_grow {s : SS} {b m cap : Nat} {a : List UInt8} {x : BitVec 32} (hbk : lookH s.heap b = some (.cells (bytesV a) 5 true false)) (hlt : b < s.next) (hm : m = a.length) (hb : m + 4 ≤ 4294967296) :
    CallW pr n_frame_word [.slice (some ⟨b, 0, none⟩) m cap, .int .u32 x.toNat] s fun v s' => v = .slice (some ⟨s.next + 1, 0, none⟩) (m + 4) 0 ∧
    s' = ⟨(s.next + 1, some (.cells (bytesV (a ++ (be4 x))) 5 true false)) :: (b, none) :: (s.next, some (.cells (bytesV (be4 x)) 5 false false)) :: s.heap, s.next + 2, s.gl⟩ := by
  refine CallW.run good ok_frame_word (by simp) rfl ?_
  (repeat(first|refine pSeq ?_|refine pReg ?_|refine sCons ?_|refine sNil ?_|refine pRet ?_|refine gNone ?_))
  intro z hz; rw [shr_u32] at hz; subst hz
  (repeat(first|refine pSeq ?_|refine pReg ?_|refine sCons ?_|refine sNil ?_|refine pRet ?_|refine gNone ?_))
  intro z hz; rw [u32_u8] at hz; subst hz
  (repeat(first|refine pSeq ?_|refine pReg ?_|refine sCons ?_|refine sNil ?_|refine pRet ?_|refine gNone ?_))
  intro z hz; rw [shr_u32] at hz; subst hz
  (repeat(first|refine pSeq ?_|refine pReg ?_|refine sCons ?_|refine sNil ?_|refine pRet ?_|refine gNone ?_))
  intro z hz; rw [u32_u8] at hz; subst hz
  (repeat(first|refine pSeq ?_|refine pReg ?_|refine sCons ?_|refine sNil ?_|refine pRet ?_|refine gNone ?_))
  intro z hz; rw [shr_u32] at hz; subst hz
  (repeat(first|refine pSeq ?_|refine pReg ?_|refine sCons ?_|refine sNil ?_|refine pRet ?_|refine gNone ?_))
  intro z hz; rw [u32_u8] at hz; subst hz
  (repeat(first|refine pSeq ?_|refine pReg ?_|refine sCons ?_|refine sNil ?_|refine pRet ?_|refine gNone ?_))
  intro z hz; rw [u32_u8] at hz; subst hz
  (repeat(first|refine pSeq ?_|refine pReg ?_|refine sCons ?_|refine sNil ?_|refine pRet ?_|refine gNone ?_))
  refine appB_grow rfl (look_tail hlt hbk) hm rfl (Rdb.head (s := s) (n := s.next) (l := (be4 x)) s.heap 5 false rfl) (by omega) hb ?_
  (repeat(first|refine pSeq ?_|refine pReg ?_|refine sCons ?_|refine sNil ?_|refine pRet ?_|refine gNone ?_))
  exact ⟨rfl, rfl⟩

theorem word_room {s : SS} {b m cap : Nat} {a : List UInt8} {x : BitVec 32} (hbk : lookH s.heap b = some (.cells (bytesV a) 5 false false)) (hlt : b < s.next) (hcap : a.length = cap) (hm : m + 4 ≤ cap) (hb : cap ≤ 4294967296) :
    CallW pr n_frame_word [.slice (some ⟨b, 0, none⟩) m cap, .int .u32 x.toNat] s fun v s' => v = .slice (some ⟨b, 0, none⟩) (m + 4) cap ∧
    s' = ⟨(b, some (.cells (bytesV (a.take m ++ (be4 x) ++ a.drop (m + 4))) 5 false false)) :: (s.next, some (.cells (bytesV (be4 x)) 5 false false)) :: s.heap, s.next + 1, s.gl⟩ := by
  refine CallW.run good ok_frame_word (by simp) rfl ?_
  (repeat(first|refine pSeq ?_|refine pReg ?_|refine sCons ?_|refine sNil ?_|refine pRet ?_|refine gNone ?_))
  intro z hz; rw [shr_u32] at hz; subst hz
  (repeat(first|refine pSeq ?_|refine pReg ?_|refine sCons ?_|refine sNil ?_|refine pRet ?_|refine gNone ?_))
  intro z hz; rw [u32_u8] at hz; subst hz
  (repeat(first|refine pSeq ?_|refine pReg ?_|refine sCons ?_|refine sNil ?_|refine pRet ?_|refine gNone ?_))
  intro z hz; rw [shr_u32] at hz; subst hz
  (repeat(first|refine pSeq ?_|refine pReg ?_|refine sCons ?_|refine sNil ?_|refine pRet ?_|refine gNone ?_))
  intro z hz; rw [u32_u8] at hz; subst hz
  (repeat(first|refine pSeq ?_|refine pReg ?_|refine sCons ?_|refine sNil ?_|refine pRet ?_|refine gNone ?_))
  intro z hz; rw [shr_u32] at hz; subst hz
  (repeat(first|refine pSeq ?_|refine pReg ?_|refine sCons ?_|refine sNil ?_|refine pRet ?_|refine gNone ?_))
  intro z hz; rw [u32_u8] at hz; subst hz
  (repeat(first|refine pSeq ?_|refine pReg ?_|refine sCons ?_|refine sNil ?_|refine pRet ?_|refine gNone ?_))
  intro z hz; rw [u32_u8] at hz; subst hz
  (repeat(first|refine pSeq ?_|refine pReg ?_|refine sCons ?_|refine sNil ?_|refine pRet ?_|refine gNone ?_))
  refine appB_room rfl (look_tail hlt hbk) hcap rfl (Rdb.head (s := s) (n := s.next) (l := (be4 x)) s.heap 5 false rfl) hm hb ?_
  (repeat(first|refine pSeq ?_|refine pReg ?_|refine sCons ?_|refine sNil ?_|refine pRet ?_|refine gNone ?_))
  exact ⟨rfl, rfl⟩

theorem half_nil {s : SS} {k : Nat} (hk : k < 65536) : CallW pr n_frame_half [.slice none 0 0, .int .i64 k] s fun v s' => v = .slice (some ⟨s.next + 1, 0, none⟩) 2 0 ∧
    s' = ⟨(s.next + 1, some (.cells (bytesV [UInt8.ofNat (k / 256), UInt8.ofNat k]) 5 true false)) :: (s.next, some (.cells (bytesV [UInt8.ofNat (k / 256), UInt8.ofNat k]) 5 false false)) :: s.heap, s.next + 2, s.gl⟩ := by
  refine CallW.run good ok_frame_half (by simp) rfl ?_
  (repeat(first|refine pSeq ?_|refine pReg ?_|refine sCons ?_|refine sNil ?_|refine pRet ?_|refine gNone ?_))
  intro z hz; subst hz
  (repeat(first|refine pSeq ?_|refine pReg ?_|refine sCons ?_|refine sNil ?_|refine pRet ?_|refine gNone ?_))
  intro z hz; rw [nat_hi hk] at hz; subst hz
  (repeat(first|refine pSeq ?_|refine pReg ?_|refine sCons ?_|refine sNil ?_|refine pRet ?_|refine gNone ?_))
  intro z hz; rw [nat_lo] at hz; subst hz
  (repeat(first|refine pSeq ?_|refine pReg ?_|refine sCons ?_|refine sNil ?_|refine pRet ?_|refine gNone ?_))
  refine appB_nil rfl rfl (Rdb.head (s := s) (n := s.next) (l := [UInt8.ofNat (k / 256), UInt8.ofNat k]) s.heap 5 false rfl) (by omega) (by omega) ?_
  (repeat(first|refine pSeq ?_|refine pReg ?_|refine sCons ?_|refine sNil ?_|refine pRet ?_|refine gNone ?_))
  exact ⟨rfl, rfl⟩

theorem half_grow {s : SS} {b m cap : Nat} {a : List UInt8} {k : Nat} (hk : k < 65536) (hbk : lookH s.heap b = some (.cells (bytesV a) 5 true false)) (hlt : b < s.next) (hm : m = a.length) (hb : m + 2 ≤ 4294967296) :
    CallW pr n_frame_half [.slice (some ⟨b, 0, none⟩) m cap, .int .i64 k] s fun v s' => v = .slice (some ⟨s.next + 1, 0, none⟩) (m + 2) 0 ∧
    s' = ⟨(s.next + 1, some (.cells (bytesV (a ++ [UInt8.ofNat (k / 256), UInt8.ofNat k])) 5 true false)) :: (b, none) :: (s.next, some (.cells (bytesV [UInt8.ofNat (k / 256), UInt8.ofNat k]) 5 false false)) :: s.heap, s.next + 2, s.gl⟩ := by
  refine CallW.run good ok_frame_half (by simp) rfl ?_
  (repeat(first|refine pSeq ?_|refine pReg ?_|refine sCons ?_|refine sNil ?_|refine pRet ?_|refine gNone ?_))
  intro z hz; subst hz
  (repeat(first|refine pSeq ?_|refine pReg ?_|refine sCons ?_|refine sNil ?_|refine pRet ?_|refine gNone ?_))
  intro z hz; rw [nat_hi hk] at hz; subst hz
  (repeat(first|refine pSeq ?_|refine pReg ?_|refine sCons ?_|refine sNil ?_|refine pRet ?_|refine gNone ?_))
  intro z hz; rw [nat_lo] at hz; subst hz
  (repeat(first|refine pSeq ?_|refine pReg ?_|refine sCons ?_|refine sNil ?_|refine pRet ?_|refine gNone ?_))
  refine appB_grow rfl (look_tail hlt hbk) hm rfl (Rdb.head (s := s) (n := s.next) (l := [UInt8.ofNat (k / 256), UInt8.ofNat k]) s.heap 5 false rfl) (by omega) hb ?_
  (repeat(first|refine pSeq ?_|refine pReg ?_|refine sCons ?_|refine sNil ?_|refine pRet ?_|refine gNone ?_))
  exact ⟨rfl, rfl⟩

theorem half_room {s : SS} {b m cap : Nat} {a : List UInt8} {k : Nat} (hk : k < 65536) (hbk : lookH s.heap b = some (.cells (bytesV a) 5 false false)) (hlt : b < s.next) (hcap : a.length = cap) (hm : m + 2 ≤ cap) (hb : cap ≤ 4294967296) :
    CallW pr n_frame_half [.slice (some ⟨b, 0, none⟩) m cap, .int .i64 k] s fun v s' => v = .slice (some ⟨b, 0, none⟩) (m + 2) cap ∧
    s' = ⟨(b, some (.cells (bytesV (a.take m ++ [UInt8.ofNat (k / 256), UInt8.ofNat k] ++ a.drop (m + 2))) 5 false false)) :: (s.next, some (.cells (bytesV [UInt8.ofNat (k / 256), UInt8.ofNat k]) 5 false false)) :: s.heap, s.next + 1, s.gl⟩ := by
  refine CallW.run good ok_frame_half (by simp) rfl ?_
  (repeat(first|refine pSeq ?_|refine pReg ?_|refine sCons ?_|refine sNil ?_|refine pRet ?_|refine gNone ?_))
  intro z hz; subst hz
  (repeat(first|refine pSeq ?_|refine pReg ?_|refine sCons ?_|refine sNil ?_|refine pRet ?_|refine gNone ?_))
  intro z hz; rw [nat_hi hk] at hz; subst hz
  (repeat(first|refine pSeq ?_|refine pReg ?_|refine sCons ?_|refine sNil ?_|refine pRet ?_|refine gNone ?_))
  intro z hz; rw [nat_lo] at hz; subst hz
  (repeat(first|refine pSeq ?_|refine pReg ?_|refine sCons ?_|refine sNil ?_|refine pRet ?_|refine gNone ?_))
  refine appB_room rfl (look_tail hlt hbk) hcap rfl (Rdb.head (s := s) (n := s.next) (l := [UInt8.ofNat (k / 256), UInt8.ofNat k]) s.heap 5 false rfl) hm hb ?_
  (repeat(first|refine pSeq ?_|refine pReg ?_|refine sCons ?_|refine sNil ?_|refine pRet ?_|refine gNone ?_))
  exact ⟨rfl, rfl⟩
end Go.Vf.S

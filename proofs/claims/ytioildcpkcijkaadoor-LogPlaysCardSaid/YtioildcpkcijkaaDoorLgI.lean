import Derived.Test.YtioildcpkcijkaaDoorLgH
/- A log of known payloads: its calls; the chapter's example. -/
namespace Go.Vf.S
open Go Go.Vf Go.Vf.Fr
attribute [local irreducible] wSeq wRow wp wG
set_option linter.unusedVariables false
set_option linter.unusedSimpArgs false
set_option maxRecDepth 10000

/-- A log of these payloads, j of them sure, z bytes 0 behind them. -/
structure On (s : SS) (g d : Nat) (D : Dk) (B : Bs) (ps : PL) (j z : Nat) : Prop where
  ev : Ev s
  la : LAt s g d (lgS ps j)
  dk : DAt s d D B
  now : D.now = ch 0#32 1#32 ps ++ List.replicate z 0
  le : ∀ p ∈ ps, p.length ≤ 16384
  inv : DInv D

theorem On.off {s : SS} {g d : Nat} {D : Dk} {B : Bs} {ps : PL} {j z : Nat} (h : On s g d D B ps j z) : 0 ∉ g :: foot d B := by
  simp only [List.mem_cons, not_or]
  exact ⟨h.ev.offL h.la, h.ev.off h.dk⟩
theorem On.chg {s s' : SS} {g d : Nat} {D : Dk} {B : Bs} {ps : PL} {j z : Nat} {Z : List Nat} (h : On s g d D B ps j z) (c : Chg s s' Z) (h0 : 0 ∉ Z) (hg : g ∉ Z) (hd : ∀ id ∈ whole d B, id ∉ Z) : On s' g d D B ps j z :=
  ⟨h.ev.chg c h0, h.la.chg c hg, h.dk.chg c hd, h.now, h.le, h.inv⟩
theorem On.same {s s' : SS} {g d : Nat} {D : Dk} {B : Bs} {ps : PL} {j z : Nat} (h : On s g d D B ps j z) (c : Chg s s' []) : On s' g d D B ps j z := h.chg c (by simp) (by simp) (by simp)
theorem On.len {s : SS} {g d : Nat} {D : Dk} {B : Bs} {ps : PL} {j z : Nat} (h : On s g d D B ps j z) : (ch 0#32 1#32 ps).length + z = D.now.length := by rw [h.now, List.length_append, List.length_replicate]
theorem On.size {s : SS} {g d : Nat} {D : Dk} {B : Bs} {ps : PL} {j z : Nat} (h : On s g d D B ps j z) : (lgS ps j).size ≤ 1048576 := by
  have h1 := h.len
  have h2 := h.dk.lnow
  have h3 := h.dk.cap
  show (ch 0#32 1#32 ps).length ≤ _
  omega

theorem On.append {s : SS} {g d n c : Nat} {D : Dk} {B : Bs} {ps : PL} {j z : Nat} {base : Option Addr} {p : List UInt8} (h : On s g d D B ps j z) (hp : Rdb s base n p) (hn : n ≤ 16384) (hf : D.full = false) (hcap : (ch 0#32 1#32 ps).length + 10 + n ≤ D.cap) (hw : D.ws.length < 9998) (hx : ∀ id ∈ blkOf base, id ∉ foot d B) :
    CallW pr n_log_Log_Append [.pointer (some ⟨g, 0, none⟩), .slice base n c] s fun v s' => v = .tuple ⟨[.int .u32 (BitVec.ofNat 32 (ps.length + 1)).toNat, .int .i64 0]⟩ ∧
      ∃ D' B' z', On s' g d D' B' (ps ++ [p]) j z' ∧ D'.cap = D.cap ∧ D'.full = D.full ∧ D'.sure = D.sure ∧ D'.ws = D.ws ++ [((ch 0#32 1#32 ps).length, (lgS ps j).form p)] ∧ z' = z - (10 + n) ∧ Chg s s' (g :: foot d B) ∧ (∀ id ∈ whole d B', id ∈ whole d B ∨ s.next ≤ id) := by
  obtain rfl : n = p.length := hp.1
  have e := app_pure (j := j) hn h.now hf hcap
  refine (append_w h.la h.dk h.ev.fine (by rw [h.dk.many]; omega) ⟨h.ev.gl, h.ev.steps, h.ev.next, hp⟩ h.size hx).mono fun v s' q => ?_
  rw [e] at q
  obtain ⟨rfl, la, B', k, cg, -, al⟩ := q
  refine ⟨by rw [List.length_append]; rfl, _, B', _, ⟨h.ev.chg cg h.off, la, k, rfl, ?_, ?_⟩, rfl, rfl, rfl, rfl, rfl, cg, al⟩
  · intro q hq
    rcases List.mem_append.1 hq with r | r
    · exact h.le q r
    · obtain rfl : q = p := by simpa using r
      exact hn
  · have hi := h.inv
    show _ = lays _ _
    rw [lays_snoc]
    show _ = layF (lays D.ws D.sure) _ _
    rw [← hi, h.now, layF_zeros, form_len, ← lgS_form]

theorem On.refused {s : SS} {g d n c : Nat} {D : Dk} {B : Bs} {ps : PL} {j z : Nat} {base : Option Addr} {p : List UInt8} (h : On s g d D B ps j z) (hp : Rdb s base n p) (hn : n ≤ 16384) (hf : D.full = true ∨ D.cap < (ch 0#32 1#32 ps).length + 10 + n) (hw : D.ws.length < 9998) (hx : ∀ id ∈ blkOf base, id ∉ foot d B) :
    CallW pr n_log_Log_Append [.pointer (some ⟨g, 0, none⟩), .slice base n c] s fun v s' => v = .tuple ⟨[.int .u32 0, .int .i64 7]⟩ ∧ ∃ B', On s' g d D B' ps j z ∧ Chg s s' (g :: foot d B) ∧ (∀ id ∈ whole d B', id ∈ whole d B ∨ s.next ≤ id) := by
  obtain rfl : n = p.length := hp.1
  have e : (lgS ps j).appended D p = ((0#32, 7), lgS ps j, D) := by
    rcases hf with q | q
    · exact app_full hn h.now q
    · exact app_room hn h.now q
  refine (append_w h.la h.dk h.ev.fine (by rw [h.dk.many]; omega) ⟨h.ev.gl, h.ev.steps, h.ev.next, hp⟩ h.size hx).mono fun v s' q => ?_
  rw [e] at q
  obtain ⟨rfl, la, B', k, cg, -, al⟩ := q
  exact ⟨rfl, B', ⟨h.ev.chg cg h.off, la, k, h.now, h.le, h.inv⟩, cg, al⟩

theorem On.sync {s : SS} {g d : Nat} {D : Dk} {B : Bs} {ps : PL} {j z : Nat} (h : On s g d D B ps j z) : CallW pr n_log_Log_Sync [.pointer (some ⟨g, 0, none⟩)] s fun v s' => v = .int .i64 0 ∧ ∃ B', On s' g d { D with sure := D.now, ws := [] } B' ps ps.length z ∧ Chg s s' (g :: foot d B) ∧ (∀ id ∈ whole d B', id ∈ whole d B ∨ s.next ≤ id) := by
  refine (lsync_w h.la h.dk).mono fun v s' q => ?_
  obtain ⟨rfl, la, B', k, cg, -, al⟩ := q
  have e : D.synced = { D with sure := D.now, ws := [] } := by unfold Dk.synced; rw [← h.inv]
  rw [e] at k
  exact ⟨rfl, B', ⟨h.ev.chg cg h.off, la, k, h.now, h.le, rfl⟩, cg, al⟩

/-- Recovered: the log anew. -/
theorem recovered_on {s : SS} {d : Nat} {D : Dk} {B : Bs} {ps : PL} {r : List UInt8} (k : DAt s d D B) (ev : Ev s) (hw : D.ws.length < 9998) (hle : ∀ p ∈ ps, p.length ≤ 16384) (hnow : D.now = ch 0#32 1#32 ps ++ r)
    (hr : openE (chS 0#32 1#32 ps) (1#32 + BitVec.ofNat 32 ps.length) r ≠ 0) (hi : DInv D) (hf : D.full = false ∨ r = []) :
    CallW pr n_log_Recover [.pointer (some ⟨d, 0, none⟩)] s fun v s' => ∃ B' g W cw qs X, v = .tuple ⟨[.pointer (some ⟨g, 0, none⟩), .slice W qs.length cw, .int .i64 0]⟩ ∧ X = ch 0#32 1#32 ps ++ List.replicate r.length 0 ∧ On s' g d ⟨D.cap, D.full, X, X, []⟩ B' ps ps.length r.length ∧
      s.next ≤ g ∧ Pys s' s.next W cw qs ∧ qs.map (·.2.2) = ps ∧ Chg s s' (foot d B) ∧ (∀ id ∈ whole d B', id ∈ whole d B ∨ s.next ≤ id) ∧ ∀ id, PyIn W qs id → id ∉ whole d B' ∧ id ≠ g := by
  refine (recovered_w k ev hw hle hnow hr hi hf).mono fun v s' q => ?_
  obtain ⟨B', g, W, cw, qs, rfl, la, k', hg, py, hp, c, al, off⟩ := q
  exact ⟨B', g, W, cw, qs, _, rfl, rfl, ⟨ev.chg c (ev.off k), la, k', rfl, hle, rfl⟩, hg, py, hp, c, al, off⟩

/-- A disk made, and a log on it. -/
theorem made_stop : openE (chS 0#32 1#32 []) (1#32 + BitVec.ofNat 32 ([] : PL).length) [] ≠ 0 := short_stop (by simp)

/-- Bytes just laid, as a slice of their own. -/
theorem mark_new {T : TL} {s : SS} {K : RR → Prop} {x : Operand} {e : TypeId} {cells : List Value} {n c : Nat} (bs : List UInt8) (hx : opd T s.gl x = some (.slice (some ⟨s.next, 0, none⟩) n c)) (hc : cells = bytesV bs) (hn : n = bs.length)
    (h : ∀ s' : SS, Rdb s' (some ⟨s.next, 0, none⟩) n bs → Chg s s' [] → s'.next = s.next + 1 → K (.eff (.slice (some ⟨s.next, 0, none⟩) n c) s')) : wN pr (.mark x) T { s with heap := (s.next, some (.cells cells e false false)) :: s.heap, next := s.next + 1 } K := by
  subst hc
  simp only [wN, hx, lkH]
  exact h _ (Rdb.head s.heap e false hn) (.new _) rfl

theorem new_off {s : SS} {d b : Nat} {D : Dk} {B : Bs} (k : DAt s d D B) (hb : s.next ≤ b) : b ∉ whole d B := fun q => by have := k.blt b q; omega
end Go.Vf.S

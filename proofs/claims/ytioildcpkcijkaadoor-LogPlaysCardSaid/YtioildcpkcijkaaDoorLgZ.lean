import Derived.Test.YtioildcpkcijkaaDoorLgY
/- What the law LogPlays says. -/

section
/- Both logs recovered. -/
namespace Go.Vf.S
open Go Go.Vf Go.Vf.Fr
attribute [local irreducible] wSeq wRow wp wG
set_option linter.unusedVariables false
set_option linter.unusedSimpArgs false
set_option maxRecDepth 10000

set_option maxHeartbeats 2000000 in
theorem recovers_w {s : SS} {xb d r : Nat} {D : Dk} {B : Bs} {R : RB} {o : Pr} (h : Pl s xb d r D B R o) (hw : D.ws.length < 9000) :
    CallW pr n_law03_both_recovers [.pointer (some ⟨xb, 0, none⟩)] s fun v s' => v = .bool true ∧ ∃ B' R' o', Pl s' xb d r (rcv D).2 B' R' o' ∧ Mild s s' := by
  have hnow := h.both.disk.lnow
  have hxlt := h.lt
  have hinv := rcv_inv h.both.inv
  refine CallW.run good ok_law03_both_recovers (by simp) rfl ?_
  (repeat(first|refine pSeq ?_|refine pReg ?_|refine sCons ?_|refine sNil ?_|refine pRet ?_|refine gNone ?_|refine gOn rfl ?_|refine gOff rfl rfl ?_|refine gTup rfl ?_))
  refine ld1_is rfl h.blk rfl ?_
  (repeat(first|refine pSeq ?_|refine pReg ?_|refine sCons ?_|refine sNil ?_|refine pRet ?_|refine gNone ?_|refine gOn rfl ?_|refine gOff rfl rfl ?_|refine gTup rfl ?_))
  refine (recover_w h.both.disk h.ev.fine h.ev.gl h.ev.steps h.ev.next (by omega)).mono fun v s1 q => ?_
  obtain ⟨B1, k1, c1, al1, alt⟩ := q
  have n1 := c1.next
  have r1 := h.both.ref.chg c1 (fun id q r => h.both.rd id q (foot_whole r))
  have blk1 := c1.blk _ _ h.lt (fun q => h.offD (foot_whole q)) h.blk
  have ev1 := h.ev.chg c1 (h.ev.off h.both.disk)
  have ml1 := mild_dk h.both.disk c1
  have hfr : ∀ id ∈ rfoot r R, id < s.next := fun id q => h.both.ref.blt id (rfoot_whole q)
  have fin : ∀ (s2 s4 : SS) (R2 : RB) (o' : Pr), RAt s2 r (rcv D).2 R2 → RStep r s1 R s2 R2 → Ev s2 → Chg s2 s4 [xb] → lookH s4.heap xb = some (.cells (plCells d r o') tX false false) → xb < s4.next → (∀ g m A, o' = some (g, m, A) → LAt s2 g d A ∧ Rl s2 m r A ∧ A.size ≤ (rcv D).2.cap ∧ g ≠ xb ∧ m ≠ xb) → ∃ B' R' o', Pl s4 xb d r (rcv D).2 B' R' o' ∧ Mild s s4 := by
    intro s2 s4 R2 o' k2 st2 ev2 c24 hb hl ho
    obtain ⟨b2, t2⟩ := h.both.both (A' := (rcv D).2) hinv.1 k1 ⟨c1, al1⟩ k2 st2
    have blk2 := st2.chg.blk _ _ (by omega) h.offR blk1
    have off1 : xb ∉ whole d B1 := b2.disk.foot3 blk2 ⟨by decide, by decide, by decide⟩
    have off2 : xb ∉ rwhole r R2 := fun q => by
      rcases t2.rl xb q with q | q
      · rcases List.mem_append.1 q with q | q
        · exact h.offR q
        · simp only [rbytes, List.mem_append, List.mem_flatMap] at q
          rcases q with q | ⟨w, hw, q⟩
          · obtain ⟨_, e⟩ := h.both.ref.sure.at _ q; exact type_ne h.blk e (by decide) rfl
          · obtain ⟨_, e⟩ := (h.both.ref.each w hw).1.at _ q; exact type_ne h.blk e (by decide) rfl
      · omega
    have sx : ∀ (L : List Nat), xb ∉ L → ∀ id ∈ L, id ∉ [xb] := fun L hL id q r => by rw [List.mem_singleton] at r; rw [r] at q; exact hL q
    refine ⟨B1, R2, o', ⟨⟨b2.disk.chg c24 (sx _ off1), b2.ref.chg c24 (sx _ off2), b2.inv, b2.sep⟩, ev2.chg c24 (by simp only [List.mem_singleton]; intro e; exact type_ne ev2.steps blk2 (by decide) e), hl, hb, fun g m A e => ?_⟩, (ml1.trans (mild_ref r1 st2.chg)).trans (mild_one blk2 (by decide) c24)⟩
    obtain ⟨l1, l2, l3, l4, l5⟩ := ho g m A e
    exact ⟨l1.chg c24 (by simpa using l4), l2.chg c24 (by simpa using l5), l3⟩
  rcases alt with ⟨he, rfl⟩ | ⟨he, g, W, cw, ps, rfl, la, hg, py, hp, hoff⟩
  · (repeat(first|refine pSeq ?_|refine pReg ?_|refine sCons ?_|refine sNil ?_|refine pRet ?_|refine gNone ?_|refine gOn rfl ?_|refine gOff rfl rfl ?_|refine gTup rfl ?_))
    refine ld1_is rfl blk1 rfl ?_
    (repeat(first|refine pSeq ?_|refine pReg ?_|refine sCons ?_|refine sNil ?_|refine pRet ?_|refine gNone ?_|refine gOn rfl ?_|refine gOff rfl rfl ?_|refine gTup rfl ?_))
    refine (rlrecover_w r1 h.both.inv ev1 hnow (by omega)).mono fun v s2 q => ?_
    obtain ⟨R2, k2, st2, alt2⟩ := q
    obtain rfl : v = .tuple ⟨[.pointer none, .slice none 0 0, .int .i64 (rcv D).1]⟩ := by
      rcases alt2 with ⟨-, q⟩ | ⟨he2, -⟩
      · exact q
      · exact absurd he2 he
    have blk2 := st2.chg.blk _ _ (by omega) h.offR blk1
    have n2 := st2.chg.next
    have ev2 := ev1.chg st2.chg (fun q => r1.off0 ev1 (rfoot_whole q))
    (repeat(first|refine pSeq ?_|refine pReg ?_|refine sCons ?_|refine sNil ?_|refine pRet ?_|refine gNone ?_|refine gOn rfl ?_|refine gOff rfl rfl ?_|refine gTup rfl ?_))
    refine st_abs rfl rfl blk2 (by omega) rfl rfl fun s3 e3 c3 n3 => ?_
    (repeat(first|refine pSeq ?_|refine pReg ?_|refine sCons ?_|refine sNil ?_|refine pRet ?_|refine gNone ?_|refine gOn rfl ?_|refine gOff rfl rfl ?_|refine gTup rfl ?_))
    refine st_abs rfl rfl e3 (by omega) rfl rfl fun s4 e4 c4 n4 => ?_
    (repeat(first|refine pSeq ?_|refine pReg ?_|refine sCons ?_|refine sNil ?_|refine pRet ?_|refine gNone ?_|refine gOn rfl ?_|refine gOff rfl rfl ?_|refine gTup rfl ?_))
    intro q hq
    obtain rfl : q = true := by rw [hq]; simp
    (repeat(first|refine pSeq ?_|refine pReg ?_|refine sCons ?_|refine sNil ?_|refine pRet ?_|refine gNone ?_|refine gOn rfl ?_|refine gOff rfl rfl ?_|refine gTup rfl ?_))
    intro q hq
    obtain rfl : q = true := hq
    (repeat(first|refine pSeq ?_|refine pReg ?_|refine sCons ?_|refine sNil ?_|refine pRet ?_|refine gNone ?_|refine gOn rfl ?_|refine gOff rfl rfl ?_|refine gTup rfl ?_))
    intro q hq
    obtain rfl : q = true := hq
    (repeat(first|refine pSeq ?_|refine pReg ?_|refine sCons ?_|refine sNil ?_|refine pRet ?_|refine gNone ?_|refine gOn rfl ?_|refine gOff rfl rfl ?_|refine gTup rfl ?_))
    intro q hq
    obtain rfl : q = true := by rw [hq]; rfl
    (repeat(first|refine pSeq ?_|refine pReg ?_|refine sCons ?_|refine sNil ?_|refine pRet ?_|refine gNone ?_|refine gOn rfl ?_|refine gOff rfl rfl ?_|refine gTup rfl ?_))
    refine (same_w (ps := []) (qs := []) (W := none) (V := none) ⟨rfl, by simp⟩ ⟨rfl, by simp⟩ (by simp)).mono fun v s5 q => ?_
    obtain ⟨rfl, rfl⟩ := q
    (repeat(first|refine pSeq ?_|refine pReg ?_|refine sCons ?_|refine sNil ?_|refine pRet ?_|refine gNone ?_|refine gOn rfl ?_|refine gOff rfl rfl ?_|refine gTup rfl ?_))
    exact ⟨rfl, fin s2 _ R2 none k2 st2 ev2 (c3.trans' c4 (fun _ q _ => q) (fun _ q _ => q)) e4 (by omega) (fun _ _ _ e => by cases e)⟩
  · (repeat(first|refine pSeq ?_|refine pReg ?_|refine sCons ?_|refine sNil ?_|refine pRet ?_|refine gNone ?_|refine gOn rfl ?_|refine gOff rfl rfl ?_|refine gTup rfl ?_))
    refine ld1_is rfl blk1 rfl ?_
    (repeat(first|refine pSeq ?_|refine pReg ?_|refine sCons ?_|refine sNil ?_|refine pRet ?_|refine gNone ?_|refine gOn rfl ?_|refine gOff rfl rfl ?_|refine gTup rfl ?_))
    refine (rlrecover_w r1 h.both.inv ev1 hnow (by omega)).mono fun v s2 q => ?_
    obtain ⟨R2, k2, st2, alt2⟩ := q
    obtain ⟨m, W2, cw2, ps2, rfl, lm, hm, pyc, hp2⟩ : ∃ m W2 cw2 ps2, v = .tuple ⟨[.pointer (some ⟨m, 0, none⟩), .slice W2 (ps2 : List Py).length cw2, .int .i64 0]⟩ ∧ Rl s2 m r (after (recF D)).synced ∧ s1.next ≤ m ∧ PyC s2 W2 cw2 ps2 ∧ ps2.map (·.2.2) = (recF D).map (·.p) := by
      rcases alt2 with ⟨he2, -⟩ | ⟨-, q⟩
      · exact absurd he he2
      · exact q
    have blk2 := st2.chg.blk _ _ (by omega) h.offR blk1
    have n2 := st2.chg.next
    have ev2 := ev1.chg st2.chg (fun q => r1.off0 ev1 (rfoot_whole q))
    (repeat(first|refine pSeq ?_|refine pReg ?_|refine sCons ?_|refine sNil ?_|refine pRet ?_|refine gNone ?_|refine gOn rfl ?_|refine gOff rfl rfl ?_|refine gTup rfl ?_))
    refine st_abs rfl rfl blk2 (by omega) rfl rfl fun s3 e3 c3 n3 => ?_
    (repeat(first|refine pSeq ?_|refine pReg ?_|refine sCons ?_|refine sNil ?_|refine pRet ?_|refine gNone ?_|refine gOn rfl ?_|refine gOff rfl rfl ?_|refine gTup rfl ?_))
    refine st_abs rfl rfl e3 (by omega) rfl rfl fun s4 e4 c4 n4 => ?_
    (repeat(first|refine pSeq ?_|refine pReg ?_|refine sCons ?_|refine sNil ?_|refine pRet ?_|refine gNone ?_|refine gOn rfl ?_|refine gOff rfl rfl ?_|refine gTup rfl ?_))
    have c24 : Chg s2 s4 [xb] := c3.trans' c4 (fun _ q _ => q) (fun _ q _ => q)
    have py4 := (py.chg (s0 := s.next) st2.chg hfr).chg (s0 := s.next) c24 (by simpa using hxlt)
    have pyc4 := pyc.chg c24 (fun id q => by rw [List.mem_singleton.1 q]; exact ⟨_, _, _, _, blk2, by decide, by decide⟩)
    have hlp : ps.length < 4294967296 := by
      have h1 : (recF D).length * 10 ≤ D.now.length := frs_len _ _ _ _
      have h2 := congrArg List.length hp
      have h3 := h.both.disk.cap
      rw [List.length_map, List.length_map] at h2
      omega
    intro q hq
    obtain rfl : q = true := by rw [hq]; simp
    (repeat(first|refine pSeq ?_|refine pReg ?_|refine sCons ?_|refine sNil ?_|refine pRet ?_|refine gNone ?_|refine gOn rfl ?_|refine gOff rfl rfl ?_|refine gTup rfl ?_))
    intro q hq
    obtain rfl : q = false := hq
    (repeat(first|refine pSeq ?_|refine pReg ?_|refine sCons ?_|refine sNil ?_|refine pRet ?_|refine gNone ?_|refine gOn rfl ?_|refine gOff rfl rfl ?_|refine gTup rfl ?_))
    intro q hq
    obtain rfl : q = false := hq
    (repeat(first|refine pSeq ?_|refine pReg ?_|refine sCons ?_|refine sNil ?_|refine pRet ?_|refine gNone ?_|refine gOn rfl ?_|refine gOff rfl rfl ?_|refine gTup rfl ?_))
    intro q hq
    obtain rfl : q = true := by rw [hq]; rfl
    (repeat(first|refine pSeq ?_|refine pReg ?_|refine sCons ?_|refine sNil ?_|refine pRet ?_|refine gNone ?_|refine gOn rfl ?_|refine gOff rfl rfl ?_|refine gTup rfl ?_))
    refine (same_w py4.row' pyc4.row hlp).mono fun v s5 q => ?_
    obtain ⟨rfl, rfl⟩ := q
    rw [hp, hp2, decide_eq_true rfl]
    (repeat(first|refine pSeq ?_|refine pReg ?_|refine sCons ?_|refine sNil ?_|refine pRet ?_|refine gNone ?_|refine gOn rfl ?_|refine gOff rfl rfl ?_|refine gTup rfl ?_))
    exact ⟨rfl, fin s2 _ R2 (some (g, m, (after (recF D)).synced)) k2 st2 ev2 c24 e4 (by omega) (fun g' m' A' e => by
      cases e
      exact ⟨la.chg st2.chg (fun q => by have := hfr _ q; omega), lm, by rw [hinv.2.1]; exact rcv_size D hnow, by omega, by omega⟩)⟩
end Go.Vf.S
end

section
/- A call with both logs: what is kept. -/
namespace Go.Vf.S
open Go Go.Vf Go.Vf.Fr
attribute [local irreducible] wSeq wRow wp wG
set_option linter.unusedVariables false
set_option linter.unusedSimpArgs false
set_option maxRecDepth 10000

theorem RAt.foot4 {s : SS} {r : Nat} {A : Dk} {R : RB} (h : RAt s r A R) {b : Nat} {c : List Value} {t : TypeId} {g ro : Bool} (hb : lookH s.heap b = some (.cells c t g ro)) (ht : t ≠ tR ∧ t ≠ tV ∧ t ≠ tB) : b ∉ rwhole r R := by
  intro q
  simp only [rwhole, rfoot, rbytes, List.mem_append, List.mem_cons, List.mem_flatMap] at q
  rcases q with (rfl | q) | (q | ⟨w, hw, q⟩)
  · exact type_ne hb h.obj ht.1 rfl
  · obtain ⟨_, e⟩ := h.row.at _ q; exact type_ne hb e ht.2.1 rfl
  · obtain ⟨_, e⟩ := h.sure.at _ q; exact type_ne hb e ht.2.2 rfl
  · obtain ⟨_, e⟩ := (h.each w hw).1.at _ q; exact type_ne hb e ht.2.2 rfl

theorem app_keeps {D : Dk} {A : Lg} {l : List UInt8} (hI : D.Inv) (hn : D.now.length ≤ D.cap) (hs : A.size ≤ D.cap) : (A.appended D l).2.2.Inv ∧ (A.appended D l).2.2.cap = D.cap ∧ (A.appended D l).2.2.ws.length ≤ D.ws.length + 1 ∧ (A.appended D l).2.1.size ≤ D.cap := by
  unfold Lg.appended
  split
  · exact ⟨hI, rfl, Nat.le_succ _, hs⟩
  · have hc : (D.wrote A.size (A.form l)).2.cap = D.cap ∧ (D.wrote A.size (A.form l)).2.ws.length ≤ D.ws.length + 1 := by
      unfold Dk.wrote
      split
      · exact ⟨rfl, Nat.le_succ _⟩
      · split
        · exact ⟨rfl, Nat.le_succ _⟩
        · exact ⟨rfl, by simp⟩
    split
    · exact ⟨inv_wrote hI _ _, hc.1, hc.2, hs⟩
    · rename_i h1 h2
      refine ⟨inv_wrote hI _ _, hc.1, hc.2, ?_⟩
      have h3 : (D.wrote A.size (A.form l)).1 = 0 := Classical.not_not.1 h2
      have hf := form_len A l
      unfold Dk.wrote at h3
      split at h3
      · cases h3
      · split at h3
        · cases h3
        · show A.size + (10 + l.length) ≤ D.cap
          omega
theorem wrote_keeps {D : Dk} (hI : D.Inv) (k : Int) (l : List UInt8) : (D.wrote k l).2.Inv ∧ (D.wrote k l).2.cap = D.cap ∧ (D.wrote k l).2.ws.length ≤ D.ws.length + 1 := by
  refine ⟨inv_wrote hI _ _, ?_⟩
  unfold Dk.wrote
  split
  · exact ⟨rfl, Nat.le_succ _⟩
  · split
    · exact ⟨rfl, Nat.le_succ _⟩
    · exact ⟨rfl, by simp⟩

/-- First the program's, then the document's. -/
theorem Both.duo {s s1 s2 : SS} {d r : Nat} {A A' : Dk} {B B' : Bs} {R R' : RB} {Z Y : List Nat} (h : Both s d r A B R) (hi : A'.Inv) (h1 : DAt s1 d A' B') (c1 : Chg s s1 Z) (al1 : ∀ id ∈ whole d B', id ∈ whole d B ∨ s.next ≤ id)
    (h2 : RAt s2 r A' R') (c2 : Chg s1 s2 Y) (hY : ∀ id ∈ Y, id ∉ whole d B') (al2 : ∀ id ∈ rbytes R', id ∈ rbytes R ∨ s1.next ≤ id) : Both s2 d r A' B' R' := by
  refine ⟨h1.chg c2 (fun id q q2 => hY id q2 q), h2, hi, fun id q q2 => ?_⟩
  rcases al2 id q with q | q
  · rcases al1 id q2 with q3 | q3
    · exact h.sep id q q3
    · have := h.ref.blt id (List.mem_append_right _ q); omega
  · have := h1.blt id q2; omega
/-- First the document's, then the program's. -/
theorem Both.duo' {s s1 s2 : SS} {d r : Nat} {A A' : Dk} {B B' : Bs} {R R' : RB} {Z Y : List Nat} (h : Both s d r A B R) (hi : A'.Inv) (h1 : RAt s1 r A' R') (c1 : Chg s s1 Z) (al1 : ∀ id ∈ rbytes R', id ∈ rbytes R ∨ s.next ≤ id)
    (h2 : DAt s2 d A' B') (c2 : Chg s1 s2 Y) (hY : ∀ id ∈ Y, id ∉ rwhole r R') (al2 : ∀ id ∈ whole d B', id ∈ whole d B ∨ s1.next ≤ id) : Both s2 d r A' B' R' := by
  refine ⟨h2, h1.chg c2 (fun id q q2 => hY id q2 q), hi, fun id q q2 => ?_⟩
  rcases al2 id q2 with q3 | q3
  · rcases al1 id q with q | q
    · exact h.sep id q q3
    · have := h.disk.blt id q3; omega
  · have := h1.blt id (List.mem_append_right _ q); omega

theorem Pl.two {s s2 : SS} {xb d r : Nat} {D D' : Dk} {B B' : Bs} {R R' : RB} {o : Pr} (h : Pl s xb d r D B R o) (b : Both s2 d r D' B' R') (t : Two d r s B R s2 B' R') (hc : D'.cap = D.cap) : Pl s2 xb d r D' B' R' o ∧ Mild s s2 := by
  have n0 : 0 ∉ foot d B ++ rfoot r R := fun q => (List.mem_append.1 q).elim (h.ev.off h.both.disk) (fun q => h.both.ref.off0 h.ev (rfoot_whole q))
  have nx : xb ∉ foot d B ++ rfoot r R := fun q => (List.mem_append.1 q).elim (fun q => h.offD (foot_whole q)) h.offR
  refine ⟨⟨b, h.ev.chg t.chg n0, Nat.lt_of_lt_of_le h.lt t.chg.next, t.chg.blk _ _ h.lt nx h.blk, fun g m A e => ?_⟩, .of t.chg fun id q hl => ?_⟩
  · obtain ⟨l1, l2, l3⟩ := h.logs g m A e
    exact ⟨l1.chg t.chg (fun q => (List.mem_append.1 q).elim (l1.off h.both.disk) (h.both.ref.foot3 l1.blk ⟨by decide, by decide⟩)), l2.chg t.chg (fun q => (List.mem_append.1 q).elim (fun q => h.both.disk.foot3 l2.blk ⟨by decide, by decide, by decide⟩ (foot_whole q)) (h.both.ref.foot3 l2.blk ⟨by decide, by decide⟩)), by rw [hc]; exact l3⟩
  · rcases List.mem_append.1 q with q | q
    · simp only [foot, List.mem_cons, List.mem_append] at q
      rcases q with rfl | (q | q) | q
      · exact ⟨_, _, _, h.both.disk.obj, by decide⟩
      · obtain ⟨z, hz⟩ := h.both.disk.sure.at _ q
        exact ⟨_, _, _, hz, by decide⟩
      · obtain ⟨z, hz⟩ := h.both.disk.now.at _ q
        exact ⟨_, _, _, hz, by decide⟩
      · obtain ⟨z, hz⟩ := h.both.disk.row.at _ q
        exact ⟨_, _, _, hz, by decide⟩
    · rcases List.mem_cons.1 q with rfl | q
      · exact ⟨_, _, _, h.both.ref.obj, by decide⟩
      · obtain ⟨z, hz⟩ := h.both.ref.row.at _ q
        exact ⟨_, _, _, hz, by decide⟩
theorem mild_cons {s s' : SS} {a : Nat} {Z : List Nat} {cs : List Value} {t : TypeId} {g : Bool} (h : lookH s.heap a = some (.cells cs t g false)) (ht : t ≠ tA) (c : Chg s s' (a :: Z)) (hz : ∀ id ∈ Z, id < s.next → ∃ c t g, lookH s.heap id = some (.cells c t g false) ∧ t ≠ tA) : Mild s s' := .of c fun id q hl => by
  rcases List.mem_cons.1 q with rfl | q
  · exact ⟨_, _, _, h, ht⟩
  · exact hz id q hl
theorem foot_mild {s : SS} {d : Nat} {D : Dk} {B : Bs} (k : DAt s d D B) : ∀ id ∈ foot d B, id < s.next → ∃ c t g, lookH s.heap id = some (.cells c t g false) ∧ t ≠ tA := fun id q hl => by
  simp only [foot, List.mem_cons, List.mem_append] at q
  rcases q with rfl | (q | q) | q
  · exact ⟨_, _, _, k.obj, by decide⟩
  · obtain ⟨z, hz⟩ := k.sure.at _ q
    exact ⟨_, _, _, hz, by decide⟩
  · obtain ⟨z, hz⟩ := k.now.at _ q
    exact ⟨_, _, _, hz, by decide⟩
  · obtain ⟨z, hz⟩ := k.row.at _ q
    exact ⟨_, _, _, hz, by decide⟩
theorem rfoot_mild {s : SS} {r : Nat} {D : Dk} {R : RB} (k : RAt s r D R) : ∀ id ∈ rfoot r R, id < s.next → ∃ c t g, lookH s.heap id = some (.cells c t g false) ∧ t ≠ tA := fun id q hl => by
  rcases List.mem_cons.1 q with rfl | q
  · exact ⟨_, _, _, k.obj, by decide⟩
  · obtain ⟨z, hz⟩ := k.row.at _ q
    exact ⟨_, _, _, hz, by decide⟩
end Go.Vf.S
end

section
/- A call with both logs. -/
namespace Go.Vf.S
open Go Go.Vf Go.Vf.Fr
attribute [local irreducible] wSeq wRow wp wG
set_option linter.unusedVariables false
set_option linter.unusedSimpArgs false
set_option maxRecDepth 10000

/-- What a call with both leaves. -/
def OneQ (s : SS) (xb d r : Nat) (D : Dk) (v : Value) (s' : SS) : Prop := v = .bool true ∧ ∃ D' B' R' o', Pl s' xb d r D' B' R' o' ∧ Mild s s' ∧ D'.ws.length ≤ D.ws.length + 2 ∧ D'.cap = D.cap

set_option maxHeartbeats 8000000 in
theorem one_w {s : SS} {xb d r : Nat} {D : Dk} {B : Bs} {R : RB} {o : Pr} {a : AV} (h : Pl s xb d r D B R o) (ha : ActOk s a) (hb : a.bl.length ≤ 60) (hw : D.ws.length < 1000) :
    CallW pr n_law03_both_one [.pointer (some ⟨xb, 0, none⟩), .agg ⟨aCell a⟩] s (OneQ s xb d r D) := by
  have hcap := h.both.disk.cap
  have hnow := h.both.disk.lnow
  have ewB := h.both.disk.many
  have ewR : R.wl.length = D.ws.length := by rw [← h.both.ref.ews, List.length_map]
  refine CallW.run good ok_law03_both_one (by simp) rfl ?_
  have cA := Chg.new (s := s) (b := .cells (flat (.agg ⟨aCell a⟩)) tA false false) []
  have hbx1 : lookH ({ s with heap := (s.next, some (.cells (flat (.agg ⟨aCell a⟩)) tA false false)) :: s.heap, next := s.next + 1 } : SS).heap s.next = some (.cells (aCell a) tA false false) := lkH
  have hlt1 : s.next < ({ s with heap := (s.next, some (.cells (flat (.agg ⟨aCell a⟩)) tA false false)) :: s.heap, next := s.next + 1 } : SS).next := Nat.lt_succ_self _
  (repeat(first|refine pSeq ?_|refine pReg ?_|refine sCons ?_|refine sNil ?_|refine rCons ?_|refine rNil ?_|refine kNo ?_|refine pRow ?_|refine pBlock ?_|refine pSkip ?_|refine pRet ?_|refine pCond ?_|refine gNone ?_|refine gOn rfl ?_|refine gOff rfl rfl ?_|refine gTup rfl ?_))
  generalize ({ s with heap := (s.next, some (.cells (flat (.agg ⟨aCell a⟩)) tA false false)) :: s.heap, next := s.next + 1 } : SS) = s1 at *
  have h1 := h.chg0 cA
  have ha1 := ha.mild (.none cA)
  have hm1 : Mild s s1 := .none cA
  have np1 := cA.next
  have fin : ∀ {v : Value} {s' : SS} {D' : Dk} {B' : Bs} {R' : RB} {o' : Pr}, v = .bool true → Pl s' xb d r D' B' R' o' → Mild s1 s' → D'.ws.length ≤ D.ws.length + 2 → D'.cap = D.cap → OneQ s xb d r D v s' := fun e p m w c => ⟨e, _, _, _, _, p, hm1.trans m, w, c⟩
  have ro : ∀ id ∈ actIds a, (∀ {D' B'}, DAt s1 d D' B' → id ∉ foot d B') := fun id q _ _ k q2 => by
    obtain ⟨_, _, _, e⟩ := ha1.ro id q
    exact k.footR e (foot_whole q2)
  obtain ⟨what, hwhat⟩ : ∃ w, w = a.what := ⟨_, rfl⟩
  refine ldI_is (z := what) rfl hbx1 (by rw [hwhat]; rfl) ?_
  by_cases hw4 : 0 ≤ what ∧ what ≤ 4
  · have hcases : what = 0 ∨ what = 1 ∨ what = 2 ∨ what = 3 ∨ what = 4 := by omega
    rcases hcases with rfl | rfl | rfl | rfl | rfl
    all_goals
      (repeat(first|refine pSeq ?_|refine pReg ?_|refine sCons ?_|refine sNil ?_|refine rCons ?_|refine rNil ?_|refine kNo ?_|refine pRow ?_|refine pBlock ?_|refine pSkip ?_|refine pRet ?_|refine pCond ?_|refine gNone ?_|refine gOn rfl ?_|refine gOff rfl rfl ?_|refine gTup rfl ?_))
      repeat (
        intro q hq
        simp at hq
        subst hq
        (repeat(first|refine pSeq ?_|refine pReg ?_|refine sCons ?_|refine sNil ?_|refine rCons ?_|refine rNil ?_|refine kNo ?_|refine pRow ?_|refine pBlock ?_|refine pSkip ?_|refine pRet ?_|refine pCond ?_|refine gNone ?_|refine gOn rfl ?_|refine gOff rfl rfl ?_|refine gTup rfl ?_)))
      refine ld1_is rfl h1.blk rfl ?_
      cases o with
      | none =>
        (repeat(first|refine pSeq ?_|refine pReg ?_|refine sCons ?_|refine sNil ?_|refine rCons ?_|refine rNil ?_|refine kNo ?_|refine pRow ?_|refine pBlock ?_|refine pSkip ?_|refine pRet ?_|refine pCond ?_|refine gNone ?_|refine gOn rfl ?_|refine gOff rfl rfl ?_|refine gTup rfl ?_))
        intro q hq
        obtain rfl : q = true := hq
        (repeat(first|refine pSeq ?_|refine pReg ?_|refine sCons ?_|refine sNil ?_|refine rCons ?_|refine rNil ?_|refine kNo ?_|refine pRow ?_|refine pBlock ?_|refine pSkip ?_|refine pRet ?_|refine pCond ?_|refine gNone ?_|refine gOn rfl ?_|refine gOff rfl rfl ?_|refine gTup rfl ?_))
        refine ld1_is rfl h1.blk rfl ?_
        (repeat(first|refine pSeq ?_|refine pReg ?_|refine sCons ?_|refine sNil ?_|refine rCons ?_|refine rNil ?_|refine kNo ?_|refine pRow ?_|refine pBlock ?_|refine pSkip ?_|refine pRet ?_|refine pCond ?_|refine gNone ?_|refine gOn rfl ?_|refine gOff rfl rfl ?_|refine gTup rfl ?_))
        refine ld1_is (v := .slice a.bb a.bl.length 0) rfl hbx1 rfl ?_
        (repeat(first|refine pSeq ?_|refine pReg ?_|refine sCons ?_|refine sNil ?_|refine rCons ?_|refine rNil ?_|refine kNo ?_|refine pRow ?_|refine pBlock ?_|refine pSkip ?_|refine pRet ?_|refine pCond ?_|refine gNone ?_|refine gOn rfl ?_|refine gOff rfl rfl ?_|refine gTup rfl ?_))
        refine (append_no (lnone_nil s1)).mono fun v s2 q => ?_
        obtain ⟨rfl, rfl⟩ := q
        (repeat(first|refine pSeq ?_|refine pReg ?_|refine sCons ?_|refine sNil ?_|refine rCons ?_|refine rNil ?_|refine kNo ?_|refine pRow ?_|refine pBlock ?_|refine pSkip ?_|refine pRet ?_|refine pCond ?_|refine gNone ?_|refine gOn rfl ?_|refine gOff rfl rfl ?_|refine gTup rfl ?_))
        intro q hq
        obtain rfl : q = true := by rw [hq]; rfl
        (repeat(first|refine pSeq ?_|refine pReg ?_|refine sCons ?_|refine sNil ?_|refine rCons ?_|refine rNil ?_|refine kNo ?_|refine pRow ?_|refine pBlock ?_|refine pSkip ?_|refine pRet ?_|refine pCond ?_|refine gNone ?_|refine gOn rfl ?_|refine gOff rfl rfl ?_|refine gTup rfl ?_))
        exact fin rfl h1 (.none (.refl _ _)) (by omega) rfl
      | some x =>
        obtain ⟨g, m, A⟩ := x
        obtain ⟨la1, lm1, hs1⟩ := h1.logs g m A rfl
        obtain ⟨ki, kc, kw, ks⟩ := app_keeps (l := a.bl) h1.both.inv hnow hs1
        (repeat(first|refine pSeq ?_|refine pReg ?_|refine sCons ?_|refine sNil ?_|refine rCons ?_|refine rNil ?_|refine kNo ?_|refine pRow ?_|refine pBlock ?_|refine pSkip ?_|refine pRet ?_|refine pCond ?_|refine gNone ?_|refine gOn rfl ?_|refine gOff rfl rfl ?_|refine gTup rfl ?_))
        intro q hq
        obtain rfl : q = false := hq
        (repeat(first|refine pSeq ?_|refine pReg ?_|refine sCons ?_|refine sNil ?_|refine rCons ?_|refine rNil ?_|refine kNo ?_|refine pRow ?_|refine pBlock ?_|refine pSkip ?_|refine pRet ?_|refine pCond ?_|refine gNone ?_|refine gOn rfl ?_|refine gOff rfl rfl ?_|refine gTup rfl ?_))
        refine ld1_is rfl h1.blk rfl ?_
        (repeat(first|refine pSeq ?_|refine pReg ?_|refine sCons ?_|refine sNil ?_|refine rCons ?_|refine rNil ?_|refine kNo ?_|refine pRow ?_|refine pBlock ?_|refine pSkip ?_|refine pRet ?_|refine pCond ?_|refine gNone ?_|refine gOn rfl ?_|refine gOff rfl rfl ?_|refine gTup rfl ?_))
        refine ld1_is (v := .slice a.bb a.bl.length 0) rfl hbx1 rfl ?_
        (repeat(first|refine pSeq ?_|refine pReg ?_|refine sCons ?_|refine sNil ?_|refine rCons ?_|refine rNil ?_|refine kNo ?_|refine pRow ?_|refine pBlock ?_|refine pSkip ?_|refine pRet ?_|refine pCond ?_|refine gNone ?_|refine gOn rfl ?_|refine gOff rfl rfl ?_|refine gTup rfl ?_))
        refine (append_w la1 h1.both.disk h1.ev.fine (by omega) ⟨h1.ev.gl, h1.ev.steps, h1.ev.next, ha1.1.1.1⟩ (by omega) (fun id q => ro id (List.mem_append_left _ q) h1.both.disk)).mono fun v s2 q => ?_
        obtain ⟨rfl, la2, B2, k2, c2, -, al2⟩ := q
        have np2 := c2.next
        have n0 : 0 ∉ g :: foot d B := by
          simp only [List.mem_cons, not_or]
          exact ⟨h1.ev.offL la1, h1.ev.off h1.both.disk⟩
        have ev2 := h1.ev.chg c2 n0
        have nx : xb ∉ g :: foot d B := by
          simp only [List.mem_cons, not_or]
          exact ⟨type_ne h1.blk la1.blk (by decide), fun q => h1.offD (foot_whole q)⟩
        have nm : m ∉ g :: foot d B := by
          simp only [List.mem_cons, not_or]
          exact ⟨type_ne lm1.blk la1.blk (by decide), fun q => h1.both.disk.foot3 lm1.blk ⟨by decide, by decide, by decide⟩ (foot_whole q)⟩
        have nbx : s.next ∉ g :: foot d B := by
          simp only [List.mem_cons, not_or]
          exact ⟨type_ne hbx1 la1.blk (by decide), fun q => h1.both.disk.foot3 hbx1 ⟨by decide, by decide, by decide⟩ (foot_whole q)⟩
        have nr : ∀ id ∈ rwhole r R, id ∉ g :: foot d B := fun id q q2 => by
          rcases List.mem_cons.1 q2 with rfl | q2
          · exact h1.both.ref.foot4 la1.blk ⟨by decide, by decide, by decide⟩ q
          · exact h1.both.rd id q (foot_whole q2)
        have ml2 : Mild s1 s2 := mild_cons la1.blk (by decide) c2 (foot_mild h1.both.disk)
        have r2 := h1.both.ref.chg c2 nr
        have lm2 := lm1.chg c2 nm
        have blk2 := c2.blk _ _ h1.lt nx h1.blk
        have hbx2 := c2.blk _ _ hlt1 nbx hbx1
        have ha2 := ha1.mild ml2
        (repeat(first|refine pSeq ?_|refine pReg ?_|refine sCons ?_|refine sNil ?_|refine rCons ?_|refine rNil ?_|refine kNo ?_|refine pRow ?_|refine pBlock ?_|refine pSkip ?_|refine pRet ?_|refine pCond ?_|refine gNone ?_|refine gOn rfl ?_|refine gOff rfl rfl ?_|refine gTup rfl ?_))
        refine ld1_is rfl blk2 rfl ?_
        (repeat(first|refine pSeq ?_|refine pReg ?_|refine sCons ?_|refine sNil ?_|refine rCons ?_|refine rNil ?_|refine kNo ?_|refine pRow ?_|refine pBlock ?_|refine pSkip ?_|refine pRet ?_|refine pCond ?_|refine gNone ?_|refine gOn rfl ?_|refine gOff rfl rfl ?_|refine gTup rfl ?_))
        refine ld1_is (v := .slice a.bb a.bl.length 0) rfl hbx2 rfl ?_
        (repeat(first|refine pSeq ?_|refine pReg ?_|refine sCons ?_|refine sNil ?_|refine rCons ?_|refine rNil ?_|refine kNo ?_|refine pRow ?_|refine pBlock ?_|refine pSkip ?_|refine pRet ?_|refine pCond ?_|refine gNone ?_|refine gOn rfl ?_|refine gOff rfl rfl ?_|refine gTup rfl ?_))
        refine (rlappend_w lm2 r2 ev2 h1.both.inv (by omega) hnow ha2.1.1.1 (by omega) (fun id q => ?_)).mono fun v s3 q => ?_
        · obtain ⟨_, _, _, e⟩ := ha2.ro id (List.mem_append_left _ q)
          refine ⟨fun q2 => r2.footR e (rfoot_whole q2), fun e2 => ?_⟩
          subst e2
          have := lm2.blk
          rw [e] at this
          cases this
        obtain ⟨rfl, lm3, R3, r3, st3, -⟩ := q
        have np3 := st3.chg.next
        have b3 := h1.both.duo (A' := (A.appended D a.bl).2.2) ki k2 c2 al2 r3 st3.chg (fun id q q2 => by
          rcases List.mem_cons.1 q with rfl | q
          · exact k2.foot3 lm2.blk ⟨by decide, by decide, by decide⟩ q2
          · rcases al2 id q2 with q3 | q3
            · exact h1.both.dr id q3 (rfoot_whole q)
            · have := h1.both.ref.blt id (rfoot_whole q); omega) st3.al
        have nx3 : xb ∉ m :: rfoot r R := by
          simp only [List.mem_cons, not_or]
          exact ⟨type_ne blk2 lm2.blk (by decide), r2.foot3 blk2 ⟨by decide, by decide⟩⟩
        have n03 : 0 ∉ m :: rfoot r R := by
          simp only [List.mem_cons, not_or]
          exact ⟨type_ne ev2.steps lm2.blk (by decide), fun q => r2.off0 ev2 (rfoot_whole q)⟩
        have ng3 : g ∉ m :: rfoot r R := by
          simp only [List.mem_cons, not_or]
          exact ⟨type_ne la2.blk lm2.blk (by decide), r2.foot3 la2.blk ⟨by decide, by decide⟩⟩
        have p3 : Pl s3 xb d r (A.appended D a.bl).2.2 B2 R3 (some (g, m, (A.appended D a.bl).2.1)) := ⟨b3, ev2.chg st3.chg n03, by have := h1.lt; omega, st3.chg.blk _ _ (by have := h1.lt; omega) nx3 blk2, fun g' m' A' e => by
          cases e
          exact ⟨la2.chg st3.chg ng3, lm3, by rw [kc]; exact ks⟩⟩
        have ml3 : Mild s1 s3 := ml2.trans (mild_cons lm2.blk (by decide) st3.chg (rfoot_mild r2))
        (repeat(first|refine pSeq ?_|refine pReg ?_|refine sCons ?_|refine sNil ?_|refine rCons ?_|refine rNil ?_|refine kNo ?_|refine pRow ?_|refine pBlock ?_|refine pSkip ?_|refine pRet ?_|refine pCond ?_|refine gNone ?_|refine gOn rfl ?_|refine gOff rfl rfl ?_|refine gTup rfl ?_))
        intro q hq
        obtain rfl : q = true := by rw [hq]; simp
        (repeat(first|refine pSeq ?_|refine pReg ?_|refine sCons ?_|refine sNil ?_|refine rCons ?_|refine rNil ?_|refine kNo ?_|refine pRow ?_|refine pBlock ?_|refine pSkip ?_|refine pRet ?_|refine pCond ?_|refine gNone ?_|refine gOn rfl ?_|refine gOff rfl rfl ?_|refine gTup rfl ?_))
        intro q hq
        obtain rfl : q = true := by rw [hq]; simp
        (repeat(first|refine pSeq ?_|refine pReg ?_|refine sCons ?_|refine sNil ?_|refine rCons ?_|refine rNil ?_|refine kNo ?_|refine pRow ?_|refine pBlock ?_|refine pSkip ?_|refine pRet ?_|refine pCond ?_|refine gNone ?_|refine gOn rfl ?_|refine gOff rfl rfl ?_|refine gTup rfl ?_))
        exact fin rfl p3 ml3 (by omega) kc
  by_cases h5 : what = 5
  · subst h5
    (repeat(first|refine pSeq ?_|refine pReg ?_|refine sCons ?_|refine sNil ?_|refine rCons ?_|refine rNil ?_|refine kNo ?_|refine pRow ?_|refine pBlock ?_|refine pSkip ?_|refine pRet ?_|refine pCond ?_|refine gNone ?_|refine gOn rfl ?_|refine gOff rfl rfl ?_|refine gTup rfl ?_))
    repeat (
      intro q hq
      simp at hq
      subst hq
      (repeat(first|refine pSeq ?_|refine pReg ?_|refine sCons ?_|refine sNil ?_|refine rCons ?_|refine rNil ?_|refine kNo ?_|refine pRow ?_|refine pBlock ?_|refine pSkip ?_|refine pRet ?_|refine pCond ?_|refine gNone ?_|refine gOn rfl ?_|refine gOff rfl rfl ?_|refine gTup rfl ?_)))
    refine ld1_is rfl h1.blk rfl ?_
    cases o with
    | none =>
      (repeat(first|refine pSeq ?_|refine pReg ?_|refine sCons ?_|refine sNil ?_|refine rCons ?_|refine rNil ?_|refine kNo ?_|refine pRow ?_|refine pBlock ?_|refine pSkip ?_|refine pRet ?_|refine pCond ?_|refine gNone ?_|refine gOn rfl ?_|refine gOff rfl rfl ?_|refine gTup rfl ?_))
      intro q hq
      obtain rfl : q = true := hq
      (repeat(first|refine pSeq ?_|refine pReg ?_|refine sCons ?_|refine sNil ?_|refine rCons ?_|refine rNil ?_|refine kNo ?_|refine pRow ?_|refine pBlock ?_|refine pSkip ?_|refine pRet ?_|refine pCond ?_|refine gNone ?_|refine gOn rfl ?_|refine gOff rfl rfl ?_|refine gTup rfl ?_))
      refine ld1_is rfl h1.blk rfl ?_
      (repeat(first|refine pSeq ?_|refine pReg ?_|refine sCons ?_|refine sNil ?_|refine rCons ?_|refine rNil ?_|refine kNo ?_|refine pRow ?_|refine pBlock ?_|refine pSkip ?_|refine pRet ?_|refine pCond ?_|refine gNone ?_|refine gOn rfl ?_|refine gOff rfl rfl ?_|refine gTup rfl ?_))
      refine (sync_no (lnone_nil s1)).mono fun v s2 q => ?_
      obtain ⟨rfl, rfl⟩ := q
      (repeat(first|refine pSeq ?_|refine pReg ?_|refine sCons ?_|refine sNil ?_|refine rCons ?_|refine rNil ?_|refine kNo ?_|refine pRow ?_|refine pBlock ?_|refine pSkip ?_|refine pRet ?_|refine pCond ?_|refine gNone ?_|refine gOn rfl ?_|refine gOff rfl rfl ?_|refine gTup rfl ?_))
      intro q hq
      obtain rfl : q = true := by rw [hq]; rfl
      (repeat(first|refine pSeq ?_|refine pReg ?_|refine sCons ?_|refine sNil ?_|refine rCons ?_|refine rNil ?_|refine kNo ?_|refine pRow ?_|refine pBlock ?_|refine pSkip ?_|refine pRet ?_|refine pCond ?_|refine gNone ?_|refine gOn rfl ?_|refine gOff rfl rfl ?_|refine gTup rfl ?_))
      exact fin rfl h1 (.none (.refl _ _)) (by omega) rfl
    | some x =>
      obtain ⟨g, m, A⟩ := x
      obtain ⟨la1, lm1, hs1⟩ := h1.logs g m A rfl
      (repeat(first|refine pSeq ?_|refine pReg ?_|refine sCons ?_|refine sNil ?_|refine rCons ?_|refine rNil ?_|refine kNo ?_|refine pRow ?_|refine pBlock ?_|refine pSkip ?_|refine pRet ?_|refine pCond ?_|refine gNone ?_|refine gOn rfl ?_|refine gOff rfl rfl ?_|refine gTup rfl ?_))
      intro q hq
      obtain rfl : q = false := hq
      (repeat(first|refine pSeq ?_|refine pReg ?_|refine sCons ?_|refine sNil ?_|refine rCons ?_|refine rNil ?_|refine kNo ?_|refine pRow ?_|refine pBlock ?_|refine pSkip ?_|refine pRet ?_|refine pCond ?_|refine gNone ?_|refine gOn rfl ?_|refine gOff rfl rfl ?_|refine gTup rfl ?_))
      refine ld1_is rfl h1.blk rfl ?_
      (repeat(first|refine pSeq ?_|refine pReg ?_|refine sCons ?_|refine sNil ?_|refine rCons ?_|refine rNil ?_|refine kNo ?_|refine pRow ?_|refine pBlock ?_|refine pSkip ?_|refine pRet ?_|refine pCond ?_|refine gNone ?_|refine gOn rfl ?_|refine gOff rfl rfl ?_|refine gTup rfl ?_))
      refine (rlsync_w lm1 h1.both.ref).mono fun v s2 q => ?_
      obtain ⟨R2, lm2, r2, st2, -⟩ := q
      have np2 := st2.chg.next
      have nx2 : xb ∉ m :: rfoot r R := by
        simp only [List.mem_cons, not_or]
        exact ⟨type_ne h1.blk lm1.blk (by decide), h1.both.ref.foot3 h1.blk ⟨by decide, by decide⟩⟩
      have n02 : 0 ∉ m :: rfoot r R := by
        simp only [List.mem_cons, not_or]
        exact ⟨type_ne h1.ev.steps lm1.blk (by decide), fun q => h1.both.ref.off0 h1.ev (rfoot_whole q)⟩
      have ng2 : g ∉ m :: rfoot r R := by
        simp only [List.mem_cons, not_or]
        exact ⟨type_ne la1.blk lm1.blk (by decide), h1.both.ref.foot3 la1.blk ⟨by decide, by decide⟩⟩
      have nd2 : ∀ id ∈ whole d B, id ∉ m :: rfoot r R := fun id q q2 => by
        rcases List.mem_cons.1 q2 with rfl | q2
        · exact h1.both.disk.foot3 lm1.blk ⟨by decide, by decide, by decide⟩ q
        · exact h1.both.dr id q (rfoot_whole q2)
      have k2 := h1.both.disk.chg st2.chg nd2
      have la2 := la1.chg st2.chg ng2
      have ev2 := h1.ev.chg st2.chg n02
      have blk2 := st2.chg.blk _ _ h1.lt nx2 h1.blk
      have ml2 : Mild s1 s2 := mild_cons lm1.blk (by decide) st2.chg (rfoot_mild h1.both.ref)
      (repeat(first|refine pSeq ?_|refine pReg ?_|refine sCons ?_|refine sNil ?_|refine rCons ?_|refine rNil ?_|refine kNo ?_|refine pRow ?_|refine pBlock ?_|refine pSkip ?_|refine pRet ?_|refine pCond ?_|refine gNone ?_|refine gOn rfl ?_|refine gOff rfl rfl ?_|refine gTup rfl ?_))
      refine ld1_is rfl blk2 rfl ?_
      (repeat(first|refine pSeq ?_|refine pReg ?_|refine sCons ?_|refine sNil ?_|refine rCons ?_|refine rNil ?_|refine kNo ?_|refine pRow ?_|refine pBlock ?_|refine pSkip ?_|refine pRet ?_|refine pCond ?_|refine gNone ?_|refine gOn rfl ?_|refine gOff rfl rfl ?_|refine gTup rfl ?_))
      refine (lsync_w la2 k2).mono fun v s3 q => ?_
      obtain ⟨rfl, la3, B3, k3, c3, -, al3⟩ := q
      have np3 := c3.next
      have nr3 : ∀ id ∈ g :: foot d B, id ∉ rwhole r R2 := fun id q q2 => by
        rcases List.mem_cons.1 q with rfl | q
        · exact r2.foot4 la2.blk ⟨by decide, by decide, by decide⟩ q2
        · rcases List.mem_append.1 q2 with q2 | q2
          · rcases st2.ft id q2 with q3 | q3
            · exact h1.both.rd id (rfoot_whole q3) (foot_whole q)
            · have := h1.both.disk.blt id (foot_whole q); omega
          · rcases st2.al id q2 with q3 | q3
            · exact h1.both.sep id q3 (foot_whole q)
            · have := h1.both.disk.blt id (foot_whole q); omega
      have b3 := h1.both.duo' (A' := D.synced) (inv_synced h1.both.inv) r2 st2.chg st2.al k3 c3 nr3 al3
      have n03 : 0 ∉ g :: foot d B := by
        simp only [List.mem_cons, not_or]
        exact ⟨ev2.offL la2, ev2.off k2⟩
      have nx3 : xb ∉ g :: foot d B := by
        simp only [List.mem_cons, not_or]
        exact ⟨type_ne blk2 la2.blk (by decide), fun q => k2.foot3 blk2 ⟨by decide, by decide, by decide⟩ (foot_whole q)⟩
      have nm3 : m ∉ g :: foot d B := by
        simp only [List.mem_cons, not_or]
        exact ⟨type_ne lm2.blk la2.blk (by decide), fun q => k2.foot3 lm2.blk ⟨by decide, by decide, by decide⟩ (foot_whole q)⟩
      have p3 : Pl s3 xb d r D.synced B3 R2 (some (g, m, A.synced)) := ⟨b3, ev2.chg c3 n03, by have := h1.lt; omega, c3.blk _ _ (by have := h1.lt; omega) nx3 blk2, fun g' m' A' e => by
        cases e
        exact ⟨la3, lm2.chg c3 nm3, hs1⟩⟩
      (repeat(first|refine pSeq ?_|refine pReg ?_|refine sCons ?_|refine sNil ?_|refine rCons ?_|refine rNil ?_|refine kNo ?_|refine pRow ?_|refine pBlock ?_|refine pSkip ?_|refine pRet ?_|refine pCond ?_|refine gNone ?_|refine gOn rfl ?_|refine gOff rfl rfl ?_|refine gTup rfl ?_))
      intro q hq
      obtain rfl : q = true := by rw [hq]; rfl
      (repeat(first|refine pSeq ?_|refine pReg ?_|refine sCons ?_|refine sNil ?_|refine rCons ?_|refine rNil ?_|refine kNo ?_|refine pRow ?_|refine pBlock ?_|refine pSkip ?_|refine pRet ?_|refine pCond ?_|refine gNone ?_|refine gOn rfl ?_|refine gOff rfl rfl ?_|refine gTup rfl ?_))
      exact fin rfl p3 (ml2.trans (mild_cons la2.blk (by decide) c3 (foot_mild k2))) (Nat.zero_le _) rfl
  by_cases h6 : what = 6
  · subst h6
    (repeat(first|refine pSeq ?_|refine pReg ?_|refine sCons ?_|refine sNil ?_|refine rCons ?_|refine rNil ?_|refine kNo ?_|refine pRow ?_|refine pBlock ?_|refine pSkip ?_|refine pRet ?_|refine pCond ?_|refine gNone ?_|refine gOn rfl ?_|refine gOff rfl rfl ?_|refine gTup rfl ?_))
    repeat (
      intro q hq
      simp at hq
      subst hq
      (repeat(first|refine pSeq ?_|refine pReg ?_|refine sCons ?_|refine sNil ?_|refine rCons ?_|refine rNil ?_|refine kNo ?_|refine pRow ?_|refine pBlock ?_|refine pSkip ?_|refine pRet ?_|refine pCond ?_|refine gNone ?_|refine gOn rfl ?_|refine gOff rfl rfl ?_|refine gTup rfl ?_)))
    refine ld1_is rfl h1.blk rfl ?_
    (repeat(first|refine pSeq ?_|refine pReg ?_|refine sCons ?_|refine sNil ?_|refine rCons ?_|refine rNil ?_|refine kNo ?_|refine pRow ?_|refine pBlock ?_|refine pSkip ?_|refine pRet ?_|refine pCond ?_|refine gNone ?_|refine gOn rfl ?_|refine gOff rfl rfl ?_|refine gTup rfl ?_))
    refine ld1_is (v := .slice a.kb a.kl.length 0) rfl hbx1 rfl ?_
    (repeat(first|refine pSeq ?_|refine pReg ?_|refine sCons ?_|refine sNil ?_|refine rCons ?_|refine rNil ?_|refine kNo ?_|refine pRow ?_|refine pBlock ?_|refine pSkip ?_|refine pRet ?_|refine pCond ?_|refine gNone ?_|refine gOn rfl ?_|refine gOff rfl rfl ?_|refine gTup rfl ?_))
    refine (rcrash_w h1.both.ref ha1.2.1.1).mono fun v s2 q => ?_
    obtain ⟨R2, r2, st2, l2⟩ := q
    have np2 := st2.chg.next
    have d2 := h1.both.disk.chg st2.chg (fun id q r => h1.both.dr id q (rfoot_whole r))
    have hbx2 := st2.chg.blk _ _ hlt1 (h1.both.ref.foot3 hbx1 ⟨by decide, by decide⟩) hbx1
    have blk2 := st2.chg.blk _ _ h1.lt h1.offR h1.blk
    have ha2 := ha1.mild (mild_ref h1.both.ref st2.chg)
    (repeat(first|refine pSeq ?_|refine pReg ?_|refine sCons ?_|refine sNil ?_|refine rCons ?_|refine rNil ?_|refine kNo ?_|refine pRow ?_|refine pBlock ?_|refine pSkip ?_|refine pRet ?_|refine pCond ?_|refine gNone ?_|refine gOn rfl ?_|refine gOff rfl rfl ?_|refine gTup rfl ?_))
    refine ld1_is rfl blk2 rfl ?_
    (repeat(first|refine pSeq ?_|refine pReg ?_|refine sCons ?_|refine sNil ?_|refine rCons ?_|refine rNil ?_|refine kNo ?_|refine pRow ?_|refine pBlock ?_|refine pSkip ?_|refine pRet ?_|refine pCond ?_|refine gNone ?_|refine gOn rfl ?_|refine gOff rfl rfl ?_|refine gTup rfl ?_))
    refine ld1_is (v := .slice a.kb a.kl.length 0) rfl hbx2 rfl ?_
    (repeat(first|refine pSeq ?_|refine pReg ?_|refine sCons ?_|refine sNil ?_|refine rCons ?_|refine rNil ?_|refine kNo ?_|refine pRow ?_|refine pBlock ?_|refine pSkip ?_|refine pRet ?_|refine pCond ?_|refine gNone ?_|refine gOn rfl ?_|refine gOff rfl rfl ?_|refine gTup rfl ?_))
    refine (crash_w d2 (st2.chg.fine h1.ev.fine) ha2.2.1.1).mono fun v s3 q => ?_
    obtain ⟨rfl, B3, h3, st3, l3⟩ := q
    obtain ⟨h4, t4⟩ := h1.both.both' (inv_crashed _ _) r2 st2 h3 st3.move
    obtain ⟨p4, ml4⟩ := h1.two h4 t4 rfl
    (repeat(first|refine pSeq ?_|refine pReg ?_|refine sCons ?_|refine sNil ?_|refine rCons ?_|refine rNil ?_|refine kNo ?_|refine pRow ?_|refine pBlock ?_|refine pSkip ?_|refine pRet ?_|refine pCond ?_|refine gNone ?_|refine gOn rfl ?_|refine gOff rfl rfl ?_|refine gTup rfl ?_))
    intro q hq
    obtain rfl : q = true := by rw [hq]; rfl
    (repeat(first|refine pSeq ?_|refine pReg ?_|refine sCons ?_|refine sNil ?_|refine rCons ?_|refine rNil ?_|refine kNo ?_|refine pRow ?_|refine pBlock ?_|refine pSkip ?_|refine pRet ?_|refine pCond ?_|refine gNone ?_|refine gOn rfl ?_|refine gOff rfl rfl ?_|refine gTup rfl ?_))
    refine (recovers_w p4 (Nat.zero_lt_succ _)).mono fun v s5 q => ?_
    obtain ⟨rfl, B5, R5, o5, p5, ml5⟩ := q
    have kc := rcv_inv p4.both.inv
    (repeat(first|refine pSeq ?_|refine pReg ?_|refine sCons ?_|refine sNil ?_|refine rCons ?_|refine rNil ?_|refine kNo ?_|refine pRow ?_|refine pBlock ?_|refine pSkip ?_|refine pRet ?_|refine pCond ?_|refine gNone ?_|refine gOn rfl ?_|refine gOff rfl rfl ?_|refine gTup rfl ?_))
    exact fin rfl p5 (ml4.trans ml5) (by have := kc.2.2; have e : (D.crashed a.kl).ws.length = 0 := rfl; omega) kc.2.1
  by_cases h7 : what = 7
  · subst h7
    (repeat(first|refine pSeq ?_|refine pReg ?_|refine sCons ?_|refine sNil ?_|refine rCons ?_|refine rNil ?_|refine kNo ?_|refine pRow ?_|refine pBlock ?_|refine pSkip ?_|refine pRet ?_|refine pCond ?_|refine gNone ?_|refine gOn rfl ?_|refine gOff rfl rfl ?_|refine gTup rfl ?_))
    repeat (
      intro q hq
      simp at hq
      subst hq
      (repeat(first|refine pSeq ?_|refine pReg ?_|refine sCons ?_|refine sNil ?_|refine rCons ?_|refine rNil ?_|refine kNo ?_|refine pRow ?_|refine pBlock ?_|refine pSkip ?_|refine pRet ?_|refine pCond ?_|refine gNone ?_|refine gOn rfl ?_|refine gOff rfl rfl ?_|refine gTup rfl ?_)))
    refine ld1_is rfl h1.blk rfl ?_
    (repeat(first|refine pSeq ?_|refine pReg ?_|refine sCons ?_|refine sNil ?_|refine rCons ?_|refine rNil ?_|refine kNo ?_|refine pRow ?_|refine pBlock ?_|refine pSkip ?_|refine pRet ?_|refine pCond ?_|refine gNone ?_|refine gOn rfl ?_|refine gOff rfl rfl ?_|refine gTup rfl ?_))
    refine ldI_is (z := a.pos) rfl hbx1 rfl ?_
    (repeat(first|refine pSeq ?_|refine pReg ?_|refine sCons ?_|refine sNil ?_|refine rCons ?_|refine rNil ?_|refine kNo ?_|refine pRow ?_|refine pBlock ?_|refine pSkip ?_|refine pRet ?_|refine pCond ?_|refine gNone ?_|refine gOn rfl ?_|refine gOff rfl rfl ?_|refine gTup rfl ?_))
    refine ⟨by decide, ?_⟩
    intro z hz
    (repeat(first|refine pSeq ?_|refine pReg ?_|refine sCons ?_|refine sNil ?_|refine rCons ?_|refine rNil ?_|refine kNo ?_|refine pRow ?_|refine pBlock ?_|refine pSkip ?_|refine pRet ?_|refine pCond ?_|refine gNone ?_|refine gOn rfl ?_|refine gOff rfl rfl ?_|refine gTup rfl ?_))
    intro q hq
    subst hz; subst hq
    (repeat(first|refine pSeq ?_|refine pReg ?_|refine sCons ?_|refine sNil ?_|refine rCons ?_|refine rNil ?_|refine kNo ?_|refine pRow ?_|refine pBlock ?_|refine pSkip ?_|refine pRet ?_|refine pCond ?_|refine gNone ?_|refine gOn rfl ?_|refine gOff rfl rfl ?_|refine gTup rfl ?_))
    refine st_abs (cs' := rCells { D with full := decide (a.pos.tmod 2 ≠ 0) } R) rfl rfl h1.both.ref.obj h1.both.ref.lt rfl rfl fun s2 obj2 c2 n2 => ?_
    obtain ⟨a1, a2, a3, a4⟩ := h1.both.ref.apart
    obtain ⟨r2, st2⟩ := h1.both.ref.turn (A' := { D with full := decide (a.pos.tmod 2 ≠ 0) }) (R' := R) (.refl _ _) c2 obj2 (h1.both.ref.sure.chg c2 (fun id q1 q2 => a1 id q1 (List.mem_singleton.1 q2).symm)) (h1.both.ref.row.chg c2 (fun id q1 q2 => a2 id q1 (List.mem_singleton.1 q2).symm))
      (fun w hw => .inl hw) rfl h1.both.ref.lsure h1.both.ref.lws h1.both.ref.ews (fun id q => .inl q) (fun id q => .inl q)
    have d2 := h1.both.disk.chg st2.chg (fun id q r => h1.both.dr id q (rfoot_whole r))
    have blk2 := st2.chg.blk _ _ h1.lt h1.offR h1.blk
    (repeat(first|refine pSeq ?_|refine pReg ?_|refine sCons ?_|refine sNil ?_|refine rCons ?_|refine rNil ?_|refine kNo ?_|refine pRow ?_|refine pBlock ?_|refine pSkip ?_|refine pRet ?_|refine pCond ?_|refine gNone ?_|refine gOn rfl ?_|refine gOff rfl rfl ?_|refine gTup rfl ?_))
    refine ld1_is rfl blk2 rfl ?_
    (repeat(first|refine pSeq ?_|refine pReg ?_|refine sCons ?_|refine sNil ?_|refine rCons ?_|refine rNil ?_|refine kNo ?_|refine pRow ?_|refine pBlock ?_|refine pSkip ?_|refine pRet ?_|refine pCond ?_|refine gNone ?_|refine gOn rfl ?_|refine gOff rfl rfl ?_|refine gTup rfl ?_))
    refine ld1_is rfl blk2 rfl ?_
    (repeat(first|refine pSeq ?_|refine pReg ?_|refine sCons ?_|refine sNil ?_|refine rCons ?_|refine rNil ?_|refine kNo ?_|refine pRow ?_|refine pBlock ?_|refine pSkip ?_|refine pRet ?_|refine pCond ?_|refine gNone ?_|refine gOn rfl ?_|refine gOff rfl rfl ?_|refine gTup rfl ?_))
    refine ldB_is rfl r2.obj rfl ?_
    (repeat(first|refine pSeq ?_|refine pReg ?_|refine sCons ?_|refine sNil ?_|refine rCons ?_|refine rNil ?_|refine kNo ?_|refine pRow ?_|refine pBlock ?_|refine pSkip ?_|refine pRet ?_|refine pCond ?_|refine gNone ?_|refine gOn rfl ?_|refine gOff rfl rfl ?_|refine gTup rfl ?_))
    refine (fill_w d2 _).mono fun v s3 q => ?_
    obtain ⟨rfl, h3, st3⟩ := q
    obtain ⟨h4, t4⟩ := h1.both.both' (A' := { D with full := decide (a.pos.tmod 2 ≠ 0) }) h1.both.inv r2 st2 h3 st3.move
    obtain ⟨p4, ml4⟩ := h1.two h4 t4 rfl
    (repeat(first|refine pSeq ?_|refine pReg ?_|refine sCons ?_|refine sNil ?_|refine rCons ?_|refine rNil ?_|refine kNo ?_|refine pRow ?_|refine pBlock ?_|refine pSkip ?_|refine pRet ?_|refine pCond ?_|refine gNone ?_|refine gOn rfl ?_|refine gOff rfl rfl ?_|refine gTup rfl ?_))
    intro q hq
    obtain rfl : q = true := by rw [hq]; rfl
    (repeat(first|refine pSeq ?_|refine pReg ?_|refine sCons ?_|refine sNil ?_|refine rCons ?_|refine rNil ?_|refine kNo ?_|refine pRow ?_|refine pBlock ?_|refine pSkip ?_|refine pRet ?_|refine pCond ?_|refine gNone ?_|refine gOn rfl ?_|refine gOff rfl rfl ?_|refine gTup rfl ?_))
    exact fin rfl p4 ml4 (Nat.le_add_right _ _) rfl
  by_cases h8 : what = 8
  · subst h8
    (repeat(first|refine pSeq ?_|refine pReg ?_|refine sCons ?_|refine sNil ?_|refine rCons ?_|refine rNil ?_|refine kNo ?_|refine pRow ?_|refine pBlock ?_|refine pSkip ?_|refine pRet ?_|refine pCond ?_|refine gNone ?_|refine gOn rfl ?_|refine gOff rfl rfl ?_|refine gTup rfl ?_))
    repeat (
      intro q hq
      simp at hq
      subst hq
      (repeat(first|refine pSeq ?_|refine pReg ?_|refine sCons ?_|refine sNil ?_|refine rCons ?_|refine rNil ?_|refine kNo ?_|refine pRow ?_|refine pBlock ?_|refine pSkip ?_|refine pRet ?_|refine pCond ?_|refine gNone ?_|refine gOn rfl ?_|refine gOff rfl rfl ?_|refine gTup rfl ?_)))
    refine (recovers_w h1 (by omega)).mono fun v s5 q => ?_
    obtain ⟨rfl, B5, R5, o5, p5, ml5⟩ := q
    have kc := rcv_inv h1.both.inv
    (repeat(first|refine pSeq ?_|refine pReg ?_|refine sCons ?_|refine sNil ?_|refine rCons ?_|refine rNil ?_|refine kNo ?_|refine pRow ?_|refine pBlock ?_|refine pSkip ?_|refine pRet ?_|refine pCond ?_|refine gNone ?_|refine gOn rfl ?_|refine gOff rfl rfl ?_|refine gTup rfl ?_))
    exact fin rfl p5 ml5 (by have := kc.2.2; omega) kc.2.1
  by_cases h9 : what = 9
  · subst h9
    obtain ⟨wi, wc, ww⟩ := wrote_keeps h1.both.inv a.pos a.bl
    (repeat(first|refine pSeq ?_|refine pReg ?_|refine sCons ?_|refine sNil ?_|refine rCons ?_|refine rNil ?_|refine kNo ?_|refine pRow ?_|refine pBlock ?_|refine pSkip ?_|refine pRet ?_|refine pCond ?_|refine gNone ?_|refine gOn rfl ?_|refine gOff rfl rfl ?_|refine gTup rfl ?_))
    repeat (
      intro q hq
      simp at hq
      subst hq
      (repeat(first|refine pSeq ?_|refine pReg ?_|refine sCons ?_|refine sNil ?_|refine rCons ?_|refine rNil ?_|refine kNo ?_|refine pRow ?_|refine pBlock ?_|refine pSkip ?_|refine pRet ?_|refine pCond ?_|refine gNone ?_|refine gOn rfl ?_|refine gOff rfl rfl ?_|refine gTup rfl ?_)))
    refine ld1_is rfl h1.blk rfl ?_
    (repeat(first|refine pSeq ?_|refine pReg ?_|refine sCons ?_|refine sNil ?_|refine rCons ?_|refine rNil ?_|refine kNo ?_|refine pRow ?_|refine pBlock ?_|refine pSkip ?_|refine pRet ?_|refine pCond ?_|refine gNone ?_|refine gOn rfl ?_|refine gOff rfl rfl ?_|refine gTup rfl ?_))
    refine ldI_is (z := a.pos) rfl hbx1 rfl ?_
    (repeat(first|refine pSeq ?_|refine pReg ?_|refine sCons ?_|refine sNil ?_|refine rCons ?_|refine rNil ?_|refine kNo ?_|refine pRow ?_|refine pBlock ?_|refine pSkip ?_|refine pRet ?_|refine pCond ?_|refine gNone ?_|refine gOn rfl ?_|refine gOff rfl rfl ?_|refine gTup rfl ?_))
    refine ld1_is (v := .slice a.bb a.bl.length 0) rfl hbx1 rfl ?_
    (repeat(first|refine pSeq ?_|refine pReg ?_|refine sCons ?_|refine sNil ?_|refine rCons ?_|refine rNil ?_|refine kNo ?_|refine pRow ?_|refine pBlock ?_|refine pSkip ?_|refine pRet ?_|refine pCond ?_|refine gNone ?_|refine gOn rfl ?_|refine gOff rfl rfl ?_|refine gTup rfl ?_))
    refine ld1_is rfl h1.blk rfl ?_
    (repeat(first|refine pSeq ?_|refine pReg ?_|refine sCons ?_|refine sNil ?_|refine rCons ?_|refine rNil ?_|refine kNo ?_|refine pRow ?_|refine pBlock ?_|refine pSkip ?_|refine pRet ?_|refine pCond ?_|refine gNone ?_|refine gOn rfl ?_|refine gOff rfl rfl ?_|refine gTup rfl ?_))
    refine ldI_is (z := a.pos) rfl hbx1 rfl ?_
    (repeat(first|refine pSeq ?_|refine pReg ?_|refine sCons ?_|refine sNil ?_|refine rCons ?_|refine rNil ?_|refine kNo ?_|refine pRow ?_|refine pBlock ?_|refine pSkip ?_|refine pRet ?_|refine pCond ?_|refine gNone ?_|refine gOn rfl ?_|refine gOff rfl rfl ?_|refine gTup rfl ?_))
    refine ld1_is (v := .slice a.bb a.bl.length 0) rfl hbx1 rfl ?_
    (repeat(first|refine pSeq ?_|refine pReg ?_|refine sCons ?_|refine sNil ?_|refine rCons ?_|refine rNil ?_|refine kNo ?_|refine pRow ?_|refine pBlock ?_|refine pSkip ?_|refine pRet ?_|refine pCond ?_|refine gNone ?_|refine gOn rfl ?_|refine gOff rfl rfl ?_|refine gTup rfl ?_))
    refine (write_w h1.both.disk h1.ev.fine ha1.1.1.1 (by omega) (by omega) ha1.2.2.2).mono fun v s2 q => ?_
    obtain ⟨rfl, B2, h2, st2, l2⟩ := q
    have np2 := st2.chg.next
    have r2 := h1.both.ref.chg st2.chg (fun id q r => h1.both.rd id q (foot_whole r))
    have blk2 := st2.chg.blk _ _ h1.lt (fun q => h1.offD (foot_whole q)) h1.blk
    have hbx2 := st2.chg.blk _ _ hlt1 (fun q => h1.both.disk.foot3 hbx1 ⟨by decide, by decide, by decide⟩ (foot_whole q)) hbx1
    have ha2 := ha1.mild (mild_dk h1.both.disk st2.chg)
    refine kEach ⟨fun _ => ld1_is rfl hbx2 rfl rfl, fun _ => ldI_is rfl hbx2 rfl rfl, fun _ => ld1_is rfl blk2 rfl rfl, trivial⟩ ?_
    (repeat(first|refine pSeq ?_|refine pReg ?_|refine sCons ?_|refine sNil ?_|refine rCons ?_|refine rNil ?_|refine kNo ?_|refine pRow ?_|refine pBlock ?_|refine pSkip ?_|refine pRet ?_|refine pCond ?_|refine gNone ?_|refine gOn rfl ?_|refine gOff rfl rfl ?_|refine gTup rfl ?_))
    refine (rwrite_w r2 h1.both.inv ha2.1.1.1 (by omega) (by omega) hnow).mono fun v s4 q => ?_
    obtain ⟨rfl, R4, r4, st4, l4⟩ := q
    obtain ⟨h4, t4⟩ := h1.both.both wi h2 st2.move r4 st4
    obtain ⟨p4, ml4⟩ := h1.two h4 t4 wc
    (repeat(first|refine pSeq ?_|refine pReg ?_|refine sCons ?_|refine sNil ?_|refine rCons ?_|refine rNil ?_|refine kNo ?_|refine pRow ?_|refine pBlock ?_|refine pSkip ?_|refine pRet ?_|refine pCond ?_|refine gNone ?_|refine gOn rfl ?_|refine gOff rfl rfl ?_|refine gTup rfl ?_))
    intro q hq
    obtain rfl : q = true := by rw [hq]; simp
    (repeat(first|refine pSeq ?_|refine pReg ?_|refine sCons ?_|refine sNil ?_|refine rCons ?_|refine rNil ?_|refine kNo ?_|refine pRow ?_|refine pBlock ?_|refine pSkip ?_|refine pRet ?_|refine pCond ?_|refine gNone ?_|refine gOn rfl ?_|refine gOff rfl rfl ?_|refine gTup rfl ?_))
    refine (recovers_w p4 (by omega)).mono fun v s5 q => ?_
    obtain ⟨rfl, B5, R5, o5, p5, ml5⟩ := q
    have kc := rcv_inv p4.both.inv
    (repeat(first|refine pSeq ?_|refine pReg ?_|refine sCons ?_|refine sNil ?_|refine rCons ?_|refine rNil ?_|refine kNo ?_|refine pRow ?_|refine pBlock ?_|refine pSkip ?_|refine pRet ?_|refine pCond ?_|refine gNone ?_|refine gOn rfl ?_|refine gOff rfl rfl ?_|refine gTup rfl ?_))
    exact fin rfl p5 (ml4.trans ml5) (by have := kc.2.2; omega) (kc.2.1.trans wc)
  have hno : ∀ z : Int, (z = 0 ∨ z = 1 ∨ z = 2 ∨ z = 3 ∨ z = 4 ∨ z = 5 ∨ z = 6 ∨ z = 7 ∨ z = 8 ∨ z = 9) → what ≠ z := fun z hz => by omega
  (repeat(first|refine pSeq ?_|refine pReg ?_|refine sCons ?_|refine sNil ?_|refine rCons ?_|refine rNil ?_|refine kNo ?_|refine pRow ?_|refine pBlock ?_|refine pSkip ?_|refine pRet ?_|refine pCond ?_|refine gNone ?_|refine gOn rfl ?_|refine gOff rfl rfl ?_|refine gTup rfl ?_))
  repeat (
    intro q hq
    obtain rfl : q = false := by rw [hq]; exact decide_eq_false (by omega)
    (repeat(first|refine pSeq ?_|refine pReg ?_|refine sCons ?_|refine sNil ?_|refine rCons ?_|refine rNil ?_|refine kNo ?_|refine pRow ?_|refine pBlock ?_|refine pSkip ?_|refine pRet ?_|refine pCond ?_|refine gNone ?_|refine gOn rfl ?_|refine gOff rfl rfl ?_|refine gTup rfl ?_)))
  exact fin rfl h1 (.none (.refl _ _)) (by omega) rfl
end Go.Vf.S
end

section
/- What the law LogPlays says, from any state. -/
namespace Go.Vf.S
open Go Go.Vf Go.Vf.Fr
attribute [local irreducible] wSeq wRow wp wG
set_option linter.unusedVariables false
set_option linter.unusedSimpArgs false
set_option maxRecDepth 10000

theorem gTup {T : TL} {d : Tmp} {b : Bool} {vs : Array Value} {run skip : Prop} (h : look T d = some (.tuple vs)) (hs : skip) : wG T (some (d, b)) run skip := by
  simp only [wG, h]
  exact hs
theorem read_most {D : Dk} {n : Nat} (h : D.now.length ≤ n) : D.read 0 n = D.now := by
  unfold Dk.read
  rw [if_neg (by omega)]
  simp [List.take_of_length_le h]

theorem InA.mild0 {s s' : SS} {lb : Option Addr} {l : List AV} (h : InA s lb l) (m : Mild s s') : InA s' lb l := by
  refine ⟨?_, fun a ha => (h.2.1 a ha).mild m, h.2.2⟩
  have h1 := h.1
  cases lb with
  | none => exact h1
  | some a =>
    obtain ⟨b, off, sp⟩ := a
    obtain ⟨q1, q2, q3, q4⟩ := h1
    exact ⟨q1, q2, Nat.lt_of_lt_of_le q3 m.next, m.box q3 q4⟩

structure Ps where
  i : Nat
  s : SS
  D : Dk
  B : Bs
  R : RB
  o : Pr

/-- What holds at each call. -/
structure PsI (xb d r : Nat) (ob : Option Addr) (fw : List AV) (x : Ps) : Prop where
  le : x.i ≤ fw.length
  pl : Pl x.s xb d r x.D x.B x.R x.o
  acts : Acts x.s ob fw
  cap : x.D.cap = 600
  few : x.D.ws.length ≤ 2 * x.i + 1

set_option maxHeartbeats 8000000 in
theorem plays_w {s : SS} {lb : Option Addr} {l : List AV} (hl : InA s lb l) (ev : Ev s) : CallW pr n_law03_LogPlays [.slice lb l.length 0] s fun v s' => v = .bool true := by
  refine CallW.run good ok_law03_LogPlays (by simp) rfl ?_
  (repeat(first|refine pSeq ?_|refine pReg ?_|refine sCons ?_|refine sNil ?_|refine rCons ?_|refine rNil ?_|refine kNo ?_|refine pRow ?_|refine pBlock ?_|refine pSkip ?_|refine pExit ?_|refine pRet ?_|refine pCond ?_|refine gNone ?_|refine gOn rfl ?_|refine gOff rfl rfl ?_|refine gTup rfl ?_))
  refine (new_w (c := 600) (by omega)).mono fun v s1 q => ?_
  obtain ⟨d, hd, rfl, h1, c1⟩ := q
  (repeat(first|refine pSeq ?_|refine pReg ?_|refine sCons ?_|refine sNil ?_|refine rCons ?_|refine rNil ?_|refine kNo ?_|refine pRow ?_|refine pBlock ?_|refine pSkip ?_|refine pExit ?_|refine pRet ?_|refine pCond ?_|refine gNone ?_|refine gOn rfl ?_|refine gOff rfl rfl ?_|refine gTup rfl ?_))
  refine (rnew_w (c := 600) (by omega)).mono fun v s2 q => ?_
  obtain ⟨r, hr, rfl, r2, c2⟩ := q
  have hB2 : Both s2 d r (Dk.made 600) B0 ⟨none, none, 0, []⟩ := ⟨h1.chg c2 (fun _ _ => by simp), r2, rfl, fun id q => by simp [rbytes, blkOf] at q⟩
  have ev2 := (ev.chg c1 (by simp)).chg c2 (by simp)
  (repeat(first|refine pSeq ?_|refine pReg ?_|refine sCons ?_|refine sNil ?_|refine rCons ?_|refine rNil ?_|refine kNo ?_|refine pRow ?_|refine pBlock ?_|refine pSkip ?_|refine pExit ?_|refine pRet ?_|refine pCond ?_|refine gNone ?_|refine gOn rfl ?_|refine gOff rfl rfl ?_|refine gTup rfl ?_))
  intro q hq
  obtain rfl : q = false := by rw [hq]; rfl
  (repeat(first|refine pSeq ?_|refine pReg ?_|refine sCons ?_|refine sNil ?_|refine rCons ?_|refine rNil ?_|refine kNo ?_|refine pRow ?_|refine pBlock ?_|refine pSkip ?_|refine pExit ?_|refine pRet ?_|refine pCond ?_|refine gNone ?_|refine gOn rfl ?_|refine gOff rfl rfl ?_|refine gTup rfl ?_))
  have c3 : Chg s2 ({ s2 with heap := (s2.next, some (.cells (flat (.agg ⟨[.pointer (some ⟨d, 0, none⟩), .pointer none, .pointer (some ⟨r, 0, none⟩), .pointer none]⟩)) tX false false)) :: s2.heap, next := s2.next + 1 } : SS) [] := .new []
  have e3 : lookH ({ s2 with heap := (s2.next, some (.cells (flat (.agg ⟨[.pointer (some ⟨d, 0, none⟩), .pointer none, .pointer (some ⟨r, 0, none⟩), .pointer none]⟩)) tX false false)) :: s2.heap, next := s2.next + 1 } : SS).heap s2.next = some (.cells (plCells d r none) tX false false) := lkH
  have n3 : s2.next < ({ s2 with heap := (s2.next, some (.cells (flat (.agg ⟨[.pointer (some ⟨d, 0, none⟩), .pointer none, .pointer (some ⟨r, 0, none⟩), .pointer none]⟩)) tX false false)) :: s2.heap, next := s2.next + 1 } : SS).next := Nat.lt_succ_self _
  generalize ({ s2 with heap := (s2.next, some (.cells (flat (.agg ⟨[.pointer (some ⟨d, 0, none⟩), .pointer none, .pointer (some ⟨r, 0, none⟩), .pointer none]⟩)) tX false false)) :: s2.heap, next := s2.next + 1 } : SS) = s3 at c3 e3 n3 ⊢
  have p3 : Pl s3 s2.next d r (Dk.made 600) B0 ⟨none, none, 0, []⟩ none := ⟨hB2.chg0 c3, ev2.chg c3 (by simp), n3, e3, fun _ _ _ e => by cases e⟩
  refine (recovers_w p3 (Nat.zero_lt_succ _)).mono fun v s4 q => ?_
  obtain ⟨rfl, B4, R4, o4, p4, ml4⟩ := q
  have kc := rcv_inv p3.both.inv
  (repeat(first|refine pSeq ?_|refine pReg ?_|refine sCons ?_|refine sNil ?_|refine rCons ?_|refine rNil ?_|refine kNo ?_|refine pRow ?_|refine pBlock ?_|refine pSkip ?_|refine pExit ?_|refine pRet ?_|refine pCond ?_|refine gNone ?_|refine gOn rfl ?_|refine gOff rfl rfl ?_|refine gTup rfl ?_))
  intro q hq
  obtain rfl : q = false := hq
  (repeat(first|refine pSeq ?_|refine pReg ?_|refine sCons ?_|refine sNil ?_|refine rCons ?_|refine rNil ?_|refine kNo ?_|refine pRow ?_|refine pBlock ?_|refine pSkip ?_|refine pExit ?_|refine pRet ?_|refine pCond ?_|refine gNone ?_|refine gOn rfl ?_|refine gOff rfl rfl ?_|refine gTup rfl ?_))
  refine (few_w (m := 40) (((hl.chg0 c1).chg0 c2).chg0 c3 |>.mild0 ml4) p4.ev.fine (by omega)).mono fun v s5 q => ?_
  obtain ⟨ob, rfl, row5, new5, c5⟩ := q
  have p5 := p4.chg0 c5
  have hl5 := (((hl.chg0 c1).chg0 c2).chg0 c3 |>.mild0 ml4).chg0 c5
  (repeat(first|refine pSeq ?_|refine pReg ?_|refine sCons ?_|refine sNil ?_|refine rCons ?_|refine rNil ?_|refine kNo ?_|refine pRow ?_|refine pBlock ?_|refine pSkip ?_|refine pExit ?_|refine pRet ?_|refine pCond ?_|refine gNone ?_|refine gOn rfl ?_|refine gOff rfl rfl ?_|refine gTup rfl ?_))
  generalize hfw : fewV 40 l = fw at row5 ⊢
  have lfw : fw.length ≤ 40 := by rw [← hfw]; simp [fewV]; omega
  have okf : ∀ a ∈ fw, ActOk s5 a ∧ a.bl.length ≤ 60 := fun a ha => by
    rw [← hfw] at ha
    obtain ⟨b, hb, rfl⟩ := List.mem_map.1 ha
    have := hl5.2.1 b (List.mem_of_mem_take hb)
    exact ⟨this.cut, by simp [cutA, List.length_take]; omega⟩
  refine pLoop (MW.head good (fun x : Ps => fw.length - x.i) (PsI s2.next d r ob fw)
    (fun x => [(3, .pointer (some ⟨d, 0, none⟩)), (5, .pointer (some ⟨r, 0, none⟩)), (7, .pointer (some ⟨s2.next, 0, none⟩)), (28, .slice ob fw.length 0), (29, .int .i64 fw.length), (30, .int .i64 x.i)]) (fun x => x.s) ⟨0, s5, (rcv (Dk.made 600)).2, B4, R4, o4⟩
    ⟨Nat.zero_le _, p5, ⟨row5, fun a ha => (okf a ha).1⟩, kc.2.1, kc.2.2⟩ (Wk.same ⟨rfl, rfl, rfl, rfl, rfl, rfl, trivial⟩) ?_)
  intro ⟨i, s6, D6, B6, R6, o6⟩ hI
  obtain ⟨hi, p6, ac6, cap6, few6⟩ := hI
  dsimp only at hi p6 ac6 cap6 few6 ⊢
  (repeat(first|refine pSeq ?_|refine pReg ?_|refine sCons ?_|refine sNil ?_|refine rCons ?_|refine rNil ?_|refine kNo ?_|refine pRow ?_|refine pBlock ?_|refine pSkip ?_|refine pExit ?_|refine pRet ?_|refine pCond ?_|refine gNone ?_|refine gOn rfl ?_|refine gOff rfl rfl ?_|refine gTup rfl ?_))
  intro q hq
  by_cases hlt : i < fw.length
  · obtain rfl : q = true := by rw [hq]; simp; omega
    obtain ⟨b, g, rfl, hb⟩ := ac6.row.pos (by omega)
    (repeat(first|refine pSeq ?_|refine pReg ?_|refine sCons ?_|refine sNil ?_|refine rCons ?_|refine rNil ?_|refine kNo ?_|refine pRow ?_|refine pBlock ?_|refine pSkip ?_|refine pExit ?_|refine pRet ?_|refine pCond ?_|refine gNone ?_|refine gOn rfl ?_|refine gOff rfl rfl ?_|refine gTup rfl ?_))
    refine ⟨⟨by omega, Int.ofNat_lt.2 hlt⟩, ?_⟩
    intro k hk o hof
    obtain rfl : k = i := by omega
    rw [Nat.zero_add] at hof
    subst hof
    (repeat(first|refine pSeq ?_|refine pReg ?_|refine sCons ?_|refine sNil ?_|refine rCons ?_|refine rNil ?_|refine kNo ?_|refine pRow ?_|refine pBlock ?_|refine pSkip ?_|refine pExit ?_|refine pRet ?_|refine pCond ?_|refine gNone ?_|refine gOn rfl ?_|refine gOff rfl rfl ?_|refine gTup rfl ?_))
    refine ldN_is rfl hb (aCells_at hlt) ?_
    (repeat(first|refine pSeq ?_|refine pReg ?_|refine sCons ?_|refine sNil ?_|refine rCons ?_|refine rNil ?_|refine kNo ?_|refine pRow ?_|refine pBlock ?_|refine pSkip ?_|refine pExit ?_|refine pRet ?_|refine pCond ?_|refine gNone ?_|refine gOn rfl ?_|refine gOff rfl rfl ?_|refine gTup rfl ?_))
    have cA := Chg.new (s := s6) (b := .cells [.int .i64 0, .int .i64 0, .slice none 0 0, .slice none 0 0] tA false false) []
    refine st_abs (cs' := aCell fw[k]) rfl rfl lkH (Nat.lt_succ_self _) rfl rfl fun s7 hbox c7 hn7 => ?_
    have c67 : Chg s6 s7 [] := cA.fresh c7 (fun id q => by simp at q; omega)
    have p7 := p6.chg0 c67
    have ac7 := ac6.mild (.none c67)
    have hmem : fw[k] ∈ fw := List.getElem_mem hlt
    (repeat(first|refine pSeq ?_|refine pReg ?_|refine sCons ?_|refine sNil ?_|refine rCons ?_|refine rNil ?_|refine kNo ?_|refine pRow ?_|refine pBlock ?_|refine pSkip ?_|refine pExit ?_|refine pRet ?_|refine pCond ?_|refine gNone ?_|refine gOn rfl ?_|refine gOff rfl rfl ?_|refine gTup rfl ?_))
    refine ldN_is (new := aCell fw[k]) rfl hbox rfl ?_
    (repeat(first|refine pSeq ?_|refine pReg ?_|refine sCons ?_|refine sNil ?_|refine rCons ?_|refine rNil ?_|refine kNo ?_|refine pRow ?_|refine pBlock ?_|refine pSkip ?_|refine pExit ?_|refine pRet ?_|refine pCond ?_|refine gNone ?_|refine gOn rfl ?_|refine gOff rfl rfl ?_|refine gTup rfl ?_))
    refine (one_w p7 (ac7.ok _ hmem) (okf _ hmem).2 (by omega)).mono fun v s8 q => ?_
    obtain ⟨rfl, D8, B8, R8, o8, p8, ml8, w8, cc8⟩ := q
    have ac8 := ac7.mild ml8
    have hnow8 := p8.both.disk.lnow
    (repeat(first|refine pSeq ?_|refine pReg ?_|refine sCons ?_|refine sNil ?_|refine rCons ?_|refine rNil ?_|refine kNo ?_|refine pRow ?_|refine pBlock ?_|refine pSkip ?_|refine pExit ?_|refine pRet ?_|refine pCond ?_|refine gNone ?_|refine gOn rfl ?_|refine gOff rfl rfl ?_|refine gTup rfl ?_))
    intro q hq
    obtain rfl : q = false := hq
    (repeat(first|refine pSeq ?_|refine pReg ?_|refine sCons ?_|refine sNil ?_|refine rCons ?_|refine rNil ?_|refine kNo ?_|refine pRow ?_|refine pBlock ?_|refine pSkip ?_|refine pExit ?_|refine pRet ?_|refine pCond ?_|refine gNone ?_|refine gOn rfl ?_|refine gOff rfl rfl ?_|refine gTup rfl ?_))
    refine (read_w p8.both.disk (k := 0) (m := 600) (by decide)).mono fun v s9 q => ?_
    obtain ⟨T9, rfl, o9, n9, c9⟩ := q
    rw [show (600 : Int) = ((600 : Nat) : Int) from rfl, read_most (by omega)] at *
    have p9 := p8.chg0 c9
    (repeat(first|refine pSeq ?_|refine pReg ?_|refine sCons ?_|refine sNil ?_|refine rCons ?_|refine rNil ?_|refine kNo ?_|refine pRow ?_|refine pBlock ?_|refine pSkip ?_|refine pExit ?_|refine pRet ?_|refine pCond ?_|refine gNone ?_|refine gOn rfl ?_|refine gOff rfl rfl ?_|refine gTup rfl ?_))
    refine (seen_w p9.both.ref).mono fun v s10 q => ?_
    obtain ⟨O10, rfl, o10, n10, c10⟩ := q
    rw [show lays D8.ws D8.sure = D8.now from p9.both.inv.symm] at *
    have p10 := p9.chg0 c10
    have o910 := o9.chg c10 (fun _ _ => by simp)
    (repeat(first|refine pSeq ?_|refine pReg ?_|refine sCons ?_|refine sNil ?_|refine rCons ?_|refine rNil ?_|refine kNo ?_|refine pRow ?_|refine pBlock ?_|refine pSkip ?_|refine pExit ?_|refine pRet ?_|refine pCond ?_|refine gNone ?_|refine gOn rfl ?_|refine gOff rfl rfl ?_|refine gTup rfl ?_))
    refine (equal_w o910.rdb o10.rdb).mono fun v s10 q => ?_
    obtain ⟨rfl, rfl⟩ := q
    rw [decide_eq_true rfl]
    (repeat(first|refine pSeq ?_|refine pReg ?_|refine sCons ?_|refine sNil ?_|refine rCons ?_|refine rNil ?_|refine kNo ?_|refine pRow ?_|refine pBlock ?_|refine pSkip ?_|refine pExit ?_|refine pRet ?_|refine pCond ?_|refine gNone ?_|refine gOn rfl ?_|refine gOff rfl rfl ?_|refine gTup rfl ?_))
    intro q hq
    obtain rfl : q = false := hq
    (repeat(first|refine pSeq ?_|refine pReg ?_|refine sCons ?_|refine sNil ?_|refine rCons ?_|refine rNil ?_|refine kNo ?_|refine pRow ?_|refine pBlock ?_|refine pSkip ?_|refine pExit ?_|refine pRet ?_|refine pCond ?_|refine gNone ?_|refine gOn rfl ?_|refine gOff rfl rfl ?_|refine gTup rfl ?_))
    have wsl : D8.ws.length = R8.wl.length := by rw [← p8.both.ref.ews, List.length_map]
    refine ld1_is rfl p10.both.ref.obj rfl ?_
    (repeat(first|refine pSeq ?_|refine pReg ?_|refine sCons ?_|refine sNil ?_|refine rCons ?_|refine rNil ?_|refine kNo ?_|refine pRow ?_|refine pBlock ?_|refine pSkip ?_|refine pExit ?_|refine pRet ?_|refine pCond ?_|refine gNone ?_|refine gOn rfl ?_|refine gOff rfl rfl ?_|refine gTup rfl ?_))
    refine (waits_w p10.both.disk).mono fun v s11 q => ?_
    obtain ⟨rfl, rfl⟩ := q
    refine kAll .refl ?_
    (repeat(first|refine pSeq ?_|refine pReg ?_|refine sCons ?_|refine sNil ?_|refine rCons ?_|refine rNil ?_|refine kNo ?_|refine pRow ?_|refine pBlock ?_|refine pSkip ?_|refine pExit ?_|refine pRet ?_|refine pCond ?_|refine gNone ?_|refine gOn rfl ?_|refine gOff rfl rfl ?_|refine gTup rfl ?_))
    intro q hq
    obtain rfl : q = false := by rw [hq, wsl]; simp
    (repeat(first|refine pSeq ?_|refine pReg ?_|refine sCons ?_|refine sNil ?_|refine rCons ?_|refine rNil ?_|refine kNo ?_|refine pRow ?_|refine pBlock ?_|refine pSkip ?_|refine pExit ?_|refine pRet ?_|refine pCond ?_|refine gNone ?_|refine gOn rfl ?_|refine gOff rfl rfl ?_|refine gTup rfl ?_))
    refine ld1_is rfl p10.blk rfl ?_
    have ac10 := (ac8.mild (.none c9)).mild (.none c10)
    have c68 := c9.nil c10
    cases o8 with
    | none =>
      (repeat(first|refine pSeq ?_|refine pReg ?_|refine sCons ?_|refine sNil ?_|refine rCons ?_|refine rNil ?_|refine kNo ?_|refine pRow ?_|refine pBlock ?_|refine pSkip ?_|refine pExit ?_|refine pRet ?_|refine pCond ?_|refine gNone ?_|refine gOn rfl ?_|refine gOff rfl rfl ?_|refine gTup rfl ?_))
      intro q hq
      obtain rfl : q = false := hq
      (repeat(first|refine pSeq ?_|refine pReg ?_|refine sCons ?_|refine sNil ?_|refine rCons ?_|refine rNil ?_|refine kNo ?_|refine pRow ?_|refine pBlock ?_|refine pSkip ?_|refine pExit ?_|refine pRet ?_|refine pCond ?_|refine gNone ?_|refine gOn rfl ?_|refine gOff rfl rfl ?_|refine gTup rfl ?_))
      repeat (
        refine gTup rfl ?_
        (repeat(first|refine pSeq ?_|refine pReg ?_|refine sCons ?_|refine sNil ?_|refine rCons ?_|refine rNil ?_|refine kNo ?_|refine pRow ?_|refine pBlock ?_|refine pSkip ?_|refine pExit ?_|refine pRet ?_|refine pCond ?_|refine gNone ?_|refine gOn rfl ?_|refine gOff rfl rfl ?_|refine gTup rfl ?_)))
      intro z hz
      rw [i64_id (by omega)] at hz
      (repeat(first|refine pSeq ?_|refine pReg ?_|refine sCons ?_|refine sNil ?_|refine rCons ?_|refine rNil ?_|refine kNo ?_|refine pRow ?_|refine pBlock ?_|refine pSkip ?_|refine pExit ?_|refine pRet ?_|refine pCond ?_|refine gNone ?_|refine gOn rfl ?_|refine gOff rfl rfl ?_|refine gTup rfl ?_))
      refine ⟨⟨k + 1, s11, D8, B8, R8, none⟩, ⟨hlt, p10, ac10, cc8.trans cap6, by dsimp only; omega⟩, by dsimp only; omega, Wk.same ⟨rfl, rfl, rfl, rfl, rfl, ?_, trivial⟩⟩
      subst hz
      rfl
    | some x =>
      obtain ⟨g, m, A⟩ := x
      obtain ⟨la, lm, hs⟩ := p10.logs g m A rfl
      (repeat(first|refine pSeq ?_|refine pReg ?_|refine sCons ?_|refine sNil ?_|refine rCons ?_|refine rNil ?_|refine kNo ?_|refine pRow ?_|refine pBlock ?_|refine pSkip ?_|refine pExit ?_|refine pRet ?_|refine pCond ?_|refine gNone ?_|refine gOn rfl ?_|refine gOff rfl rfl ?_|refine gTup rfl ?_))
      intro q hq
      obtain rfl : q = true := hq
      (repeat(first|refine pSeq ?_|refine pReg ?_|refine sCons ?_|refine sNil ?_|refine rCons ?_|refine rNil ?_|refine kNo ?_|refine pRow ?_|refine pBlock ?_|refine pSkip ?_|refine pExit ?_|refine pRet ?_|refine pCond ?_|refine gNone ?_|refine gOn rfl ?_|refine gOff rfl rfl ?_|refine gTup rfl ?_))
      refine ld1_is rfl p10.blk rfl ?_
      (repeat(first|refine pSeq ?_|refine pReg ?_|refine sCons ?_|refine sNil ?_|refine rCons ?_|refine rNil ?_|refine kNo ?_|refine pRow ?_|refine pBlock ?_|refine pSkip ?_|refine pExit ?_|refine pRet ?_|refine pCond ?_|refine gNone ?_|refine gOn rfl ?_|refine gOff rfl rfl ?_|refine gTup rfl ?_))
      refine ld1_is rfl p10.blk rfl ?_
      (repeat(first|refine pSeq ?_|refine pReg ?_|refine sCons ?_|refine sNil ?_|refine rCons ?_|refine rNil ?_|refine kNo ?_|refine pRow ?_|refine pBlock ?_|refine pSkip ?_|refine pExit ?_|refine pRet ?_|refine pCond ?_|refine gNone ?_|refine gOn rfl ?_|refine gOff rfl rfl ?_|refine gTup rfl ?_))
      refine ldI_is rfl lm.blk rfl ?_
      (repeat(first|refine pSeq ?_|refine pReg ?_|refine sCons ?_|refine sNil ?_|refine rCons ?_|refine rNil ?_|refine kNo ?_|refine pRow ?_|refine pBlock ?_|refine pSkip ?_|refine pExit ?_|refine pRet ?_|refine pCond ?_|refine gNone ?_|refine gOn rfl ?_|refine gOff rfl rfl ?_|refine gTup rfl ?_))
      refine (next_w la).mono fun v s11 q => ?_
      obtain ⟨rfl, rfl⟩ := q
      refine kAll .refl ?_
      (repeat(first|refine pSeq ?_|refine pReg ?_|refine sCons ?_|refine sNil ?_|refine rCons ?_|refine rNil ?_|refine kNo ?_|refine pRow ?_|refine pBlock ?_|refine pSkip ?_|refine pExit ?_|refine pRet ?_|refine pCond ?_|refine gNone ?_|refine gOn rfl ?_|refine gOff rfl rfl ?_|refine gTup rfl ?_))
      intro q hq
      obtain rfl : q = false := by rw [hq]; simp
      (repeat(first|refine pSeq ?_|refine pReg ?_|refine sCons ?_|refine sNil ?_|refine rCons ?_|refine rNil ?_|refine kNo ?_|refine pRow ?_|refine pBlock ?_|refine pSkip ?_|refine pExit ?_|refine pRet ?_|refine pCond ?_|refine gNone ?_|refine gOn rfl ?_|refine gOff rfl rfl ?_|refine gTup rfl ?_))
      refine ld1_is rfl p10.blk rfl ?_
      (repeat(first|refine pSeq ?_|refine pReg ?_|refine sCons ?_|refine sNil ?_|refine rCons ?_|refine rNil ?_|refine kNo ?_|refine pRow ?_|refine pBlock ?_|refine pSkip ?_|refine pExit ?_|refine pRet ?_|refine pCond ?_|refine gNone ?_|refine gOn rfl ?_|refine gOff rfl rfl ?_|refine gTup rfl ?_))
      refine ld1_is rfl p10.blk rfl ?_
      (repeat(first|refine pSeq ?_|refine pReg ?_|refine sCons ?_|refine sNil ?_|refine rCons ?_|refine rNil ?_|refine kNo ?_|refine pRow ?_|refine pBlock ?_|refine pSkip ?_|refine pExit ?_|refine pRet ?_|refine pCond ?_|refine gNone ?_|refine gOn rfl ?_|refine gOff rfl rfl ?_|refine gTup rfl ?_))
      refine ldI_is rfl lm.blk rfl ?_
      (repeat(first|refine pSeq ?_|refine pReg ?_|refine sCons ?_|refine sNil ?_|refine rCons ?_|refine rNil ?_|refine kNo ?_|refine pRow ?_|refine pBlock ?_|refine pSkip ?_|refine pExit ?_|refine pRet ?_|refine pCond ?_|refine gNone ?_|refine gOn rfl ?_|refine gOff rfl rfl ?_|refine gTup rfl ?_))
      refine (sure_w la).mono fun v s11 q => ?_
      obtain ⟨rfl, rfl⟩ := q
      refine kAll .refl ?_
      (repeat(first|refine pSeq ?_|refine pReg ?_|refine sCons ?_|refine sNil ?_|refine rCons ?_|refine rNil ?_|refine kNo ?_|refine pRow ?_|refine pBlock ?_|refine pSkip ?_|refine pExit ?_|refine pRet ?_|refine pCond ?_|refine gNone ?_|refine gOn rfl ?_|refine gOff rfl rfl ?_|refine gTup rfl ?_))
      intro q hq
      obtain rfl : q = false := by rw [hq]; simp
      (repeat(first|refine pSeq ?_|refine pReg ?_|refine sCons ?_|refine sNil ?_|refine rCons ?_|refine rNil ?_|refine kNo ?_|refine pRow ?_|refine pBlock ?_|refine pSkip ?_|refine pExit ?_|refine pRet ?_|refine pCond ?_|refine gNone ?_|refine gOn rfl ?_|refine gOff rfl rfl ?_|refine gTup rfl ?_))
      refine ld1_is rfl p10.blk rfl ?_
      (repeat(first|refine pSeq ?_|refine pReg ?_|refine sCons ?_|refine sNil ?_|refine rCons ?_|refine rNil ?_|refine kNo ?_|refine pRow ?_|refine pBlock ?_|refine pSkip ?_|refine pExit ?_|refine pRet ?_|refine pCond ?_|refine gNone ?_|refine gOn rfl ?_|refine gOff rfl rfl ?_|refine gTup rfl ?_))
      refine ld1_is rfl p10.blk rfl ?_
      (repeat(first|refine pSeq ?_|refine pReg ?_|refine sCons ?_|refine sNil ?_|refine rCons ?_|refine rNil ?_|refine kNo ?_|refine pRow ?_|refine pBlock ?_|refine pSkip ?_|refine pExit ?_|refine pRet ?_|refine pCond ?_|refine gNone ?_|refine gOn rfl ?_|refine gOff rfl rfl ?_|refine gTup rfl ?_))
      refine ldI_is rfl lm.blk rfl ?_
      (repeat(first|refine pSeq ?_|refine pReg ?_|refine sCons ?_|refine sNil ?_|refine rCons ?_|refine rNil ?_|refine kNo ?_|refine pRow ?_|refine pBlock ?_|refine pSkip ?_|refine pExit ?_|refine pRet ?_|refine pCond ?_|refine gNone ?_|refine gOn rfl ?_|refine gOff rfl rfl ?_|refine gTup rfl ?_))
      refine (size_w la).mono fun v s11 q => ?_
      obtain ⟨rfl, rfl⟩ := q
      refine kAll .refl ?_
      (repeat(first|refine pSeq ?_|refine pReg ?_|refine sCons ?_|refine sNil ?_|refine rCons ?_|refine rNil ?_|refine kNo ?_|refine pRow ?_|refine pBlock ?_|refine pSkip ?_|refine pExit ?_|refine pRet ?_|refine pCond ?_|refine gNone ?_|refine gOn rfl ?_|refine gOff rfl rfl ?_|refine gTup rfl ?_))
      intro q hq
      obtain rfl : q = false := by rw [hq]; simp
      (repeat(first|refine pSeq ?_|refine pReg ?_|refine sCons ?_|refine sNil ?_|refine rCons ?_|refine rNil ?_|refine kNo ?_|refine pRow ?_|refine pBlock ?_|refine pSkip ?_|refine pExit ?_|refine pRet ?_|refine pCond ?_|refine gNone ?_|refine gOn rfl ?_|refine gOff rfl rfl ?_|refine gTup rfl ?_))
      intro z hz
      rw [i64_id (by omega)] at hz
      (repeat(first|refine pSeq ?_|refine pReg ?_|refine sCons ?_|refine sNil ?_|refine rCons ?_|refine rNil ?_|refine kNo ?_|refine pRow ?_|refine pBlock ?_|refine pSkip ?_|refine pExit ?_|refine pRet ?_|refine pCond ?_|refine gNone ?_|refine gOn rfl ?_|refine gOff rfl rfl ?_|refine gTup rfl ?_))
      refine ⟨⟨k + 1, s11, D8, B8, R8, (some (g, m, A))⟩, ⟨hlt, p10, ac10, cc8.trans cap6, by dsimp only; omega⟩, by dsimp only; omega, Wk.same ⟨rfl, rfl, rfl, rfl, rfl, ?_, trivial⟩⟩
      subst hz
      rfl
  obtain rfl : q = false := by rw [hq]; simp; omega
  (repeat(first|refine pSeq ?_|refine pReg ?_|refine sCons ?_|refine sNil ?_|refine rCons ?_|refine rNil ?_|refine kNo ?_|refine pRow ?_|refine pBlock ?_|refine pSkip ?_|refine pExit ?_|refine pRet ?_|refine pCond ?_|refine gNone ?_|refine gOn rfl ?_|refine gOff rfl rfl ?_|refine gTup rfl ?_))
  refine (wakes_w p6.ev).mono fun v s q => ?_
  subst q
  (repeat(first|refine pSeq ?_|refine pReg ?_|refine sCons ?_|refine sNil ?_|refine rCons ?_|refine rNil ?_|refine kNo ?_|refine pRow ?_|refine pBlock ?_|refine pSkip ?_|refine pExit ?_|refine pRet ?_|refine pCond ?_|refine gNone ?_|refine gOn rfl ?_|refine gOff rfl rfl ?_|refine gTup rfl ?_))
  rfl
end Go.Vf.S
end

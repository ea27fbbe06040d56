import Derived.Test.YtfminjggoaegdaaGreatDoorMg6
import Derived.Test.YtfminjggoaegdaaGreatDoorFn
import Derived.Test.YtfminjggoaegdaaGreatDoorEngBd
import Derived.LaidMore
import Derived.Lay
import Derived.OpenShut
import Derived.Handed
import Derived.Test.YtfminjggoaegdaaGreatDoorMg3
import Derived.Shelf.Vars
import Derived.Test.YtfminjggoaegdaaGreatDoorEngAt
import Derived.Test.YtfminjggoaegdaaGreatDoorEngBg
import Derived.Deep.Strs
section
namespace Go.Vf.S
open Go Go.Vf Go.Proofs Go.RowKit
attribute [local irreducible] wSeq wRow wp wG
set_option linter.unusedVariables false
set_option linter.unusedSimpArgs false
set_option maxRecDepth 10000
set_option maxHeartbeats 1000000 in
theorem goal14_w {s : SS} {t : Tg} {many : Bool} (ha : t.a.length ≤ 9223372036854775807) (hn : t.nm.length ≤ 9223372036854775807) : CallW pr n_law14_goal [tgV t, .bool many] s fun v s' => v = tgV (golF (kdF many t.kind) t.a t.nm) ∧ Chg s s' [] := by
 refine CallW.run good ok_law14_goal (by simp) rfl ?_
 (try refine pSeq ?_); (repeat(first|refine sb ?_|refine gOn rfl ?_|refine gOff rfl rfl ?_|refine gTup rfl ?_))
 obtain ⟨s1, hs1⟩ : ∃ s1 : SS, s1 = { s with heap := (s.next + 1, some (.cells [.int .i64 0, str [], str [], str []] tTg false false)) :: (s.next, some (.cells (tgC t) tTg false false)) :: s.heap, next := s.next + 1 + 1 } := ⟨_, rfl⟩
 have c1 : Chg s s1 [] := by rw [hs1]; exact (Chg.new []).nil (.new [])
 have n1 : s1.next = s.next + 2 := by rw [hs1]
 have k1 : lookH s1.heap s.next = some (.cells (tgC t) tTg false false) := by rw [hs1]; exact lkT (by show s.next + 1 ≠ s.next; omega) lkH
 have r1 : lookH s1.heap (s.next + 1) = some (.cells [.int .i64 0, str [], str [], str []] tTg false false) := by rw [hs1]; exact lkH
 refine ldI_is (z := t.kind) rfl (cs := tgC t) (lkT (by show s.next + 1 ≠ s.next; omega) lkH) rfl ?_
 (repeat(first|refine sb ?_|refine gOn rfl ?_|refine gOff rfl rfl ?_|refine gTup rfl ?_))
 intro z hz
 rw [wrap_u64] at hz
 (repeat(first|refine sb ?_|refine gOn rfl ?_|refine gOff rfl rfl ?_|refine gTup rfl ?_))
 refine ⟨by decide, ?_⟩
 intro z2 hz2
 have hz2' : z2 = t.kind % 18446744073709551616 % 7 := by
  rw [hz2, hz]
  have h0 := Int.emod_nonneg t.kind (b := 18446744073709551616) (by decide)
  rw [Int.tmod_eq_emod_of_nonneg h0]
 have hlo := Int.emod_nonneg (t.kind % 18446744073709551616) (b := 7) (by decide)
 have hhi := Int.emod_lt_of_pos (t.kind % 18446744073709551616) (b := 7) (by decide)
 clear hz2 hz
 subst hz2'
 generalize hkk : t.kind % 18446744073709551616 % 7 = r at *
 (repeat(first|refine sb ?_|refine gOn rfl ?_|refine gOff rfl rfl ?_|refine gTup rfl ?_))
 intro z3 hz3
 rw [i64_id (by omega)] at hz3
 obtain rfl : z3 = r := hz3
 (repeat(first|refine sb ?_|refine gOn rfl ?_|refine gOff rfl rfl ?_|refine gTup rfl ?_))
 intro z4 hz4
 rw [i64_id (by omega)] at hz4
 subst hz4
 have hkd : kdF many t.kind = if many = true ∧ 5 < 1 + z3 then 2 else 1 + z3 := by unfold kdF; rw [hkk]
 rw [hkd]
 cases many with
 | false =>
  rw [if_neg (by simp)]
  generalize 1 + z3 = kd at *
  (repeat(first|refine sb ?_|refine gOn rfl ?_|refine gOff rfl rfl ?_|refine gTup rfl ?_))
  intro q hq
  by_cases e1 : kd = 1
  ·obtain rfl : q = true := by rw [hq, e1]; rfl
   have hg : golF kd t.a t.nm = ⟨kd, wrF t.a, farL, []⟩ := by unfold golF; rw [if_pos e1, e1]
   (repeat(first|refine sb ?_|refine gOn rfl ?_|refine gOff rfl rfl ?_|refine gTup rfl ?_))
   refine ldS_is (l := t.a) rfl (cs := tgC t) (lkT (by show s.next + 1 ≠ s.next; omega) lkH) rfl ?_
   (repeat(first|refine sb ?_|refine gOn rfl ?_|refine gOff rfl rfl ?_|refine gTup rfl ?_))
   refine (word14_w ha).mono fun v s2 q => ?_
   obtain ⟨rfl, c2⟩ := q
   have c2 : Chg s1 s2 [] := by rw [hs1]; exact c2
   have r2 := c2.blk _ _ (show s.next + 1 < s1.next by omega) (by simp) r1
   have n2 := c2.next
   (repeat(first|refine sb ?_|refine gOn rfl ?_|refine gOff rfl rfl ?_|refine gTup rfl ?_))
   refine st_abs (cs' := tgC (golF kd t.a t.nm)) rfl rfl r2 (show s.next + 1 < s2.next by omega) rfl (by rw [hg]; rfl) fun s3 k3 c3 n3 => ?_
   (repeat(first|refine sb ?_|refine gOn rfl ?_|refine gOff rfl rfl ?_|refine gTup rfl ?_))
   (repeat (first | with_reducible refine sqRet ?_ | with_reducible refine bkRet ?_ | with_reducible refine hdRet ?_))
   exact ret_cell1 agg_Tg sz_Tg rfl k3 (by rfl) ⟨rfl, (c1.nil c2).fresh c3 (by simp)⟩
  ·obtain rfl : q = false := by rw [hq]; simp [e1]
   (repeat(first|refine sb ?_|refine gOn rfl ?_|refine gOff rfl rfl ?_|refine gTup rfl ?_))
   intro q hq
   by_cases e7 : kd = 7
   ·obtain rfl : q = true := by rw [hq, e7]; rfl
    have hg : golF kd t.a t.nm = ⟨kd, [], [], []⟩ := by unfold golF; rw [if_neg e1, if_pos e7, e7]
    (repeat(first|refine sb ?_|refine gOn rfl ?_|refine gOff rfl rfl ?_|refine gTup rfl ?_))
    refine st_abs (cs' := tgC (golF kd t.a t.nm)) rfl rfl lkH (Nat.lt_succ_self _) rfl (by rw [hg]; rfl) fun s3 k3 c3 n3 => ?_
    have c3 : Chg s1 s3 [s.next + 1] := by rw [hs1]; exact c3
    (repeat(first|refine sb ?_|refine gOn rfl ?_|refine gOff rfl rfl ?_|refine gTup rfl ?_))
    (repeat (first | with_reducible refine sqRet ?_ | with_reducible refine bkRet ?_ | with_reducible refine hdRet ?_))
    exact ret_cell1 agg_Tg sz_Tg rfl k3 (by rfl) ⟨rfl, c1.fresh c3 (by simp)⟩
   ·obtain rfl : q = false := by rw [hq]; simp [e7]
    have hg : golF kd t.a t.nm = ⟨kd, [], [], wrF t.nm⟩ := by unfold golF; rw [if_neg e1, if_neg e7]
    (repeat(first|refine sb ?_|refine gOn rfl ?_|refine gOff rfl rfl ?_|refine gTup rfl ?_))
    refine ldS_is (l := t.nm) rfl (cs := tgC t) (lkT (by show s.next + 1 ≠ s.next; omega) lkH) rfl ?_
    (repeat(first|refine sb ?_|refine gOn rfl ?_|refine gOff rfl rfl ?_|refine gTup rfl ?_))
    refine (word14_w hn).mono fun v s2 q => ?_
    obtain ⟨rfl, c2⟩ := q
    have c2 : Chg s1 s2 [] := by rw [hs1]; exact c2
    have r2 := c2.blk _ _ (show s.next + 1 < s1.next by omega) (by simp) r1
    have n2 := c2.next
    (repeat(first|refine sb ?_|refine gOn rfl ?_|refine gOff rfl rfl ?_|refine gTup rfl ?_))
    refine st_abs (cs' := tgC (golF kd t.a t.nm)) rfl rfl r2 (show s.next + 1 < s2.next by omega) rfl (by rw [hg]; rfl) fun s3 k3 c3 n3 => ?_
    (repeat(first|refine sb ?_|refine gOn rfl ?_|refine gOff rfl rfl ?_|refine gTup rfl ?_))
    (repeat (first | with_reducible refine sqRet ?_ | with_reducible refine bkRet ?_ | with_reducible refine hdRet ?_))
    exact ret_cell1 agg_Tg sz_Tg rfl k3 (by rfl) ⟨rfl, (c1.nil c2).fresh c3 (by simp)⟩
 | true =>
  (repeat(first|refine sb ?_|refine gOn rfl ?_|refine gOff rfl rfl ?_|refine gTup rfl ?_))
  intro q hq
  by_cases h5 : 5 < 1 + z3
  ·obtain rfl : q = true := by rw [hq]; exact decide_eq_true h5
   rw [if_pos ⟨rfl, h5⟩]
   (repeat(first|refine sb ?_|refine gOn rfl ?_|refine gOff rfl rfl ?_|refine gTup rfl ?_))
   intro q hq; obtain rfl : q = false := (by rw [hq]; simp <;> omega); (repeat(first|refine sb ?_|refine gOn rfl ?_|refine gOff rfl rfl ?_|refine gTup rfl ?_))
   intro q hq; obtain rfl : q = false := (by rw [hq]; simp <;> omega); (repeat(first|refine sb ?_|refine gOn rfl ?_|refine gOff rfl rfl ?_|refine gTup rfl ?_))
   have hg : golF 2 t.a t.nm = ⟨2, [], [], wrF t.nm⟩ := by unfold golF; rw [if_neg (by decide), if_neg (by decide)]
   (repeat(first|refine sb ?_|refine gOn rfl ?_|refine gOff rfl rfl ?_|refine gTup rfl ?_))
   refine ldS_is (l := t.nm) rfl (cs := tgC t) (lkT (by show s.next + 1 ≠ s.next; omega) lkH) rfl ?_
   (repeat(first|refine sb ?_|refine gOn rfl ?_|refine gOff rfl rfl ?_|refine gTup rfl ?_))
   refine (word14_w hn).mono fun v s2 q => ?_
   obtain ⟨rfl, c2⟩ := q
   have c2 : Chg s1 s2 [] := by rw [hs1]; exact c2
   have r2 := c2.blk _ _ (show s.next + 1 < s1.next by omega) (by simp) r1
   have n2 := c2.next
   (repeat(first|refine sb ?_|refine gOn rfl ?_|refine gOff rfl rfl ?_|refine gTup rfl ?_))
   refine st_abs (cs' := tgC (golF 2 t.a t.nm)) rfl rfl r2 (show s.next + 1 < s2.next by omega) rfl (by rw [hg]; rfl) fun s3 k3 c3 n3 => ?_
   (repeat(first|refine sb ?_|refine gOn rfl ?_|refine gOff rfl rfl ?_|refine gTup rfl ?_))
   (repeat (first | with_reducible refine sqRet ?_ | with_reducible refine bkRet ?_ | with_reducible refine hdRet ?_))
   exact ret_cell1 agg_Tg sz_Tg rfl k3 (by rfl) ⟨rfl, (c1.nil c2).fresh c3 (by simp)⟩
  ·obtain rfl : q = false := by rw [hq]; exact decide_eq_false h5
   rw [if_neg (fun q => h5 q.2)]
   generalize 1 + z3 = kd at *
   (repeat(first|refine sb ?_|refine gOn rfl ?_|refine gOff rfl rfl ?_|refine gTup rfl ?_))
   intro q hq
   by_cases e1 : kd = 1
   ·obtain rfl : q = true := by rw [hq, e1]; rfl
    have hg : golF kd t.a t.nm = ⟨kd, wrF t.a, farL, []⟩ := by unfold golF; rw [if_pos e1, e1]
    (repeat(first|refine sb ?_|refine gOn rfl ?_|refine gOff rfl rfl ?_|refine gTup rfl ?_))
    refine ldS_is (l := t.a) rfl (cs := tgC t) (lkT (by show s.next + 1 ≠ s.next; omega) lkH) rfl ?_
    (repeat(first|refine sb ?_|refine gOn rfl ?_|refine gOff rfl rfl ?_|refine gTup rfl ?_))
    refine (word14_w ha).mono fun v s2 q => ?_
    obtain ⟨rfl, c2⟩ := q
    have c2 : Chg s1 s2 [] := by rw [hs1]; exact c2
    have r2 := c2.blk _ _ (show s.next + 1 < s1.next by omega) (by simp) r1
    have n2 := c2.next
    (repeat(first|refine sb ?_|refine gOn rfl ?_|refine gOff rfl rfl ?_|refine gTup rfl ?_))
    refine st_abs (cs' := tgC (golF kd t.a t.nm)) rfl rfl r2 (show s.next + 1 < s2.next by omega) rfl (by rw [hg]; rfl) fun s3 k3 c3 n3 => ?_
    (repeat(first|refine sb ?_|refine gOn rfl ?_|refine gOff rfl rfl ?_|refine gTup rfl ?_))
    (repeat (first | with_reducible refine sqRet ?_ | with_reducible refine bkRet ?_ | with_reducible refine hdRet ?_))
    exact ret_cell1 agg_Tg sz_Tg rfl k3 (by rfl) ⟨rfl, (c1.nil c2).fresh c3 (by simp)⟩
   ·obtain rfl : q = false := by rw [hq]; simp [e1]
    (repeat(first|refine sb ?_|refine gOn rfl ?_|refine gOff rfl rfl ?_|refine gTup rfl ?_))
    intro q hq
    by_cases e7 : kd = 7
    ·obtain rfl : q = true := by rw [hq, e7]; rfl
     have hg : golF kd t.a t.nm = ⟨kd, [], [], []⟩ := by unfold golF; rw [if_neg e1, if_pos e7, e7]
     (repeat(first|refine sb ?_|refine gOn rfl ?_|refine gOff rfl rfl ?_|refine gTup rfl ?_))
     refine st_abs (cs' := tgC (golF kd t.a t.nm)) rfl rfl lkH (Nat.lt_succ_self _) rfl (by rw [hg]; rfl) fun s3 k3 c3 n3 => ?_
     have c3 : Chg s1 s3 [s.next + 1] := by rw [hs1]; exact c3
     (repeat(first|refine sb ?_|refine gOn rfl ?_|refine gOff rfl rfl ?_|refine gTup rfl ?_))
     (repeat (first | with_reducible refine sqRet ?_ | with_reducible refine bkRet ?_ | with_reducible refine hdRet ?_))
     exact ret_cell1 agg_Tg sz_Tg rfl k3 (by rfl) ⟨rfl, c1.fresh c3 (by simp)⟩
    ·obtain rfl : q = false := by rw [hq]; simp [e7]
     have hg : golF kd t.a t.nm = ⟨kd, [], [], wrF t.nm⟩ := by unfold golF; rw [if_neg e1, if_neg e7]
     (repeat(first|refine sb ?_|refine gOn rfl ?_|refine gOff rfl rfl ?_|refine gTup rfl ?_))
     refine ldS_is (l := t.nm) rfl (cs := tgC t) (lkT (by show s.next + 1 ≠ s.next; omega) lkH) rfl ?_
     (repeat(first|refine sb ?_|refine gOn rfl ?_|refine gOff rfl rfl ?_|refine gTup rfl ?_))
     refine (word14_w hn).mono fun v s2 q => ?_
     obtain ⟨rfl, c2⟩ := q
     have c2 : Chg s1 s2 [] := by rw [hs1]; exact c2
     have r2 := c2.blk _ _ (show s.next + 1 < s1.next by omega) (by simp) r1
     have n2 := c2.next
     (repeat(first|refine sb ?_|refine gOn rfl ?_|refine gOff rfl rfl ?_|refine gTup rfl ?_))
     refine st_abs (cs' := tgC (golF kd t.a t.nm)) rfl rfl r2 (show s.next + 1 < s2.next by omega) rfl (by rw [hg]; rfl) fun s3 k3 c3 n3 => ?_
     (repeat(first|refine sb ?_|refine gOn rfl ?_|refine gOff rfl rfl ?_|refine gTup rfl ?_))
     (repeat (first | with_reducible refine sqRet ?_ | with_reducible refine bkRet ?_ | with_reducible refine hdRet ?_))
     exact ret_cell1 agg_Tg sz_Tg rfl k3 (by rfl) ⟨rfl, (c1.nil c2).fresh c3 (by simp)⟩
end Go.Vf.S
end
section
namespace Go.Vf.S
open Go Go.Vf Go.Proofs Go.RowKit
attribute [local irreducible] wSeq wRow wp wG
set_option linter.unusedVariables false
set_option linter.unusedSimpArgs false
set_option maxRecDepth 10000
def RdR {α : Type} (f : α → List Value) (n : Nat) (s : SS) (V : Option Addr) (xs : List α) : Prop :=
 xs = [] ∨ ∃ b off cs t g r, V = some ⟨b, off, none⟩ ∧ b < s.next ∧ lookH s.heap b = some (.cells cs t g r) ∧ ∀ (i : Nat) x, xs[i]? = some x → takeN n (cs.drop (off + i * n)) = some (f x)
theorem own_rd {α : Type} {f : α → List Value} {n : Nat} (hf : ∀ x, (f x).length = n) {t : TypeId} {s : SS} {V : Option Addr} {cw : Nat} {xs : List α} (h : OwnR t s V cw xs.length (xs.flatMap f)) : RdR f n s V xs := by
 cases V with
 | none => exact .inl (List.eq_nil_of_length_eq_zero h.2.1)
 | some ad =>
  obtain ⟨b, off, sp⟩ := ad
  obtain ⟨rfl, rfl, h3, g, h4, h5⟩ := h
  exact .inr ⟨b, 0, _, _, _, _, rfl, h3, h4, fun i x hx => by rw [Nat.zero_add]; exact fl_take hf hx⟩
theorem RdR.nil {α : Type} {f : α → List Value} {n : Nat} {s s' : SS} {V : Option Addr} {xs : List α} (h : RdR f n s V xs) (c : Chg s s' []) : RdR f n s' V xs := by
 rcases h with h | ⟨b, off, cs, t, g, r, rfl, lb, kb, hb⟩
 ·exact .inl h
 ·exact .inr ⟨b, off, cs, t, g, r, rfl, Nat.lt_of_lt_of_le lb c.next, c.blk _ _ lb (by simp) kb, hb⟩
theorem tgC_len (x : Tg) : (tgC x).length = 4 := rfl
set_option maxHeartbeats 1000000 in
theorem eqT14_w {s : SS} {W V : Option Addr} {cw cv : Nat} {xs : List Tg} (h : RdR tgC 4 s W xs) (h' : RdR tgC 4 s V xs) (hn : xs.length ≤ 100000) : CallW pr n_slices_Equal_alias_Target_alias_Target [.slice W xs.length cw, .slice V xs.length cv] s fun v s' => v = .bool true ∧ s' = s := by
 refine CallW.run good ok_slices_Equal_alias_Target_alias_Target (by simp) rfl ?_
 (try refine pSeq ?_); (repeat(first|refine sb ?_|refine kNo ?_))
 intro q hq
 obtain rfl : q = false := by rw [hq]; simp
 (repeat(first|refine sb ?_|refine kNo ?_))
 refine pLoop (MW.head good (fun x : Nat => xs.length - x) (fun x => x ≤ xs.length) (fun x => [(0, .slice W xs.length cw), (1, .slice V xs.length cv), (12, .int .i64 (xs.length : Int)), (13, .int .i64 (x : Int))]) (fun x => s) 0 (Nat.zero_le _) (Wk.same ⟨rfl, rfl, rfl, rfl, trivial⟩) ?_)
 intro i hi
 (repeat(first|refine sb ?_|refine kNo ?_))
 intro q hq
 by_cases hlt : i < xs.length
 ·obtain rfl : q = true := by rw [hq]; simp; omega
  obtain ⟨x, hx⟩ : ∃ x, xs[i]? = some x := ⟨_, List.getElem?_eq_getElem hlt⟩
  rcases h with h0 | ⟨b, off, cs, t, g, r, rfl, lb, kb, hb⟩
  ·rw [h0] at hlt; simp at hlt
  rcases h' with h0 | ⟨b2, off2, cs2, t2, g2, r2, rfl, lb2, kb2, hb2⟩
  ·rw [h0] at hlt; simp at hlt
  (repeat(first|refine sb ?_|refine kNo ?_))
  refine ⟨by omega, ?_⟩
  intro m hm o ho
  obtain rfl : m = i := by omega
  (repeat(first|refine sb ?_|refine kNo ?_))
  refine ldN_is (new := tgC x) rfl kb (by rw [ho]; exact hb _ _ hx) ?_
  (repeat(first|refine sb ?_|refine kNo ?_))
  refine ⟨by omega, ?_⟩
  intro m2 hm2 o2 ho2
  obtain rfl : m2 = m := by omega
  (repeat(first|refine sb ?_|refine kNo ?_))
  refine ldN_is (new := tgC x) rfl kb2 (by rw [ho2]; exact hb2 _ _ hx) ?_
  (repeat(first|refine sb ?_|refine kNo ?_))
  intro q hq
  obtain rfl : q = false := by rw [hq]; simp
  (repeat(first|refine sb ?_|refine kNo ?_))
  intro z hz
  rw [i64_id (by omega)] at hz
  (repeat(first|refine sb ?_|refine kNo ?_))
  exact ⟨m2 + 1, by omega, by show xs.length - (m2 + 1) < xs.length - m2; omega, Wk.same ⟨rfl, rfl, rfl, by rw [show z = ((m2 + 1 : Nat) : Int) by omega]; rfl, trivial⟩⟩
 ·obtain rfl : q = false := by rw [hq]; simp; omega
  (repeat(first|refine sb ?_|refine kNo ?_))
  exact ⟨rfl, rfl⟩
set_option maxHeartbeats 1000000 in
theorem eqF14_w {s : SS} {W V : Option Addr} {cw cv : Nat} {xs : List Flt} (h : RdR fltC 3 s W xs) (h' : RdR fltC 3 s V xs) (hn : xs.length ≤ 100000) : CallW pr n_slices_Equal_alias_Fault_alias_Fault [.slice W xs.length cw, .slice V xs.length cv] s fun v s' => v = .bool true ∧ s' = s := by
 refine CallW.run good ok_slices_Equal_alias_Fault_alias_Fault (by simp) rfl ?_
 (try refine pSeq ?_); (repeat(first|refine sb ?_|refine kNo ?_))
 intro q hq
 obtain rfl : q = false := by rw [hq]; simp
 (repeat(first|refine sb ?_|refine kNo ?_))
 refine pLoop (MW.head good (fun x : Nat => xs.length - x) (fun x => x ≤ xs.length) (fun x => [(0, .slice W xs.length cw), (1, .slice V xs.length cv), (12, .int .i64 (xs.length : Int)), (13, .int .i64 (x : Int))]) (fun x => s) 0 (Nat.zero_le _) (Wk.same ⟨rfl, rfl, rfl, rfl, trivial⟩) ?_)
 intro i hi
 (repeat(first|refine sb ?_|refine kNo ?_))
 intro q hq
 by_cases hlt : i < xs.length
 ·obtain rfl : q = true := by rw [hq]; simp; omega
  obtain ⟨x, hx⟩ : ∃ x, xs[i]? = some x := ⟨_, List.getElem?_eq_getElem hlt⟩
  rcases h with h0 | ⟨b, off, cs, t, g, r, rfl, lb, kb, hb⟩
  ·rw [h0] at hlt; simp at hlt
  rcases h' with h0 | ⟨b2, off2, cs2, t2, g2, r2, rfl, lb2, kb2, hb2⟩
  ·rw [h0] at hlt; simp at hlt
  (repeat(first|refine sb ?_|refine kNo ?_))
  refine ⟨by omega, ?_⟩
  intro m hm o ho
  obtain rfl : m = i := by omega
  (repeat(first|refine sb ?_|refine kNo ?_))
  refine ldN_is (new := fltC x) rfl kb (by rw [ho]; exact hb _ _ hx) ?_
  (repeat(first|refine sb ?_|refine kNo ?_))
  refine ⟨by omega, ?_⟩
  intro m2 hm2 o2 ho2
  obtain rfl : m2 = m := by omega
  (repeat(first|refine sb ?_|refine kNo ?_))
  refine ldN_is (new := fltC x) rfl kb2 (by rw [ho2]; exact hb2 _ _ hx) ?_
  (repeat(first|refine sb ?_|refine kNo ?_))
  intro q hq
  obtain rfl : q = false := by rw [hq]; simp
  (repeat(first|refine sb ?_|refine kNo ?_))
  intro z hz
  rw [i64_id (by omega)] at hz
  (repeat(first|refine sb ?_|refine kNo ?_))
  exact ⟨m2 + 1, by omega, by show xs.length - (m2 + 1) < xs.length - m2; omega, Wk.same ⟨rfl, rfl, rfl, by rw [show z = ((m2 + 1 : Nat) : Int) by omega]; rfl, trivial⟩⟩
 ·obtain rfl : q = false := by rw [hq]; simp; omega
  (repeat(first|refine sb ?_|refine kNo ?_))
  exact ⟨rfl, rfl⟩
set_option maxHeartbeats 1000000 in
theorem index14_w {s : SS} {W : Option Addr} {cw : Nat} {xs : List Tg} {t : Tg} (h : RdR tgC 4 s W xs) (hn : xs.length ≤ 100000) : CallW pr n_slices_Index_alias_Target_alias_Target [.slice W xs.length cw, tgV t] s fun v s' => (∃ z : Int, v = .int .i64 z ∧ decide (0 ≤ z) = decide (t ∈ xs)) ∧ Chg s s' [] := by
 refine CallW.run good ok_slices_Index_alias_Target_alias_Target (by simp) rfl ?_
 (try refine pSeq ?_); (repeat(first|refine sb ?_|refine kNo ?_))
 obtain ⟨s1, hs1⟩ : ∃ s1 : SS, s1 = { s with heap := (s.next, some (.cells (tgC t) tTg false false)) :: s.heap, next := s.next + 1 } := ⟨_, rfl⟩
 have c1 : Chg s s1 [] := by rw [hs1]; exact .new []
 have k1 : lookH s1.heap s.next = some (.cells (tgC t) tTg false false) := by rw [hs1]; exact lkH
 refine pLoop (MW.head good (fun x : Nat => xs.length - x) (fun x => x ≤ xs.length ∧ t ∉ xs.take x) (fun x => [(0, .slice W xs.length cw), (3, ptrV s.next), (7, .int .i64 (xs.length : Int)), (8, .int .i64 (x : Int))]) (fun x => s1) 0 ⟨Nat.zero_le _, by simp⟩ ?_ ?_)
 ·dsimp only
  rw [hs1]
  exact Wk.same ⟨rfl, rfl, rfl, rfl, trivial⟩
 rintro i ⟨hi, hni⟩
 (repeat(first|refine sb ?_|refine kNo ?_))
 intro q hq
 by_cases hlt : i < xs.length
 ·obtain rfl : q = true := by rw [hq]; simp; omega
  obtain ⟨x, hx⟩ : ∃ x, xs[i]? = some x := ⟨_, List.getElem?_eq_getElem hlt⟩
  rcases h with h0 | ⟨b, off, cs, t', g, r, rfl, lb, kb, hb⟩
  ·rw [h0] at hlt; simp at hlt
  have kb1 : lookH s1.heap b = some (.cells cs t' g r) := c1.blk _ _ lb (by simp) kb
  (repeat(first|refine sb ?_|refine kNo ?_))
  refine ldN_is (off := 0) (new := tgC t) rfl k1 (by rfl) ?_
  (repeat(first|refine sb ?_|refine kNo ?_))
  refine ⟨by omega, ?_⟩
  intro m hm o ho
  obtain rfl : m = i := by omega
  (repeat(first|refine sb ?_|refine kNo ?_))
  refine ldN_is (new := tgC x) rfl kb1 (by rw [ho]; exact hb _ _ hx) ?_
  (repeat(first|refine sb ?_|refine kNo ?_))
  intro q hq
  have hqe : q = decide (t = x) := by
   rw [hq, Bool.eq_iff_iff]
   cases t
   cases x
   simp
  by_cases htx : t = x
  ·obtain rfl : q = true := by rw [hqe]; exact decide_eq_true htx
   (repeat(first|refine sb ?_|refine kNo ?_))
   refine ⟨⟨_, rfl, ?_⟩, c1⟩
   rw [decide_eq_true (Int.natCast_nonneg m), htx, decide_eq_true (List.mem_of_getElem? hx)]
  ·obtain rfl : q = false := by rw [hqe]; exact decide_eq_false htx
   (repeat(first|refine sb ?_|refine kNo ?_))
   intro z hz
   rw [i64_id (by omega)] at hz
   (repeat(first|refine sb ?_|refine kNo ?_))
   refine ⟨m + 1, ⟨by omega, ?_⟩, by show xs.length - (m + 1) < xs.length - m; omega, Wk.same ⟨rfl, rfl, rfl, by rw [show z = ((m + 1 : Nat) : Int) by omega]; rfl, trivial⟩⟩
   rw [take_next hx]
   simp [hni, htx]
 ·obtain rfl : q = false := by rw [hq]; simp; omega
  obtain rfl : i = xs.length := by omega
  rw [List.take_length] at hni
  (repeat(first|refine sb ?_|refine kNo ?_))
  exact ⟨⟨-1, rfl, by rw [decide_eq_false hni]; rfl⟩, c1⟩
theorem contains14_w {s : SS} {W : Option Addr} {cw : Nat} {xs : List Tg} {t : Tg} (h : RdR tgC 4 s W xs) (hn : xs.length ≤ 100000) : CallW pr n_slices_Contains_alias_Target_alias_Target [.slice W xs.length cw, tgV t] s fun v s' => v = .bool (decide (t ∈ xs)) ∧ Chg s s' [] := by
 refine CallW.run good ok_slices_Contains_alias_Target_alias_Target (by simp) rfl ?_
 (try refine pSeq ?_); (repeat refine sb ?_)
 refine ldN_is (off := 0) (new := tgC t) rfl lkH (by rfl) ?_
 (repeat refine sb ?_)
 have c1 : Chg s { s with heap := (s.next, some (.cells (tgC t) tTg false false)) :: s.heap, next := s.next + 1 } [] := .new []
 refine (index14_w (h.nil c1) hn).mono fun v s2 q => ?_
 obtain ⟨⟨z, rfl, hz⟩, c2⟩ := q
 (repeat refine sb ?_)
 intro q hq
 (repeat refine sb ?_)
 exact ⟨by rw [hq]; exact congrArg Value.bool hz, c1.nil c2⟩
end Go.Vf.S
end
section
namespace Go.Vf.S
open Go Go.Vf Go.Proofs Go.RowKit
attribute [local irreducible] wSeq wRow wp wG
set_option linter.unusedVariables false
set_option linter.unusedSimpArgs false
set_option maxRecDepth 10000
def txA : List UInt8 := [115, 116, 97, 102, 102, 58, 32, 97, 110, 110, 44, 32, 98, 111, 98, 64, 102, 97, 114, 46, 110, 101, 116, 44, 32, 58, 105, 110, 99, 108, 117, 100, 101, 58, 114, 101, 115, 116, 10, 120, 58, 32, 58, 102, 97, 105, 108, 58, 32, 103, 111, 110, 101, 44, 32, 121, 10]
def restL : List UInt8 := [114, 101, 115, 116]
def carlL : List UInt8 := [99, 97, 114, 108]
def staffL : List UInt8 := [115, 116, 97, 102, 102]
def tA3 : List Tg := [⟨2, [], [], [97, 110, 110]⟩, ⟨1, [98, 111, 98], farL, []⟩, ⟨5, [], [], restL⟩]
def lsA : Ls := [(restL, carlL ++ [10])]
theorem tab_A : tableF txA lsA = ([(staffL, tA3)], [(restL, [⟨2, [], [], carlL⟩])], [⟨[], 2, 5⟩]) := by kernel_rfl
theorem h12_A : (rdF (keepA ((nmsF lsA []).1.map (·.1))) [] txA true []).2.length = 1 := by kernel_rfl
theorem nms_A : nmsF lsA [] = ([(restL, [])], [0]) := by kernel_rfl
theorem lst_A : (rdF (keepL restL) restL (carlL ++ [10]) false [(restL, [])]).2 = [] := by kernel_rfl
theorem fnd_A : fndF [(staffL, tA3)] [83, 116, 97, 102, 102, 43, 120] = some (tA3, staffL) := by kernel_rfl
theorem fnd_B : fndF [(staffL, tA3)] [120] = none := by kernel_rfl
theorem fd_one {xs : List KvV} {k : List UInt8} {v : List Tg} (h : xs.map kvT = [(k, v)]) : fdT xs k = v ∧ fdB xs k = true := by
 have h1 : getK (xs.map kvT) k = some v := by
  rw [h]
  unfold getK
  simp
 rw [getV_K] at h1
 unfold fdT fdB
 cases hg : getV xs k with
 | none => rw [hg] at h1; cases h1
 | some x => rw [hg] at h1; exact ⟨Option.some.inj h1, rfl⟩
set_option maxHeartbeats 2000000 in
theorem tells14_w {s : SS} (f : Fine s) (hF : FrT s) (hG : Gb s) : CallW pr n_law14_tells [] s fun v s' => v = .bool true ∧ Chg s s' [] := by
 refine CallW.run good ok_law14_tells (by simp) rfl ?_
 (try refine pSeq ?_); (repeat(first|refine sb ?_|refine gOn rfl ?_|refine gOff rfl rfl ?_|refine gTup rfl ?_))
 have cm : Chg s { s with heap := (s.next, some (.cells [str restL, str (carlL ++ [10])] tLi false false)) :: s.heap, next := s.next + 1 } [] := .new []
 refine (parse14_w (l := txA) (lists := lsA) (cm.fine f) (hF.chg cm (by simp)) (hG.chg cm (by simp)) (.inr ⟨s.next, _, _, _, rfl, Nat.lt_succ_self _, lkH, fun i x hx => ?_⟩) (by decide) (by decide) (by rw [h12_A]; decide) ?_).mono fun v s1 q => ?_
 ·cases i with
  | zero => cases hx; rfl
  | succ i => cases hx
 ·rw [nms_A]
  refine ⟨⟨?_, by decide⟩, trivial⟩
  rw [show (restL, carlL ++ [10]).1 = restL from rfl, show (restL, carlL ++ [10]).2 = carlL ++ [10] from rfl, lst_A]
  decide
 obtain ⟨tb, a, b, xs, ls, V, fl, rfl, htab, T, ma, mb, ra, rb, oV, c1, _, _, _⟩ := q
 rw [tab_A] at htab
 obtain ⟨hxs, h2⟩ := Prod.mk.inj htab
 obtain ⟨hls, rfl⟩ := Prod.mk.inj h2
 have cs1 := cm.nil c1
 have f1 := cs1.fine f
 have hn3 : ∀ x ∈ xs, x.ts.length ≤ 100000 := fun x hx => by
  have h3 : kvT x ∈ xs.map kvT := List.mem_map_of_mem hx
  rw [hxs] at h3
  have h4 := congrArg Prod.snd (List.mem_singleton.1 h3)
  have h5 : x.ts = tA3 := h4
  rw [h5]
  decide
 have hm3 : ∀ x ∈ ls, x.ts.length ≤ 100000 := fun x hx => by
  have h3 : kvT x ∈ ls.map kvT := List.mem_map_of_mem hx
  rw [hls] at h3
  have h4 := congrArg Prod.snd (List.mem_singleton.1 h3)
  have h5 : x.ts = [⟨2, [], [], carlL⟩] := h4
  rw [h5]
  decide
 (repeat(first|refine sb ?_|refine gOn rfl ?_|refine gOff rfl rfl ?_|refine gTup rfl ?_))
 refine (find14_w (l := [83, 116, 97, 102, 102, 43, 120]) f1 T ma ra hn3 (by decide)).mono fun v s2 q => ?_
 obtain ⟨q1, c2⟩ := q
 rw [hxs, fnd_A] at q1
 obtain ⟨V2, rfl, oV2, _⟩ := q1
 have cs2 := cs1.nil c2
 (repeat(first|refine sb ?_|refine gOn rfl ?_|refine gOff rfl rfl ?_|refine gTup rfl ?_))
 refine (find14_w (l := [120]) (cs2.fine f) (T.chg c2 (by simp)) (ma.chg c2 (by simp)) (fun x hx => (ra x hx).chg c2 (fun _ _ q => by cases q)) hn3 (by decide)).mono fun v s3 q => ?_
 obtain ⟨q1, c3⟩ := q
 rw [hxs, fnd_B] at q1
 replace q1 : v = .tuple ⟨[.slice none 0 0, str [], .bool false]⟩ := q1
 subst q1
 have c13 := c2.nil c3
 have cs3 := cs1.nil c13
 (repeat(first|refine sb ?_|refine gOn rfl ?_|refine gOff rfl rfl ?_|refine gTup rfl ?_))
 obtain ⟨hfd1, hfd2⟩ := fd_one hls
 refine (list_w (k := restL) (cs3.fine f) (T.chg c13 (by simp)) (mb.chg c13 (by simp)) (fun x hx => (rb x hx).chg c13 (fun _ _ q => by cases q)) hm3).mono fun v s4 q => ?_
 obtain ⟨V4, rfl, oV4, _, c4⟩ := q
 rw [hfd1, hfd2]
 have oV24 := oV2.chg (c3.nil c4) (fun _ _ q => by cases q)
 have oF4 := oV.chg (c13.nil c4) (fun _ _ q => by cases q)
 obtain ⟨b2, g2, rfl, k2⟩ := oV24.pos (by decide)
 obtain ⟨bf, gf, rfl, kf⟩ := oF4.pos (by decide)
 (repeat(first|refine sb ?_|refine gOn rfl ?_|refine gOff rfl rfl ?_|refine gTup rfl ?_))
 intro q hq
 obtain rfl : q = true := by rw [hq]; rfl
 (repeat(first|refine sb ?_|refine gOn rfl ?_|refine gOff rfl rfl ?_|refine gTup rfl ?_))
 intro q hq
 obtain rfl : q = true := by rw [hq]; rfl
 (repeat(first|refine sb ?_|refine gOn rfl ?_|refine gOff rfl rfl ?_|refine gTup rfl ?_))
 refine ⟨by decide, ?_⟩
 intro m hm o ho
 obtain rfl : m = 0 := by omega
 (repeat(first|refine sb ?_|refine gOn rfl ?_|refine gOff rfl rfl ?_|refine gTup rfl ?_))
 refine ldN_is (new := tgC ⟨2, [], [], [97, 110, 110]⟩) rfl k2 (by rw [ho]; rfl) ?_
 (repeat(first|refine sb ?_|refine gOn rfl ?_|refine gOff rfl rfl ?_|refine gTup rfl ?_))
 intro q hq
 obtain rfl : q = true := by rw [hq]; rfl
 (repeat(first|refine sb ?_|refine gOn rfl ?_|refine gOff rfl rfl ?_|refine gTup rfl ?_))
 refine ⟨by decide, ?_⟩
 intro m hm o ho
 obtain rfl : m = 2 := by omega
 (repeat(first|refine sb ?_|refine gOn rfl ?_|refine gOff rfl rfl ?_|refine gTup rfl ?_))
 refine ldI_is (z := 5) rfl k2 (by rw [ho]; rfl) ?_
 (repeat(first|refine sb ?_|refine gOn rfl ?_|refine gOff rfl rfl ?_|refine gTup rfl ?_))
 intro q hq
 obtain rfl : q = true := by rw [hq]; rfl
 (repeat(first|refine sb ?_|refine gOn rfl ?_|refine gOff rfl rfl ?_|refine gTup rfl ?_))
 intro q hq
 obtain rfl : q = true := by rw [hq]; rfl
 (repeat(first|refine sb ?_|refine gOn rfl ?_|refine gOff rfl rfl ?_|refine gTup rfl ?_))
 intro q hq
 obtain rfl : q = true := by rw [hq]; rfl
 (repeat(first|refine sb ?_|refine gOn rfl ?_|refine gOff rfl rfl ?_|refine gTup rfl ?_))
 intro q hq
 obtain rfl : q = true := by rw [hq]; rfl
 (repeat(first|refine sb ?_|refine gOn rfl ?_|refine gOff rfl rfl ?_|refine gTup rfl ?_))
 refine ⟨by decide, ?_⟩
 intro m hm o ho
 obtain rfl : m = 0 := by omega
 (repeat(first|refine sb ?_|refine gOn rfl ?_|refine gOff rfl rfl ?_|refine gTup rfl ?_))
 refine ldN_is (new := fltC ⟨[], 2, 5⟩) rfl kf (by rw [ho]; rfl) ?_
 (repeat(first|refine sb ?_|refine gOn rfl ?_|refine gOff rfl rfl ?_|refine gTup rfl ?_))
 intro q hq
 obtain rfl : q = true := by rw [hq]; rfl
 (repeat(first|refine sb ?_|refine gOn rfl ?_|refine gOff rfl rfl ?_|refine gTup rfl ?_))
 exact ⟨rfl, cs3.nil c4⟩
end Go.Vf.S
end
section
namespace Go.Vf.S
open Go Go.Vf Go.Proofs Go.RowKit
attribute [local irreducible] wSeq wRow wp wG
set_option linter.unusedVariables false
set_option linter.unusedSimpArgs false
set_option maxRecDepth 10000
theorem fnd_X (a b : List UInt8) : fndF [([120], [inX a]), ([121], [inX b])] [121] = some ([inX b], [121]) := rfl
theorem ltr_nat {i : Nat} (h : i < 6) : (ltr i).toNat = 97 + i := by
 have : ∀ i < 6, (ltr i).toNat = 97 + i := by decide
 exact this i h
theorem txP_app (own : List Tg) (t : Tg) : txP ((own ++ [t]).map rawT) = txP (own.map rawT) ++ (rawT t ++ [10]) := by unfold txP; rw [List.map_append, List.flatMap_append]; simp
theorem raw_len14 {t : Tg} (h : (rawT t).length ≤ 30) : (rawT t).length ≤ 1000000 := by omega
theorem slL_lo14 {T : TL} {s : SS} {K : RR → Prop} {x lo : Operand} {b n z cap a : Nat} {cs : List Value} {t : TypeId} {r : Bool} {u : Int} (hx : opd T s.gl x = some (.slice (some ⟨b, 0, none⟩) n cap)) (hb : lookH s.heap b = some (.cells cs t false r)) (hlo : opd T s.gl lo = some (.int .i64 u)) (hu : u = (a : Int)) (ha : a < cap) (han : a ≤ n)
  (hK : K (.val (.slice (some ⟨b, a * z, none⟩) (n - a) (cap - a)))) : wN pr (.slL z x (some lo) none) T s K := by
 subst hu
 simp only [wN, hx, opdO, hlo, hb, wBnd]
 refine ⟨by omega, fun a' ha' o m d ho hm hd => ?_⟩
 obtain rfl : a' = a := by omega
 rw [if_neg (by omega), Nat.zero_add] at ho
 subst ho hm hd
 exact hK
structure LsIx where
 i : Nat
 own : List Tg
 V : Option Addr
 s : SS
set_option maxHeartbeats 8000000 in
theorem lists14_w {s : SS} {one two : List UInt8} {W : Option Addr} {cw : Nat} {l : List Tg} (f : Fine s) (hF : FrT s) (hG : Gb s) (h1 : one.length ≤ 9223372036854775807) (h2 : two.length ≤ 9223372036854775807) (hL : RdR tgC 4 s W l) (hsz : ∀ t ∈ l, t.a.length ≤ 9223372036854775807 ∧ t.nm.length ≤ 9223372036854775807) (hn : l.length ≤ 9223372036854775807) :
  CallW pr n_law14_AliasLists [str one, str two, .slice W l.length cw] s fun v s' => v = .bool true ∧ Chg s s' [] := by
 refine CallW.run good ok_law14_AliasLists (by simp) rfl ?_
 (try refine pSeq ?_); (repeat(first|refine sb ?_|refine gOn rfl ?_|refine gOff rfl rfl ?_|refine gTup rfl ?_))
 refine (word14_w h1).mono fun v s1 q => ?_
 obtain ⟨rfl, c1⟩ := q
 have wa := wr_WL one
 generalize wrF one = a at *
 (repeat(first|refine sb ?_|refine gOn rfl ?_|refine gOff rfl rfl ?_|refine gTup rfl ?_))
 refine (word14_w h2).mono fun v s2 q => ?_
 obtain ⟨rfl, c2⟩ := q
 have wb : WL (wrF two ++ [122]) := wr_WLc two (by decide)
 have c02 := c1.nil c2
 (repeat(first|refine sb ?_|refine gOn rfl ?_|refine gOff rfl rfl ?_|refine gTup rfl ?_))
 refine ⟨by have := (wr_len two).2; simp; omega, ?_⟩
 intro b0 hb0
 replace hb0 : b0 = wrF two ++ [122] := hb0
 rw [← hb0] at wb
 clear hb0
 (repeat(first|refine sb ?_|refine gOn rfl ?_|refine gOff rfl rfl ?_|refine gTup rfl ?_))
 refine pLoop (MW.head good (fun x : LsIx => l.length - x.i) (fun x => x.i ≤ l.length ∧ TgO x.s x.V x.own ∧ LTI a x.i x.own ∧ (∀ id ∈ blkOf x.V, s2.next ≤ id) ∧ Chg s2 x.s [])
  (fun x => [(7, str a), (8, str b0), (9, .slice x.V x.own.length 0), (10, str (txP (x.own.map rawT))), (28, .slice W l.length cw), (29, .int .i64 (l.length : Int)), (30, .int .i64 (x.i : Int))]) (fun x => x.s) ⟨0, [], none, s2⟩ ⟨Nat.zero_le _, ⟨rfl, rfl, rfl⟩, ⟨by simp, List.nodup_nil, by simp⟩, by simp [blkOf], .refl _ _⟩ (Wk.same ⟨rfl, rfl, rfl, rfl, rfl, rfl, rfl, trivial⟩) ?_)
 rintro ⟨i, own, V, s3⟩ ⟨hi, oV, hT, lV, c3⟩
 dsimp only at hi oV hT lV c3 ⊢
 have c03 := c02.nil c3
 have na := wa.n10
 have nb := wb.n10
 have hrows := hT.rows wa
 have h6 := hT.few.2
 (repeat(first|refine sb ?_|refine gOn rfl ?_|refine gOff rfl rfl ?_|refine gTup rfl ?_))
 intro q hq
 by_cases hlt : i < l.length
 ·obtain rfl : q = true := by rw [hq]; simp; omega
  obtain ⟨t, ht⟩ : ∃ t, l[i]? = some t := ⟨_, List.getElem?_eq_getElem hlt⟩
  obtain ⟨z1, z2⟩ := hsz t (List.mem_of_getElem? ht)
  rcases hL.nil c03 with h0 | ⟨bl, off, cs, tt, g, r, rfl, lb, kb, hb⟩
  ·rw [h0] at hlt; simp at hlt
  (repeat(first|refine sb ?_|refine gOn rfl ?_|refine gOff rfl rfl ?_|refine gTup rfl ?_))
  refine ⟨by omega, ?_⟩
  intro m hm o ho
  obtain rfl : m = i := by omega
  (repeat(first|refine sb ?_|refine gOn rfl ?_|refine gOff rfl rfl ?_|refine gTup rfl ?_))
  refine ldN_is (new := tgC t) rfl kb (by rw [ho]; exact hb _ _ ht) ?_
  (repeat(first|refine sb ?_|refine gOn rfl ?_|refine gOff rfl rfl ?_|refine gTup rfl ?_))
  refine st_abs (cs' := tgC t) rfl rfl lkH (Nat.lt_succ_self _) rfl (by rfl) fun s4 k4 c4 n4 => ?_
  have n4 : s4.next = s3.next + 1 := n4
  have c4 : Chg s3 s4 [] := (Chg.new []).fresh c4 (by simp)
  (repeat(first|refine sb ?_|refine gOn rfl ?_|refine gOff rfl rfl ?_|refine gTup rfl ?_))
  intro q hq
  by_cases hm6 : m < 6
  ·obtain rfl : q = true := by rw [hq]; simp; omega
   have hst : stG a m t = if kdF true t.kind = 1 then ⟨1, wrF t.a ++ [ltr m], farL, []⟩ else if kdF true t.kind = 5 then ⟨5, [], [], a⟩ else ⟨kdF true t.kind, [], [], wrF t.nm ++ [ltr m]⟩ := rfl
   have hgl : golF (kdF true t.kind) t.a t.nm = if kdF true t.kind = 1 then ⟨1, wrF t.a, farL, []⟩ else ⟨kdF true t.kind, [], [], wrF t.nm⟩ := by
    have := kd_many t.kind
    unfold golF
    split
    ·rfl
    ·rw [if_neg (by omega)]
   have hform := stG_form a m t
   have hraw := hform.len wa hm6
   have hpt := hform.pt wa hm6
   have hS := hform.S wa hm6
   have hwa := wr_len t.a
   have hwn := wr_len t.nm
   have hkr := kd_in true t.kind
   have hkm := kd_many t.kind
   (repeat(first|refine sb ?_|refine gOn rfl ?_|refine gOff rfl rfl ?_|refine gTup rfl ?_))
   refine ldN_is (off := 0) (new := tgC t) rfl k4 (by rfl) ?_
   (repeat(first|refine sb ?_|refine gOn rfl ?_|refine gOff rfl rfl ?_|refine gTup rfl ?_))
   refine (goal14_w (many := true) z1 z2).mono fun v s5 q => ?_
   obtain ⟨rfl, c5⟩ := q
   rw [hgl]
   have k5 := c5.blk _ _ (show s3.next < s4.next by omega) (by simp) k4
   have n5 := c5.next
   have c35 := c4.nil c5
   generalize hkd : kdF true t.kind = kd at *
   by_cases hk1 : kd = 1
   ·subst hk1
    rw [if_pos rfl] at hst ⊢
    (repeat(first|refine sb ?_|refine gOn rfl ?_|refine gOff rfl rfl ?_|refine gTup rfl ?_))
    refine st_abs (cs' := tgC ⟨1, wrF t.a, farL, []⟩) rfl rfl k5 (show s3.next < s5.next by omega) rfl (by rfl) fun s6 k6 c6 n6 => ?_
    have n6 : s6.next = s5.next := n6
    have c36 := c35.fresh c6 (by simp)
    (repeat(first|refine sb ?_|refine gOn rfl ?_|refine gOff rfl rfl ?_|refine gTup rfl ?_))
    refine ldS_is (l := []) rfl k6 rfl ?_
    (repeat(first|refine sb ?_|refine gOn rfl ?_|refine gOff rfl rfl ?_|refine gTup rfl ?_))
    intro z hz
    rw [i64_id (by omega)] at hz
    (repeat(first|refine sb ?_|refine gOn rfl ?_|refine gOff rfl rfl ?_|refine gTup rfl ?_))
    intro z2 hz2
    rw [wrap_u8] at hz2
    obtain rfl : z2 = ((ltr m).toNat : Int) := by rw [ltr_nat hm6]; omega
    (repeat(first|refine sb ?_|refine gOn rfl ?_|refine gOff rfl rfl ?_|refine gTup rfl ?_))
    refine toStr_is10 (l := [ltr m]) rfl lkH rfl ?_
    (repeat(first|refine sb ?_|refine gOn rfl ?_|refine gOff rfl rfl ?_|refine gTup rfl ?_))
    refine ⟨by simp, ?_⟩
    intro l2 hl2
    subst hl2
    (repeat(first|refine sb ?_|refine gOn rfl ?_|refine gOff rfl rfl ?_|refine gTup rfl ?_))
    have cm := (Chg.new (s := s6) (b := .cells (bytesV [ltr m]) tB false false) [])
    refine st_abs (cs' := tgC ⟨1, wrF t.a, farL, [ltr m]⟩) rfl rfl (cm.blk _ _ (show s3.next < s6.next by omega) (by simp) k6) (show s3.next < s6.next + 1 by omega) rfl (by rfl) fun s7 k7 c7 n7 => ?_
    have n7 : s7.next = s6.next + 1 := n7
    have c37 := (c36.nil cm).fresh c7 (by simp)
    (repeat(first|refine sb ?_|refine gOn rfl ?_|refine gOff rfl rfl ?_|refine gTup rfl ?_))
    refine ldI_is (z := 1) rfl k7 rfl ?_
    (repeat(first|refine sb ?_|refine gOn rfl ?_|refine gOff rfl rfl ?_|refine gTup rfl ?_))
    intro q hq
    obtain rfl : q = true := by rw [hq]; rfl
    (repeat(first|refine sb ?_|refine gOn rfl ?_|refine gOff rfl rfl ?_|refine gTup rfl ?_))
    refine st_abs (cs' := tgC ⟨1, wrF t.a, farL, []⟩) rfl rfl k7 (show s3.next < s7.next by omega) rfl (by rfl) fun s8 k8 c8 n8 => ?_
    have n8 : s8.next = s7.next := n8
    have c38 := c37.fresh c8 (by simp)
    (repeat(first|refine sb ?_|refine gOn rfl ?_|refine gOff rfl rfl ?_|refine gTup rfl ?_))
    refine ldS_is (l := wrF t.a) rfl k8 rfl ?_
    (repeat(first|refine sb ?_|refine gOn rfl ?_|refine gOff rfl rfl ?_|refine gTup rfl ?_))
    intro z hz
    rw [i64_id (by omega)] at hz
    (repeat(first|refine sb ?_|refine gOn rfl ?_|refine gOff rfl rfl ?_|refine gTup rfl ?_))
    intro z2 hz2
    rw [wrap_u8] at hz2
    obtain rfl : z2 = ((ltr m).toNat : Int) := by rw [ltr_nat hm6]; omega
    (repeat(first|refine sb ?_|refine gOn rfl ?_|refine gOff rfl rfl ?_|refine gTup rfl ?_))
    refine toStr_is10 (l := [ltr m]) rfl lkH rfl ?_
    (repeat(first|refine sb ?_|refine gOn rfl ?_|refine gOff rfl rfl ?_|refine gTup rfl ?_))
    refine ⟨by simp; omega, ?_⟩
    intro l2 hl2
    subst hl2
    (repeat(first|refine sb ?_|refine gOn rfl ?_|refine gOff rfl rfl ?_|refine gTup rfl ?_))
    have cm := (Chg.new (s := s8) (b := .cells (bytesV [ltr m]) tB false false) [])
    refine st_abs (cs' := tgC (stG a m t)) rfl rfl (cm.blk _ _ (show s3.next < s8.next by omega) (by simp) k8) (show s3.next < s8.next + 1 by omega) rfl (by rw [hst]; rfl) fun s9 k9 c9 n9 => ?_
    have n9 : s9.next = s8.next + 1 := n9
    have c39 := (c38.nil cm).fresh c9 (by simp)
    have hk5 : (stG a m t).kind ≠ 5 := by rw [hst]; simp
    (repeat(first|refine sb ?_|refine gOn rfl ?_|refine gOff rfl rfl ?_|refine gTup rfl ?_))
    refine ldI_is (z := 1) rfl k9 (by rw [hst]; rfl) ?_
    (repeat(first|refine sb ?_|refine gOn rfl ?_|refine gOff rfl rfl ?_|refine gTup rfl ?_))
    intro q hq
    obtain rfl : q = false := by rw [hq]; rfl
    have hcon : ¬((stG a m t).kind = 5 ∧ stG a m t ∈ own) := fun q => hk5 q.1
    (repeat(first|refine sb ?_|refine gOn rfl ?_|refine gOff rfl rfl ?_|refine gTup rfl ?_))
    refine ldN_is (off := 0) (new := tgC (stG a m t)) rfl k9 (by rfl) ?_
    (repeat(first|refine sb ?_|refine gOn rfl ?_|refine gOff rfl rfl ?_|refine gTup rfl ?_))
    have cm := (Chg.new (s := s9) (b := .cells (tgC (stG a m t)) tTg false false) [])
    refine appR ((oV.chg c39 (fun _ _ q => by cases q)).chg cm (fun _ _ q => by cases q)) (tgCs_len own) ⟨by omega, by omega⟩ rfl rfl lkH rfl rfl fun sa oa ca na => ?_
    have na : sa.next = s9.next + 1 + 1 := na
    have c2a : Chg s2 sa [] := (c3.nil (c39.nil cm)).fresh ca (fun id q => lV id q)
    have lA : ∀ id ∈ blkOf V, id < s3.next := fun id q => oV.lt id q
    have ka := ca.blk _ _ (show s3.next < s9.next + 1 by omega) (fun q => by have := lA _ q; omega) (cm.blk _ _ (show s3.next < s9.next by omega) (by simp) k9)
    have c0a := c02.nil c2a
    (repeat(first|refine sb ?_|refine gOn rfl ?_|refine gOff rfl rfl ?_|refine gTup rfl ?_))
    refine ldN_is (off := 0) (new := tgC (stG a m t)) rfl ka (by rfl) ?_
    (repeat(first|refine sb ?_|refine gOn rfl ?_|refine gOff rfl rfl ?_|refine gTup rfl ?_))
    refine (ttext_w (hF.chg c0a (by simp)) (hG.chg c0a (by simp)) hS hpt (raw_len14 hraw)).mono fun v s11 q => ?_
    obtain ⟨rfl, cb⟩ := q
    (repeat(first|refine sb ?_|refine gOn rfl ?_|refine gOff rfl rfl ?_|refine gTup rfl ?_))
    refine ⟨by simp; omega, ?_⟩
    intro l3 hl3
    subst hl3
    (repeat(first|refine sb ?_|refine gOn rfl ?_|refine gOff rfl rfl ?_|refine gTup rfl ?_))
    refine ⟨by have := hrows.2.2; simp; omega, ?_⟩
    intro l4 hl4
    subst hl4
    (repeat(first|refine sb ?_|refine gOn rfl ?_|refine gOff rfl rfl ?_|refine gTup rfl ?_))
    intro z hz
    rw [i64_id (by omega)] at hz
    (repeat(first|refine sb ?_|refine gOn rfl ?_|refine gOff rfl rfl ?_|refine gTup rfl ?_))
    refine ⟨⟨m + 1, own ++ [stG a m t], some ⟨s9.next + 1, 0, none⟩, s11⟩, ⟨by show m + 1 ≤ l.length; omega, ?_, hT.more hm6 hcon, fun id q => by simp [blkOf] at q; have := c3.next; have := c39.next; omega, c2a.nil cb⟩, by show l.length - (m + 1) < l.length - m; omega, Wk.same ⟨rfl, rfl, ?_, by rw [txP_app]; rfl, rfl, rfl, by rw [show z = ((m + 1 : Nat) : Int) by omega]; rfl, trivial⟩⟩
    ·show OwnR tTg s11 _ 0 (own ++ [_]).length (tgCs (own ++ [_]))
     rw [List.length_append, tgCs_app]
     exact oa.chg cb (fun _ _ q => by cases q)
    ·show some (Value.slice _ (own.length + 1) 0) = some (.slice _ (own ++ [_]).length 0)
     rw [List.length_append]
     rfl
   ·rw [if_neg hk1] at hst ⊢
    (repeat(first|refine sb ?_|refine gOn rfl ?_|refine gOff rfl rfl ?_|refine gTup rfl ?_))
    refine st_abs (cs' := tgC ⟨kd, [], [], wrF t.nm⟩) rfl rfl k5 (show s3.next < s5.next by omega) rfl (by rfl) fun s6 k6 c6 n6 => ?_
    have n6 : s6.next = s5.next := n6
    have c36 := c35.fresh c6 (by simp)
    (repeat(first|refine sb ?_|refine gOn rfl ?_|refine gOff rfl rfl ?_|refine gTup rfl ?_))
    refine ldS_is (l := wrF t.nm) rfl k6 rfl ?_
    (repeat(first|refine sb ?_|refine gOn rfl ?_|refine gOff rfl rfl ?_|refine gTup rfl ?_))
    intro z hz
    rw [i64_id (by omega)] at hz
    (repeat(first|refine sb ?_|refine gOn rfl ?_|refine gOff rfl rfl ?_|refine gTup rfl ?_))
    intro z2 hz2
    rw [wrap_u8] at hz2
    obtain rfl : z2 = ((ltr m).toNat : Int) := by rw [ltr_nat hm6]; omega
    (repeat(first|refine sb ?_|refine gOn rfl ?_|refine gOff rfl rfl ?_|refine gTup rfl ?_))
    refine toStr_is10 (l := [ltr m]) rfl lkH rfl ?_
    (repeat(first|refine sb ?_|refine gOn rfl ?_|refine gOff rfl rfl ?_|refine gTup rfl ?_))
    refine ⟨by simp; omega, ?_⟩
    intro l2 hl2
    subst hl2
    (repeat(first|refine sb ?_|refine gOn rfl ?_|refine gOff rfl rfl ?_|refine gTup rfl ?_))
    have cm := (Chg.new (s := s6) (b := .cells (bytesV [ltr m]) tB false false) [])
    refine st_abs (cs' := tgC ⟨kd, [], [], wrF t.nm ++ [ltr m]⟩) rfl rfl (cm.blk _ _ (show s3.next < s6.next by omega) (by simp) k6) (show s3.next < s6.next + 1 by omega) rfl (by rfl) fun s7 k7 c7 n7 => ?_
    have n7 : s7.next = s6.next + 1 := n7
    have c37 := (c36.nil cm).fresh c7 (by simp)
    (repeat(first|refine sb ?_|refine gOn rfl ?_|refine gOff rfl rfl ?_|refine gTup rfl ?_))
    refine ldI_is (z := kd) rfl k7 rfl ?_
    (repeat(first|refine sb ?_|refine gOn rfl ?_|refine gOff rfl rfl ?_|refine gTup rfl ?_))
    intro q hq
    obtain rfl : q = false := by rw [hq]; simp [hk1]
    (repeat(first|refine sb ?_|refine gOn rfl ?_|refine gOff rfl rfl ?_|refine gTup rfl ?_))
    refine ldI_is (z := kd) rfl k7 rfl ?_
    (repeat(first|refine sb ?_|refine gOn rfl ?_|refine gOff rfl rfl ?_|refine gTup rfl ?_))
    intro q hq
    by_cases hk5 : kd = 5
    ·obtain rfl : q = true := by rw [hq]; simp [hk5]
     rw [if_pos hk5] at hst
     (repeat(first|refine sb ?_|refine gOn rfl ?_|refine gOff rfl rfl ?_|refine gTup rfl ?_))
     refine st_abs (cs' := tgC (stG a m t)) rfl rfl k7 (show s3.next < s7.next by omega) rfl (by rw [hst, hk5]; rfl) fun s8 k8 c8 n8 => ?_
     have n8 : s8.next = s7.next := n8
     have c38 := c37.fresh c8 (by simp)
     (repeat(first|refine sb ?_|refine gOn rfl ?_|refine gOff rfl rfl ?_|refine gTup rfl ?_))
     refine ldN_is (off := 0) (new := tgC (stG a m t)) rfl k8 (by rfl) ?_
     (repeat(first|refine sb ?_|refine gOn rfl ?_|refine gOff rfl rfl ?_|refine gTup rfl ?_))
     refine (contains14_w (own_rd tgC_len (oV.chg c38 (fun _ _ q => by cases q))) (by omega)).mono fun v s9 q => ?_
     obtain ⟨rfl, c9⟩ := q
     have k9 := c9.blk _ _ (show s3.next < s8.next by omega) (by simp) k8
     have n9 := c9.next
     have c39 := c38.nil c9
     by_cases hin : stG a m t ∈ own
     ·rw [decide_eq_true hin]
      (repeat(first|refine sb ?_|refine gOn rfl ?_|refine gOff rfl rfl ?_|refine gTup rfl ?_))
      intro z hz
      rw [i64_id (by omega)] at hz
      (repeat(first|refine sb ?_|refine gOn rfl ?_|refine gOff rfl rfl ?_|refine gTup rfl ?_))
      exact ⟨⟨m + 1, own, V, s9⟩, ⟨by show m + 1 ≤ l.length; omega, oV.chg c39 (fun _ _ q => by cases q), hT.skip, lV, c3.nil c39⟩, by show l.length - (m + 1) < l.length - m; omega, Wk.same ⟨rfl, rfl, rfl, rfl, rfl, rfl, by rw [show z = ((m + 1 : Nat) : Int) by omega]; rfl, trivial⟩⟩
     ·rw [decide_eq_false hin]
      have hcon : ¬((stG a m t).kind = 5 ∧ stG a m t ∈ own) := fun q => hin q.2
      (repeat(first|refine sb ?_|refine gOn rfl ?_|refine gOff rfl rfl ?_|refine gTup rfl ?_))
      refine ldN_is (off := 0) (new := tgC (stG a m t)) rfl k9 (by rfl) ?_
      (repeat(first|refine sb ?_|refine gOn rfl ?_|refine gOff rfl rfl ?_|refine gTup rfl ?_))
      have cm := (Chg.new (s := s9) (b := .cells (tgC (stG a m t)) tTg false false) [])
      refine appR ((oV.chg c39 (fun _ _ q => by cases q)).chg cm (fun _ _ q => by cases q)) (tgCs_len own) ⟨by omega, by omega⟩ rfl rfl lkH rfl rfl fun sa oa ca na => ?_
      have na : sa.next = s9.next + 1 + 1 := na
      have c2a : Chg s2 sa [] := (c3.nil (c39.nil cm)).fresh ca (fun id q => lV id q)
      have lA : ∀ id ∈ blkOf V, id < s3.next := fun id q => oV.lt id q
      have ka := ca.blk _ _ (show s3.next < s9.next + 1 by omega) (fun q => by have := lA _ q; omega) (cm.blk _ _ (show s3.next < s9.next by omega) (by simp) k9)
      have c0a := c02.nil c2a
      (repeat(first|refine sb ?_|refine gOn rfl ?_|refine gOff rfl rfl ?_|refine gTup rfl ?_))
      refine ldN_is (off := 0) (new := tgC (stG a m t)) rfl ka (by rfl) ?_
      (repeat(first|refine sb ?_|refine gOn rfl ?_|refine gOff rfl rfl ?_|refine gTup rfl ?_))
      refine (ttext_w (hF.chg c0a (by simp)) (hG.chg c0a (by simp)) hS hpt (raw_len14 hraw)).mono fun v s11 q => ?_
      obtain ⟨rfl, cb⟩ := q
      (repeat(first|refine sb ?_|refine gOn rfl ?_|refine gOff rfl rfl ?_|refine gTup rfl ?_))
      refine ⟨by simp; omega, ?_⟩
      intro l3 hl3
      subst hl3
      (repeat(first|refine sb ?_|refine gOn rfl ?_|refine gOff rfl rfl ?_|refine gTup rfl ?_))
      refine ⟨by have := hrows.2.2; simp; omega, ?_⟩
      intro l4 hl4
      subst hl4
      (repeat(first|refine sb ?_|refine gOn rfl ?_|refine gOff rfl rfl ?_|refine gTup rfl ?_))
      intro z hz
      rw [i64_id (by omega)] at hz
      (repeat(first|refine sb ?_|refine gOn rfl ?_|refine gOff rfl rfl ?_|refine gTup rfl ?_))
      refine ⟨⟨m + 1, own ++ [stG a m t], some ⟨s9.next + 1, 0, none⟩, s11⟩, ⟨by show m + 1 ≤ l.length; omega, ?_, hT.more hm6 hcon, fun id q => by simp [blkOf] at q; have := c3.next; have := c39.next; omega, c2a.nil cb⟩, by show l.length - (m + 1) < l.length - m; omega, Wk.same ⟨rfl, rfl, ?_, by rw [txP_app]; rfl, rfl, rfl, by rw [show z = ((m + 1 : Nat) : Int) by omega]; rfl, trivial⟩⟩
      ·show OwnR tTg s11 _ 0 (own ++ [_]).length (tgCs (own ++ [_]))
       rw [List.length_append, tgCs_app]
       exact oa.chg cb (fun _ _ q => by cases q)
      ·show some (Value.slice _ (own.length + 1) 0) = some (.slice _ (own ++ [_]).length 0)
       rw [List.length_append]
       rfl
    ·obtain rfl : q = false := by rw [hq]; simp [hk5]
     rw [if_neg hk5] at hst
     have k9 : lookH s7.heap s3.next = some (.cells (tgC (stG a m t)) tTg false false) := by rw [hst]; exact k7
     obtain ⟨s9, hs9⟩ : ∃ s9, s9 = s7 := ⟨_, rfl⟩
     rw [← hs9] at k9
     have c39 : Chg s3 s9 [] := by rw [hs9]; exact c37
     have n9 : s9.next = s6.next + 1 := by rw [hs9]; exact n7
     have hcon : ¬((stG a m t).kind = 5 ∧ stG a m t ∈ own) := fun q => by rw [hst] at q; exact hk5 q.1
     subst hs9
     (repeat(first|refine sb ?_|refine gOn rfl ?_|refine gOff rfl rfl ?_|refine gTup rfl ?_))
     refine ldN_is (off := 0) (new := tgC (stG a m t)) rfl k9 (by rfl) ?_
     (repeat(first|refine sb ?_|refine gOn rfl ?_|refine gOff rfl rfl ?_|refine gTup rfl ?_))
     have cm := (Chg.new (s := s9) (b := .cells (tgC (stG a m t)) tTg false false) [])
     refine appR ((oV.chg c39 (fun _ _ q => by cases q)).chg cm (fun _ _ q => by cases q)) (tgCs_len own) ⟨by omega, by omega⟩ rfl rfl lkH rfl rfl fun sa oa ca na => ?_
     have na : sa.next = s9.next + 1 + 1 := na
     have c2a : Chg s2 sa [] := (c3.nil (c39.nil cm)).fresh ca (fun id q => lV id q)
     have lA : ∀ id ∈ blkOf V, id < s3.next := fun id q => oV.lt id q
     have ka := ca.blk _ _ (show s3.next < s9.next + 1 by omega) (fun q => by have := lA _ q; omega) (cm.blk _ _ (show s3.next < s9.next by omega) (by simp) k9)
     have c0a := c02.nil c2a
     (repeat(first|refine sb ?_|refine gOn rfl ?_|refine gOff rfl rfl ?_|refine gTup rfl ?_))
     refine ldN_is (off := 0) (new := tgC (stG a m t)) rfl ka (by rfl) ?_
     (repeat(first|refine sb ?_|refine gOn rfl ?_|refine gOff rfl rfl ?_|refine gTup rfl ?_))
     refine (ttext_w (hF.chg c0a (by simp)) (hG.chg c0a (by simp)) hS hpt (raw_len14 hraw)).mono fun v s11 q => ?_
     obtain ⟨rfl, cb⟩ := q
     (repeat(first|refine sb ?_|refine gOn rfl ?_|refine gOff rfl rfl ?_|refine gTup rfl ?_))
     refine ⟨by simp; omega, ?_⟩
     intro l3 hl3
     subst hl3
     (repeat(first|refine sb ?_|refine gOn rfl ?_|refine gOff rfl rfl ?_|refine gTup rfl ?_))
     refine ⟨by have := hrows.2.2; simp; omega, ?_⟩
     intro l4 hl4
     subst hl4
     (repeat(first|refine sb ?_|refine gOn rfl ?_|refine gOff rfl rfl ?_|refine gTup rfl ?_))
     intro z hz
     rw [i64_id (by omega)] at hz
     (repeat(first|refine sb ?_|refine gOn rfl ?_|refine gOff rfl rfl ?_|refine gTup rfl ?_))
     refine ⟨⟨m + 1, own ++ [stG a m t], some ⟨s9.next + 1, 0, none⟩, s11⟩, ⟨by show m + 1 ≤ l.length; omega, ?_, hT.more hm6 hcon, fun id q => by simp [blkOf] at q; have := c3.next; have := c39.next; omega, c2a.nil cb⟩, by show l.length - (m + 1) < l.length - m; omega, Wk.same ⟨rfl, rfl, ?_, by rw [txP_app]; rfl, rfl, rfl, by rw [show z = ((m + 1 : Nat) : Int) by omega]; rfl, trivial⟩⟩
     ·show OwnR tTg s11 _ 0 (own ++ [_]).length (tgCs (own ++ [_]))
      rw [List.length_append, tgCs_app]
      exact oa.chg cb (fun _ _ q => by cases q)
     ·show some (Value.slice _ (own.length + 1) 0) = some (.slice _ (own ++ [_]).length 0)
      rw [List.length_append]
      rfl
  ·obtain rfl : q = false := by rw [hq]; simp; omega
   (repeat(first|refine sb ?_|refine gOn rfl ?_|refine gOff rfl rfl ?_|refine gTup rfl ?_))
   intro z hz
   rw [i64_id (by omega)] at hz
   (repeat(first|refine sb ?_|refine gOn rfl ?_|refine gOff rfl rfl ?_|refine gTup rfl ?_))
   exact ⟨⟨m + 1, own, V, s4⟩, ⟨by show m + 1 ≤ l.length; omega, oV.chg c4 (fun _ _ q => by cases q), hT.skip, lV, c3.nil c4⟩, by show l.length - (m + 1) < l.length - m; omega, Wk.same ⟨rfl, rfl, rfl, rfl, rfl, rfl, by rw [show z = ((m + 1 : Nat) : Int) by omega]; rfl, trivial⟩⟩
 ·obtain rfl : q = false := by rw [hq]; simp; omega
  (repeat(first|refine sb ?_|refine gOn rfl ?_|refine gOff rfl rfl ?_|refine gTup rfl ?_))
  refine ⟨by simp; omega, ?_⟩
  intro l1 e1
  have hl1 : l1.length ≤ 30 := by rw [e1]; simp; omega
  (repeat(first|refine sb ?_|refine gOn rfl ?_|refine gOff rfl rfl ?_|refine gTup rfl ?_))
  refine ⟨by simp; omega, ?_⟩
  intro l2 e2
  have hl2 : l2.length ≤ 60 := by rw [e2]; simp; omega
  (repeat(first|refine sb ?_|refine gOn rfl ?_|refine gOff rfl rfl ?_|refine gTup rfl ?_))
  refine ⟨by omega, ?_⟩
  intro l3 e3
  have hl3 : l3.length ≤ 80 := by rw [e3]; simp; omega
  (repeat(first|refine sb ?_|refine gOn rfl ?_|refine gOff rfl rfl ?_|refine gTup rfl ?_))
  refine ⟨by simp; omega, ?_⟩
  intro l4 e4
  obtain rfl : l4 = txX a b0 := by
   rw [e4, e3, e2, e1]
   unfold txX
   simp [incL]
  clear e4 e3 e2 e1 hl1 hl2 hl3
  (repeat(first|refine sb ?_|refine gOn rfl ?_|refine gOff rfl rfl ?_|refine gTup rfl ?_))
  have cm : Chg s3 { s3 with heap := (s3.next, some (.cells ((lsX a (txP (own.map rawT))).flatMap lsC) tLi false false)) :: s3.heap, next := s3.next + 1 } [] := .new []
  have c0m := c03.nil cm
  have hnm := nms_X (body := txP (own.map rawT)) wa
  refine (parse14_w (l := txX a b0) (lists := lsX a (txP (own.map rawT))) (c0m.fine f) (hF.chg c0m (by simp)) (hG.chg c0m (by simp)) (.inr ⟨s3.next, _, _, _, rfl, Nat.lt_succ_self _, lkH, fun i x hx => ?_⟩) (by simp [lsX]) (by unfold txX; simp [incL]; omega) (by rw [hnm]; show (rdF (keepA [a]) [] (txX a b0) true []).2.length ≤ 12; rw [rd_X wa wb]; dsimp only; split <;> simp) (ok_X wa (b := b0) hT)).mono fun v s5 q => ?_
  ·match i, hx with
   | 0, hx => cases hx; rfl
   | 1, hx => cases hx; rfl
   | 2, hx => cases hx; rfl
   | i + 3, hx => simp [lsX] at hx
  obtain ⟨tb, ta, tb2, xs, ls, Vf, fl, rfl, htab, T, ma, mb, ra, rb, oF, c5, _, _, _⟩ := q
  rw [table_X wa wb hT] at htab
  obtain ⟨hxs, h20⟩ := Prod.mk.inj htab
  obtain ⟨hls, rfl⟩ := Prod.mk.inj h20
  have c35 := cm.nil c5
  have c05 := c03.nil c35
  have hx5 : ∀ x ∈ xs, x.ts.length ≤ 100000 := fun x hx => by
   have h3 : kvT x ∈ xs.map kvT := List.mem_map_of_mem hx
   rw [hxs] at h3
   have h4 : x.ts.length = 1 := by
    rcases List.mem_cons.1 h3 with h3 | h3
    ·rw [show x.ts = [inX a] from congrArg Prod.snd h3]; rfl
    ·rw [show x.ts = [inX b0] from congrArg Prod.snd (List.mem_singleton.1 h3)]; rfl
   omega
  have hl5 : ∀ x ∈ ls, x.ts.length ≤ 100000 := fun x hx => by
   have h3 : kvT x ∈ ls.map kvT := List.mem_map_of_mem hx
   rw [hls] at h3
   rw [show x.ts = own from congrArg Prod.snd (List.mem_singleton.1 h3)]
   omega
  obtain ⟨hf1, hf2⟩ := fd_one hls
  have hkeys : ls.map (·.k) = [a] := by
   have := congrArg (List.map (·.1)) hls
   rw [List.map_map] at this
   exact this
  (repeat(first|refine sb ?_|refine gOn rfl ?_|refine gOff rfl rfl ?_|refine gTup rfl ?_))
  refine (list_w (k := a) (c05.fine f) T mb rb hl5).mono fun v s6 q => ?_
  obtain ⟨V6, rfl, oV6, _, c6⟩ := q
  rw [hf1] at oV6
  rw [hf1, hf2]
  (repeat(first|refine sb ?_|refine gOn rfl ?_|refine gOff rfl rfl ?_|refine gTup rfl ?_))
  refine (list_w (k := b0) (c6.fine (c05.fine f)) (T.chg c6 (by simp)) (mb.chg c6 (by simp)) (fun x hx => (rb x hx).chg c6 (fun _ _ q => by cases q)) hl5).mono fun v s7 q => ?_
  obtain ⟨V7, rfl, oV7, _, c7⟩ := q
  rw [fdB_in, hkeys]
  have c57 := c6.nil c7
  (repeat(first|refine sb ?_|refine gOn rfl ?_|refine gOff rfl rfl ?_|refine gTup rfl ?_))
  refine (find14_w (l := [121]) (c57.fine (c05.fine f)) (T.chg c57 (by simp)) (ma.chg c57 (by simp)) (fun x hx => (ra x hx).chg c57 (fun _ _ q => by cases q)) hx5 (by decide)).mono fun v s8 q => ?_
  obtain ⟨q1, c8⟩ := q
  rw [hxs, fnd_X] at q1
  obtain ⟨V8, rfl, oV8, _⟩ := q1
  have c58 := c57.nil c8
  have c08 := c05.nil c58
  (repeat(first|refine sb ?_|refine gOn rfl ?_|refine gOff rfl rfl ?_|refine gTup rfl ?_))
  obtain ⟨s9, hs9⟩ : ∃ s9 : SS, s9 = { s8 with heap := (s8.next, some (.cells ([(⟨[], 2, 6⟩ : Flt), ⟨a, 0, 9⟩, ⟨nnL, 0, 23⟩].flatMap fltC) tFl false false)) :: s8.heap, next := s8.next + 1 } := ⟨_, rfl⟩
  have c9 : Chg s8 s9 [] := by rw [hs9]; exact .new []
  have n9 : s9.next = s8.next + 1 := by rw [hs9]
  have k9 : lookH s9.heap s8.next = some (.cells ([(⟨[], 2, 6⟩ : Flt), ⟨a, 0, 9⟩, ⟨nnL, 0, 23⟩].flatMap fltC) tFl false false) := by rw [hs9]; exact lkH
  have c09 := c08.nil c9
  have oVf := (oF.chg c58 (fun _ _ q => by cases q)).chg c9 (fun _ _ q => by cases q)
  have oOwn := (oV.chg (c35.nil c58) (fun _ _ q => by cases q)).chg c9 (fun _ _ q => by cases q)
  have oL := ((oV6.chg c7 (fun _ _ q => by cases q)).chg c8 (fun _ _ q => by cases q)).chg c9 (fun _ _ q => by cases q)
  have oY := oV8.chg c9 (fun _ _ q => by cases q)
  obtain ⟨by8, gy8, hV8, ky8⟩ := oY.pos (by simp)
  subst hV8
  intro q hq
  by_cases hab : a = b0
  ·obtain rfl : q = true := by rw [hq]; simp [hab]
   have hfx : fltX a b0 = [⟨a, 0, 9⟩, ⟨nnL, 0, 23⟩] := by unfold fltX; rw [if_pos hab]; rfl
   rw [hfx] at oVf ⊢
   (repeat(first|refine sb ?_|refine gOn rfl ?_|refine gOff rfl rfl ?_|refine gTup rfl ?_))
   refine slL_lo14 (a := 1) rfl lkH rfl rfl (by decide) (by decide) ?_
   have hR : RdR fltC 3 s9 (some ⟨s8.next, 1 * 3, none⟩) [⟨a, 0, 9⟩, ⟨nnL, 0, 23⟩] := .inr ⟨s8.next, 1 * 3, _, _, _, _, rfl, by omega, k9, fun i x hx => by
    have := fl_take (f := fltC) fltC_len (R := [(⟨[], 2, 6⟩ : Flt), ⟨a, 0, 9⟩, ⟨nnL, 0, 23⟩]) (k := i + 1) (x := x) hx
    rw [show 1 * 3 + i * 3 = (i + 1) * 3 by omega]
    exact this⟩
   have hmem : decide (b0 ∈ [a]) = true := decide_eq_true (List.mem_singleton.2 hab.symm)
   rw [hmem]
   (repeat(first|refine sb ?_|refine gOn rfl ?_|refine gOff rfl rfl ?_|refine gTup rfl ?_))
   refine ((congrArg (fun z => CallW pr n_slices_Equal_alias_Target_alias_Target [.slice V6 own.length 0, .slice V own.length 0] z _) hs9).mp (eqT14_w (cw := 0) (cv := 0) (own_rd tgC_len oL) (own_rd tgC_len oOwn) (by omega))).mono fun v sA q => ?_
   obtain ⟨rfl, rfl⟩ := q
   (repeat(first|refine sb ?_|refine gOn rfl ?_|refine gOff rfl rfl ?_|refine gTup rfl ?_))
   intro q hq
   obtain rfl : q = true := by rw [hq]; simp [hab]
   (repeat(first|refine sb ?_|refine gOn rfl ?_|refine gOff rfl rfl ?_|refine gTup rfl ?_))
   intro q hq
   obtain rfl : q = true := by rw [hq]; rfl
   (repeat(first|refine sb ?_|refine gOn rfl ?_|refine gOff rfl rfl ?_|refine gTup rfl ?_))
   intro q hq
   obtain rfl : q = true := by rw [hq]; rfl
   (repeat(first|refine sb ?_|refine gOn rfl ?_|refine gOff rfl rfl ?_|refine gTup rfl ?_))
   refine ⟨by simp, ?_⟩
   intro m hm o ho
   obtain rfl : m = 0 := by omega
   (repeat(first|refine sb ?_|refine gOn rfl ?_|refine gOff rfl rfl ?_|refine gTup rfl ?_))
   refine ldN_is (new := tgC (inX b0)) rfl ky8 (by rw [ho]; rfl) ?_
   (repeat(first|refine sb ?_|refine gOn rfl ?_|refine gOff rfl rfl ?_|refine gTup rfl ?_))
   intro q hq
   obtain rfl : q = true := by rw [hq]; simp [inX]
   (repeat(first|refine sb ?_|refine gOn rfl ?_|refine gOff rfl rfl ?_|refine gTup rfl ?_))
   refine (eqF14_w (cw := 0) (cv := 2) (own_rd fltC_len oVf) hR (by simp)).mono fun v sB q => ?_
   obtain ⟨rfl, rfl⟩ := q
   (repeat(first|refine sb ?_|refine gOn rfl ?_|refine gOff rfl rfl ?_|refine gTup rfl ?_))
   refine (tells14_w (c09.fine f) (hF.chg c09 (by simp)) (hG.chg c09 (by simp))).mono fun v sC q => ?_
   obtain ⟨rfl, cC⟩ := q
   (repeat(first|refine sb ?_|refine gOn rfl ?_|refine gOff rfl rfl ?_|refine gTup rfl ?_))
   exact ⟨rfl, c09.nil cC⟩
  ·obtain rfl : q = false := by rw [hq]; simp [hab]
   have hfx : fltX a b0 = [⟨[], 2, 6⟩, ⟨a, 0, 9⟩, ⟨nnL, 0, 23⟩] := by unfold fltX; rw [if_neg hab]; rfl
   rw [hfx] at oVf ⊢
   have hR : RdR fltC 3 s9 (some ⟨s8.next, 0, none⟩) [⟨[], 2, 6⟩, ⟨a, 0, 9⟩, ⟨nnL, 0, 23⟩] := .inr ⟨s8.next, 0, _, _, _, _, rfl, by omega, k9, fun i x hx => by rw [Nat.zero_add]; exact fl_take fltC_len hx⟩
   have hmem : decide (b0 ∈ [a]) = false := decide_eq_false fun q => hab (List.mem_singleton.1 q).symm
   rw [hmem]
   (repeat(first|refine sb ?_|refine gOn rfl ?_|refine gOff rfl rfl ?_|refine gTup rfl ?_))
   refine ((congrArg (fun z => CallW pr n_slices_Equal_alias_Target_alias_Target [.slice V6 own.length 0, .slice V own.length 0] z _) hs9).mp (eqT14_w (cw := 0) (cv := 0) (own_rd tgC_len oL) (own_rd tgC_len oOwn) (by omega))).mono fun v sA q => ?_
   obtain ⟨rfl, rfl⟩ := q
   (repeat(first|refine sb ?_|refine gOn rfl ?_|refine gOff rfl rfl ?_|refine gTup rfl ?_))
   intro q hq
   obtain rfl : q = false := by rw [hq]; simp [hab]
   (repeat(first|refine sb ?_|refine gOn rfl ?_|refine gOff rfl rfl ?_|refine gTup rfl ?_))
   intro q hq
   obtain rfl : q = true := by rw [hq]; rfl
   (repeat(first|refine sb ?_|refine gOn rfl ?_|refine gOff rfl rfl ?_|refine gTup rfl ?_))
   intro q hq
   obtain rfl : q = true := by rw [hq]; rfl
   (repeat(first|refine sb ?_|refine gOn rfl ?_|refine gOff rfl rfl ?_|refine gTup rfl ?_))
   refine ⟨by simp, ?_⟩
   intro m hm o ho
   obtain rfl : m = 0 := by omega
   (repeat(first|refine sb ?_|refine gOn rfl ?_|refine gOff rfl rfl ?_|refine gTup rfl ?_))
   refine ldN_is (new := tgC (inX b0)) rfl ky8 (by rw [ho]; rfl) ?_
   (repeat(first|refine sb ?_|refine gOn rfl ?_|refine gOff rfl rfl ?_|refine gTup rfl ?_))
   intro q hq
   obtain rfl : q = true := by rw [hq]; simp [inX]
   (repeat(first|refine sb ?_|refine gOn rfl ?_|refine gOff rfl rfl ?_|refine gTup rfl ?_))
   refine (eqF14_w (cw := 0) (cv := 3) (own_rd fltC_len oVf) hR (by simp)).mono fun v sB q => ?_
   obtain ⟨rfl, rfl⟩ := q
   (repeat(first|refine sb ?_|refine gOn rfl ?_|refine gOff rfl rfl ?_|refine gTup rfl ?_))
   refine (tells14_w (c09.fine f) (hF.chg c09 (by simp)) (hG.chg c09 (by simp))).mono fun v sC q => ?_
   obtain ⟨rfl, cC⟩ := q
   (repeat(first|refine sb ?_|refine gOn rfl ?_|refine gOff rfl rfl ?_|refine gTup rfl ?_))
   exact ⟨rfl, c09.nil cC⟩
end Go.Vf.S
end
section
namespace Go.Vf.S
open Go Go.Vf Go.Proofs Go.Proofs.YtfminjggoaegdaaGreatDoor Go.RowKit Go.ChangeShapes
theorem own : ownKnob pr.godebug = none := by kernel_rfl
theorem laidOut : laidOutB pr = true := by kernel_rfl
end Go.Vf.S
end
section
namespace Go.Vf.S
open Go Go.Vf Go.Proofs Go.Proofs.YtfminjggoaegdaaGreatDoor Go.RowKit Go.ChangeShapes
set_option linter.unusedVariables false
set_option linter.unusedSimpArgs false
def renO (bs : List (RE × Option ABlk)) : Ren := fun id => bs[id]?.map Prod.fst
def heapO : Nat → List (RE × Option ABlk) → List (Nat × Option ABlk)
 | _, [] => []
 | n, (_, b) :: r => (n, b) :: heapO (n + 1) r
theorem heapO_look : ∀ (l : List (RE × Option ABlk)) (n id : Nat), lookH (heapO n l) id = if n ≤ id then (l[id - n]?.map Prod.snd).join else none
 | [], n, id => by simp [heapO, lookH]
 | (e, b) :: r, n, id => by
  simp only [heapO, lookH]
  rcases beq_cases n id with ⟨h, hb⟩ | ⟨h, hb⟩
  ·subst h; simp
  ·rw [hb, cond_false, heapO_look r (n + 1) id]
   by_cases h1 : n + 1 ≤ id
   ·rw [if_pos h1, if_pos (by omega), show id - n = (id - (n + 1)) + 1 from by omega, List.getElem?_cons_succ]
   ·rw [if_neg h1, if_neg (by omega)]
def startO (bs : List (RE × Option ABlk)) (gl : Nat) : SS := ⟨heapO 0 bs, bs.length, gl⟩
theorem startO_rel {P : Program} {W : World} {bs : List (RE × Option ABlk)} {gl : Nat} (h : ∀ (i : Nat) e b, bs[i]? = some (e, some b) → BRel P (renO bs) W e b ∧ b.ro = true) (hl : ∀ (i : Nat) e b, bs[i]? = some (e, b) → e.blk < W.heap.size)
  (hg : ∀ g, g < gl → ∃ e b, bs[g]? = some (e, b) ∧ e.blk = g ∧ e.off = 0) : HRel P W.heap.size W (renO bs) (startO bs gl).st W ∧ FreeFrom (renO bs) (startO bs gl).next := by
 have get : ∀ id b e, (startO bs gl).st.heap.get id = some b → renO bs id = some e → bs[id]? = some (e, some b) := by
  intro id b e hb he
  rw [SS.get] at hb
  simp only [startO, heapO_look, Nat.zero_le, if_true, Nat.sub_zero] at hb
  simp only [renO] at he
  cases hx : bs[id]? with
  | none => rw [hx] at hb; cases hb
  | some x =>
   rw [hx] at hb he
   obtain ⟨e', b'⟩ := x
   cases he
   simp only [Option.map_some, Option.join_some] at hb
   subst hb
   rfl
 refine ⟨⟨.refl _ _, Nat.le_refl _, .refl _, ?_, ?_, ?_, ?_, ?_⟩, ?_⟩
 ·intro id b e hb he; exact (h _ _ _ (get _ _ _ hb he)).1
 ·intro id b e hb he hr; rw [(h _ _ _ (get _ _ _ hb he)).2] at hr; cases hr
 ·intro i j b b' e e' _ hb _ he hr; rw [(h _ _ _ (get _ _ _ hb he)).2] at hr; cases hr
 ·intro id e he
  simp only [renO] at he
  cases hx : bs[id]? with
  | none => rw [hx] at he; cases he
  | some x =>
   rw [hx] at he
   obtain ⟨e', b'⟩ := x
   cases he
   exact hl _ _ _ hx
 ·intro g hlt
  obtain ⟨e, b, h1, h2, h3⟩ := hg g hlt
  exact ⟨e, by simp [renO, h1], h2, h3⟩
 ·intro id hid
  simp only [renO]
  rw [List.getElem?_eq_none (by exact hid)]; rfl
theorem startO_fine (bs : List (RE × Option ABlk)) (gl : Nat) : Fine (startO bs gl) := fun id hid => by
 show lookH (heapO 0 bs) id = none
 rw [heapO_look, List.getElem?_eq_none (by simpa [startO] using hid)]
 rfl
end Go.Vf.S
end
section
namespace Go.Vf.S
open Go Go.Vf Go.Proofs Go.Proofs.YtfminjggoaegdaaGreatDoor Go.RowKit Go.ChangeShapes
set_option linter.unusedVariables false
set_option linter.unusedSimpArgs false
theorem hand_shaped {H : Type} {enc : TypeId × Value → H} {a : Assume} {C : Checked} {os : Os} {f : FuncId} {fn : Func} {s : ChangeSpec} {conds : List PathCond} {apart fresh handsOn again : Bool} {X : World → Array Value → Prop}
  (hX : ∀ (w w' : World) (args : Array Value), w.heap = w'.heap → X w args → X w' args) (own : ownKnob C.prog.godebug = none) (started : os.Started) (noInit : C.prog.inits.idxOf? f = none) (hfn : C.prog.funcs[f]? = some fn)
  (witness : ∃ (w : World) (tape : Tape) (i : Input), w.os = os ∧ (w.forCall tape i).Shaped C.prog ∧ i.vars = [] ∧ Input.okWide C.prog (w.forCall tape i) .any w.heap.size f i ∧
   ((s.pre enc C.prog fn conds apart (w.forCall tape i).memory i.args ∧ X (w.forCall tape i).memory i.args) ∧ sizedMet enc C.prog fn (OpenSpec.ofChange s) apart (w.forCall tape i).memory i.args) ∧ a.holds C.prog (lone (Frame.enter C.prog f i.args .normal) [] (w.forCall tape i)))
  (contract : ∀ (W : World) (base : Nat) (args : Array Value) (ds gs : List (DataW H)) (before : List MemPlace), (∀ (j : Nat) t v, fn.params[j]? = some t → args[j]? = some v → Value.okWide C.prog W .any base t v) →
   DataW.Whole enc C.prog fn.params.toList s.vars apart W args.toList ds gs before → X W args → W.ShapedOpen C.prog → Calls C.prog f args W fun e W' => ∃ v, e = .returned v ∧ s.post enc C.prog fn apart fresh handsOn again W args v W') :
  ReturnsInHanded a C os f .any (fun w args => (s.pre enc C.prog fn conds apart w args ∧ X w args) ∧ sizedMet enc C.prog fn (OpenSpec.ofChange s) apart w args) (s.post enc C.prog fn apart fresh handsOn again) := by
 refine returnsInHanded_of_calls own started noInit witness ?_
 intro w tape i _ hsh _ hok hpre _
 obtain ⟨_, _, _, fn', hfn', _, _, _, _, hval⟩ := hok
 obtain rfl : fn' = fn := Option.some.inj (hfn'.symm.trans hfn)
 obtain ⟨⟨⟨ds, gs, before, hw, _⟩, hx⟩, _⟩ := hpre
 refine (contract (w.forCall tape i) w.heap.size i.args ds gs before hval (DataW.Whole.of_heap (w' := w.forCall tape i) (by rfl) hw) (hX _ _ _ (by rfl) hx) hsh).mono fun e W' ⟨v, he, hp⟩ => ?_
 subst he
 exact ChangeSpec.post_blind hp
end Go.Vf.S
end
section
namespace Go.Vf.S
open Go Go.Vf Go.Proofs Go.Proofs.YtfminjggoaegdaaGreatDoor Go.RowKit Go.ChangeShapes Go.WideShapes
set_option linter.unusedVariables false
set_option linter.unusedSimpArgs false
set_option maxRecDepth 100000
def laid14 : List (String × DataW Unit) := [("unicode/utf8.acceptRanges", Rows.laid_unicode_utf8_acceptRanges), ("unicode.asciiFold", Rows.laid_unicode_asciiFold), ("unicode.caseOrbit", Rows.laid_unicode_caseOrbit), ("postrider/text.atoms", Rows.laid_postrider_text_atoms), ("postrider/alias.fronts", Rows.laid_postrider_alias_fronts), ("unicode.CaseRanges", Rows.laid_unicode_CaseRanges), ("unicode/utf8.first", Rows.laid_unicode_utf8_first)]
theorem max_is14 : maxLen = 9223372036854775807 := by kernel_rfl
abbrev gFrB : ABlk := .cells (strV frL) tS false true
theorem gA_plain14 : atomsV.all plain1 = true := by kernel_rfl
theorem row_in14 {ps : List MemPlace} {g n : Nat} {p q : List MemPlace} (h : ∀ x, x ∈ MemPlace.row ⟨g, 0, none⟩ n ++ p ++ q → x ∈ ps) (hi : 0 < n) : MemPlace.cell g 0 ∈ ps := by
 refine h _ ?_
 simp only [List.mem_append]
 left; left
 exact List.mem_map.2 ⟨0, List.mem_range.2 hi, by simp⟩
theorem size_of14 {cs : Array Value} {V : List Value} (h : cs.toList = V) (hV : 0 < V.length) : 0 < cs.size := by
 have := congrArg List.length h
 rw [Array.length_toList] at this
 omega
theorem tab_core14 {W : World} {name : String} {g es : Nat} {t : TypeId} {cs : Array Value} {V : List Value} (hg : pr.globalNamed name = some g) (hv : W.var? pr name = some cs) (hcs : cs.toList = V) (hz : ∃ c t0, W.heap[g]? = some (.cells c t0 (0, 0))) (he : (pr.info? t).map (·.size) = some es) (hp : V.all plain1 = true) :
  GoodB pr W ⟨g, 0, V.length, es, false⟩ (.cells V t false true) := by
 obtain ⟨c, t0, hblk⟩ := hz
 have hc : c = ⟨V⟩ := by
  unfold World.var? at hv
  rw [hg] at hv
  simp only [Option.bind_some, hblk, Option.some.injEq] at hv
  rw [hv]
  exact Array.toList_inj.1 hcs
 subst hc
 refine ⟨fun ρ => ⟨rfl, V, 0, 0, t0, hblk, (fun z => by cases z), (fun i _ hh => by omega), by show 0 + V.length ≤ V.length; omega, Nat.le_refl _, he, fun i v hi => ⟨v, by simpa using hi, plain1_rel ?_⟩⟩, rfl, ?_⟩
 ·exact List.all_eq_true.1 hp v (List.mem_of_getElem? hi)
 ·exact (Array.getElem?_eq_some_iff.1 hblk).1
theorem fr_core {W : World} {g : Nat} {t : TypeId} {cs : Array Value} {fuel : Nat} {p : List MemPlace} (hg : pr.globalNamed "postrider/alias.fronts" = some g) (ht : (pr.globals[g]?).map (·.type) = some t)
  (hd : DataW.trod (fun _ => ()) pr W 0 (fun _ => true) false fuel t cs.toList = some (Rows.laid_postrider_alias_fronts, p)) : g = gFr ∧ cs.toList = strV frL := by
 obtain rfl := Option.some.inj ((show pr.globalNamed "postrider/alias.fronts" = some gFr by kernel_rfl).symm.trans hg)
 obtain rfl := Option.some.inj ((show (pr.globals[gFr]?).map (·.type) = some 117 by kernel_rfl).symm.trans ht)
 refine ⟨rfl, ?_⟩
 obtain ⟨xs, m, _, ex, hlen, hl, hel⟩ := DataW.trod_array Tryz.underlying117 hd
 have c4 : pr.cellsOf tS = 1 := by kernel_rfl
 have c59 : pr.cellsOf 117 = 8 := by kernel_rfl
 have alen : (strV frL).length = 8 := rfl
 refine List.ext_getElem? fun r => ?_
 rcases Nat.lt_or_ge r 8 with hr | hr
 ·have hE := hel r hr
  rw [c4, Nat.mul_one, List.getElem?_eq_getElem (by omega)] at hE
  obtain ⟨z, e1, e2, _⟩ := DataW.trod_string Tryz.underlying9 hE
  have e3 : (xs.map (·.1)) = (frL.map fun l => (.lit (.string l) : DataW Unit)) := (DataW.agg.inj (Prod.mk.inj ex).1).symm.trans (by kernel_rfl)
  have e4 : (xs.map (·.1))[r]? = (frL.map fun l => (.lit (.string l) : DataW Unit))[r]? := by rw [e3]
  have hfr : r < frL.length := hr
  rw [List.getElem?_map, List.getElem?_map, List.getElem?_eq_getElem (by omega : r < xs.length), List.getElem?_eq_getElem hfr, e2] at e4
  simp only [Option.map_some, Option.some.injEq, DataW.lit.injEq, Lit.string.injEq] at e4
  have h0 : ((cs.toList.drop r).take 1)[0]? = some (.string z) := by rw [e1]; rfl
  have h1 : cs.toList[r]? = some (.string z) := by simpa using h0
  have h2 : (strV frL)[r]? = some (str frL[r]) := by unfold strV; rw [List.getElem?_map, List.getElem?_eq_getElem hfr]; rfl
  rw [h1, h2, ← e4]
 ·rw [List.getElem?_eq_none (by rw [hlen, c59]; exact hr), List.getElem?_eq_none (by rw [alen]; exact hr)]
theorem at_core {W : World} {g : Nat} {t : TypeId} {cs : Array Value} {fuel : Nat} {p : List MemPlace} (hg : pr.globalNamed "postrider/text.atoms" = some g) (ht : (pr.globals[g]?).map (·.type) = some t)
  (hd : DataW.trod (fun _ => ()) pr W 0 (fun _ => true) false fuel t cs.toList = some (Rows.laid_postrider_text_atoms, p)) : g = gAt ∧ cs.toList = atomsV := by
 obtain rfl := Option.some.inj ((show pr.globalNamed "postrider/text.atoms" = some gAt by kernel_rfl).symm.trans hg)
 obtain rfl := Option.some.inj ((show (pr.globals[gAt]?).map (·.type) = some 208 by kernel_rfl).symm.trans ht)
 refine ⟨rfl, ?_⟩
 obtain ⟨xs, m, _, ex, hlen, hl, hel⟩ := DataW.trod_array Tryz.underlying208 hd
 have c4 : pr.cellsOf 4 = 1 := by kernel_rfl
 have c59 : pr.cellsOf 208 = 128 := by kernel_rfl
 have alen : atomsV.length = 128 := rfl
 refine List.ext_getElem? fun r => ?_
 rcases Nat.lt_or_ge r 128 with hr | hr
 ·have hE := hel r hr
  rw [c4, Nat.mul_one, List.getElem?_eq_getElem (by omega)] at hE
  obtain ⟨z, e1, e2⟩ := DataW.trod_bool Tryz.underlying4 hE
  have e3 : (xs.map (·.1)) = ((List.range 128).map fun i => (.lit (.bool (letN i)) : DataW Unit)) := (DataW.agg.inj (Prod.mk.inj ex).1).symm.trans (by kernel_rfl)
  have e4 : (xs.map (·.1))[r]? = ((List.range 128).map fun i => (.lit (.bool (letN i)) : DataW Unit))[r]? := by rw [e3]
  rw [List.getElem?_map, List.getElem?_map, List.getElem?_eq_getElem (by omega : r < xs.length), List.getElem?_range hr, e2] at e4
  simp only [Option.map_some, Option.some.injEq, DataW.lit.injEq, Lit.bool.injEq] at e4
  have h0 : ((cs.toList.drop r).take 1)[0]? = some (.bool z) := by rw [e1]; rfl
  have h1 : cs.toList[r]? = some (.bool z) := by simpa using h0
  rw [h1, atoms_get hr, e4]
 ·rw [List.getElem?_eq_none (by rw [hlen, c59]; exact hr), List.getElem?_eq_none (by rw [alen]; exact hr)]
structure Tabs14 (W : World) : Prop where
 fr : GoodB pr W ⟨gFr, 0, 8, 1, false⟩ gFrB
 at_ : GoodB pr W ⟨gAt, 0, 128, 1, false⟩ gA
theorem tabs14 {W : World} (h : laidMetH pr laid14 W) : Tabs14 W := by
 rw [MakeChecks.laidMetH_plain _ _ _ (by kernel_rfl)] at h
 obtain ⟨ps0, hL, _, hz⟩ := h
 obtain ⟨g0, t0, cs0, fuel0, p0, q0, _, _, _, _, hL1, hps0⟩ := hL
 obtain ⟨g1, t1, cs1, fuel1, p1, q1, _, _, _, _, hL2, hps1⟩ := hL1
 obtain ⟨g2, t2, cs2, fuel2, p2, q2, _, _, _, _, hL3, hps2⟩ := hL2
 obtain ⟨g3, t3, cs3, fuel3, p3, q3, hg3, ht3, hv3, hd3, hL4, hps3⟩ := hL3
 obtain ⟨g4, t4, cs4, fuel4, p4, q4, hg4, ht4, hv4, hd4, _, hps4⟩ := hL4
 obtain ⟨rfl, e3⟩ := at_core hg3 ht3 hd3
 obtain ⟨rfl, e4⟩ := fr_core hg4 ht4 hd4
 have app := @List.mem_append_right MemPlace
 exact ⟨tab_core14 hg4 hv4 e4 (hz _ 0 (row_in14 (fun x hx => by rw [hps0, hps1, hps2, hps3, hps4]; exact app _ (app _ (app _ (app _ hx)))) (size_of14 e4 (by decide)))).1 (by kernel_rfl) (by kernel_rfl),
  tab_core14 hg3 hv3 e3 (hz _ 0 (row_in14 (fun x hx => by rw [hps0, hps1, hps2, hps3]; exact app _ (app _ (app _ hx))) (size_of14 e3 (by decide)))).1 (by kernel_rfl) gA_plain14⟩
def aAt (i : Nat) : RE × Option ABlk := if i = gFr then (⟨gFr, 0, 8, 1, false⟩, some gFrB) else if i = gAt then (⟨gAt, 0, 128, 1, false⟩, some gA) else (⟨i, 0, 0, 1, false⟩, none)
def bs14 (xs : List (RE × ABlk)) : List (RE × Option ABlk) := (List.range (gAt + 1)).map aAt ++ xs.map fun x => (x.1, some x.2)
def start14 (xs : List (RE × ABlk)) : SS := startO (bs14 xs) (gAt + 1)
theorem bs14_low {xs : List (RE × ABlk)} {i : Nat} (h : i < gAt + 1) : (bs14 xs)[i]? = some (aAt i) := by
 unfold bs14
 rw [List.getElem?_append_left (by rw [List.length_map, List.length_range]; exact h), List.getElem?_map, List.getElem?_range h]
 rfl
theorem bs14_more (xs : List (RE × ABlk)) (i : Nat) : (bs14 xs)[gAt + 1 + i]? = (xs[i]?).map fun x => (x.1, some x.2) := by
 unfold bs14
 rw [List.getElem?_append_right (by simp), List.length_map, List.length_range, Nat.add_sub_cancel_left, List.getElem?_map]
theorem bs14_len (xs : List (RE × ABlk)) : (bs14 xs).length = gAt + 1 + xs.length := by simp [bs14]
theorem fr_lt : gFr < gAt := by decide
theorem start14_rel {W : World} {xs : List (RE × ABlk)} (ht : Tabs14 W) (hx : GoodL pr W xs (gAt + 1)) :
  HRel pr W.heap.size W (renO (bs14 xs)) (start14 xs).st W ∧ FreeFrom (renO (bs14 xs)) (start14 xs).next ∧ FrT (start14 xs) ∧ Gb (start14 xs) ∧ Fine (start14 xs) ∧ Laid xs (gAt + 1) (renO (bs14 xs)) ∧ LaidS xs (gAt + 1) (start14 xs) := by
 have k1 : gAt < W.heap.size := ht.at_.2.2
 have hL : Laid xs (gAt + 1) (renO (bs14 xs)) := fun i x h => by
  show ((bs14 xs)[gAt + 1 + i]?).map Prod.fst = _
  rw [bs14_more, h]
  rfl
 have good := hx _ hL
 have all : ∀ i y, (bs14 xs)[i]? = some y → (i < gAt + 1 ∧ y = aAt i) ∨ (∃ (j : Nat) (x : RE × ABlk), xs[j]? = some x ∧ y = (x.1, some x.2)) := fun i y h => by
  rcases Nat.lt_or_ge i (gAt + 1) with q | q
  ·rw [bs14_low q] at h
   exact .inl ⟨q, (Option.some.inj h).symm⟩
  ·obtain ⟨j, rfl⟩ : ∃ j, i = gAt + 1 + j := ⟨i - (gAt + 1), by omega⟩
   rw [bs14_more] at h
   cases hj : xs[j]? with
   | none => rw [hj] at h; cases h
   | some x =>
    rw [hj] at h
    exact .inr ⟨j, x, hj, (Option.some.inj h).symm⟩
 obtain ⟨H1, H2⟩ := startO_rel (P := pr) (W := W) (bs := bs14 xs) (gl := gAt + 1) (fun i e b h => by
  rcases all i _ h with ⟨_, q⟩ | ⟨j, x, hm, q⟩
  ·unfold aAt at q
   split at q
   ·cases q; exact ⟨ht.fr.1 _, ht.fr.2.1⟩
   ·split at q
    ·cases q; exact ⟨ht.at_.1 _, ht.at_.2.1⟩
    ·cases q
  ·cases q; exact ⟨(good j x hm).1, (good j x hm).2.1⟩) (fun i e b h => by
  rcases all i _ h with ⟨q1, q⟩ | ⟨j, x, hm, q⟩
  ·have : e.blk ≤ gAt := by
    unfold aAt at q
    split at q
    ·cases q; exact Nat.le_of_lt fr_lt
    ·split at q
     ·cases q; exact Nat.le_refl _
     ·cases q; exact Nat.le_of_lt_succ q1
   omega
  ·cases q; exact (good j x hm).2.2) (fun g hg => by
  refine ⟨(aAt g).1, (aAt g).2, bs14_low hg, ?_, ?_⟩
  ·unfold aAt
   split
   ·rename_i e; exact e.symm
   ·split
    ·rename_i e; exact e.symm
    ·rfl
  ·unfold aAt
   split
   ·rfl
   ·split <;> rfl)
 have lk : ∀ i, lookH (start14 xs).heap i = ((bs14 xs)[i]?.map Prod.snd).join := fun i => by
  show lookH (heapO 0 (bs14 xs)) i = _
  rw [heapO_look, if_pos (Nat.zero_le _), Nat.sub_zero]
 have nx : (start14 xs).next = gAt + 1 + xs.length := bs14_len xs
 have hfr : aAt gFr = (⟨gFr, 0, 8, 1, false⟩, some gFrB) := by unfold aAt; rw [if_pos rfl]
 have hat : aAt gAt = (⟨gAt, 0, 128, 1, false⟩, some gA) := by unfold aAt; rw [if_neg (by decide), if_pos rfl]
 refine ⟨H1, H2, ⟨Nat.lt_succ_of_lt fr_lt, by rw [nx]; have := fr_lt; omega, by rw [lk, bs14_low (Nat.lt_succ_of_lt fr_lt), hfr]; rfl⟩, ⟨Nat.lt_succ_self _, by rw [nx]; omega, by rw [lk, bs14_low (Nat.lt_succ_self _), hat]; rfl⟩, startO_fine _ _, hL, fun i x h => ?_, by rw [nx]; exact Nat.le_refl _⟩
 rw [lk, bs14_more, h]
 rfl
section
variable {H : Type} {enc : TypeId × Value → H} {W : World} {b0 : Nat} {v : Value} {d : DataW H} {p : List MemPlace}
def TgM (t : Tg) : Prop := t.a.length ≤ 9223372036854775807 ∧ t.d.length ≤ 9223372036854775807 ∧ t.nm.length ≤ 9223372036854775807
theorem trod_Tg {n : Nat} {cs : List Value} {x : DataW H × List MemPlace} (h : DataW.trod enc pr W 0 (fun _ => true) true n tTg cs = some x) : ∃ t : Tg, cs = tgC t ∧ TgM t := by
 have hM : maxLen = 9223372036854775807 := by kernel_rfl
 obtain ⟨y0, y1, y2, m, rfl, hl, h0, h1, h2⟩ := Go.Deep.trod_struct3 Tryz.underlying43 h
 obtain ⟨k, e0, -, _⟩ := DataW.trod_int Tryz.underlying3 h0
 obtain ⟨z0, z1, m2, rfl, hl2, h10, h11⟩ := trod_struct2 Tryz.underlying41 h1
 obtain ⟨⟨⟨a⟩⟩, e10, rfl, s1⟩ := DataW.trod_string Tryz.underlying9 h10
 obtain ⟨⟨⟨b⟩⟩, e11, rfl, s2⟩ := DataW.trod_string Tryz.underlying9 h11
 obtain ⟨⟨⟨c⟩⟩, e2, rfl, s3⟩ := DataW.trod_string Tryz.underlying9 h2
 have c4 : pr.cellsOf tTg = 4 := by kernel_rfl
 have c2 : pr.cellsOf 41 = 2 := by kernel_rfl
 have c1 : pr.cellsOf 9 = 1 := by kernel_rfl
 have ci : pr.cellsOf 3 = 1 := by kernel_rfl
 rw [c4] at hl
 rw [ci] at e0
 rw [c1] at e2
 rw [c2, c1] at e10 e11
 match cs, hl with
 | [u0, u1, u2, u3], _ =>
 have q0 : u0 = .int .i64 k := (List.cons.inj e0).1
 have q1 : u1 = str a := (List.cons.inj e10).1
 have q2 : u2 = str b := (List.cons.inj e11).1
 have q3 : u3 = str c := (List.cons.inj e2).1
 refine ⟨⟨k, a, b, c⟩, by rw [q0, q1, q2, q3]; rfl, ?_, ?_, ?_⟩
 ·have : a.length ≤ maxLen := s1; rw [hM] at this; exact this
 ·have : b.length ≤ maxLen := s2; rw [hM] at this; exact this
 ·have : c.length ≤ maxLen := s3; rw [hM] at this; exact this
theorem no_row14 {t : TypeId} {k : Nat} (g1 : GoodB pr W ⟨gAt, 0, 128, 1, false⟩ gA) (hz : (pr.info? t).map (·.size) = some k) : GoodB pr W ⟨gAt, 0, 0, k, true⟩ (.cells [] t true true) := by
 refine ⟨fun ρ => ?_, rfl, g1.2.2⟩
 obtain ⟨h1, rc, lo, hi, t0, h2, -⟩ := g1.1 ρ
 exact ⟨rfl, rc, lo, hi, t0, h2, (fun z => by cases z), fun i hi => absurd hi (Nat.not_lt_zero i), Nat.zero_le _, Nat.le_refl _, hz, fun i v hv => by simp at hv⟩
theorem good_one {e : RE} {b : ABlk} (g : GoodB pr W e b) (id : Nat) : GoodL pr W [(e, b)] id := fun ρ hρ i x hx => by
 cases i with
 | zero => cases hx; exact ⟨g.1 ρ, g.2⟩
 | succ i => cases hx
theorem open_Tgs (hv : Value.okWide pr W .any b0 tTs v) (h : DataW.Trod enc pr W 0 (fun _ => true) true tTs v d p) (hnf : ∀ b off, MemPlace.cell b off ∈ p → W.frozen? ⟨b, off, none⟩ = false)
  (g1 : GoodB pr W ⟨gAt, 0, 128, 1, false⟩ gA) (id : Nat) :
  ∃ (ba : Option Addr) (ls : List Tg) (e1 : RE), GoodB pr W e1 (.cells (tgCs ls) tTg true true) ∧ (∀ ρ : Ren, ρ id = some e1 → VRel ρ (.slice ba ls.length 0) v) ∧ ls.length ≤ 9223372036854775807 ∧ (∀ t ∈ ls, TgM t) ∧
   ∀ s : SS, id < s.next → lookH s.heap id = some (.cells (tgCs ls) tTg true true) → RdR tgC 4 s ba ls := by
 obtain ⟨a, len, cap, rfl⟩ := okWide_slice Tryz.underlying35 hv
 obtain ⟨fuel, hf⟩ := h
 have h0 : DataW.trod enc pr W 0 (fun _ => true) true fuel tTs [.slice a len cap] = some (d, p) := hf
 obtain ⟨ba, fs, re, q1, q2, q3, q4⟩ := inner_recs (α := { t : Tg // TgM t }) (C := fun t => tgC t.1) (k := 4) Tryz.underlying35 (by kernel_rfl) (by omega) (by kernel_rfl) (fun _ => rfl) (fun _ => rfl) (fun fuel cs x h => by
  obtain ⟨t, hc, hm⟩ := trod_Tg h
  exact ⟨⟨t, hm⟩, hc⟩) h0 hnf (no_row14 (t := tTg) (k := 4) g1 (by kernel_rfl)) rfl id
 have ef : fs.flatMap (fun t => tgC t.1) = tgCs (fs.map (·.1)) := by unfold tgCs; rw [List.flatMap_map]
 rw [ef] at q1
 refine ⟨ba, fs.map (·.1), re, q1, fun ρ hρ => by rw [List.length_map]; exact q2 ρ hρ, ?_, fun t ht => by obtain ⟨x, _, rfl⟩ := List.mem_map.1 ht; exact x.2, fun s hlt hs => ?_⟩
 ·have : maxLen = 9223372036854775807 := by kernel_rfl
  rw [List.length_map]
  omega
 ·rcases q4 with ⟨rfl, rfl⟩ | rfl
  ·exact .inl rfl
  ·exact .inr ⟨id, 0, _, _, _, _, rfl, hlt, hs, fun i x hx => by rw [Nat.zero_add]; exact fl_take tgC_len hx⟩
end
end Go.Vf.S
end

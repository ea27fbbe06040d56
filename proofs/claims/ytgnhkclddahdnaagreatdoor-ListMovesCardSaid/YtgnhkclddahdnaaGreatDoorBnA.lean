import Derived.Test.YtgnhkclddahdnaaGreatDoorFn
import Derived.Test.YtgnhkclddahdnaaGreatDoorEngBe
import Derived.Lib.Replace
import Derived.Lib.CountLaws
import Derived.Test.YtgnhkclddahdnaaGreatDoorEngBd
/- TxA -/
section
/- Plain bytes; what a text begins with. -/
namespace Go.Vf.S
open Go Go.Vf
attribute [local irreducible] wSeq wRow wp wG
set_option linter.unusedVariables false
set_option linter.unusedSimpArgs false
set_option maxRecDepth 10000

abbrev tS : TypeId := 9
abbrev tB : TypeId := 5
theorem un_S : pr.underlying tS = some .string := by kernel_rfl

/-- A text. -/
abbrev str (l : List UInt8) : Value := .string ⟨⟨l⟩⟩
def plainB (c : UInt8) : Bool := decide (32 ≤ c.toNat ∧ c.toNat ≤ 126)
theorem bool_eq {a b : Bool} (h : a = b) : one [Value.bool a] = Value.bool b := by subst h; rfl

theorem plain_w {s : SS} {r : Nat} (hr : r ≤ 1114111) : CallW pr n_text_plain [.int .i32 r] s fun v s' => v = .bool (decide (32 ≤ r ∧ r ≤ 126)) ∧ s' = s := by
  refine CallW.run good ok_text_plain (by simp) rfl ?_
  (try refine pSeq ?_); (repeat(first|refine sb ?_|refine gOn rfl ?_|refine gOff rfl rfl ?_|refine gTup rfl ?_))
  intro q hq
  by_cases h : 32 ≤ r
  · obtain rfl : q = true := by rw [hq]; simp; omega
    (repeat(first|refine sb ?_|refine gOn rfl ?_|refine gOff rfl rfl ?_|refine gTup rfl ?_))
    intro q hq
    (repeat(first|refine sb ?_|refine gOn rfl ?_|refine gOff rfl rfl ?_|refine gTup rfl ?_))
    subst hq
    refine ⟨bool_eq ?_, rfl⟩
    rw [decide_eq_decide]
    omega
  · obtain rfl : q = false := by rw [hq]; simp; omega
    (repeat(first|refine sb ?_|refine gOn rfl ?_|refine gOff rfl rfl ?_|refine gTup rfl ?_))
    exact ⟨bool_eq (by simp [h]), rfl⟩

theorem sprefix_w {s : SS} {a b : List UInt8} : CallW pr n_internal_stringslite_HasPrefix [str a, str b] s fun v s' => v = .bool (decide (a.take b.length = b)) ∧ s' = s := by
  refine CallW.run good ok_internal_stringslite_HasPrefix (by simp) rfl ?_
  (try refine pSeq ?_); (repeat(first|refine sb ?_|refine gOn rfl ?_|refine gOff rfl rfl ?_|refine gTup rfl ?_))
  intro n hn
  (repeat(first|refine sb ?_|refine gOn rfl ?_|refine gOff rfl rfl ?_|refine gTup rfl ?_))
  intro m hm
  (repeat(first|refine sb ?_|refine gOn rfl ?_|refine gOff rfl rfl ?_|refine gTup rfl ?_))
  intro q hq
  by_cases h : b.length ≤ a.length
  · obtain rfl : q = true := by rw [hq]; simp; omega
    (repeat(first|refine sb ?_|refine gOn rfl ?_|refine gOff rfl rfl ?_|refine gTup rfl ?_))
    intro m hm
    (repeat(first|refine sb ?_|refine gOn rfl ?_|refine gOff rfl rfl ?_|refine gTup rfl ?_))
    refine ⟨by omega, ?_⟩
    intro m2 hm2 z hz
    obtain rfl : m2 = b.length := by omega
    (repeat(first|refine sb ?_|refine gOn rfl ?_|refine gOff rfl rfl ?_|refine gTup rfl ?_))
    intro q hq
    (repeat(first|refine sb ?_|refine gOn rfl ?_|refine gOff rfl rfl ?_|refine gTup rfl ?_))
    subst hq hz
    exact ⟨bool_eq (by simp), rfl⟩
  · obtain rfl : q = false := by rw [hq]; simp; omega
    (repeat(first|refine sb ?_|refine gOn rfl ?_|refine gOff rfl rfl ?_|refine gTup rfl ?_))
    have : a.take b.length ≠ b := fun e => by have := congrArg List.length e; rw [List.length_take] at this; omega
    exact ⟨bool_eq (by simp [this]), rfl⟩

theorem prefix_w {s : SS} {a b : List UInt8} : CallW pr n_strings_HasPrefix [str a, str b] s fun v s' => v = .bool (decide (a.take b.length = b)) ∧ s' = s := by
  refine CallW.run good ok_strings_HasPrefix (by simp) rfl ?_
  (try refine pSeq ?_); (repeat refine sb ?_)
  refine sprefix_w.mono fun v s q => ?_
  obtain ⟨rfl, rfl⟩ := q
  (repeat refine sb ?_)
  exact ⟨rfl, rfl⟩

theorem all_no {l : List UInt8} {p : Nat} {c : UInt8} {f : UInt8 → Bool} (h : l[p]? = some c) (hf : f c = false) : l.all f = false := by
  rw [List.all_eq_false]
  exact ⟨c, List.mem_of_getElem? h, by simp [hf]⟩
theorem plain_no {c : UInt8} (h : ¬ plainB c = true) : plainB c = false := by simpa using h
theorem plain_hi {c : UInt8} (h : 128 ≤ c.toNat) : plainB c = false := by unfold plainB; simp; omega

theorem Plain_w {s : SS} {l : List UInt8} : CallW pr n_text_Plain [str l] s fun v s' => v = .bool (l.all plainB) ∧ Chg s s' [] := by
  refine CallW.run good ok_text_Plain (by simp) rfl ?_
  (try refine pSeq ?_); (repeat refine sb ?_)
  refine srange_W rfl un_S rfl ?_
  (repeat refine sb ?_)
  refine pLoop (MW.head good (fun x : It => l.length - x.p) (fun x => At s s.next l x ∧ (l.take x.p).all plainB = true) (fun x => [(6, .pointer (some ⟨s.next, 0, none⟩))]) (fun x => x.s) ⟨0, _⟩ ⟨.start s l, rfl⟩ (Wk.same ⟨rfl, trivial⟩) ?_)
  intro ⟨p, s1⟩ ⟨h1, h2⟩
  dsimp only at h1 h2 ⊢
  (repeat refine sb ?_)
  refine snext_L rfl rfl h1.2.2.2 (fun he => ?_) (fun c hc h7 => ?_) (fun c r w hc h7 hr hr2 _ hw _ => ?_)
  · (repeat refine sb ?_)
    refine ⟨bool_eq ?_, h1.1⟩
    rw [← h2, List.take_of_length_le he]
  · (repeat refine sb ?_)
    refine (plain_w (by omega)).mono fun v s2 q => ?_
    obtain ⟨rfl, rfl⟩ := q
    (repeat refine sb ?_)
    intro q hq
    have e : decide (32 ≤ c.toNat ∧ c.toNat ≤ 126) = plainB c := rfl
    rw [e] at hq
    by_cases hp : plainB c = true
    · obtain rfl : q = false := by rw [hq, hp]; rfl
      (repeat refine sb ?_)
      exact ⟨⟨p + 1, _⟩, ⟨h1.go _, by rw [take_next hc]; simp [h2, hp]⟩, by have : p < l.length := lt_of_get hc; show l.length - (p + 1) < l.length - p; omega, Wk.same ⟨rfl, trivial⟩⟩
    · obtain rfl : q = true := by rw [hq, plain_no hp]; rfl
      (repeat refine sb ?_)
      exact ⟨bool_eq (all_no hc (plain_no hp)).symm, (h1.go _).1⟩
  · (repeat refine sb ?_)
    refine (plain_w (by omega)).mono fun v s2 q => ?_
    obtain ⟨rfl, rfl⟩ := q
    (repeat refine sb ?_)
    intro q hq
    obtain rfl : q = true := by rw [hq]; simp; omega
    (repeat refine sb ?_)
    exact ⟨bool_eq (all_no hc (plain_hi h7)).symm, (h1.go _).1⟩

end Go.Vf.S
end
/- TxB -/
section
/- A text, quoted. -/
namespace Go.Vf.S
open Go Go.Vf
attribute [local irreducible] wSeq wRow wp wG
set_option linter.unusedVariables false
set_option linter.unusedSimpArgs false
set_option maxRecDepth 10000

def needs (c : UInt8) : Bool := decide (c.toNat = 34 ∨ c.toNat = 92)
def escB (c : UInt8) : List UInt8 := if needs c then [92, c] else [c]
def quoteL (l : List UInt8) : List UInt8 := 34 :: l.flatMap escB ++ [34]
/-- What Quote tells. -/
def quoteF (l : List UInt8) : List UInt8 × Nat := if l.all plainB then (quoteL l, 0) else ([], 5)

theorem flat_next {l : List UInt8} {p : Nat} {c : UInt8} (h : l[p]? = some c) : (l.take (p + 1)).flatMap escB = (l.take p).flatMap escB ++ escB c := by
  rw [take_next h]; simp
theorem esc_len : ∀ l : List UInt8, l.length ≤ (l.flatMap escB).length ∧ (l.flatMap escB).length ≤ 2 * l.length
  | [] => by simp
  | c :: l => by
    have := esc_len l
    have : 1 ≤ (escB c).length ∧ (escB c).length ≤ 2 := by unfold escB; split <;> simp
    simp only [List.flatMap_cons, List.length_append, List.length_cons]
    omega
theorem take_esc {l : List UInt8} (p : Nat) : ((l.take p).flatMap escB).length ≤ 2 * l.length := by
  have := (esc_len (l.take p)).2
  rw [List.length_take] at this
  omega

/-- What stands behind so many bytes of a text. -/
def qO (l : List UInt8) (p : Nat) : List UInt8 := 34 :: (l.take p).flatMap escB
theorem qO_next {l : List UInt8} {p : Nat} {c : UInt8} (h : l[p]? = some c) : qO l (p + 1) = qO l p ++ escB c := by unfold qO; rw [flat_next h]; rfl
theorem qO_len {l : List UInt8} (p : Nat) : (qO l p).length ≤ 2 * l.length + 1 := Nat.succ_le_succ (take_esc p)
theorem qO_end {l : List UInt8} {p : Nat} (h : l.length ≤ p) : qO l p ++ [34] = quoteL l := by unfold qO quoteL; rw [List.take_of_length_le h]

structure QIt where
  p : Nat
  s : SS
  base : Option Addr
  cap : Nat

def QAt (s0 : SS) (id : Nat) (l : List UInt8) (out : List UInt8) (x : QIt) : Prop :=
  At s0 id l ⟨x.p, x.s⟩ ∧ Buf tB x.s x.base x.cap out ∧ ∀ i ∈ blkOf x.base, s0.next ≤ i ∧ i ≠ id

theorem quote_w {s : SS} {l : List UInt8} (hl : l.length ≤ 1000000) : CallW pr n_text_Quote [str l] s fun v s' => v = .tuple ⟨[str (quoteF l).1, .int .i64 (quoteF l).2]⟩ ∧ Chg s s' [] := by
  refine CallW.run good ok_text_Quote (by simp) rfl ?_
  (try refine pSeq ?_); (repeat(first|refine sb ?_|refine gOn rfl ?_|refine gOff rfl rfl ?_|refine gTup rfl ?_))
  refine srange_W rfl un_S rfl ?_
  (repeat(first|refine sb ?_|refine gOn rfl ?_|refine gOff rfl rfl ?_|refine gTup rfl ?_))
  refine pLoop (MW.head good (fun x : QIt => l.length - x.p) (fun x => (l.take x.p).all plainB = true ∧ QAt s (s.next + 1) l (qO l x.p) x)
    (fun x => [(4, .slice x.base (qO l x.p).length x.cap), (9, .pointer (some ⟨s.next + 1, 0, none⟩))]) (fun x => x.s) ⟨0, _, _, _⟩ ⟨rfl, ⟨(Chg.new _).nil (.new _), Nat.le_succ _, Nat.lt_succ_self _, lkH⟩, .inr ⟨rfl, s.next, false, rfl, ?_, lkT (show s.next + 1 ≠ s.next by omega) lkH⟩, ?_⟩ (Wk.same ⟨rfl, rfl, trivial⟩) ?_)
  · show s.next < s.next + 1 + 1
    omega
  · intro i hi
    simp only [blkOf, List.mem_singleton] at hi
    omega
  intro ⟨p, s1, base, cap⟩ ⟨h0, h1, h2, h3⟩
  dsimp only at h0 h1 h2 h3 ⊢
  have hle := qO_len (l := l) p
  generalize hqo : qO l p = out at hle h2 ⊢
  (repeat(first|refine sb ?_|refine gOn rfl ?_|refine gOff rfl rfl ?_|refine gTup rfl ?_))
  refine snext_L rfl rfl h1.2.2.2 (fun he => ?_) (fun c hc h7 => ?_) (fun c r w hc h7 hr hr2 _ hw _ => ?_)
  · (repeat(first|refine sb ?_|refine gOn rfl ?_|refine gOff rfl rfl ?_|refine gTup rfl ?_))
    refine app_lit (d := 34) h2 rfl rfl rfl rfl (by omega) fun s2 o2 c2 n2 => ?_
    (repeat(first|refine sb ?_|refine gOn rfl ?_|refine gOff rfl rfl ?_|refine gTup rfl ?_))
    refine toStr_Rdb rfl (by have := o2.rdb; rw [List.length_append] at this; exact this) ?_
    (repeat(first|refine sb ?_|refine gOn rfl ?_|refine gOff rfl rfl ?_|refine gTup rfl ?_))
    have e : quoteF l = (out ++ [34], 0) := by
      unfold quoteF
      rw [← hqo, qO_end he]
      rw [List.take_of_length_le he] at h0
      rw [h0]; rfl
    rw [e]
    exact ⟨rfl, h1.1.fresh c2 fun i hi => (h3 i hi).1⟩
  · (repeat(first|refine sb ?_|refine gOn rfl ?_|refine gOff rfl rfl ?_|refine gTup rfl ?_))
    refine (plain_w (by omega)).mono fun v s2 q => ?_
    obtain ⟨rfl, rfl⟩ := q
    (repeat(first|refine sb ?_|refine gOn rfl ?_|refine gOff rfl rfl ?_|refine gTup rfl ?_))
    intro q hq
    have e : decide (32 ≤ c.toNat ∧ c.toNat ≤ 126) = plainB c := rfl
    rw [e] at hq
    have off : ∀ i ∈ blkOf base, i ∉ [s.next + 1] := fun i hi q => (h3 i hi).2 (List.mem_singleton.1 q)
    by_cases hp : plainB c = true
    · obtain rfl : q = false := by rw [hq, hp]; rfl
      (repeat(first|refine sb ?_|refine gOn rfl ?_|refine gOff rfl rfl ?_|refine gTup rfl ?_))
      intro q1 hq1
      by_cases h34 : c.toNat = 34
      · obtain rfl : q1 = true := by rw [hq1]; simp; omega
        have hn : needs c = true := by simp [needs, h34]
        (repeat(first|refine sb ?_|refine gOn rfl ?_|refine gOff rfl rfl ?_|refine gTup rfl ?_))
        refine app_lit (d := 92) (h2.chg (Chg.turn h1.2.2.1) off) rfl rfl rfl rfl (by omega) fun s2 o2 c2 n2 => ?_
        (repeat(first|refine sb ?_|refine gOn rfl ?_|refine gOff rfl rfl ?_|refine gTup rfl ?_))
        intro z hz
        rw [byte_id] at hz
        (repeat(first|refine sb ?_|refine gOn rfl ?_|refine gOff rfl rfl ?_|refine gTup rfl ?_))
        refine app_lit (d := c) o2.buf (by simp) rfl rfl hz (by omega) fun s3 o3 c3 n3 => ?_
        (repeat(first|refine sb ?_|refine gOn rfl ?_|refine gOff rfl rfl ?_|refine gTup rfl ?_))
        have a2 : At s (s.next + 1) l ⟨p + 1, s2⟩ := (h1.go (p + 1)).chg c2 h3
        have a3 : At s (s.next + 1) l ⟨p + 1, s3⟩ := a2.chg c3 fun i hi => by
          simp only [blkOf, List.mem_singleton] at hi
          have := h1.1.next
          have := h1.2.2.1
          dsimp only at *
          omega
        have eo : qO l (p + 1) = out ++ [92] ++ [c] := by rw [qO_next hc, hqo, escB, if_pos hn]; simp
        refine ⟨⟨p + 1, s3, _, 0⟩, ⟨by rw [take_next hc]; simp [h0, hp], a3, by rw [eo]; exact o3.buf, fun i hi => ?_⟩, by have : p < l.length := lt_of_get hc; show l.length - (p + 1) < l.length - p; omega, Wk.same ⟨?_, rfl, trivial⟩⟩
        · simp only [blkOf, List.mem_singleton] at hi
          have := h1.1.next
          have := h1.2.2.1
          dsimp only at *
          omega
        · show look _ 4 = _
          rw [eo, List.length_append, List.length_append]
          rfl
      · obtain rfl : q1 = false := by rw [hq1]; simp; omega
        (repeat(first|refine sb ?_|refine gOn rfl ?_|refine gOff rfl rfl ?_|refine gTup rfl ?_))
        intro q2 hq2
        by_cases h92 : c.toNat = 92
        · obtain rfl : q2 = true := by rw [hq2]; simp; omega
          have hn : needs c = true := by simp [needs, h92]
          (repeat(first|refine sb ?_|refine gOn rfl ?_|refine gOff rfl rfl ?_|refine gTup rfl ?_))
          refine app_lit (d := 92) (h2.chg (Chg.turn h1.2.2.1) off) rfl rfl rfl rfl (by omega) fun s2 o2 c2 n2 => ?_
          (repeat(first|refine sb ?_|refine gOn rfl ?_|refine gOff rfl rfl ?_|refine gTup rfl ?_))
          intro z hz
          rw [byte_id] at hz
          (repeat(first|refine sb ?_|refine gOn rfl ?_|refine gOff rfl rfl ?_|refine gTup rfl ?_))
          refine app_lit (d := c) o2.buf (by simp) rfl rfl hz (by omega) fun s3 o3 c3 n3 => ?_
          (repeat(first|refine sb ?_|refine gOn rfl ?_|refine gOff rfl rfl ?_|refine gTup rfl ?_))
          have a2 : At s (s.next + 1) l ⟨p + 1, s2⟩ := (h1.go (p + 1)).chg c2 h3
          have a3 : At s (s.next + 1) l ⟨p + 1, s3⟩ := a2.chg c3 fun i hi => by
            simp only [blkOf, List.mem_singleton] at hi
            have := h1.1.next
            have := h1.2.2.1
            dsimp only at *
            omega
          have eo : qO l (p + 1) = out ++ [92] ++ [c] := by rw [qO_next hc, hqo, escB, if_pos hn]; simp
          refine ⟨⟨p + 1, s3, _, 0⟩, ⟨by rw [take_next hc]; simp [h0, hp], a3, by rw [eo]; exact o3.buf, fun i hi => ?_⟩, by have : p < l.length := lt_of_get hc; show l.length - (p + 1) < l.length - p; omega, Wk.same ⟨?_, rfl, trivial⟩⟩
          · simp only [blkOf, List.mem_singleton] at hi
            have := h1.1.next
            have := h1.2.2.1
            dsimp only at *
            omega
          · show look _ 4 = _
            rw [eo, List.length_append, List.length_append]
            rfl
        · obtain rfl : q2 = false := by rw [hq2]; simp; omega
          have hn : needs c = false := by simp [needs, h34, h92]
          (repeat(first|refine sb ?_|refine gOn rfl ?_|refine gOff rfl rfl ?_|refine gTup rfl ?_))
          intro z hz
          rw [byte_id] at hz
          (repeat(first|refine sb ?_|refine gOn rfl ?_|refine gOff rfl rfl ?_|refine gTup rfl ?_))
          refine app_lit (d := c) (h2.chg (Chg.turn h1.2.2.1) off) rfl rfl rfl hz (by omega) fun s2 o2 c2 n2 => ?_
          (repeat(first|refine sb ?_|refine gOn rfl ?_|refine gOff rfl rfl ?_|refine gTup rfl ?_))
          have a2 : At s (s.next + 1) l ⟨p + 1, s2⟩ := (h1.go (p + 1)).chg c2 h3
          have eo : qO l (p + 1) = out ++ [c] := by rw [qO_next hc, hqo, escB, if_neg (by simp [hn])]
          refine ⟨⟨p + 1, s2, _, 0⟩, ⟨by rw [take_next hc]; simp [h0, hp], a2, by rw [eo]; exact o2.buf, fun i hi => ?_⟩, by have : p < l.length := lt_of_get hc; show l.length - (p + 1) < l.length - p; omega, Wk.same ⟨?_, rfl, trivial⟩⟩
          · simp only [blkOf, List.mem_singleton] at hi
            have := h1.1.next
            have := h1.2.2.1
            dsimp only at *
            omega
          · show look _ 4 = _
            rw [eo, List.length_append]
            rfl
    · obtain rfl : q = true := by rw [hq, plain_no hp]; rfl
      (repeat(first|refine sb ?_|refine gOn rfl ?_|refine gOff rfl rfl ?_|refine gTup rfl ?_))
      have e : quoteF l = ([], 5) := by unfold quoteF; rw [all_no hc (plain_no hp)]; rfl
      rw [e]
      exact ⟨rfl, (h1.go _).1⟩
  · (repeat(first|refine sb ?_|refine gOn rfl ?_|refine gOff rfl rfl ?_|refine gTup rfl ?_))
    refine (plain_w (by omega)).mono fun v s2 q => ?_
    obtain ⟨rfl, rfl⟩ := q
    (repeat(first|refine sb ?_|refine gOn rfl ?_|refine gOff rfl rfl ?_|refine gTup rfl ?_))
    intro q hq
    obtain rfl : q = true := by rw [hq]; simp; omega
    (repeat(first|refine sb ?_|refine gOn rfl ?_|refine gOff rfl rfl ?_|refine gTup rfl ?_))
    have e : quoteF l = ([], 5) := by unfold quoteF; rw [all_no hc (plain_hi h7)]; rfl
    rw [e]
    exact ⟨rfl, (h1.go _).1⟩

end Go.Vf.S
end
/- TxC -/
section
/- What a quoted string at the front stands for. -/
namespace Go.Vf.S
open Go Go.Vf
attribute [local irreducible] wSeq wRow wp wG
set_option linter.unusedVariables false
set_option linter.unusedSimpArgs false
set_option maxRecDepth 10000

/-- Behind the first quote, byte by byte. -/
def qd : List UInt8 → Bool → List UInt8 → Nat → List UInt8 × Nat × Nat
  | [], _, _, _ => ([], 0, 4)
  | c :: r, e, o, i => if plainB c = true then
      (if e = false ∧ c.toNat = 34 then (o, i + 2, 0) else if e = false ∧ c.toNat = 92 then qd r true o (i + 1) else qd r false (o ++ [c]) (i + 1))
    else ([], 0, 5)
def quotedF (l : List UInt8) : List UInt8 × Nat × Nat := if l.take 1 = [34] then qd (l.drop 1) false [] 0 else ([], 0, 5)
abbrev qRes (q : List UInt8 × Nat × Nat) : Value := .tuple ⟨[str q.1, .int .i64 q.2.1, .int .i64 q.2.2]⟩

structure RIt where
  p : Nat
  s : SS
  base : Option Addr
  out : List UInt8
  e : Bool

theorem quoted_w {s : SS} {l : List UInt8} (hl : l.length ≤ 1000000) : CallW pr n_text_Quoted [str l] s fun v s' => v = qRes (quotedF l) ∧ Chg s s' [] := by
  refine CallW.run good ok_text_Quoted (by simp) rfl ?_
  (try refine pSeq ?_); (repeat(first|refine sb ?_|refine gOn rfl ?_|refine gOff rfl rfl ?_|refine gTup rfl ?_))
  refine prefix_w.mono fun v s q => ?_
  obtain ⟨rfl, rfl⟩ := q
  (repeat(first|refine sb ?_|refine gOn rfl ?_|refine gOff rfl rfl ?_|refine gTup rfl ?_))
  intro q hq
  by_cases hfr : l.take 1 = [34]
  · have eF : quotedF l = qd (l.drop 1) false [] 0 := by unfold quotedF; rw [if_pos hfr]
    obtain rfl : q = false := by rw [hq]; simp [hfr]
    have h1l : 1 ≤ l.length := by
      have := congrArg List.length hfr
      simp at this
      omega
    (repeat(first|refine sb ?_|refine gOn rfl ?_|refine gOff rfl rfl ?_|refine gTup rfl ?_))
    refine ⟨by omega, ?_⟩
    intro m hm r hr
    obtain rfl : m = 1 := by omega
    have hrl : r.length ≤ 1000000 := by rw [hr]; simp; omega
    have er : r = l.drop 1 := by rw [hr, List.take_of_length_le (by simp)]
    rw [← er] at eF
    clear hr hfr
    (repeat(first|refine sb ?_|refine gOn rfl ?_|refine gOff rfl rfl ?_|refine gTup rfl ?_))
    refine srange_W rfl un_S rfl ?_
    (repeat(first|refine sb ?_|refine gOn rfl ?_|refine gOff rfl rfl ?_|refine gTup rfl ?_))
    refine pLoop (MW.head good (fun x : RIt => r.length - x.p) (fun x => qd (r.drop x.p) x.e x.out x.p = quotedF l ∧ x.p ≤ r.length ∧ x.out.length ≤ x.p ∧ At s s.next r ⟨x.p, x.s⟩ ∧ Own tB x.s x.base x.out ∧ ∀ i ∈ blkOf x.base, s.next ≤ i ∧ i ≠ s.next)
      (fun x => [(5, .slice x.base x.out.length 0), (6, .bool x.e), (14, .pointer (some ⟨s.next, 0, none⟩))]) (fun x => x.s) ⟨0, _, none, [], false⟩ ⟨eF.symm, Nat.zero_le _, Nat.zero_le _, .start s r, rfl, by simp [blkOf]⟩ (Wk.same ⟨rfl, rfl, rfl, trivial⟩) ?_)
    intro ⟨p, s1, base, out, e⟩ ⟨h0, hp, ho, h1, h2, h3⟩
    dsimp only at h0 hp ho h1 h2 h3 ⊢
    (repeat(first|refine sb ?_|refine gOn rfl ?_|refine gOff rfl rfl ?_|refine gTup rfl ?_))
    refine snext_L rfl rfl h1.2.2.2 (fun he => ?_) (fun c hc h7 => ?_) (fun c r w hc h7 hr hr2 _ hw _ => ?_)
    · (repeat(first|refine sb ?_|refine gOn rfl ?_|refine gOff rfl rfl ?_|refine gTup rfl ?_))
      rw [← h0, List.drop_of_length_le he]
      exact ⟨rfl, h1.1⟩
    · have hlt : p < r.length := lt_of_get hc
      rw [drop_next (show r[p]? = some c from hc), qd] at h0
      (repeat(first|refine sb ?_|refine gOn rfl ?_|refine gOff rfl rfl ?_|refine gTup rfl ?_))
      refine (plain_w (by omega)).mono fun v s2 q => ?_
      obtain ⟨rfl, rfl⟩ := q
      (repeat(first|refine sb ?_|refine gOn rfl ?_|refine gOff rfl rfl ?_|refine gTup rfl ?_))
      intro q hq
      have e0 : decide (32 ≤ c.toNat ∧ c.toNat ≤ 126) = plainB c := rfl
      rw [e0] at hq
      have off : ∀ i ∈ blkOf base, i ∉ [s.next] := fun i hi q => (h3 i hi).2 (List.mem_singleton.1 q)
      by_cases hpl : plainB c = true
      · obtain rfl : q = false := by rw [hq, hpl]; rfl
        rw [if_pos hpl] at h0
        (repeat(first|refine sb ?_|refine gOn rfl ?_|refine gOff rfl rfl ?_|refine gTup rfl ?_))
        intro q hq
        cases e with
        | false =>
          obtain rfl : q = true := by rw [hq]; simp <;> omega
          (repeat(first|refine sb ?_|refine gOn rfl ?_|refine gOff rfl rfl ?_|refine gTup rfl ?_))
          intro q hq
          by_cases h34 : c.toNat = 34
          · obtain rfl : q = true := by rw [hq]; simp <;> omega
            rw [if_pos ⟨rfl, h34⟩] at h0
            (repeat(first|refine sb ?_|refine gOn rfl ?_|refine gOff rfl rfl ?_|refine gTup rfl ?_))
            refine toStr_Rdb rfl (h2.chg (Chg.turn h1.2.2.1) off).rdb ?_
            (repeat(first|refine sb ?_|refine gOn rfl ?_|refine gOff rfl rfl ?_|refine gTup rfl ?_))
            intro z hz
            dsimp only at hz
            rw [i64_id (by omega)] at hz
            (repeat(first|refine sb ?_|refine gOn rfl ?_|refine gOff rfl rfl ?_|refine gTup rfl ?_))
            rw [← h0]
            refine ⟨?_, (h1.go _).1⟩
            rw [hz]
            rfl
          · obtain rfl : q = false := by rw [hq]; simp <;> omega
            rw [if_neg (fun q => h34 q.2)] at h0
            (repeat(first|refine sb ?_|refine gOn rfl ?_|refine gOff rfl rfl ?_|refine gTup rfl ?_))
            intro q hq
            obtain rfl : q = true := by rw [hq]; simp <;> omega
            (repeat(first|refine sb ?_|refine gOn rfl ?_|refine gOff rfl rfl ?_|refine gTup rfl ?_))
            intro q hq
            by_cases h92 : c.toNat = 92
            · obtain rfl : q = true := by rw [hq]; simp <;> omega
              rw [if_pos ⟨rfl, h92⟩] at h0
              (repeat(first|refine sb ?_|refine gOn rfl ?_|refine gOff rfl rfl ?_|refine gTup rfl ?_))
              exact ⟨⟨p + 1, _, base, out, true⟩, ⟨h0, hlt, by show out.length ≤ p + 1; omega, h1.go _, h2.chg (Chg.turn h1.2.2.1) off, h3⟩, by show r.length - (p + 1) < r.length - p; omega, Wk.same ⟨rfl, rfl, rfl, trivial⟩⟩
            · obtain rfl : q = false := by rw [hq]; simp <;> omega
              rw [if_neg (fun q => h92 q.2)] at h0
              (repeat(first|refine sb ?_|refine gOn rfl ?_|refine gOff rfl rfl ?_|refine gTup rfl ?_))
              intro z hz
              rw [byte_id] at hz
              (repeat(first|refine sb ?_|refine gOn rfl ?_|refine gOff rfl rfl ?_|refine gTup rfl ?_))
              refine app_lit (d := c) (h2.chg (Chg.turn h1.2.2.1) off).buf rfl rfl rfl hz (by omega) fun s2 o2 c2 n2 => ?_
              (repeat(first|refine sb ?_|refine gOn rfl ?_|refine gOff rfl rfl ?_|refine gTup rfl ?_))
              have a2 : At s s.next r ⟨p + 1, s2⟩ := (h1.go (p + 1)).chg c2 h3
              refine ⟨⟨p + 1, s2, _, out ++ [c], false⟩, ⟨h0, hlt, by simp; omega, a2, o2, fun i hi => ?_⟩, by show r.length - (p + 1) < r.length - p; omega, Wk.same ⟨?_, rfl, rfl, trivial⟩⟩
              · simp only [blkOf, List.mem_singleton] at hi
                have := h1.1.next
                have := h1.2.2.1
                dsimp only at *
                omega
              · show look _ 5 = _
                rw [List.length_append]
                rfl
        | true =>
          obtain rfl : q = false := by rw [hq]; simp <;> omega
          rw [if_neg (fun q => by cases q.1), if_neg (fun q => by cases q.1)] at h0
          (repeat(first|refine sb ?_|refine gOn rfl ?_|refine gOff rfl rfl ?_|refine gTup rfl ?_))
          intro q hq
          obtain rfl : q = false := by rw [hq]; simp <;> omega
          (repeat(first|refine sb ?_|refine gOn rfl ?_|refine gOff rfl rfl ?_|refine gTup rfl ?_))
          intro z hz
          rw [byte_id] at hz
          (repeat(first|refine sb ?_|refine gOn rfl ?_|refine gOff rfl rfl ?_|refine gTup rfl ?_))
          refine app_lit (d := c) (h2.chg (Chg.turn h1.2.2.1) off).buf rfl rfl rfl hz (by omega) fun s2 o2 c2 n2 => ?_
          (repeat(first|refine sb ?_|refine gOn rfl ?_|refine gOff rfl rfl ?_|refine gTup rfl ?_))
          have a2 : At s s.next r ⟨p + 1, s2⟩ := (h1.go (p + 1)).chg c2 h3
          refine ⟨⟨p + 1, s2, _, out ++ [c], false⟩, ⟨h0, hlt, by simp; omega, a2, o2, fun i hi => ?_⟩, by show r.length - (p + 1) < r.length - p; omega, Wk.same ⟨?_, rfl, rfl, trivial⟩⟩
          · simp only [blkOf, List.mem_singleton] at hi
            have := h1.1.next
            have := h1.2.2.1
            dsimp only at *
            omega
          · show look _ 5 = _
            rw [List.length_append]
            rfl
      · obtain rfl : q = true := by rw [hq, plain_no hpl]; rfl
        rw [if_neg hpl] at h0
        (repeat(first|refine sb ?_|refine gOn rfl ?_|refine gOff rfl rfl ?_|refine gTup rfl ?_))
        rw [← h0]
        exact ⟨rfl, (h1.go _).1⟩
    · rw [drop_next hc, qd, if_neg (by rw [plain_hi h7]; simp)] at h0
      (repeat(first|refine sb ?_|refine gOn rfl ?_|refine gOff rfl rfl ?_|refine gTup rfl ?_))
      refine (plain_w (by omega)).mono fun v s2 q => ?_
      obtain ⟨rfl, rfl⟩ := q
      (repeat(first|refine sb ?_|refine gOn rfl ?_|refine gOff rfl rfl ?_|refine gTup rfl ?_))
      intro q hq
      obtain rfl : q = true := by rw [hq]; simp <;> omega
      (repeat(first|refine sb ?_|refine gOn rfl ?_|refine gOff rfl rfl ?_|refine gTup rfl ?_))
      rw [← h0]
      exact ⟨rfl, (h1.go _).1⟩
  · have eF : quotedF l = ([], 0, 5) := by unfold quotedF; rw [if_neg hfr]
    obtain rfl : q = true := by rw [hq]; simp [hfr]
    (repeat(first|refine sb ?_|refine gOn rfl ?_|refine gOff rfl rfl ?_|refine gTup rfl ?_))
    rw [eF]
    exact ⟨rfl, .refl _ _⟩

end Go.Vf.S
end
/- TxD -/
section
/- A comment at the front. -/
namespace Go.Vf.S
open Go Go.Vf
attribute [local irreducible] wSeq wRow wp wG
set_option linter.unusedVariables false
set_option linter.unusedSimpArgs false
set_option maxRecDepth 10000

/-- Byte by byte: so deep, behind a backslash or not. -/
def cm : List UInt8 → Nat → Bool → Nat → Nat × Nat
  | [], _, _, _ => (0, 4)
  | c :: r, d, e, i =>
    if plainB c = false ∧ (e = true ∨ c.toNat ≠ 9) then (0, 5)
    else if e = true then cm r d false (i + 1)
    else if c.toNat = 92 then cm r d true (i + 1)
    else if c.toNat = 40 ∧ d = 8 then (0, 3)
    else if c.toNat = 40 then cm r (d + 1) false (i + 1)
    else if c.toNat = 41 ∧ d = 1 then (i + 1, 0)
    else if c.toNat = 41 then cm r (d - 1) false (i + 1)
    else cm r d false (i + 1)
def commentF (l : List UInt8) : Nat × Nat := if l.take 1 = [40] then cm l 0 false 0 else (0, 5)
abbrev cRes (q : Nat × Nat) : Value := .tuple ⟨[.int .i64 q.1, .int .i64 q.2]⟩

structure CIt where
  p : Nat
  s : SS
  d : Nat
  e : Bool

theorem comment_w {s : SS} {l : List UInt8} (hl : l.length ≤ 1000000) : CallW pr n_text_Comment [str l] s fun v s' => v = cRes (commentF l) ∧ Chg s s' [] := by
  refine CallW.run good ok_text_Comment (by simp) rfl ?_
  (try refine pSeq ?_); (repeat(first|refine sb ?_|refine gOn rfl ?_|refine gOff rfl rfl ?_|refine gTup rfl ?_))
  refine prefix_w.mono fun v s q => ?_
  obtain ⟨rfl, rfl⟩ := q
  (repeat(first|refine sb ?_|refine gOn rfl ?_|refine gOff rfl rfl ?_|refine gTup rfl ?_))
  intro q hq
  by_cases hfr : l.take 1 = [40]
  · have eF : commentF l = cm l 0 false 0 := by unfold commentF; rw [if_pos hfr]
    obtain rfl : q = false := by rw [hq]; simp [hfr]
    (repeat(first|refine sb ?_|refine gOn rfl ?_|refine gOff rfl rfl ?_|refine gTup rfl ?_))
    refine srange_W rfl un_S rfl ?_
    (repeat(first|refine sb ?_|refine gOn rfl ?_|refine gOff rfl rfl ?_|refine gTup rfl ?_))
    refine pLoop (MW.head good (fun x : CIt => l.length - x.p) (fun x => cm (l.drop x.p) x.d x.e x.p = commentF l ∧ x.p ≤ l.length ∧ (x.p = 0 ∧ x.e = false ∨ 1 ≤ x.d) ∧ x.d ≤ 8 ∧ At s s.next l ⟨x.p, x.s⟩)
      (fun x => [(4, .int .i64 x.d), (5, .bool x.e), (12, .pointer (some ⟨s.next, 0, none⟩))]) (fun x => x.s) ⟨0, _, 0, false⟩ ⟨eF.symm, Nat.zero_le _, .inl ⟨rfl, rfl⟩, by show 0 ≤ 8; omega, .start s l⟩ (Wk.same ⟨rfl, rfl, rfl, trivial⟩) ?_)
    intro ⟨p, s1, d, e⟩ ⟨h0, hp, hd, hd8, h1⟩
    dsimp only at h0 hp hd hd8 h1 ⊢
    (repeat(first|refine sb ?_|refine gOn rfl ?_|refine gOff rfl rfl ?_|refine gTup rfl ?_))
    refine snext_L rfl rfl h1.2.2.2 (fun he => ?_) (fun c hc h7 => ?_) (fun c r w hc h7 hr hr2 _ hw _ => ?_)
    · (repeat(first|refine sb ?_|refine gOn rfl ?_|refine gOff rfl rfl ?_|refine gTup rfl ?_))
      rw [← h0, List.drop_of_length_le he]
      exact ⟨rfl, h1.1⟩
    · have hlt : p < l.length := lt_of_get hc
      rw [drop_next (show l[p]? = some c from hc), cm] at h0
      (repeat(first|refine sb ?_|refine gOn rfl ?_|refine gOff rfl rfl ?_|refine gTup rfl ?_))
      refine (plain_w (by omega)).mono fun v s2 q => ?_
      obtain ⟨rfl, rfl⟩ := q
      (repeat(first|refine sb ?_|refine gOn rfl ?_|refine gOff rfl rfl ?_|refine gTup rfl ?_))
      have e0 : decide (32 ≤ c.toNat ∧ c.toNat ≤ 126) = plainB c := rfl
      rw [e0]
      intro q hq
      have first40 : p = 0 → c.toNat = 40 := fun hp0 => by
        subst hp0
        obtain ⟨c1, r1, rfl⟩ : ∃ c1 r1, l = c1 :: r1 := by cases l with
          | nil => simp at hlt
          | cons a b => exact ⟨a, b, rfl⟩
        simp at hfr hc
        rw [← hc, hfr]
        rfl
      by_cases hpl : plainB c = true
      · obtain rfl : q = false := by rw [hq, hpl]; rfl
        rw [if_neg (by rw [hpl]; simp)] at h0
        cases e with
        | true =>
          have hd1 : 1 ≤ d := by
            rcases hd with q0 | q0
            · cases q0.2
            · exact q0
          rw [if_pos rfl] at h0
          (repeat(first|refine sb ?_|refine gOn rfl ?_|refine gOff rfl rfl ?_|refine gTup rfl ?_))
          exact ⟨⟨p + 1, _, d, false⟩, ⟨h0, hlt, .inr (by first | (show 1 ≤ d + 1; omega) | (show 1 ≤ d - 1; omega) | (show 1 ≤ d; omega)), by first | (show d + 1 ≤ 8; omega) | (show d - 1 ≤ 8; omega) | (show d ≤ 8; omega), h1.go _⟩, by show l.length - (p + 1) < l.length - p; omega, Wk.same ⟨rfl, rfl, rfl, trivial⟩⟩
        | false =>
          rw [if_neg (by simp)] at h0
          (repeat(first|refine sb ?_|refine gOn rfl ?_|refine gOff rfl rfl ?_|refine gTup rfl ?_))
          intro q hq
          by_cases h92 : c.toNat = 92
          · obtain rfl : q = true := by rw [hq]; simp <;> omega
            rw [if_pos h92] at h0
            have hd1 : 1 ≤ d := hd.resolve_left fun q0 => by have := first40 q0.1; omega
            (repeat(first|refine sb ?_|refine gOn rfl ?_|refine gOff rfl rfl ?_|refine gTup rfl ?_))
            exact ⟨⟨p + 1, _, d, true⟩, ⟨h0, hlt, .inr (by first | (show 1 ≤ d + 1; omega) | (show 1 ≤ d - 1; omega) | (show 1 ≤ d; omega)), by first | (show d + 1 ≤ 8; omega) | (show d - 1 ≤ 8; omega) | (show d ≤ 8; omega), h1.go _⟩, by show l.length - (p + 1) < l.length - p; omega, Wk.same ⟨rfl, rfl, rfl, trivial⟩⟩
          · obtain rfl : q = false := by rw [hq]; simp <;> omega
            rw [if_neg h92] at h0
            (repeat(first|refine sb ?_|refine gOn rfl ?_|refine gOff rfl rfl ?_|refine gTup rfl ?_))
            intro q hq
            by_cases h40 : c.toNat = 40
            · obtain rfl : q = true := by rw [hq]; simp <;> omega
              (repeat(first|refine sb ?_|refine gOn rfl ?_|refine gOff rfl rfl ?_|refine gTup rfl ?_))
              intro q hq
              by_cases h8 : d = 8
              · obtain rfl : q = true := by rw [hq]; simp <;> omega
                rw [if_pos ⟨h40, h8⟩] at h0
                (repeat(first|refine sb ?_|refine gOn rfl ?_|refine gOff rfl rfl ?_|refine gTup rfl ?_))
                rw [← h0]
                exact ⟨rfl, (h1.go _).1⟩
              · obtain rfl : q = false := by rw [hq]; simp <;> omega
                rw [if_neg (fun q => h8 q.2), if_pos h40] at h0
                (repeat(first|refine sb ?_|refine gOn rfl ?_|refine gOff rfl rfl ?_|refine gTup rfl ?_))
                intro q hq
                obtain rfl : q = true := by rw [hq]; simp <;> omega
                (repeat(first|refine sb ?_|refine gOn rfl ?_|refine gOff rfl rfl ?_|refine gTup rfl ?_))
                intro z hz
                rw [i64_id (by omega)] at hz
                (repeat(first|refine sb ?_|refine gOn rfl ?_|refine gOff rfl rfl ?_|refine gTup rfl ?_))
                exact ⟨⟨p + 1, _, d + 1, false⟩, ⟨h0, hlt, .inr (by first | (show 1 ≤ d + 1; omega) | (show 1 ≤ d - 1; omega) | (show 1 ≤ d; omega)), by first | (show d + 1 ≤ 8; omega) | (show d - 1 ≤ 8; omega) | (show d ≤ 8; omega), h1.go _⟩, by show l.length - (p + 1) < l.length - p; omega, Wk.same ⟨by show some (Value.int .i64 z) = _; rw [hz]; rfl, rfl, rfl, trivial⟩⟩
            · obtain rfl : q = false := by rw [hq]; simp <;> omega
              rw [if_neg (fun q => h40 q.1), if_neg h40] at h0
              have hd1 : 1 ≤ d := hd.resolve_left fun q0 => by have := first40 q0.1; omega
              (repeat(first|refine sb ?_|refine gOn rfl ?_|refine gOff rfl rfl ?_|refine gTup rfl ?_))
              intro q hq
              obtain rfl : q = false := by rw [hq]; simp <;> omega
              (repeat(first|refine sb ?_|refine gOn rfl ?_|refine gOff rfl rfl ?_|refine gTup rfl ?_))
              intro q hq
              by_cases h41 : c.toNat = 41
              · obtain rfl : q = true := by rw [hq]; simp <;> omega
                (repeat(first|refine sb ?_|refine gOn rfl ?_|refine gOff rfl rfl ?_|refine gTup rfl ?_))
                intro q hq
                by_cases h1d : d = 1
                · obtain rfl : q = true := by rw [hq]; simp <;> omega
                  rw [if_pos ⟨h41, h1d⟩] at h0
                  (repeat(first|refine sb ?_|refine gOn rfl ?_|refine gOff rfl rfl ?_|refine gTup rfl ?_))
                  intro z hz
                  dsimp only at hz
                  rw [i64_id (by omega)] at hz
                  (repeat(first|refine sb ?_|refine gOn rfl ?_|refine gOff rfl rfl ?_|refine gTup rfl ?_))
                  rw [← h0, hz]
                  exact ⟨rfl, (h1.go _).1⟩
                · obtain rfl : q = false := by rw [hq]; simp <;> omega
                  rw [if_neg (fun q => h1d q.2), if_pos h41] at h0
                  (repeat(first|refine sb ?_|refine gOn rfl ?_|refine gOff rfl rfl ?_|refine gTup rfl ?_))
                  intro q hq
                  obtain rfl : q = true := by rw [hq]; simp <;> omega
                  (repeat(first|refine sb ?_|refine gOn rfl ?_|refine gOff rfl rfl ?_|refine gTup rfl ?_))
                  intro z hz
                  rw [i64_id (by omega)] at hz
                  (repeat(first|refine sb ?_|refine gOn rfl ?_|refine gOff rfl rfl ?_|refine gTup rfl ?_))
                  exact ⟨⟨p + 1, _, d - 1, false⟩, ⟨h0, hlt, .inr (by first | (show 1 ≤ d + 1; omega) | (show 1 ≤ d - 1; omega) | (show 1 ≤ d; omega)), by first | (show d + 1 ≤ 8; omega) | (show d - 1 ≤ 8; omega) | (show d ≤ 8; omega), h1.go _⟩, by show l.length - (p + 1) < l.length - p; omega, Wk.same ⟨by show some (Value.int .i64 z) = some (Value.int .i64 ((d - 1 : Nat) : Int)); rw [hz]; congr 2; omega, rfl, rfl, trivial⟩⟩
              · obtain rfl : q = false := by rw [hq]; simp <;> omega
                rw [if_neg (fun q => h41 q.1), if_neg h41] at h0
                (repeat(first|refine sb ?_|refine gOn rfl ?_|refine gOff rfl rfl ?_|refine gTup rfl ?_))
                intro q hq
                obtain rfl : q = false := by rw [hq]; simp <;> omega
                (repeat(first|refine sb ?_|refine gOn rfl ?_|refine gOff rfl rfl ?_|refine gTup rfl ?_))
                exact ⟨⟨p + 1, _, d, false⟩, ⟨h0, hlt, .inr (by first | (show 1 ≤ d + 1; omega) | (show 1 ≤ d - 1; omega) | (show 1 ≤ d; omega)), by first | (show d + 1 ≤ 8; omega) | (show d - 1 ≤ 8; omega) | (show d ≤ 8; omega), h1.go _⟩, by show l.length - (p + 1) < l.length - p; omega, Wk.same ⟨rfl, rfl, rfl, trivial⟩⟩
      · obtain rfl : q = true := by rw [hq, plain_no hpl]; rfl
        cases e with
        | true =>
          rw [if_pos ⟨plain_no hpl, .inl rfl⟩] at h0
          (repeat(first|refine sb ?_|refine gOn rfl ?_|refine gOff rfl rfl ?_|refine gTup rfl ?_))
          rw [← h0]
          exact ⟨rfl, (h1.go _).1⟩
        | false =>
          (repeat(first|refine sb ?_|refine gOn rfl ?_|refine gOff rfl rfl ?_|refine gTup rfl ?_))
          intro q hq
          by_cases h9 : c.toNat = 9
          · obtain rfl : q = false := by rw [hq]; simp <;> omega
            have hd1 : 1 ≤ d := hd.resolve_left fun q0 => by have := first40 q0.1; omega
            rw [if_neg (fun q => q.2.elim (fun x => by cases x) fun x => x h9), if_neg (by simp), if_neg (by omega), if_neg (fun q => by omega), if_neg (by omega), if_neg (fun q => by omega), if_neg (by omega)] at h0
            (repeat(first|refine sb ?_|refine gOn rfl ?_|refine gOff rfl rfl ?_|refine gTup rfl ?_))
            intro q hq
            obtain rfl : q = false := by rw [hq]; simp <;> omega
            (repeat(first|refine sb ?_|refine gOn rfl ?_|refine gOff rfl rfl ?_|refine gTup rfl ?_))
            intro q hq
            obtain rfl : q = false := by rw [hq]; simp <;> omega
            (repeat(first|refine sb ?_|refine gOn rfl ?_|refine gOff rfl rfl ?_|refine gTup rfl ?_))
            intro q hq
            obtain rfl : q = false := by rw [hq]; simp <;> omega
            (repeat(first|refine sb ?_|refine gOn rfl ?_|refine gOff rfl rfl ?_|refine gTup rfl ?_))
            intro q hq
            obtain rfl : q = false := by rw [hq]; simp <;> omega
            (repeat(first|refine sb ?_|refine gOn rfl ?_|refine gOff rfl rfl ?_|refine gTup rfl ?_))
            intro q hq
            obtain rfl : q = false := by rw [hq]; simp <;> omega
            (repeat(first|refine sb ?_|refine gOn rfl ?_|refine gOff rfl rfl ?_|refine gTup rfl ?_))
            exact ⟨⟨p + 1, _, d, false⟩, ⟨h0, hlt, .inr (by first | (show 1 ≤ d + 1; omega) | (show 1 ≤ d - 1; omega) | (show 1 ≤ d; omega)), by first | (show d + 1 ≤ 8; omega) | (show d - 1 ≤ 8; omega) | (show d ≤ 8; omega), h1.go _⟩, by show l.length - (p + 1) < l.length - p; omega, Wk.same ⟨rfl, rfl, rfl, trivial⟩⟩
          · obtain rfl : q = true := by rw [hq]; simp <;> omega
            rw [if_pos ⟨plain_no hpl, .inr h9⟩] at h0
            (repeat(first|refine sb ?_|refine gOn rfl ?_|refine gOff rfl rfl ?_|refine gTup rfl ?_))
            rw [← h0]
            exact ⟨rfl, (h1.go _).1⟩
    · rw [drop_next hc, cm] at h0
      (repeat(first|refine sb ?_|refine gOn rfl ?_|refine gOff rfl rfl ?_|refine gTup rfl ?_))
      refine (plain_w (by omega)).mono fun v s2 q => ?_
      obtain ⟨rfl, rfl⟩ := q
      (repeat(first|refine sb ?_|refine gOn rfl ?_|refine gOff rfl rfl ?_|refine gTup rfl ?_))
      intro q hq
      obtain rfl : q = true := by rw [hq]; simp <;> omega
      rw [if_pos ⟨plain_hi h7, .inr (by omega)⟩] at h0
      cases e
      · (repeat(first|refine sb ?_|refine gOn rfl ?_|refine gOff rfl rfl ?_|refine gTup rfl ?_))
        intro q hq
        obtain rfl : q = true := by rw [hq]; simp <;> omega
        (repeat(first|refine sb ?_|refine gOn rfl ?_|refine gOff rfl rfl ?_|refine gTup rfl ?_))
        rw [← h0]
        exact ⟨rfl, (h1.go _).1⟩
      · (repeat(first|refine sb ?_|refine gOn rfl ?_|refine gOff rfl rfl ?_|refine gTup rfl ?_))
        rw [← h0]
        exact ⟨rfl, (h1.go _).1⟩
  · have eF : commentF l = (0, 5) := by unfold commentF; rw [if_neg hfr]
    obtain rfl : q = true := by rw [hq]; simp [hfr]
    (repeat(first|refine sb ?_|refine gOn rfl ?_|refine gOff rfl rfl ?_|refine gTup rfl ?_))
    rw [eF]
    exact ⟨rfl, .refl _ _⟩
end Go.Vf.S
end
/- TxE -/
section
/- The document's comment at the front. -/
namespace Go.Vf.S
open Go Go.Vf
attribute [local irreducible] wSeq wRow wp wG
set_option linter.unusedVariables false
set_option linter.unusedSimpArgs false
set_option maxRecDepth 10000

end Go.Vf.S
end
/- TxF -/
section
/- Sets of bytes; what is taken off a text's ends. -/
namespace Go.Vf.S
open Go Go.Vf
attribute [local irreducible] wSeq wRow wp wG
set_option linter.unusedVariables false
set_option linter.unusedSimpArgs false
set_option maxRecDepth 10000

abbrev tA : TypeId := 149
/-- A set of bytes, laid out. -/
def tab (f : Nat → Bool) : List Value := (List.range 256).map fun i => .bool (f i)
theorem tab_len (f : Nat → Bool) : (tab f).length = 256 := by simp [tab]
theorem tab_get {f : Nat → Bool} {i : Nat} (h : i < 256) : (tab f)[i]? = some (.bool (f i)) := by simp [tab, h]
theorem tab_take (f : Nat → Bool) : takeN 256 ((tab f).drop 0) = some (tab f) := by
  rw [List.drop_zero, takeN_take _ _ (by rw [tab_len]; omega), List.take_of_length_le (by rw [tab_len]; omega)]
theorem setRow_one : ∀ {l : List Value} {i : Nat} {v : Value}, i < l.length → setRow l i [v] = some (l.set i v)
  | x :: l, 0, v, _ => by cases l <;> rfl
  | x :: l, i + 1, v, h => by simp only [setRow, setRow_one (show i < l.length by simpa using h), List.set_cons_succ]
theorem setRow_all : ∀ {l m : List Value}, l.length = m.length → setRow l 0 m = some m
  | [], [], _ => rfl
  | x :: l, y :: m, h => by simp only [setRow, setRow_all (l := l) (m := m) (by simpa using h)]
theorem flat_tab (f : Nat → Bool) : flat (.agg ⟨tab f⟩) = tab f := rfl
theorem tab_set {f : Nat → Bool} {i : Nat} (h : i < 256) : setRow (tab f) i [.bool true] = some (tab fun k => f k || k == i) := by
  rw [setRow_one (by rw [tab_len]; exact h)]
  congr 1
  apply List.ext_getElem? fun j => ?_
  rw [List.getElem?_set, tab_len]
  by_cases q : j < 256
  · rw [tab_get q]
    by_cases e : i = j
    · subst e; rw [tab_get h]; simp [h]
    · rw [if_neg e, tab_get q]; simp [Ne.symm e]
  · rw [List.getElem?_eq_none (by rw [tab_len]; omega), if_neg (by omega), List.getElem?_eq_none (by rw [tab_len]; omega)]
theorem tab_all1 (f : Nat → Bool) : (Nat.beq (flat (.agg ⟨tab f⟩)).length 256 && all1 (flat (.agg ⟨tab f⟩))) = true := by
  rw [flat_tab, tab_len]
  have : ∀ l : List Nat, all1 (l.map fun i => Value.bool (f i)) = true := fun l => by
    induction l with
    | nil => rfl
    | cons a l ih => exact ih
  exact this _
theorem tab_row (f g : Nat → Bool) : setRow (tab f) 0 (flat (.agg ⟨tab g⟩)) = some (tab g) := by
  rw [flat_tab]
  exact setRow_all (by rw [tab_len, tab_len])

def inB (k : List UInt8) (i : Nat) : Bool := k.any fun c => c.toNat == i

theorem contains_w {s : SS} {f : Nat → Bool} {b : Nat} {g r : Bool} {c : UInt8} (hb : lookH s.heap b = some (.cells (tab f) tA g r)) :
    CallW pr n_strings_asciiSet_contains [.pointer (some ⟨b, 0, none⟩), .int .u8 c.toNat] s fun v s' => v = .bool (f c.toNat) ∧ s' = s := by
  refine CallW.run good ok_strings_asciiSet_contains (by simp) rfl ?_
  (try refine pSeq ?_); (repeat refine sb ?_)
  have hc := c.toNat_lt
  refine ⟨by omega, ?_⟩
  intro m hm o ho
  obtain rfl : m = c.toNat := by omega
  (repeat refine sb ?_)
  refine ldB_is rfl hb (by rw [ho, Nat.zero_add, Nat.mul_one]; exact tab_get (by omega)) ?_
  (repeat refine sb ?_)
  exact ⟨rfl, rfl⟩

structure SIt where
  i : Nat
  s : SS

theorem makeSet_w {s : SS} {k : List UInt8} (hk : k.length ≤ 1000000) (h7 : ∀ c ∈ k, c.toNat < 128) :
    CallW pr n_strings_makeASCIISet [str k] s fun v s' => v = .tuple ⟨[.agg ⟨tab (inB k)⟩, .bool true]⟩ ∧ Chg s s' [] := by
  refine CallW.run good ok_strings_makeASCIISet (by simp) rfl ?_
  (try refine pSeq ?_); (repeat refine sb ?_)
  refine pLoop (MW.head good (fun x : SIt => k.length - x.i) (fun x => x.i ≤ k.length ∧ Chg s x.s [] ∧ s.next < x.s.next ∧ lookH x.s.heap s.next = some (.cells (tab (inB (k.take x.i))) tA false false))
    (fun x => [(0, str k), (2, .pointer (some ⟨s.next, 0, none⟩)), (4, .int .i64 x.i)]) (fun x => x.s) ⟨0, _⟩ ⟨Nat.zero_le _, .new _, Nat.lt_succ_self _, lkH⟩ (Wk.same ⟨rfl, rfl, rfl, trivial⟩) ?_)
  intro ⟨i, s1⟩ ⟨hi, h1, h2, h3⟩
  dsimp only at hi h1 h2 h3 ⊢
  (repeat refine sb ?_)
  intro n hn
  (repeat refine sb ?_)
  intro q hq
  by_cases hlt : i < k.length
  · obtain rfl : q = true := by rw [hq]; simp <;> omega
    obtain ⟨c, hc⟩ : ∃ c, k[i]? = some c := ⟨_, List.getElem?_eq_getElem hlt⟩
    have hc7 := h7 c (List.mem_of_getElem? hc)
    (repeat refine sb ?_)
    refine ⟨by omega, ?_⟩
    intro m hm
    obtain rfl : m = i := by omega
    refine ⟨c, hc, ?_⟩
    (repeat refine sb ?_)
    intro q hq
    obtain rfl : q = false := by rw [hq]; simp <;> omega
    (repeat refine sb ?_)
    refine ⟨by omega, ?_⟩
    intro m2 hm2 o ho
    obtain rfl : m2 = c.toNat := by omega
    (repeat refine sb ?_)
    refine st_abs rfl rfl h3 h2 rfl (by rw [ho, Nat.zero_add, Nat.mul_one]; exact tab_set (by omega)) fun s2 e2 c2 n2 => ?_
    (repeat refine sb ?_)
    intro z hz
    rw [i64_id (by omega)] at hz
    obtain rfl : z = ((m + 1 : Nat) : Int) := by omega
    (repeat refine sb ?_)
    refine ⟨⟨m + 1, s2⟩, ⟨hlt, h1.fresh c2 (by simp), by show s.next < s2.next; omega, ?_⟩, by show k.length - (m + 1) < k.length - m; omega, Wk.same ⟨rfl, rfl, rfl, trivial⟩⟩
    rw [e2, take_next hc]
    congr 3
    funext j
    simp only [inB, List.any_append, List.any_cons, List.any_nil, Bool.or_false]
    congr 1
    rw [Bool.eq_iff_iff, beq_iff_eq, beq_iff_eq]
    exact eq_comm
  · obtain rfl : q = false := by rw [hq]; simp <;> omega
    (repeat refine sb ?_)
    refine ldN_is rfl h3 (tab_take _) ?_
    (repeat refine sb ?_)
    refine st_abs rfl rfl h3 h2 (tab_all1 _) (tab_row _ _) fun s2 e2 c2 n2 => ?_
    (repeat refine sb ?_)
    refine ret_cell (n := 256) (by kernel_rfl) (by kernel_rfl) rfl e2 (tab_take _) rfl ⟨?_, h1.fresh c2 (by simp)⟩
    rw [List.take_of_length_le (by omega)]

theorem trimL_w {s : SS} {f : Nat → Bool} {b : Nat} {g r : Bool} {l : List UInt8} (hl : l.length ≤ 1000000) (hb : lookH s.heap b = some (.cells (tab f) tA g r)) :
    CallW pr n_strings_trimLeftASCII [str l, .pointer (some ⟨b, 0, none⟩)] s fun v s' => v = str (l.dropWhile fun c => f c.toNat) ∧ s' = s := by
  refine CallW.run good ok_strings_trimLeftASCII (by simp) rfl ?_
  (try refine pSeq ?_); (repeat refine sb ?_)
  refine pLoop (MW.head good (fun x : List UInt8 => x.length) (fun x => x.length ≤ l.length ∧ (x.dropWhile fun c => f c.toNat) = l.dropWhile fun c => f c.toNat)
    (fun x => [(0, str x), (1, .pointer (some ⟨b, 0, none⟩))]) (fun x => s) l ⟨Nat.le_refl _, rfl⟩ (Wk.same ⟨rfl, rfl, trivial⟩) ?_)
  intro x ⟨hx, h0⟩
  (repeat refine sb ?_)
  intro n hn
  (repeat refine sb ?_)
  intro q hq
  cases x with
  | nil =>
    obtain rfl : q = false := by rw [hq, hn]; rfl
    (repeat refine sb ?_)
    rw [← h0]
    exact ⟨rfl, rfl⟩
  | cons c x =>
    obtain rfl : q = true := by rw [hq, hn]; simp <;> omega
    (repeat refine sb ?_)
    refine ⟨by simp, ?_⟩
    intro m hm
    obtain rfl : m = 0 := by omega
    refine ⟨c, rfl, ?_⟩
    (repeat refine sb ?_)
    refine (contains_w hb).mono fun v s q => ?_
    obtain ⟨rfl, rfl⟩ := q
    (repeat refine sb ?_)
    intro q hq
    rw [List.dropWhile_cons] at h0
    by_cases hf : f c.toNat = true
    · obtain rfl : q = false := by rw [hq, hf]; rfl
      rw [if_pos hf] at h0
      (repeat refine sb ?_)
      refine ⟨by simp; omega, ?_⟩
      intro m hm r hr
      obtain rfl : m = 1 := by omega
      have er : r = x := by rw [hr]; simp
      subst er
      (repeat refine sb ?_)
      exact ⟨r, ⟨by simp at hx; omega, h0⟩, by show r.length < (c :: r).length; simp, Wk.same ⟨rfl, rfl, trivial⟩⟩
    · obtain rfl : q = true := by rw [hq]; simp [hf]
      rw [if_neg hf] at h0
      (repeat refine sb ?_)
      rw [← h0]
      exact ⟨rfl, rfl⟩

/-- White space. -/
def wh (c : UInt8) : Bool := decide (c.toNat = 32 ∨ c.toNat = 9)

theorem trimLeft_w {s : SS} {l : List UInt8} (hl : l.length ≤ 1000000) :
    CallW pr n_strings_TrimLeft [str l, .string ⟨#[32, 9]⟩] s fun v s' => v = str (l.dropWhile wh) ∧ Chg s s' [] := by
  refine CallW.run good ok_strings_TrimLeft (by simp) rfl ?_
  (try refine pSeq ?_); (repeat(first|refine sb ?_|refine gOn rfl ?_|refine gOff rfl rfl ?_|refine gTup rfl ?_))
  intro q hq
  by_cases h0 : l = []
  · subst h0
    obtain rfl : q = true := by rw [hq]; rfl
    (repeat(first|refine sb ?_|refine gOn rfl ?_|refine gOff rfl rfl ?_|refine gTup rfl ?_))
    exact ⟨rfl, .refl _ _⟩
  · obtain rfl : q = false := by rw [hq]; simp [h0]
    (repeat(first|refine sb ?_|refine gOn rfl ?_|refine gOff rfl rfl ?_|refine gTup rfl ?_))
    intro q hq
    obtain rfl : q = false := by rw [hq]; rfl
    (repeat(first|refine sb ?_|refine gOn rfl ?_|refine gOff rfl rfl ?_|refine gTup rfl ?_))
    intro n hn
    (repeat(first|refine sb ?_|refine gOn rfl ?_|refine gOff rfl rfl ?_|refine gTup rfl ?_))
    intro q hq
    obtain rfl : q = false := by rw [hq, hn]; rfl
    (repeat(first|refine sb ?_|refine gOn rfl ?_|refine gOff rfl rfl ?_|refine gTup rfl ?_))
    refine (makeSet_w (k := [32, 9]) (by simp) (by simp)).mono fun v s1 q => ?_
    obtain ⟨rfl, c1⟩ := q
    (repeat(first|refine sb ?_|refine gOn rfl ?_|refine gOff rfl rfl ?_|refine gTup rfl ?_))
    have n1 := c1.next
    refine st_abs (cs := tab fun _ => false) rfl rfl lkH (Nat.lt_succ_self _) (tab_all1 _) (tab_row _ _) fun s2 e2 c2 n2 => ?_
    (repeat(first|refine sb ?_|refine gOn rfl ?_|refine gOff rfl rfl ?_|refine gTup rfl ?_))
    refine (trimL_w hl e2).mono fun v s q => ?_
    obtain ⟨rfl, rfl⟩ := q
    (repeat(first|refine sb ?_|refine gOn rfl ?_|refine gOff rfl rfl ?_|refine gTup rfl ?_))
    refine ⟨?_, (c1.nil (.new [])).fresh c2 (by simp; omega)⟩
    show str _ = str _
    congr 4
    funext c
    rw [Bool.eq_iff_iff]
    simp only [inB, wh, List.any_cons, List.any_nil, Bool.or_false, Bool.or_eq_true, beq_iff_eq, decide_eq_true_eq]
    have e1 : (32 : UInt8).toNat = 32 := rfl
    have e2 : (9 : UInt8).toNat = 9 := rfl
    omega
end Go.Vf.S
end
/- TxG -/
section
/- White space and comments at the front. -/
namespace Go.Vf.S
open Go Go.Vf
attribute [local irreducible] wSeq wRow wp wG
set_option linter.unusedVariables false
set_option linter.unusedSimpArgs false
set_option maxRecDepth 10000

def bl : Nat → List UInt8 → Nat → Nat × Nat
  | 0, _, a => (a, 0)
  | f + 1, l, a =>
    if (l.dropWhile wh).take 1 = [40] then
      (if (commentF (l.dropWhile wh)).2 = 0 then bl f ((l.dropWhile wh).drop (commentF (l.dropWhile wh)).1) (a + (l.length - (l.dropWhile wh).length) + (commentF (l.dropWhile wh)).1) else (0, (commentF (l.dropWhile wh)).2))
    else (a + (l.length - (l.dropWhile wh).length), 0)
def blankF (l : List UInt8) : Nat × Nat := bl (l.length + 1) l 0

theorem dropW_len (l : List UInt8) : (l.dropWhile wh).length ≤ l.length := (List.dropWhile_sublist wh).length_le
theorem dropW (l : List UInt8) : l.dropWhile wh = l.drop (l.length - (l.dropWhile wh).length) := by
  obtain ⟨t, ht⟩ := List.dropWhile_suffix (l := l) wh
  have e := congrArg List.length ht
  rw [List.length_append] at e
  rw [show l.length - (l.dropWhile wh).length = t.length by omega]
  conv => rhs; rw [← ht]
  rw [List.drop_left]

theorem cm_pos : ∀ (l : List UInt8) (d : Nat) (e : Bool) (i n : Nat), cm l d e i = (n, 0) → i < n ∧ n ≤ i + l.length
  | [], d, e, i, n, h => by simp [cm] at h
  | c :: r, d, e, i, n, h => by
    have ih := fun d e n h => cm_pos r d e (i + 1) n h
    rw [cm] at h
    simp only [List.length_cons]
    split at h
    · cases h
    · repeat' split at h
      all_goals first | (have := ih _ _ _ h; omega) | (cases h; omega) | cases h
theorem comment_pos {l : List UInt8} (h : (commentF l).2 = 0) : 0 < (commentF l).1 ∧ (commentF l).1 ≤ l.length := by
  unfold commentF at h ⊢
  split at h
  · rename_i q
    rw [if_pos q]
    have := cm_pos l 0 false 0 (cm l 0 false 0).1 (Prod.ext rfl h)
    omega
  · cases h

theorem bl_nil {f a : Nat} (hf : 0 < f) : bl f [] a = (a, 0) := by
  cases f with
  | zero => omega
  | succ f => simp [bl]
theorem bl_wh {f a : Nat} {c : UInt8} {r : List UInt8} (hf : 0 < f) (h : wh c = true) : bl f (c :: r) a = bl f r (a + 1) := by
  cases f with
  | zero => omega
  | succ f =>
    have e : (c :: r).dropWhile wh = r.dropWhile wh := by rw [List.dropWhile_cons, if_pos h]
    have := dropW_len r
    rw [bl, bl, e, List.length_cons, show a + (r.length + 1 - (r.dropWhile wh).length) = a + 1 + (r.length - (r.dropWhile wh).length) by omega]
theorem bl_no {f a : Nat} {c : UInt8} {r : List UInt8} (hf : 0 < f) (h : wh c = false) (h40 : c.toNat ≠ 40) : bl f (c :: r) a = (a, 0) := by
  cases f with
  | zero => omega
  | succ f =>
    have e : (c :: r).dropWhile wh = c :: r := by rw [List.dropWhile_cons, if_neg (by simp [h])]
    rw [bl, e, if_neg (by simp; intro q; exact h40 (by rw [q]; rfl))]
    simp
theorem bl_open {f a : Nat} {c : UInt8} {r : List UInt8} (h40 : c.toNat = 40) : bl (f + 1) (c :: r) a = if (commentF (c :: r)).2 = 0 then bl f ((c :: r).drop (commentF (c :: r)).1) (a + (commentF (c :: r)).1) else (0, (commentF (c :: r)).2) := by
  have hw : wh c = false := by unfold wh; simp; omega
  have e : (c :: r).dropWhile wh = c :: r := by rw [List.dropWhile_cons, if_neg (by simp [hw])]
  rw [bl, e, if_pos (by simp; exact UInt8.toNat_inj.1 h40), Nat.sub_self, Nat.add_zero]

structure BIt where
  f : Nat
  m : Nat
  s : SS

theorem blank_w {s : SS} {l : List UInt8} (hl : l.length ≤ 1000000) : CallW pr n_text_Blank [str l] s fun v s' => v = cRes (blankF l) ∧ Chg s s' [] := by
  refine CallW.run good ok_text_Blank (by simp) rfl ?_
  (try refine pSeq ?_); (repeat refine sb ?_)
  refine pLoop (MW.head good (fun x : BIt => x.f) (fun x => bl x.f (l.drop x.m) x.m = blankF l ∧ x.m ≤ l.length ∧ l.length - x.m < x.f ∧ Chg s x.s [])
    (fun x => [(0, str l), (2, .int .i64 x.m)]) (fun x => x.s) ⟨l.length + 1, 0, s⟩ ⟨rfl, Nat.zero_le _, Nat.lt_succ_self _, .refl _ _⟩ (Wk.same ⟨rfl, rfl, trivial⟩) ?_)
  intro ⟨f, m, s1⟩ ⟨h0, hm, hf, c1⟩
  dsimp only at h0 hm hf c1 ⊢
  cases f with
  | zero => omega
  | succ f =>
  rw [bl] at h0
  have hdl : (l.drop m).length = l.length - m := List.length_drop
  have hrl := dropW_len (l.drop m)
  have hr := dropW (l.drop m)
  generalize hrw : (l.drop m).dropWhile wh = r at h0 hrl hr
  (repeat refine sb ?_)
  refine ⟨by omega, ?_⟩
  intro m2 hm2 d hd
  obtain rfl : m2 = m := by omega
  have ed : d = l.drop m2 := by rw [hd, List.take_of_length_le (by omega)]
  clear hd
  subst ed
  (repeat refine sb ?_)
  refine (trimLeft_w (by omega)).mono fun v s2 q => ?_
  obtain ⟨rfl, c2⟩ := q
  rw [show (l.drop m2).dropWhile wh = r from hrw]
  (repeat refine sb ?_)
  intro n1 hn1
  (repeat refine sb ?_)
  intro n2 hn2
  (repeat refine sb ?_)
  intro z hz
  rw [i64_id (by omega)] at hz
  have hz' : z = ((l.length - r.length : Nat) : Int) := by omega
  subst hz'
  have ez : m2 + ((l.drop m2).length - r.length) = l.length - r.length := by omega
  rw [ez] at h0
  clear hz
  (repeat refine sb ?_)
  refine prefix_w.mono fun v s3 q => ?_
  obtain ⟨rfl, rfl⟩ := q
  (repeat refine sb ?_)
  intro q hq
  by_cases hfr : r.take 1 = [40]
  · obtain rfl : q = false := by rw [hq]; simp [hfr]
    rw [if_pos hfr] at h0
    (repeat refine sb ?_)
    refine (comment_w (by omega)).mono fun v s4 q => ?_
    obtain ⟨rfl, c4⟩ := q
    (repeat refine sb ?_)
    intro b hb
    have c04 := (c1.nil c2).nil c4
    by_cases he : (commentF r).2 = 0
    · obtain rfl : b = false := by rw [hb]; simp; omega
      have hpos := comment_pos he
      rw [if_pos he] at h0
      (repeat refine sb ?_)
      intro z hz
      rw [i64_id (by omega)] at hz
      obtain rfl : z = ((l.length - r.length + (commentF r).1 : Nat) : Int) := by omega
      (repeat refine sb ?_)
      have er : r.drop (commentF r).1 = l.drop (l.length - r.length + (commentF r).1) := by
        have hrd : r = l.drop (l.length - r.length) := hr.trans (by rw [List.drop_drop, hdl]; congr 1; omega)
        exact (congrArg (List.drop (commentF r).1) hrd).trans (by rw [List.drop_drop])
      refine ⟨⟨f, l.length - r.length + (commentF r).1, s4⟩, ⟨by rw [← er]; exact h0, ?_, ?_, c04⟩, Nat.lt_succ_self _, Wk.same ⟨rfl, rfl, trivial⟩⟩
      · show l.length - r.length + (commentF r).1 ≤ l.length
        omega
      · show l.length - (l.length - r.length + (commentF r).1) < f
        omega
    · obtain rfl : b = true := by rw [hb]; simp; omega
      rw [if_neg he] at h0
      (repeat refine sb ?_)
      rw [← h0]
      exact ⟨rfl, c04⟩
  · obtain rfl : q = true := by rw [hq]; simp [hfr]
    rw [if_neg hfr] at h0
    (repeat refine sb ?_)
    rw [← h0]
    exact ⟨rfl, c1.nil c2⟩

end Go.Vf.S
end
/- TxH -/
section
/- The chapter's rows. -/
namespace Go.Vf.S
open Go Go.Vf
attribute [local irreducible] wSeq wRow wp wG
set_option linter.unusedVariables false
set_option linter.unusedSimpArgs false
set_option maxRecDepth 10000

end Go.Vf.S
end
/- TxJ -/
section
/- There and back. -/
namespace Go.Vf.S
open Go Go.Vf
attribute [local irreducible] wSeq wRow wp wG
set_option linter.unusedVariables false
set_option linter.unusedSimpArgs false
set_option maxRecDepth 10000

def eL (l : List UInt8) : Nat := (l.flatMap escB).length
theorem esc_one (c : UInt8) : (escB c).length = if needs c then 2 else 1 := by unfold escB; split <;> rfl
theorem eL_cons (c : UInt8) (l : List UInt8) : eL (c :: l) = (escB c).length + eL l := by simp [eL]
theorem eL_append (a b : List UInt8) : eL (a ++ b) = eL a + eL b := by simp [eL]
theorem plain_34 {c : UInt8} (h : c.toNat = 34) : plainB c = true := by unfold plainB; simp; omega
theorem plain_92 {c : UInt8} (h : c.toNat = 92) : plainB c = true := by unfold plainB; simp; omega

/-- What was quoted, read again. -/
theorem qd_esc : ∀ (l o r : List UInt8) (i : Nat), l.all plainB = true → qd (l.flatMap escB ++ 34 :: r) false o i = (o ++ l, i + eL l + 2, 0)
  | [], o, r, i, _ => by
    have h34 : (34 : UInt8).toNat = 34 := rfl
    show qd (34 :: r) false o i = _
    rw [qd, if_pos (plain_34 h34), if_pos ⟨rfl, h34⟩, List.append_nil]
    rfl
  | c :: l, o, r, i, h => by
    rw [List.all_cons, Bool.and_eq_true] at h
    rw [List.flatMap_cons, List.append_assoc, eL_cons]
    by_cases hn : needs c = true
    · have e : escB c = [92, c] := by unfold escB; rw [if_pos hn]
      have h92 : (92 : UInt8).toNat = 92 := rfl
      rw [e]
      show qd (92 :: c :: (l.flatMap escB ++ 34 :: r)) false o i = _
      rw [qd, if_pos (plain_92 h92), if_neg (fun q => by omega), if_pos ⟨rfl, h92⟩, qd, if_pos h.1, if_neg (fun q => by cases q.1), if_neg (fun q => by cases q.1), qd_esc l _ r _ h.2]
      simp only [List.append_assoc, List.singleton_append, List.length_cons, List.length_nil, Prod.mk.injEq, true_and, and_true]
      omega
    · have e : escB c = [c] := by unfold escB; rw [if_neg hn]
      have hc : ¬c.toNat = 34 ∧ ¬c.toNat = 92 := by simpa [needs] using hn
      rw [e]
      show qd (c :: (l.flatMap escB ++ 34 :: r)) false o i = _
      rw [qd, if_pos h.1, if_neg (fun q => hc.1 q.2), if_neg (fun q => hc.2 q.2), qd_esc l _ r _ h.2]
      simp only [List.append_assoc, List.singleton_append, List.length_cons, List.length_nil, Prod.mk.injEq, true_and, and_true]
      omega

/-- What is told of a text that is quoted: plain, no longer than it stood there. -/
theorem qd_is : ∀ (l : List UInt8) (e : Bool) (o : List UInt8) (i : Nat) (t : List UInt8) (n : Nat), o.all plainB = true → qd l e o i = (t, n, 0) →
    t.all plainB = true ∧ i + 2 ≤ n ∧ n ≤ i + 1 + l.length ∧ l[n - 2 - i]? = some 34 ∧ eL t + i + (if e then 1 else 2) ≤ n + eL o
  | [], e, o, i, t, n, ho, h => by rw [qd] at h; cases h
  | c :: l, e, o, i, t, n, ho, h => by
    rw [qd] at h
    by_cases hp : plainB c = true
    · rw [if_pos hp] at h
      have next : ∀ (e' : Bool) (o' : List UInt8), o'.all plainB = true → qd l e' o' (i + 1) = (t, n, 0) → (eL o' + (if e then 1 else 2) ≤ eL o + 1 + (if e' then 1 else 2)) →
          t.all plainB = true ∧ i + 2 ≤ n ∧ n ≤ i + 1 + (c :: l).length ∧ (c :: l)[n - 2 - i]? = some 34 ∧ eL t + i + (if e then 1 else 2) ≤ n + eL o := fun e' o' ho' h' he => by
        obtain ⟨q1, q2, q3, q4, q5⟩ := qd_is l e' o' (i + 1) t n ho' h'
        refine ⟨q1, by omega, by simp; omega, ?_, by omega⟩
        rw [show n - 2 - i = n - 2 - (i + 1) + 1 by omega, List.getElem?_cons_succ]
        exact q4
      by_cases h34 : e = false ∧ c.toNat = 34
      · rw [if_pos h34] at h
        obtain ⟨rfl, hc⟩ := h34
        cases h
        refine ⟨ho, Nat.le_refl _, by simp only [List.length_cons]; omega, ?_, by show eL o + i + 2 ≤ i + 2 + eL o; omega⟩
        rw [show i + 2 - 2 - i = 0 by omega, List.getElem?_cons_zero, UInt8.toNat_inj.1 (show c.toNat = (34 : UInt8).toNat from hc)]
      · rw [if_neg h34] at h
        by_cases h92 : e = false ∧ c.toNat = 92
        · rw [if_pos h92] at h
          obtain ⟨rfl, hc⟩ := h92
          exact next true o ho h (by simp only [if_true, Bool.false_eq_true, if_false]; omega)
        · rw [if_neg h92] at h
          refine next false (o ++ [c]) (by rw [List.all_append, ho]; simp [hp]) h ?_
          have : eL (o ++ [c]) = eL o + (escB c).length := by rw [eL_append, eL_cons]; rfl
          rw [this, esc_one]
          cases e with
          | false =>
            have hn : needs c = false := by simp only [needs, decide_eq_false_iff_not]; intro q; rcases q with q | q; exact h34 ⟨rfl, q⟩; exact h92 ⟨rfl, q⟩
            rw [hn]
            simp only [Bool.false_eq_true, if_false]
            omega
          | true => simp only [if_true, Bool.false_eq_true, if_false]; split <;> omega
    · rw [if_neg hp] at h; cases h

theorem quoteL_len (l : List UInt8) : (quoteL l).length = eL l + 2 := by simp [quoteL, eL]
theorem quoted_of {l : List UInt8} (r : List UInt8) (h : l.all plainB = true) : quotedF (quoteL l ++ r) = (l, (quoteL l).length, 0) := by
  have e : quoteL l ++ r = 34 :: (l.flatMap escB ++ 34 :: r) := by simp [quoteL]
  unfold quotedF
  rw [e, if_pos (by rfl), quoteL_len]
  show qd (l.flatMap escB ++ 34 :: r) false [] 0 = _
  rw [qd_esc l [] r 0 h, List.nil_append, Nat.zero_add]
theorem quoted_is {l t : List UInt8} {n : Nat} (h : quotedF l = (t, n, 0)) : t.all plainB = true ∧ 2 ≤ n ∧ n ≤ l.length ∧ l[n - 1]? = some 34 ∧ (quoteL t).length ≤ n := by
  unfold quotedF at h
  split at h
  · rename_i hf
    cases l with
    | nil => simp at hf
    | cons c l =>
      obtain ⟨q1, q2, q3, q4, q5⟩ := qd_is l false [] 0 t n rfl h
      refine ⟨q1, q2, by simp; omega, ?_, ?_⟩
      · rw [show n - 1 = n - 2 - 0 + 1 by omega, List.getElem?_cons_succ]
        exact q4
      · rw [quoteL_len]
        have e0 : eL [] = 0 := rfl
        simp only [Bool.false_eq_true, if_false, e0, Nat.add_zero] at q5
        exact q5
  · cases h

theorem qd_err : ∀ (l : List UInt8) (e : Bool) (o : List UInt8) (i : Nat), (qd l e o i).2.2 ≠ 0 → (qd l e o i).1 = [] ∧ (qd l e o i).2.1 = 0
  | [], e, o, i, _ => ⟨rfl, rfl⟩
  | c :: l, e, o, i, h => by
    rw [qd] at h ⊢
    by_cases h1 : plainB c = true
    · rw [if_pos h1] at h ⊢
      by_cases h2 : e = false ∧ c.toNat = 34
      · rw [if_pos h2] at h; exact absurd rfl h
      · rw [if_neg h2] at h ⊢
        by_cases h3 : e = false ∧ c.toNat = 92
        · rw [if_pos h3] at h ⊢; exact qd_err l _ _ _ h
        · rw [if_neg h3] at h ⊢; exact qd_err l _ _ _ h
    · rw [if_neg h1]; exact ⟨rfl, rfl⟩
theorem quoted_err {l t : List UInt8} {n e : Nat} (h : quotedF l = (t, n, e)) (he : e ≠ 0) : t = [] ∧ n = 0 := by
  unfold quotedF at h
  split at h
  · have := qd_err (l.drop 1) false [] 0 (by rw [h]; exact he)
    rw [h] at this
    exact this
  · cases h; exact ⟨rfl, rfl⟩
end Go.Vf.S
end
/- TxL -/
section
/- Lower case; numbers. -/
namespace Go.Vf.S
open Go Go.Vf
attribute [local irreducible] wSeq wRow wp wG
set_option linter.unusedVariables false
set_option linter.unusedSimpArgs false
set_option maxRecDepth 10000

def upB (c : UInt8) : Bool := decide (65 ≤ c.toNat ∧ c.toNat ≤ 90)
def lowB (c : UInt8) : UInt8 := if upB c then c + 32 else c
theorem lowB_up {c : UInt8} (h : upB c = true) : (lowB c).toNat = c.toNat + 32 := by
  unfold lowB
  rw [if_pos h]
  have : 65 ≤ c.toNat ∧ c.toNat ≤ 90 := by simpa [upB] using h
  rw [UInt8.toNat_add]
  have e : (32 : UInt8).toNat = 32 := rfl
  omega
theorem lowB_no {c : UInt8} (h : ¬upB c = true) : lowB c = c := by unfold lowB; rw [if_neg h]

/-- Lower so far. -/
def mixL (l : List UInt8) (p : Nat) : List UInt8 := (l.map lowB).take p ++ l.drop p
theorem mix_len (l : List UInt8) (p : Nat) : (mixL l p).length = l.length := by simp [mixL]; omega
theorem mix_0 (l : List UInt8) : mixL l 0 = l := by simp [mixL]
theorem mix_end {l : List UInt8} {p : Nat} (h : l.length ≤ p) : mixL l p = l.map lowB := by
  unfold mixL
  rw [List.drop_of_length_le h, List.append_nil, List.take_of_length_le (by simpa using h)]
theorem mix_next {l : List UInt8} {p : Nat} {c : UInt8} (h : l[p]? = some c) : mixL l (p + 1) = (mixL l p).set p (lowB c) := by
  have hp := lt_of_get h
  unfold mixL
  rw [drop_next h, take_next (c := lowB c) (by rw [List.getElem?_map, h]; rfl), List.set_append_right _ _ (by simp; omega)]
  have e : ((l.map lowB).take p).length = p := by simp; omega
  rw [e, Nat.sub_self, List.append_assoc]
  rfl
theorem mix_at {l : List UInt8} {p : Nat} {c : UInt8} (h : l[p]? = some c) : (mixL l p)[p]? = some c := by
  have hp := lt_of_get h
  unfold mixL
  have e : ((l.map lowB).take p).length = p := by simp; omega
  rw [List.getElem?_append_right (by omega), e, Nat.sub_self, drop_next h]
  rfl
theorem mix_same {l : List UInt8} {p : Nat} {c : UInt8} (h : l[p]? = some c) (hc : lowB c = c) : mixL l (p + 1) = mixL l p := by
  rw [mix_next h, hc]
  have := mix_at h
  obtain ⟨hp, e⟩ := List.getElem?_eq_some_iff.1 this
  rw [← e]
  exact List.set_getElem_self hp
theorem mix_more {l : List UInt8} {p : Nat} : ∀ {w : Nat}, (∀ j, j < w → ∃ d, l[p + j]? = some d ∧ 128 ≤ d.toNat) → mixL l (p + w) = mixL l p
  | 0, _ => rfl
  | w + 1, h => by
    obtain ⟨d, h1, h2⟩ := h w (Nat.lt_succ_self _)
    rw [← Nat.add_assoc, mix_same h1 (lowB_no (by simp [upB]; omega)), mix_more fun j hj => h j (Nat.lt_succ_of_lt hj)]

theorem lower_w {s : SS} {l : List UInt8} (hl : l.length ≤ 1000000) : CallW pr n_text_Lower [str l] s fun v s' => v = str (l.map lowB) ∧ Chg s s' [] := by
  refine CallW.run good ok_text_Lower (by simp) rfl ?_
  (try refine pSeq ?_); (repeat(first|refine sb ?_|refine gOn rfl ?_|refine gOff rfl rfl ?_|refine gTup rfl ?_))
  refine ⟨by omega, ?_⟩
  (repeat(first|refine sb ?_|refine gOn rfl ?_|refine gOff rfl rfl ?_|refine gTup rfl ?_))
  refine srange_W rfl un_S rfl ?_
  (repeat(first|refine sb ?_|refine gOn rfl ?_|refine gOff rfl rfl ?_|refine gTup rfl ?_))
  refine pLoop (MW.head good (fun x : It => l.length - x.p) (fun x => At s (s.next + 1) l x ∧ lookH x.s.heap s.next = some (.cells (bytesV (mixL l x.p)) tB true false))
    (fun x => [(3, .slice (some ⟨s.next, 0, none⟩) l.length 0), (9, .pointer (some ⟨s.next + 1, 0, none⟩))]) (fun x => x.s) ⟨0, _⟩ ⟨⟨(Chg.new _).nil (.new _), Nat.le_succ _, Nat.lt_succ_self _, lkH⟩, ?_⟩ (Wk.same ⟨rfl, rfl, trivial⟩) ?_)
  · rw [mix_0]
    exact lkT (show s.next + 1 ≠ s.next by omega) lkH
  intro ⟨p, s1⟩ ⟨h1, h2⟩
  dsimp only at h1 h2 ⊢
  have hn1 := h1.1.next
  have hn2 := h1.2.2.1
  dsimp only at hn1 hn2
  (repeat(first|refine sb ?_|refine gOn rfl ?_|refine gOff rfl rfl ?_|refine gTup rfl ?_))
  refine snext_L rfl rfl (show lookH s1.heap _ = some (.siter ⟨⟨l⟩⟩ p) from h1.2.2.2) (fun he => ?_) (fun c hc h7 => ?_) (fun c r w hc h7 hr hr2 hdec hw _ => ?_)
  · (repeat(first|refine sb ?_|refine gOn rfl ?_|refine gOff rfl rfl ?_|refine gTup rfl ?_))
    refine toStr_Rdb rfl (by have := rdb_lit h2 (by omega); rw [mix_len] at this; exact this) ?_
    (repeat(first|refine sb ?_|refine gOn rfl ?_|refine gOff rfl rfl ?_|refine gTup rfl ?_))
    rw [mix_end he]
    exact ⟨rfl, h1.1⟩
  · have hlt : p < l.length := lt_of_get hc
    have h3 : lookH ((s.next + 1, some (ABlk.siter ⟨⟨l⟩⟩ (p + 1))) :: s1.heap) s.next = some (.cells (bytesV (mixL l p)) tB true false) := lkT (by omega) h2
    (repeat(first|refine sb ?_|refine gOn rfl ?_|refine gOff rfl rfl ?_|refine gTup rfl ?_))
    intro q hq
    by_cases hup : upB c = true
    · have hu : 65 ≤ c.toNat ∧ c.toNat ≤ 90 := by simpa [upB] using hup
      obtain rfl : q = true := by rw [hq]; simp <;> omega
      (repeat(first|refine sb ?_|refine gOn rfl ?_|refine gOff rfl rfl ?_|refine gTup rfl ?_))
      intro q hq; obtain rfl : q = true := (by rw [hq]; simp <;> omega); (repeat(first|refine sb ?_|refine gOn rfl ?_|refine gOff rfl rfl ?_|refine gTup rfl ?_))
      refine ⟨by omega, ?_⟩
      intro m hm o ho
      obtain rfl : m = p := by omega
      (repeat(first|refine sb ?_|refine gOn rfl ?_|refine gOff rfl rfl ?_|refine gTup rfl ?_))
      have hget : (bytesV (mixL l m))[o]? = some (.int .u8 c.toNat) := by
        rw [ho, Nat.zero_add, Nat.mul_one, bytesV, List.getElem?_map, mix_at hc]; rfl
      refine ldI_is rfl h3 hget ?_
      (repeat(first|refine sb ?_|refine gOn rfl ?_|refine gOff rfl rfl ?_|refine gTup rfl ?_))
      intro z hz
      rw [u8_id (by omega)] at hz
      obtain rfl : z = ((lowB c).toNat : Int) := by rw [lowB_up hup]; omega
      (repeat(first|refine sb ?_|refine gOn rfl ?_|refine gOff rfl rfl ?_|refine gTup rfl ?_))
      refine ⟨by omega, ?_⟩
      intro m2 hm2 o2 ho2
      obtain rfl : m2 = m := by omega
      (repeat(first|refine sb ?_|refine gOn rfl ?_|refine gOff rfl rfl ?_|refine gTup rfl ?_))
      refine st_abs (cs' := bytesV (mixL l (m2 + 1))) rfl rfl h3 (by show s.next < s1.next; omega) rfl ?_ fun s2 e2 c2 n2 => ?_
      · rw [ho2, Nat.zero_add, Nat.mul_one]
        show setRow _ _ [_] = _
        rw [setRow_one (by rw [bytesV_len, mix_len]; exact hlt), mix_next hc]
        congr 1
        simp [bytesV, List.map_set]
      (repeat(first|refine sb ?_|refine gOn rfl ?_|refine gOff rfl rfl ?_|refine gTup rfl ?_))
      exact ⟨⟨m2 + 1, s2⟩, ⟨(h1.go (m2 + 1)).chg c2 (by simp), e2⟩, by show l.length - (m2 + 1) < l.length - m2; omega, Wk.same ⟨rfl, rfl, trivial⟩⟩
    · have hlow := lowB_no hup
      have fin : At s (s.next + 1) l ⟨p + 1, { s1 with heap := (s.next + 1, some (ABlk.siter ⟨⟨l⟩⟩ (p + 1))) :: s1.heap }⟩ ∧ lookH ((s.next + 1, some (ABlk.siter ⟨⟨l⟩⟩ (p + 1))) :: s1.heap) s.next = some (.cells (bytesV (mixL l (p + 1))) tB true false) := ⟨h1.go _, by rw [mix_same hc hlow]; exact h3⟩
      by_cases h65 : 65 ≤ c.toNat
      · obtain rfl : q = true := by rw [hq]; simp <;> omega
        have h90 : ¬c.toNat ≤ 90 := fun q => hup (by simp [upB, h65, q])
        (repeat(first|refine sb ?_|refine gOn rfl ?_|refine gOff rfl rfl ?_|refine gTup rfl ?_))
        intro q hq; obtain rfl : q = false := (by rw [hq]; simp <;> omega); (repeat(first|refine sb ?_|refine gOn rfl ?_|refine gOff rfl rfl ?_|refine gTup rfl ?_))
        exact ⟨⟨p + 1, _⟩, fin, by show l.length - (p + 1) < l.length - p; omega, Wk.same ⟨rfl, rfl, trivial⟩⟩
      · obtain rfl : q = false := by rw [hq]; simp <;> omega
        (repeat(first|refine sb ?_|refine gOn rfl ?_|refine gOff rfl rfl ?_|refine gTup rfl ?_))
        exact ⟨⟨p + 1, _⟩, fin, by show l.length - (p + 1) < l.length - p; omega, Wk.same ⟨rfl, rfl, trivial⟩⟩
  · have hlt : p < l.length := lt_of_get hc
    (repeat(first|refine sb ?_|refine gOn rfl ?_|refine gOff rfl rfl ?_|refine gTup rfl ?_))
    intro q hq; obtain rfl : q = true := (by rw [hq]; simp <;> omega); (repeat(first|refine sb ?_|refine gOn rfl ?_|refine gOff rfl rfl ?_|refine gTup rfl ?_))
    intro q hq; obtain rfl : q = false := (by rw [hq]; simp <;> omega); (repeat(first|refine sb ?_|refine gOn rfl ?_|refine gOff rfl rfl ?_|refine gTup rfl ?_))
    refine ⟨⟨p + w, _⟩, ⟨h1.go _, ?_⟩, by show l.length - (p + w) < l.length - p; omega, Wk.same ⟨rfl, rfl, trivial⟩⟩
    rw [mix_more (dec_more hdec hc h7)]
    exact lkT (by omega) h2

theorem same_w {s : SS} {l t : List UInt8} (hl : l.length ≤ 1000000) (ht : t.length ≤ 1000000) : CallW pr n_text_Same [str l, str t] s fun v s' => v = .bool (decide (l.map lowB = t.map lowB)) ∧ Chg s s' [] := by
  refine CallW.run good ok_text_Same (by simp) rfl ?_
  (try refine pSeq ?_); (repeat refine sb ?_)
  refine (lower_w hl).mono fun v s1 q => ?_
  obtain ⟨rfl, c1⟩ := q
  (repeat refine sb ?_)
  refine (lower_w ht).mono fun v s2 q => ?_
  obtain ⟨rfl, c2⟩ := q
  (repeat refine sb ?_)
  intro q hq
  (repeat refine sb ?_)
  subst hq
  exact ⟨rfl, c1.nil c2⟩
end Go.Vf.S
end
/- TxM -/
section
/- Numbers. -/
namespace Go.Vf.S
open Go Go.Vf
attribute [local irreducible] wSeq wRow wp wG
set_option linter.unusedVariables false
set_option linter.unusedSimpArgs false
set_option maxRecDepth 10000

def digB (c : UInt8) : Bool := decide (48 ≤ c.toNat ∧ c.toNat ≤ 57)
def numFrom (a : Nat) (l : List UInt8) : Nat := l.foldl (fun n c => 10 * n + (c.toNat - 48)) a
def numL (l : List UInt8) : Nat := numFrom 0 l
def clamp (d : Int) : Nat := (min (max d 1) 15).toNat
def numberF (l : List UInt8) (d : Int) : Nat × Nat := if 1 ≤ l.length ∧ l.length ≤ clamp d ∧ l.all digB = true then (numL l, 0) else (0, 5)

theorem numFrom_lt : ∀ (l : List UInt8) (a : Nat), l.all digB = true → numFrom a l < (a + 1) * 10 ^ l.length
  | [], a, _ => by simp [numFrom]
  | c :: l, a, h => by
    rw [List.all_cons, Bool.and_eq_true] at h
    have hc : 48 ≤ c.toNat ∧ c.toNat ≤ 57 := by simpa [digB] using h.1
    have := numFrom_lt l (10 * a + (c.toNat - 48)) h.2
    show numFrom (10 * a + (c.toNat - 48)) l < _
    rw [List.length_cons, Nat.pow_succ, Nat.mul_comm (10 ^ l.length) 10, ← Nat.mul_assoc]
    exact Nat.lt_of_lt_of_le this (Nat.mul_le_mul_right _ (by omega))
theorem num_lt {l : List UInt8} (h : l.all digB = true) (hl : l.length ≤ 15) : numL l < 1000000000000000 := by
  have h1 := numFrom_lt l 0 h
  have h2 : 10 ^ l.length ≤ 10 ^ 15 := Nat.pow_le_pow_right (by omega) hl
  unfold numL
  omega
theorem num_next {l : List UInt8} {p : Nat} {c : UInt8} (h : l[p]? = some c) : numL (l.take (p + 1)) = 10 * numL (l.take p) + (c.toNat - 48) := by
  rw [take_next h]
  simp [numL, numFrom]
theorem all_next {l : List UInt8} {p : Nat} {c : UInt8} {f : UInt8 → Bool} (h : l[p]? = some c) (h1 : (l.take p).all f = true) (h2 : f c = true) : (l.take (p + 1)).all f = true := by
  rw [take_next h]
  simp [h1, h2]
theorem number_no {l : List UInt8} {d : Int} (h : ¬(1 ≤ l.length ∧ l.length ≤ clamp d ∧ l.all digB = true)) : numberF l d = (0, 5) := by unfold numberF; rw [if_neg h]
theorem number_ok {l : List UInt8} {d : Int} (h1 : 1 ≤ l.length) (h2 : l.length ≤ clamp d) (h3 : l.all digB = true) : numberF l d = (numL l, 0) := by unfold numberF; rw [if_pos ⟨h1, h2, h3⟩]
abbrev nRes (q : Nat × Nat) : Value := .tuple ⟨[.int .i64 q.1, .int .i64 q.2]⟩

theorem number_w {s : SS} {l : List UInt8} {d : Int} (hl : l.length ≤ 1000000) : CallW pr n_text_Number [str l, .int .i64 d] s fun v s' => v = nRes (numberF l d) ∧ Chg s s' [] := by
  refine CallW.run good ok_text_Number (by simp) rfl ?_
  have hcl : (clamp d : Int) = min (max d 1) 15 := by unfold clamp; omega
  (try refine pSeq ?_); (repeat(first|refine sb ?_|refine gOn rfl ?_|refine gOff rfl rfl ?_|refine gTup rfl ?_))
  intro q hq
  by_cases h0 : l = []
  · subst h0
    obtain rfl : q = true := by rw [hq]; rfl
    (repeat(first|refine sb ?_|refine gOn rfl ?_|refine gOff rfl rfl ?_|refine gTup rfl ?_))
    rw [number_no (by simp)]
    exact ⟨rfl, .refl _ _⟩
  · obtain rfl : q = false := by rw [hq]; simp [h0]
    have h1 : 1 ≤ l.length := by cases l with
      | nil => exact absurd rfl h0
      | cons a b => simp
    (repeat(first|refine sb ?_|refine gOn rfl ?_|refine gOff rfl rfl ?_|refine gTup rfl ?_))
    intro n hn
    (repeat(first|refine sb ?_|refine gOn rfl ?_|refine gOff rfl rfl ?_|refine gTup rfl ?_))
    intro z1 hz1
    (repeat(first|refine sb ?_|refine gOn rfl ?_|refine gOff rfl rfl ?_|refine gTup rfl ?_))
    intro z2 hz2
    (repeat(first|refine sb ?_|refine gOn rfl ?_|refine gOff rfl rfl ?_|refine gTup rfl ?_))
    intro q hq
    by_cases h2 : l.length ≤ clamp d
    · obtain rfl : q = false := by rw [hq]; simp; omega
      (repeat(first|refine sb ?_|refine gOn rfl ?_|refine gOff rfl rfl ?_|refine gTup rfl ?_))
      refine srange_W rfl un_S rfl ?_
      (repeat(first|refine sb ?_|refine gOn rfl ?_|refine gOff rfl rfl ?_|refine gTup rfl ?_))
      refine pLoop (MW.head good (fun x : It => l.length - x.p) (fun x => At s s.next l x ∧ (l.take x.p).all digB = true) (fun x => [(6, .int .i64 (numL (l.take x.p))), (20, .pointer (some ⟨s.next, 0, none⟩))]) (fun x => x.s) ⟨0, _⟩ ⟨.start s l, rfl⟩ (Wk.same ⟨rfl, rfl, trivial⟩) ?_)
      intro ⟨p, s1⟩ ⟨h4, h5⟩
      dsimp only at h4 h5 ⊢
      have hlt2 := num_lt h5 (by simp; omega)
      (repeat(first|refine sb ?_|refine gOn rfl ?_|refine gOff rfl rfl ?_|refine gTup rfl ?_))
      refine snext_L rfl rfl (show lookH s1.heap _ = some (.siter ⟨⟨l⟩⟩ p) from h4.2.2.2) (fun he => ?_) (fun c hc h7 => ?_) (fun c r w hc h7 hr hr2 _ hw _ => ?_)
      · (repeat(first|refine sb ?_|refine gOn rfl ?_|refine gOff rfl rfl ?_|refine gTup rfl ?_))
        rw [List.take_of_length_le he] at h5 ⊢
        rw [number_ok h1 h2 h5]
        exact ⟨rfl, h4.1⟩
      · have hlt : p < l.length := lt_of_get hc
        (repeat(first|refine sb ?_|refine gOn rfl ?_|refine gOff rfl rfl ?_|refine gTup rfl ?_))
        intro q hq
        by_cases h48 : 48 ≤ c.toNat
        · obtain rfl : q = false := by rw [hq]; simp; omega
          (repeat(first|refine sb ?_|refine gOn rfl ?_|refine gOff rfl rfl ?_|refine gTup rfl ?_))
          intro q hq
          by_cases h57 : c.toNat ≤ 57
          · obtain rfl : q = false := by rw [hq]; simp; omega
            (repeat(first|refine sb ?_|refine gOn rfl ?_|refine gOff rfl rfl ?_|refine gTup rfl ?_))
            intro z3 hz3
            rw [i64_id (by omega)] at hz3
            (repeat(first|refine sb ?_|refine gOn rfl ?_|refine gOff rfl rfl ?_|refine gTup rfl ?_))
            intro z4 hz4
            rw [wrap_i32] at hz4
            (repeat(first|refine sb ?_|refine gOn rfl ?_|refine gOff rfl rfl ?_|refine gTup rfl ?_))
            intro z5 hz5
            rw [i64_id (by omega)] at hz5
            (repeat(first|refine sb ?_|refine gOn rfl ?_|refine gOff rfl rfl ?_|refine gTup rfl ?_))
            intro z6 hz6
            rw [i64_id (by omega)] at hz6
            (repeat(first|refine sb ?_|refine gOn rfl ?_|refine gOff rfl rfl ?_|refine gTup rfl ?_))
            refine ⟨⟨p + 1, _⟩, ⟨h4.go _, all_next hc h5 (by simp [digB, h48, h57])⟩, by show l.length - (p + 1) < l.length - p; omega, Wk.same ⟨?_, rfl, trivial⟩⟩
            show some (Value.int .i64 z6) = some (.int .i64 (numL (l.take (p + 1))))
            rw [num_next hc]
            congr 2
            omega
          · obtain rfl : q = true := by rw [hq]; simp; omega
            (repeat(first|refine sb ?_|refine gOn rfl ?_|refine gOff rfl rfl ?_|refine gTup rfl ?_))
            rw [number_no (fun q => by have := all_no (f := digB) hc (by simp [digB]; omega); rw [q.2.2] at this; cases this)]
            exact ⟨rfl, (h4.go _).1⟩
        · obtain rfl : q = true := by rw [hq]; simp; omega
          (repeat(first|refine sb ?_|refine gOn rfl ?_|refine gOff rfl rfl ?_|refine gTup rfl ?_))
          rw [number_no (fun q => by have := all_no (f := digB) hc (by simp [digB]; omega); rw [q.2.2] at this; cases this)]
          exact ⟨rfl, (h4.go _).1⟩
      · (repeat(first|refine sb ?_|refine gOn rfl ?_|refine gOff rfl rfl ?_|refine gTup rfl ?_))
        intro q hq
        obtain rfl : q = false := by rw [hq]; simp; omega
        (repeat(first|refine sb ?_|refine gOn rfl ?_|refine gOff rfl rfl ?_|refine gTup rfl ?_))
        intro q hq
        obtain rfl : q = true := by rw [hq]; simp; omega
        (repeat(first|refine sb ?_|refine gOn rfl ?_|refine gOff rfl rfl ?_|refine gTup rfl ?_))
        rw [number_no (fun q => by have := all_no (f := digB) hc (by simp [digB]; omega); rw [q.2.2] at this; cases this)]
        exact ⟨rfl, (h4.go _).1⟩
    · obtain rfl : q = true := by rw [hq]; simp; omega
      (repeat(first|refine sb ?_|refine gOn rfl ?_|refine gOff rfl rfl ?_|refine gTup rfl ?_))
      rw [number_no (fun q => h2 q.2.1)]
      exact ⟨rfl, .refl _ _⟩

end Go.Vf.S
end
/- TxN -/
section
/- Atoms. -/
namespace Go.Vf.S
open Go Go.Vf
attribute [local irreducible] wSeq wRow wp wG
set_option linter.unusedVariables false
set_option linter.unusedSimpArgs false
set_option maxRecDepth 10000

def signsL : List UInt8 := [33, 35, 36, 37, 38, 39, 42, 43, 45, 47, 61, 63, 94, 95, 96, 123, 124, 125, 126]
def letN (n : Nat) : Bool := decide (97 ≤ n ∧ n ≤ 122) || (decide (65 ≤ n ∧ n ≤ 90) || (decide (48 ≤ n ∧ n ≤ 57) || signsL.any fun c => c.toNat == n))
def letB (c : UInt8) : Bool := letN c.toNat
def atomsV : List Value := (List.range 128).map fun i => .bool (letN i)
theorem atoms_get {i : Nat} (h : i < 128) : atomsV[i]? = some (.bool (letN i)) := by simp [atomsV, h]
abbrev gAt : Nat := 2
def gA : ABlk := .cells atomsV 4 false true
/-- The table of letters lies there. -/
def Gb (s : SS) : Prop := gAt < s.gl ∧ gAt < s.next ∧ lookH s.heap gAt = some gA
theorem Gb.chg {s s' : SS} {A : List Nat} (h : Gb s) (c : Chg s s' A) (hA : gAt ∉ A) : Gb s' := ⟨by rw [c.gl]; exact h.1, Nat.lt_of_lt_of_le h.2.1 c.next, c.blk gAt _ h.2.1 hA h.2.2⟩
theorem signs_lt : ∀ c ∈ signsL, c.toNat < 127 := by decide
theorem let_hi {n : Nat} (h : 127 ≤ n) : letN n = false := by
  have : (signsL.any fun c => c.toNat == n) = false := by
    rw [List.any_eq_false]
    intro c hc
    have := signs_lt c hc
    simp
    omega
  unfold letN
  rw [this]
  simp
  omega

theorem ixaG {P : Program} {T : TL} {s : SS} {K : RR → Prop} {len z g : Nat} {i : Operand} {k : IntKind} {iv : Int} (hg : g < s.gl) (hi : opd T s.gl i = some (.int k iv)) (h : wIdx (.int k iv) len fun m => ∀ o, o = 0 + m * z → K (.val (.pointer (some ⟨g, o, none⟩)))) : wN P (.ixaA len z (.global g) i) T s K := by
  have e : opd T s.gl (.global g) = some (.pointer (some ⟨g, 0, none⟩)) := by
    have hb : Nat.blt g s.gl = true := by rw [Nat.blt_eq]; exact hg
    simp only [opd, hb, cond_true]
  simp only [wN, e, hi]
  exact h

def atomF (l : List UInt8) : Bool := l.all letB && !l.isEmpty

theorem atom_w {s : SS} {l : List UInt8} (hG : Gb s) : CallW pr n_text_Atom [str l] s fun v s' => v = .bool (atomF l) ∧ Chg s s' [] := by
  refine CallW.run good ok_text_Atom (by simp) rfl ?_
  (try refine pSeq ?_); (repeat(first|refine sb ?_|refine gOn rfl ?_|refine gOff rfl rfl ?_|refine gTup rfl ?_))
  refine srange_W rfl un_S rfl ?_
  (repeat(first|refine sb ?_|refine gOn rfl ?_|refine gOff rfl rfl ?_|refine gTup rfl ?_))
  refine pLoop (MW.head good (fun x : It => l.length - x.p) (fun x => At s s.next l x ∧ (l.take x.p).all letB = true) (fun x => [(0, str l), (6, .pointer (some ⟨s.next, 0, none⟩))]) (fun x => x.s) ⟨0, _⟩ ⟨.start s l, rfl⟩ (Wk.same ⟨rfl, rfl, trivial⟩) ?_)
  intro ⟨p, s1⟩ ⟨h1, h2⟩
  dsimp only at h1 h2 ⊢
  (repeat(first|refine sb ?_|refine gOn rfl ?_|refine gOff rfl rfl ?_|refine gTup rfl ?_))
  refine snext_L rfl rfl (show lookH s1.heap _ = some (.siter ⟨⟨l⟩⟩ p) from h1.2.2.2) (fun he => ?_) (fun c hc h7 => ?_) (fun c r w hc h7 hr hr2 _ hw _ => ?_)
  · rw [List.take_of_length_le he] at h2
    (repeat(first|refine sb ?_|refine gOn rfl ?_|refine gOff rfl rfl ?_|refine gTup rfl ?_))
    intro q hq
    (repeat(first|refine sb ?_|refine gOn rfl ?_|refine gOff rfl rfl ?_|refine gTup rfl ?_))
    refine ⟨bool_eq ?_, h1.1⟩
    rw [hq, atomF, h2]
    cases l <;> simp
  · have hlt : p < l.length := lt_of_get hc
    have g1 := hG.chg (h1.go (p + 1)).1 (by simp)
    (repeat(first|refine sb ?_|refine gOn rfl ?_|refine gOff rfl rfl ?_|refine gTup rfl ?_))
    intro q hq; obtain rfl : q = false := (by rw [hq]; simp <;> omega); (repeat(first|refine sb ?_|refine gOn rfl ?_|refine gOff rfl rfl ?_|refine gTup rfl ?_))
    refine ixaG (by show gAt < s1.gl; exact g1.1) rfl ?_
    refine ⟨by omega, ?_⟩
    intro m hm o ho
    obtain rfl : m = c.toNat := by omega
    (repeat(first|refine sb ?_|refine gOn rfl ?_|refine gOff rfl rfl ?_|refine gTup rfl ?_))
    refine ldB_is rfl g1.2.2 (by rw [ho, Nat.zero_add, Nat.mul_one]; exact atoms_get (by omega)) ?_
    (repeat(first|refine sb ?_|refine gOn rfl ?_|refine gOff rfl rfl ?_|refine gTup rfl ?_))
    intro q hq
    by_cases hb : letB c = true
    · obtain rfl : q = false := by rw [hq, show letN c.toNat = true from hb]; rfl
      (repeat(first|refine sb ?_|refine gOn rfl ?_|refine gOff rfl rfl ?_|refine gTup rfl ?_))
      exact ⟨⟨p + 1, _⟩, ⟨h1.go _, by rw [take_next hc]; simp [h2, hb]⟩, by show l.length - (p + 1) < l.length - p; omega, Wk.same ⟨rfl, rfl, trivial⟩⟩
    · obtain rfl : q = true := by rw [hq, show letN c.toNat = false from by simpa [letB] using hb]; rfl
      (repeat(first|refine sb ?_|refine gOn rfl ?_|refine gOff rfl rfl ?_|refine gTup rfl ?_))
      exact ⟨bool_eq (by rw [atomF, all_no hc (by simpa using hb)]; rfl), (h1.go _).1⟩
  · (repeat(first|refine sb ?_|refine gOn rfl ?_|refine gOff rfl rfl ?_|refine gTup rfl ?_))
    intro q hq; obtain rfl : q = true := (by rw [hq]; simp <;> omega); (repeat(first|refine sb ?_|refine gOn rfl ?_|refine gOff rfl rfl ?_|refine gTup rfl ?_))
    exact ⟨bool_eq (by rw [atomF, all_no hc (show letB c = false from let_hi (by omega))]; rfl), (h1.go _).1⟩

end Go.Vf.S
end
/- TxO -/
section
/- Parts of a text. -/
namespace Go.Vf.S
open Go Go.Vf
attribute [local irreducible] wSeq wRow wp wG
set_option linter.unusedVariables false
set_option linter.unusedSimpArgs false
set_option maxRecDepth 10000

/-- The first part, and the others. -/
def sp (c : UInt8) : List UInt8 → List UInt8 × List (List UInt8)
  | [] => ([], [])
  | x :: r => if x = c then ([], (sp c r).1 :: (sp c r).2) else (x :: (sp c r).1, (sp c r).2)
def splitF (c : UInt8) (l : List UInt8) : List (List UInt8) := (sp c l).1 :: (sp c l).2
theorem sp_first {c : UInt8} {r : List UInt8} : ∀ {f : List UInt8}, c ∉ f → sp c (f ++ c :: r) = (f, (sp c r).1 :: (sp c r).2)
  | [], _ => by simp [sp]
  | x :: f, h => by
    have h1 : ¬x = c := fun e => h (by simp [e])
    rw [List.cons_append, sp, if_neg h1, sp_first (f := f) (fun q => h (by simp [q]))]
theorem split_first {c : UInt8} {r f : List UInt8} (h : c ∉ f) : splitF c (f ++ c :: r) = f :: splitF c r := by unfold splitF; rw [sp_first h]
theorem split_last {c : UInt8} : ∀ {l : List UInt8}, l.count c = 0 → splitF c l = [l]
  | [], _ => rfl
  | x :: l, h => by
    have h1 : ¬x = c := fun e => by subst e; simp at h
    rw [List.count_cons_of_ne h1] at h
    have := split_last (c := c) (l := l) h
    unfold splitF at this ⊢
    rw [sp, if_neg h1]
    simp only [List.cons.injEq] at this ⊢
    exact ⟨⟨trivial, this.1⟩, this.2⟩
theorem split_len {c : UInt8} : ∀ (l : List UInt8), (splitF c l).length = l.count c + 1
  | [] => rfl
  | x :: l => by
    have := split_len (c := c) l
    unfold splitF at this ⊢
    rw [sp]
    by_cases h : x = c
    · subst h
      rw [if_pos rfl, List.count_cons_self]
      simp only [List.length_cons] at this ⊢
      omega
    · rw [if_neg h, List.count_cons_of_ne h]
      simp only [List.length_cons] at this ⊢
      omega
theorem index_first {c : UInt8} {r : List UInt8} : ∀ {f : List UInt8}, c ∉ f → Lib.indexByte (f ++ c :: r) c = f.length
  | [], _ => by simp [Lib.indexByte]
  | x :: f, h => by
    have h1 : (x == c) = false := by simp; exact fun e => h (by simp [e])
    have ih := index_first (c := c) (r := r) (f := f) (fun q => h (by simp [q]))
    rw [List.cons_append, Lib.indexByte, h1, ih]
    have : ((f.length : Int) == -1) = false := by simp <;> omega
    rw [this]
    simp

theorem byte_back (c : UInt8) : ((c.toNat : Int).toNat).toUInt8 = c := by simp

theorem indexByte_w {s : SS} {l : List UInt8} {c : UInt8} : CallW pr n_internal_stringslite_IndexByte [str l, .int .u8 c.toNat] s fun v s' => v = .int .i64 (Lib.indexByte l c) ∧ s' = s := by
  refine CallW.run good ok_internal_stringslite_IndexByte (by simp) rfl ?_
  (try refine pSeq ?_); (repeat refine sb ?_)
  refine xtn_W Go.Proofs.Tryz.func136 (by kernel_rfl) (by kernel_rfl) (by kernel_rfl) (by kernel_rfl) rfl rfl rfl rfl (fun w => by rw [Lib.run_indexByteString, byte_back]) ?_
  (repeat refine sb ?_)
  exact ⟨rfl, rfl⟩

theorem count_w {s : SS} {l : List UInt8} {c : UInt8} : CallW pr n_strings_Count [str l, str [c]] s fun v s' => v = .int .i64 (l.count c : Nat) ∧ s' = s := by
  refine CallW.run good ok_strings_Count (by simp) rfl ?_
  (try refine pSeq ?_); (repeat refine sb ?_)
  intro n hn
  (repeat refine sb ?_)
  intro q hq
  obtain rfl : q = false := by rw [hq, hn]; rfl
  (repeat refine sb ?_)
  intro n hn
  (repeat refine sb ?_)
  intro q hq
  obtain rfl : q = true := by rw [hq, hn]; rfl
  (repeat refine sb ?_)
  refine ⟨by simp, ?_⟩
  intro m hm
  obtain rfl : m = 0 := by omega
  refine ⟨c, rfl, ?_⟩
  (repeat refine sb ?_)
  refine xtn_W Go.Proofs.Tryz.func144 (by kernel_rfl) (by kernel_rfl) (by kernel_rfl) (by kernel_rfl) rfl rfl rfl rfl (fun w => by rw [Lib.run_countString, byte_back]) ?_
  (repeat refine sb ?_)
  exact ⟨rfl, rfl⟩

theorem index1_w {s : SS} {l : List UInt8} {c : UInt8} (hne : l ≠ []) : CallW pr n_strings_Index [str l, str [c]] s fun v s' => v = .int .i64 (Lib.indexByte l c) ∧ s' = s := by
  refine CallW.run good ok_strings_Index (by simp) rfl ?_
  (try refine pSeq ?_); (repeat(first|refine sb ?_|refine gOn rfl ?_|refine gOff rfl rfl ?_|refine gTup rfl ?_))
  refine (show CallW pr n_internal_stringslite_Index [str l, str [c]] s fun v s' => v = .int .i64 (Lib.indexByte l c) ∧ s' = s from ?_).mono fun v s q => ?_
  · refine CallW.run good ok_internal_stringslite_Index (by simp) rfl ?_
    (try refine pSeq ?_); (repeat(first|refine sb ?_|refine gOn rfl ?_|refine gOff rfl rfl ?_|refine gTup rfl ?_))
    intro n hn
    (repeat(first|refine sb ?_|refine gOn rfl ?_|refine gOff rfl rfl ?_|refine gTup rfl ?_))
    intro q hq
    obtain rfl : q = false := by rw [hq, hn]; rfl
    (repeat(first|refine sb ?_|refine gOn rfl ?_|refine gOff rfl rfl ?_|refine gTup rfl ?_))
    intro q hq
    by_cases he : [c] = l
    · subst he
      obtain rfl : q = true := by rw [hq]; simp
      (repeat(first|refine sb ?_|refine gOn rfl ?_|refine gOff rfl rfl ?_|refine gTup rfl ?_))
      exact ⟨by show Value.int .i64 0 = _; simp [Lib.indexByte], rfl⟩
    · obtain rfl : q = false := by rw [hq]; simp [he]
      (repeat(first|refine sb ?_|refine gOn rfl ?_|refine gOff rfl rfl ?_|refine gTup rfl ?_))
      intro q hq
      obtain rfl : q = true := by rw [hq, hn]; rfl
      (repeat(first|refine sb ?_|refine gOn rfl ?_|refine gOff rfl rfl ?_|refine gTup rfl ?_))
      refine ⟨by simp, ?_⟩
      intro m hm
      obtain rfl : m = 0 := by omega
      refine ⟨c, rfl, ?_⟩
      (repeat(first|refine sb ?_|refine gOn rfl ?_|refine gOff rfl rfl ?_|refine gTup rfl ?_))
      refine indexByte_w.mono fun v s q => ?_
      obtain ⟨rfl, rfl⟩ := q
      (repeat(first|refine sb ?_|refine gOn rfl ?_|refine gOff rfl rfl ?_|refine gTup rfl ?_))
      exact ⟨rfl, rfl⟩
  obtain ⟨rfl, rfl⟩ := q
  (repeat(first|refine sb ?_|refine gOn rfl ?_|refine gOff rfl rfl ?_|refine gTup rfl ?_))
  exact ⟨rfl, rfl⟩

def strV (ls : List (List UInt8)) : List Value := ls.map str
theorem strV_len (ls : List (List UInt8)) : (strV ls).length = ls.length := by simp [strV]
/-- A row of texts that a slice reads. -/
def StrsAt (s : SS) (base : Option Addr) (ls : List (List UInt8)) : Prop :=
  ∃ b cs t g r, base = some ⟨b, 0, none⟩ ∧ b < s.next ∧ lookH s.heap b = some (.cells cs t g r) ∧ ∀ (i : Nat) x, ls[i]? = some x → cs[i]? = some (str x)
theorem StrsAt.chg {s s' : SS} {base : Option Addr} {ls : List (List UInt8)} {A : List Nat} (h : StrsAt s base ls) (c : Chg s s' A) (hA : ∀ id ∈ blkOf base, id ∉ A) : StrsAt s' base ls := by
  obtain ⟨b, cs, t, g, r, rfl, h1, h2, h3⟩ := h
  exact ⟨b, cs, t, g, r, rfl, Nat.lt_of_lt_of_le h1 c.next, c.blk _ _ h1 (hA b (by simp [blkOf])) h2, h3⟩

structure PIt where
  done : List (List UInt8)
  rest : List UInt8
  s : SS

theorem set_row (done : List (List UInt8)) (f : List UInt8) (k : Nat) : (strV done ++ List.replicate (k + 1) (str [])).set done.length (str f) = strV (done ++ [f]) ++ List.replicate k (str []) := by
  rw [List.set_append_right _ _ (by rw [strV_len]; omega), strV_len, Nat.sub_self, List.replicate_succ, List.set_cons_zero]
  simp [strV]

theorem repeat_str : ∀ n : Nat, repeatL n [str []] = List.replicate n (str [])
  | 0 => rfl
  | n + 1 => by
    show [str []] ++ repeatL n [str []] = _
    rw [repeat_str n, List.replicate_succ]
    rfl

theorem slL_pre {P : Program} {T : TL} {s : SS} {K : RR → Prop} {z n cap m b off : Nat} {cs : List Value} {t : TypeId} {r : Bool} {x hi : Operand} {k : Int} (hx : opd T s.gl x = some (.slice (some ⟨b, off, none⟩) n cap)) (hh : opd T s.gl hi = some (.int .i64 k))
    (hb : lookH s.heap b = some (.cells cs t false r)) (hk : k = (m : Int)) (hm : m ≤ cap) (h : K (.val (.slice (some ⟨b, off, none⟩) m cap))) : wN P (.slL z x none (some hi)) T s K := by
  subst hk
  simp only [wN, hx, opdO, hh, hb, wBnd]
  refine ⟨by omega, fun j hj o n' d ho hn hd => ?_⟩
  obtain rfl : j = m := by omega
  have e : o = off := by
    rw [ho]
    split <;> simp
  rw [e, hn, hd, Nat.sub_zero, Nat.sub_zero]
  exact h

/-- A row whose room is all its own. -/
def Full (s : SS) (base : Option Addr) : Prop := ∃ b cs, base = some ⟨b, 0, none⟩ ∧ lookH s.heap b = some (.cells cs tS false false)
theorem split_f {s : SS} {l : List UInt8} {c : UInt8} (hl : l.length ≤ 1000000) : CallW pr n_strings_genSplit [str l, str [c], .int .i64 0, .int .i64 (-1)] s fun v s' => ∃ base cap, v = .slice base (splitF c l).length cap ∧ StrsAt s' base (splitF c l) ∧ Chg s s' [] ∧ (∀ id ∈ blkOf base, s.next ≤ id) ∧ (splitF c l).length ≤ cap ∧ Full s' base := by
  refine CallW.run good ok_strings_genSplit (by simp) rfl ?_
  have hcl : l.count c ≤ l.length := List.count_le_length
  (try refine pSeq ?_); (repeat refine sb ?_)
  intro q hq; obtain rfl : q = false := (by rw [hq]; simp <;> omega); (repeat refine sb ?_)
  intro q hq; obtain rfl : q = false := (by rw [hq]; simp <;> omega); (repeat refine sb ?_)
  intro q hq; obtain rfl : q = true := (by rw [hq]; simp <;> omega); (repeat refine sb ?_)
  refine count_w.mono fun v s q => ?_
  obtain ⟨rfl, rfl⟩ := q
  (repeat refine sb ?_)
  intro z hz
  rw [i64_id (by omega)] at hz
  (repeat refine sb ?_)
  intro n hn
  (repeat refine sb ?_)
  intro z2 hz2
  rw [i64_id (by omega)] at hz2
  (repeat refine sb ?_)
  intro z3 hz3
  obtain rfl : z3 = ((l.count c + 1 : Nat) : Int) := by omega
  (repeat refine sb ?_)
  refine ⟨by omega, ?_⟩
  intro m k hm hk cs hcs
  obtain rfl : m = l.count c + 1 := by omega
  obtain rfl : k = l.count c + 1 := by omega
  rw [repeat_str] at hcs
  subst hcs
  (repeat refine sb ?_)
  intro z4 hz4
  rw [i64_id (by omega)] at hz4
  obtain rfl : z4 = ((l.count c : Nat) : Int) := by omega
  (repeat refine sb ?_)
  refine pLoop (MW.head good (fun x : PIt => x.rest.count c) (fun x => splitF c l = x.done ++ splitF c x.rest ∧ x.rest.length ≤ l.length ∧ l.count c = x.done.length + x.rest.count c ∧ Chg s x.s [] ∧ s.next < x.s.next ∧ lookH x.s.heap s.next = some (.cells (strV x.done ++ List.replicate (x.rest.count c + 1) (str [])) tS false false))
    (fun x => [(0, str x.rest), (1, str [c]), (2, .int .i64 0), (3, .int .i64 (l.count c : Nat)), (9, .slice (some ⟨s.next, 0, none⟩) (l.count c + 1) (l.count c + 1)), (10, .int .i64 x.done.length)]) (fun x => x.s) ⟨[], l, _⟩ ⟨rfl, Nat.le_refl _, by simp, .new _, Nat.lt_succ_self _, lkH⟩ (Wk.same ⟨rfl, rfl, rfl, rfl, rfl, rfl, trivial⟩) ?_)
  intro ⟨done, rest, s1⟩ ⟨h1, h2, h3, c1, h4, h5⟩
  dsimp only at h1 h2 h3 c1 h4 h5 ⊢
  (repeat refine sb ?_)
  intro q hq
  by_cases hlt : 0 < rest.count c
  · obtain rfl : q = true := by rw [hq]; simp <;> omega
    obtain ⟨f, r, rfl, hf⟩ := List.eq_append_cons_of_mem (List.count_pos_iff.1 hlt)
    have hfc : f.count c = 0 := List.count_eq_zero.2 hf
    have hcount : (f ++ c :: r).count c = r.count c + 1 := by rw [List.count_append, List.count_cons_self, hfc]; omega
    have hlen : (f ++ c :: r).length = f.length + 1 + r.length := by simp; omega
    (repeat refine sb ?_)
    refine (index1_w (by simp)).mono fun v s1 q => ?_
    obtain ⟨rfl, rfl⟩ := q
    rw [index_first hf]
    rw [split_first hf] at h1
    (repeat refine sb ?_)
    intro q hq; obtain rfl : q = false := (by rw [hq]; simp <;> omega); (repeat refine sb ?_)
    intro z hz
    rw [i64_id (by omega)] at hz
    (repeat refine sb ?_)
    refine ⟨by omega, ?_⟩
    intro m hm g hg
    obtain rfl : m = f.length := by omega
    have eg : g = f := by rw [hg]; simp
    clear hg
    subst eg
    (repeat refine sb ?_)
    refine ⟨by omega, ?_⟩
    intro m hm o ho
    obtain rfl : m = done.length := by omega
    (repeat refine sb ?_)
    refine st_abs (cs' := strV (done ++ [g]) ++ List.replicate (r.count c + 1) (str [])) rfl rfl h5 h4 rfl ?_ fun s2 e2 c2 n2 => ?_
    · rw [ho, Nat.zero_add, Nat.mul_one]
      show setRow _ _ [_] = _
      rw [setRow_one (by rw [List.length_append, strV_len, List.length_replicate]; omega), hcount, set_row]
    (repeat refine sb ?_)
    intro n hn
    (repeat refine sb ?_)
    intro z2 hz2
    have hn1 : n = 1 := by rw [hn]; rfl
    rw [hn1, i64_id (by omega)] at hz2
    (repeat refine sb ?_)
    refine ⟨by omega, ?_⟩
    intro m hm r2 hr2
    obtain rfl : m = g.length + 1 := by omega
    have er : r2 = r := by
      rw [hr2, List.take_of_length_le (by simp <;> omega)]
      rw [show g ++ c :: r = (g ++ [c]) ++ r by simp, show g.length + 1 = (g ++ [c]).length by simp, List.drop_left]
    clear hr2
    subst er
    (repeat refine sb ?_)
    intro z3 hz3
    rw [i64_id (by omega)] at hz3
    obtain rfl : z3 = (((done ++ [g]).length : Nat) : Int) := by simp; omega
    (repeat refine sb ?_)
    refine ⟨⟨done ++ [g], r2, s2⟩, ⟨by rw [h1]; simp, by show r2.length ≤ l.length; omega, by show l.count c = (done ++ [g]).length + r2.count c; simp; omega, c1.fresh c2 (by simp), by show s.next < s2.next; omega, e2⟩, by show r2.count c < (g ++ c :: r2).count c; omega, Wk.same ⟨rfl, rfl, rfl, rfl, rfl, rfl, trivial⟩⟩
  · obtain rfl : q = false := by rw [hq]; simp <;> omega
    have h0 : rest.count c = 0 := by omega
    rw [split_last h0] at h1
    rw [h0, Nat.add_zero] at h3
    rw [h0] at h5
    (repeat refine sb ?_)
    refine ⟨by omega, ?_⟩
    intro m hm o ho
    obtain rfl : m = done.length := by omega
    (repeat refine sb ?_)
    refine st_abs (cs' := strV (done ++ [rest])) rfl rfl h5 h4 rfl ?_ fun s2 e2 c2 n2 => ?_
    · rw [show o = done.length by omega]
      show setRow _ _ [_] = _
      rw [setRow_one (by rw [List.length_append, strV_len, List.length_replicate]; omega)]
      exact congrArg some ((set_row done rest 0).trans (by simp [strV]))
    (repeat refine sb ?_)
    intro z hz
    rw [i64_id (by omega)] at hz
    (repeat refine sb ?_)
    refine slL_pre (m := l.count c + 1) rfl rfl e2 (by omega) (Nat.le_refl _) ?_
    (repeat refine sb ?_)
    refine ⟨_, _, by rw [split_len]; rfl, ⟨s.next, _, _, _, _, rfl, by omega, e2, fun i x hx => ?_⟩, c1.fresh c2 (by simp), by simp [blkOf], by rw [split_len]; exact Nat.le_refl _, ⟨_, _, rfl, e2⟩⟩
    rw [h1] at hx
    simp only [strV, List.getElem?_map, hx]
    rfl

theorem Split_f {s : SS} {l : List UInt8} {c : UInt8} (hl : l.length ≤ 1000000) : CallW pr n_text_Split [str l, .int .u8 c.toNat] s fun v s' => ∃ base cap, v = .slice base (splitF c l).length cap ∧ StrsAt s' base (splitF c l) ∧ Chg s s' [] ∧ (∀ id ∈ blkOf base, s.next ≤ id) ∧ (splitF c l).length ≤ cap ∧ Full s' base := by
  refine CallW.run good ok_text_Split (by simp) rfl ?_
  (try refine pSeq ?_); (repeat refine sb ?_)
  refine toStr_Rdb rfl (rdb_lit (l := [c]) lkH (Nat.lt_succ_self _)) ?_
  (repeat refine sb ?_)
  refine (show CallW pr n_strings_Split [str l, str [c]] _ fun v s' => ∃ base cap, v = .slice base (splitF c l).length cap ∧ StrsAt s' base (splitF c l) ∧ Chg s s' [] ∧ (∀ id ∈ blkOf base, s.next ≤ id) ∧ (splitF c l).length ≤ cap ∧ Full s' base from ?_).mono fun v s1 q => ?_
  · refine CallW.run good ok_strings_Split (by simp) rfl ?_
    (try refine pSeq ?_); (repeat refine sb ?_)
    refine (split_f hl).mono fun v s1 q => ?_
    obtain ⟨base, cap, rfl, h1, c1, h2⟩ := q
    (repeat refine sb ?_)
    exact ⟨base, cap, rfl, h1, (Chg.new []).nil c1, fun id hid => Nat.le_trans (Nat.le_succ _) (h2.1 id hid), h2.2⟩
  obtain ⟨base, cap, rfl, h1, c1, h2⟩ := q
  (repeat refine sb ?_)
  exact ⟨base, cap, rfl, h1, c1, h2⟩

theorem Split_w {s : SS} {l : List UInt8} {c : UInt8} (hl : l.length ≤ 1000000) : CallW pr n_text_Split [str l, .int .u8 c.toNat] s fun v s' => ∃ base cap, v = .slice base (splitF c l).length cap ∧ StrsAt s' base (splitF c l) ∧ Chg s s' [] ∧ (∀ id ∈ blkOf base, s.next ≤ id) ∧ (splitF c l).length ≤ cap := by
  refine (Split_f hl).mono fun v s1 q => ?_
  obtain ⟨base, cap, rfl, h1, c1, h2, h3, -⟩ := q
  exact ⟨base, cap, rfl, h1, c1, h2, h3⟩

structure PIt2 where
  i : Nat
  f : Nat
  done : List (List UInt8)
  s : SS
  W : Option Addr
  cw : Nat

theorem StrsAt.at {s : SS} {base : Option Addr} {ls : List (List UInt8)} (h : StrsAt s base ls) : ∃ b, base = some ⟨b, 0, none⟩ ∧ ∃ cs t g r, lookH s.heap b = some (.cells cs t g r) ∧ ∀ (i : Nat) x, ls[i]? = some x → cs[i]? = some (str x) := by
  obtain ⟨b, cs, t, g, r, h1, h2, h3, h4⟩ := h
  exact ⟨b, h1, cs, t, g, r, h3, h4⟩

theorem ldS_is {P : Program} {T : TL} {s : SS} {K : RR → Prop} {x : Operand} {b off : Nat} {cs : List Value} {t : TypeId} {g r : Bool} {l : List UInt8} (hx : opd T s.gl x = some (.pointer (some ⟨b, off, none⟩))) (hb : lookH s.heap b = some (.cells cs t g r)) (hc : cs[off]? = some (str l))
    (h : K (.val (str l))) : wN P (.ldS x) T s K := by
  simp only [wN, hx, hb]
  exact ⟨l, hc, h⟩

theorem idx_no {c : UInt8} : ∀ {l : List UInt8}, c ∉ l → Lib.indexByte l c = -1
  | [], _ => rfl
  | x :: l, h => by
    have h1 : (x == c) = false := by simp; exact fun e => h (by simp [e])
    rw [Lib.indexByte, h1, idx_no (l := l) fun q => h (by simp [q])]
    rfl
end Go.Vf.S
end
/- TxP -/
section
/- Dot-atoms; white space at both ends. -/
namespace Go.Vf.S
open Go Go.Vf
attribute [local irreducible] wSeq wRow wp wG
set_option linter.unusedVariables false
set_option linter.unusedSimpArgs false
set_option maxRecDepth 10000

def dotF (l : List UInt8) : Bool := (splitF 46 l).all atomF

theorem dotatom_w {s : SS} {l : List UInt8} (hG : Gb s) (hl : l.length ≤ 1000000) : CallW pr n_text_DotAtom [str l] s fun v s' => v = .bool (dotF l) ∧ Chg s s' [] := by
  refine CallW.run good ok_text_DotAtom (by simp) rfl ?_
  (try refine pSeq ?_); (repeat refine sb ?_)
  refine (Split_w (c := 46) hl).mono fun v s1 q => ?_
  obtain ⟨base, cap, rfl, h1, c1, hB⟩ := q
  generalize hls : splitF 46 l = ls at *
  obtain ⟨b, rfl, cs, t, g, r, h2, h3⟩ := h1.at
  have hlen : ls.length ≤ 1000001 := by
    rw [← hls, split_len]
    have := List.count_le_length (a := (46 : UInt8)) (l := l)
    omega
  (repeat refine sb ?_)
  refine pLoop (MW.head good (fun x : SIt => ls.length - x.i) (fun x => x.i ≤ ls.length ∧ Chg s x.s [] ∧ Chg s1 x.s [] ∧ (ls.take x.i).all atomF = true) (fun x => [(6, .slice (some ⟨b, 0, none⟩) ls.length cap), (7, .int .i64 ls.length), (8, .int .i64 x.i)]) (fun x => x.s) ⟨0, s1⟩ ⟨Nat.zero_le _, c1, .refl _ _, rfl⟩ (Wk.same ⟨rfl, rfl, rfl, trivial⟩) ?_)
  intro ⟨i, s2⟩ ⟨hi, c2, c12, h4⟩
  dsimp only at hi c2 c12 h4 ⊢
  (repeat refine sb ?_)
  intro q hq
  by_cases hlt : i < ls.length
  · obtain rfl : q = true := by rw [hq]; simp <;> omega
    obtain ⟨x, hx⟩ : ∃ x, ls[i]? = some x := ⟨_, List.getElem?_eq_getElem hlt⟩
    (repeat refine sb ?_)
    refine ⟨by omega, ?_⟩
    intro m hm o ho
    obtain rfl : m = i := by omega
    (repeat refine sb ?_)
    have hb2 := c12.blk b _ (by obtain ⟨_, _, _, _, _, e, q, _⟩ := h1; cases e; exact q) (by simp) h2
    refine ldS_is rfl hb2 (by rw [ho, Nat.zero_add, Nat.mul_one]; exact h3 m x hx) ?_
    (repeat refine sb ?_)
    refine (atom_w (hG.chg c2 (by simp))).mono fun v s3 q => ?_
    obtain ⟨rfl, c3⟩ := q
    (repeat refine sb ?_)
    intro q hq
    by_cases ha : atomF x = true
    · obtain rfl : q = false := by rw [hq, ha]; rfl
      (repeat refine sb ?_)
      intro z hz
      rw [i64_id (by omega)] at hz
      obtain rfl : z = ((m + 1 : Nat) : Int) := by omega
      (repeat refine sb ?_)
      exact ⟨⟨m + 1, s3⟩, ⟨hlt, c2.nil c3, c12.nil c3, by rw [take_next hx]; simp [h4, ha]⟩, by show ls.length - (m + 1) < ls.length - m; omega, Wk.same ⟨rfl, rfl, rfl, trivial⟩⟩
    · obtain rfl : q = true := by rw [hq]; simp [ha]
      (repeat refine sb ?_)
      refine ⟨bool_eq ?_, c2.nil c3⟩
      unfold dotF
      rw [hls]
      symm
      rw [List.all_eq_false]
      exact ⟨x, List.mem_of_getElem? hx, by simp [ha]⟩
  · obtain rfl : q = false := by rw [hq]; simp <;> omega
    (repeat refine sb ?_)
    refine ⟨bool_eq ?_, c2⟩
    unfold dotF
    rw [hls, ← h4, List.take_of_length_le (by omega)]

end Go.Vf.S
end
/- LbA -/
section
/- Parts of a text, by the library's calls. -/
namespace Go.Vf.S
open Go Go.Vf
attribute [local irreducible] wSeq wRow wp wG
set_option linter.unusedVariables false
set_option linter.unusedSimpArgs false
set_option maxRecDepth 10000

theorem ssuffix_w {s : SS} {a b : List UInt8} (ha : a.length ≤ 1000000) : CallW pr n_internal_stringslite_HasSuffix [str a, str b] s fun v s' => v = .bool (decide (b <:+ a)) ∧ s' = s := by
  refine CallW.run good ok_internal_stringslite_HasSuffix (by simp) rfl ?_
  (try refine pSeq ?_); (repeat(first|refine sb ?_|refine gOn rfl ?_|refine gOff rfl rfl ?_|refine gTup rfl ?_))
  intro n hn
  (repeat(first|refine sb ?_|refine gOn rfl ?_|refine gOff rfl rfl ?_|refine gTup rfl ?_))
  intro m hm
  (repeat(first|refine sb ?_|refine gOn rfl ?_|refine gOff rfl rfl ?_|refine gTup rfl ?_))
  intro q hq
  by_cases h : b.length ≤ a.length
  · obtain rfl : q = true := by rw [hq]; simp <;> omega
    (repeat(first|refine sb ?_|refine gOn rfl ?_|refine gOff rfl rfl ?_|refine gTup rfl ?_))
    intro n1 hn1
    (repeat(first|refine sb ?_|refine gOn rfl ?_|refine gOff rfl rfl ?_|refine gTup rfl ?_))
    intro m1 hm1
    (repeat(first|refine sb ?_|refine gOn rfl ?_|refine gOff rfl rfl ?_|refine gTup rfl ?_))
    intro z hz
    rw [i64_id (by omega)] at hz
    (repeat(first|refine sb ?_|refine gOn rfl ?_|refine gOff rfl rfl ?_|refine gTup rfl ?_))
    refine ⟨by omega, ?_⟩
    intro k hk r hr
    obtain rfl : k = a.length - b.length := by omega
    (repeat(first|refine sb ?_|refine gOn rfl ?_|refine gOff rfl rfl ?_|refine gTup rfl ?_))
    intro q hq
    (repeat(first|refine sb ?_|refine gOn rfl ?_|refine gOff rfl rfl ?_|refine gTup rfl ?_))
    refine ⟨bool_eq ?_, rfl⟩
    rw [hq, hr, List.take_of_length_le (by simp), decide_eq_decide, List.suffix_iff_eq_drop]
    exact ⟨fun e => e.symm, fun e => e.symm⟩
  · obtain rfl : q = false := by rw [hq]; simp <;> omega
    (repeat(first|refine sb ?_|refine gOn rfl ?_|refine gOff rfl rfl ?_|refine gTup rfl ?_))
    refine ⟨bool_eq ?_, rfl⟩
    symm
    rw [decide_eq_false_iff_not]
    exact fun q => h q.length_le

theorem cutP_w {s : SS} {a b : List UInt8} : CallW pr n_strings_CutPrefix [str a, str b] s fun v s' => v = .tuple ⟨[str (if a.take b.length = b then a.drop b.length else a), .bool (decide (a.take b.length = b))]⟩ ∧ s' = s := by
  refine CallW.run good ok_strings_CutPrefix (by simp) rfl ?_
  (try refine pSeq ?_); (repeat refine sb ?_)
  refine (show CallW pr n_internal_stringslite_CutPrefix [str a, str b] s fun v s' => v = .tuple ⟨[str (if a.take b.length = b then a.drop b.length else a), .bool (decide (a.take b.length = b))]⟩ ∧ s' = s from ?_).mono fun v s q => ?_
  · refine CallW.run good ok_internal_stringslite_CutPrefix (by simp) rfl ?_
    (try refine pSeq ?_); (repeat refine sb ?_)
    refine sprefix_w.mono fun v s q => ?_
    obtain ⟨rfl, rfl⟩ := q
    (repeat refine sb ?_)
    intro q hq
    by_cases h : a.take b.length = b
    · obtain rfl : q = false := by rw [hq]; simp [h]
      have hle : b.length ≤ a.length := by
        have := congrArg List.length h
        rw [List.length_take] at this
        omega
      rw [if_pos h, decide_eq_true h]
      (repeat refine sb ?_)
      intro n hn
      (repeat refine sb ?_)
      refine ⟨by omega, ?_⟩
      intro m hm r hr
      obtain rfl : m = b.length := by omega
      rw [List.take_of_length_le (by simp)] at hr
      subst hr
      (repeat refine sb ?_)
      exact ⟨rfl, rfl⟩
    · obtain rfl : q = true := by rw [hq]; simp [h]
      rw [if_neg h, decide_eq_false h]
      (repeat refine sb ?_)
      exact ⟨rfl, rfl⟩
  obtain ⟨rfl, rfl⟩ := q
  (repeat refine sb ?_)
  exact ⟨rfl, rfl⟩

theorem cutS_w {s : SS} {a b : List UInt8} (ha : a.length ≤ 1000000) : CallW pr n_strings_CutSuffix [str a, str b] s fun v s' => v = .tuple ⟨[str (if b <:+ a then a.take (a.length - b.length) else a), .bool (decide (b <:+ a))]⟩ ∧ s' = s := by
  refine CallW.run good ok_strings_CutSuffix (by simp) rfl ?_
  (try refine pSeq ?_); (repeat refine sb ?_)
  refine (show CallW pr n_internal_stringslite_CutSuffix [str a, str b] s fun v s' => v = .tuple ⟨[str (if b <:+ a then a.take (a.length - b.length) else a), .bool (decide (b <:+ a))]⟩ ∧ s' = s from ?_).mono fun v s q => ?_
  · refine CallW.run good ok_internal_stringslite_CutSuffix (by simp) rfl ?_
    (try refine pSeq ?_); (repeat refine sb ?_)
    refine (ssuffix_w ha).mono fun v s q => ?_
    obtain ⟨rfl, rfl⟩ := q
    (repeat refine sb ?_)
    intro q hq
    by_cases h : b <:+ a
    · obtain rfl : q = false := by rw [hq]; simp [h]
      have hle := h.length_le
      rw [if_pos h, decide_eq_true h]
      (repeat refine sb ?_)
      intro n hn
      (repeat refine sb ?_)
      intro m hm
      (repeat refine sb ?_)
      intro z hz
      rw [i64_id (by omega)] at hz
      (repeat refine sb ?_)
      refine ⟨by omega, ?_⟩
      intro k hk r hr
      obtain rfl : k = a.length - b.length := by omega
      rw [List.drop_zero, Nat.sub_zero] at hr
      subst hr
      (repeat refine sb ?_)
      exact ⟨rfl, rfl⟩
    · obtain rfl : q = true := by rw [hq]; simp [h]
      rw [if_neg h, decide_eq_false h]
      (repeat refine sb ?_)
      exact ⟨rfl, rfl⟩
  obtain ⟨rfl, rfl⟩ := q
  (repeat refine sb ?_)
  exact ⟨rfl, rfl⟩

theorem sidx_w {s : SS} {l : List UInt8} {c : UInt8} : CallW pr n_internal_stringslite_Index [str l, str [c]] s fun v s' => v = .int .i64 (Lib.indexByte l c) ∧ s' = s := by
  refine CallW.run good ok_internal_stringslite_Index (by simp) rfl ?_
  (try refine pSeq ?_); (repeat(first|refine sb ?_|refine gOn rfl ?_|refine gOff rfl rfl ?_|refine gTup rfl ?_))
  intro n hn
  (repeat(first|refine sb ?_|refine gOn rfl ?_|refine gOff rfl rfl ?_|refine gTup rfl ?_))
  intro q hq
  obtain rfl : q = false := by rw [hq, hn]; rfl
  (repeat(first|refine sb ?_|refine gOn rfl ?_|refine gOff rfl rfl ?_|refine gTup rfl ?_))
  intro q hq
  by_cases he : [c] = l
  · subst he
    obtain rfl : q = true := by rw [hq]; simp
    (repeat(first|refine sb ?_|refine gOn rfl ?_|refine gOff rfl rfl ?_|refine gTup rfl ?_))
    exact ⟨by show Value.int .i64 0 = _; simp [Lib.indexByte], rfl⟩
  · obtain rfl : q = false := by rw [hq]; simp [he]
    (repeat(first|refine sb ?_|refine gOn rfl ?_|refine gOff rfl rfl ?_|refine gTup rfl ?_))
    intro q hq
    obtain rfl : q = true := by rw [hq, hn]; rfl
    (repeat(first|refine sb ?_|refine gOn rfl ?_|refine gOff rfl rfl ?_|refine gTup rfl ?_))
    refine ⟨by simp, ?_⟩
    intro m hm
    obtain rfl : m = 0 := by omega
    refine ⟨c, rfl, ?_⟩
    (repeat(first|refine sb ?_|refine gOn rfl ?_|refine gOff rfl rfl ?_|refine gTup rfl ?_))
    refine indexByte_w.mono fun v s q => ?_
    obtain ⟨rfl, rfl⟩ := q
    (repeat(first|refine sb ?_|refine gOn rfl ?_|refine gOff rfl rfl ?_|refine gTup rfl ?_))
    exact ⟨rfl, rfl⟩

def cutF (c : UInt8) (l : List UInt8) : List UInt8 × List UInt8 × Bool := if c ∈ l then (l.takeWhile (· != c), l.drop ((l.takeWhile (· != c)).length + 1), true) else (l, [], false)
theorem while_first {c : UInt8} {f r : List UInt8} (h : c ∉ f) : (f ++ c :: r).takeWhile (· != c) = f := by
  induction f with
  | nil => simp
  | cons x f ih =>
    have : x ≠ c := fun e => h (by simp [e])
    rw [List.cons_append, List.takeWhile_cons, if_pos (by simpa using this), ih fun q => h (by simp [q])]

theorem cut1_w {s : SS} {l : List UInt8} {c : UInt8} (hl : l.length ≤ 1000000) : CallW pr n_strings_Cut [str l, str [c]] s fun v s' => v = .tuple ⟨[str (cutF c l).1, str (cutF c l).2.1, .bool (cutF c l).2.2]⟩ ∧ s' = s := by
  refine CallW.run good ok_strings_Cut (by simp) rfl ?_
  (try refine pSeq ?_); (repeat(first|refine sb ?_|refine kNo ?_))
  refine (show CallW pr n_internal_stringslite_Cut [str l, str [c]] s fun v s' => v = .tuple ⟨[str (cutF c l).1, str (cutF c l).2.1, .bool (cutF c l).2.2]⟩ ∧ s' = s from ?_).mono fun v s q => ?_
  · refine CallW.run good ok_internal_stringslite_Cut (by simp) rfl ?_
    (try refine pSeq ?_); (repeat(first|refine sb ?_|refine kNo ?_))
    refine sidx_w.mono fun v s q => ?_
    obtain ⟨rfl, rfl⟩ := q
    by_cases hc : c ∈ l
    · obtain ⟨f, r, rfl, hf⟩ := List.eq_append_cons_of_mem hc
      have e : cutF c (f ++ c :: r) = (f, r, true) := by
        unfold cutF
        rw [if_pos hc, while_first hf, show f ++ c :: r = (f ++ [c]) ++ r by simp, show f.length + 1 = (f ++ [c]).length by simp, List.drop_left]
      have hn : (f ++ c :: r).length = f.length + 1 + r.length := by simp; omega
      rw [index_first hf, e]
      (repeat(first|refine sb ?_|refine kNo ?_))
      intro q hq; obtain rfl : q = true := (by rw [hq]; simp <;> omega); (repeat(first|refine sb ?_|refine kNo ?_))
      refine ⟨by omega, ?_⟩
      intro m hm g hg
      obtain rfl : m = f.length := by omega
      have eg : g = f := by rw [hg]; simp
      subst eg
      (repeat(first|refine sb ?_|refine kNo ?_))
      intro n hn1
      (repeat(first|refine sb ?_|refine kNo ?_))
      intro z hz
      rw [i64_id (by simp at hn1; omega)] at hz
      (repeat(first|refine sb ?_|refine kNo ?_))
      refine ⟨by simp at hn1; omega, ?_⟩
      intro m hm t ht
      obtain rfl : m = g.length + 1 := by simp at hn1; omega
      have et : t = r := by rw [ht, List.take_of_length_le (by simp <;> omega), show g ++ c :: r = (g ++ [c]) ++ r by simp, show g.length + 1 = (g ++ [c]).length by simp, List.drop_left]
      clear ht hg
      subst et
      (repeat(first|refine sb ?_|refine kNo ?_))
      exact ⟨rfl, rfl⟩
    · have e : cutF c l = (l, [], false) := by unfold cutF; rw [if_neg hc]
      rw [idx_no hc, e]
      (repeat(first|refine sb ?_|refine kNo ?_))
      intro q hq; obtain rfl : q = false := (by rw [hq]; simp <;> omega); (repeat(first|refine sb ?_|refine kNo ?_))
      exact ⟨rfl, rfl⟩
  obtain ⟨rfl, rfl⟩ := q
  (repeat(first|refine sb ?_|refine kNo ?_))
  exact ⟨rfl, rfl⟩

theorem cut_len (c : UInt8) (l : List UInt8) : (cutF c l).1.length ≤ l.length ∧ (cutF c l).2.1.length ≤ l.length := by
  unfold cutF
  split
  · exact ⟨(List.takeWhile_prefix _).length_le, by simp⟩
  · simp
theorem idx_in {c : UInt8} {l : List UInt8} : (0 ≤ Lib.indexByte l c) ↔ c ∈ l := by
  constructor
  · intro h
    refine Classical.byContradiction fun hn => ?_
    rw [idx_no hn] at h
    omega
  · intro h
    obtain ⟨f, r, rfl, hf⟩ := List.eq_append_cons_of_mem h
    rw [index_first hf]
    omega
theorem contains1_w {s : SS} {l : List UInt8} {c : UInt8} : CallW pr n_strings_Contains [str l, str [c]] s fun v s' => v = .bool (decide (c ∈ l)) ∧ s' = s := by
  refine CallW.run good ok_strings_Contains (by simp) rfl ?_
  (try refine pSeq ?_); (repeat refine sb ?_)
  refine (show CallW pr n_strings_Index [str l, str [c]] s fun v s' => v = .int .i64 (Lib.indexByte l c) ∧ s' = s from ?_).mono fun v s q => ?_
  · refine CallW.run good ok_strings_Index (by simp) rfl ?_
    (try refine pSeq ?_); (repeat refine sb ?_)
    refine sidx_w.mono fun v s q => ?_
    obtain ⟨rfl, rfl⟩ := q
    (repeat refine sb ?_)
    exact ⟨rfl, rfl⟩
  obtain ⟨rfl, rfl⟩ := q
  (repeat refine sb ?_)
  intro q hq
  (repeat refine sb ?_)
  refine ⟨bool_eq ?_, rfl⟩
  rw [hq, decide_eq_decide]
  exact idx_in
end Go.Vf.S
end
/- LbB -/
section
/- Two bytes replaced. -/
namespace Go.Vf.S
open Go Go.Vf
set_option linter.unusedVariables false
set_option linter.unusedSimpArgs false
set_option maxRecDepth 10000

end Go.Vf.S
end
/- LbC -/
section
/- What a call of the library's is told. -/
namespace Go.Vf.S
open Go Go.Vf Go.Proofs Go.RowKit
set_option linter.unusedVariables false
set_option linter.unusedSimpArgs false
set_option maxRecDepth 10000

theorem tyNe {H : List (Nat × Option ABlk)} {i j : Nat} {c c' : List Value} {t t' : TypeId} {g g' r r' : Bool} (h : lookH H i = some (.cells c t g r)) (h' : lookH H j = some (.cells c' t' g' r')) (ht : t ≠ t') : i ≠ j := by
  intro e
  subst e
  rw [h] at h'
  cases h'
  exact ht rfl

abbrev gMx : Nat := 3
/-- The library's own number lies there. -/
def Gx (s : SS) : Prop := gMx < s.gl ∧ gMx < s.next ∧ ∃ m, lookH s.heap gMx = some (.cells [.int .i64 m] 3 false true)
theorem Gx.chg {s s' : SS} (h : Gx s) (c : Chg s s' []) : Gx s' := by
  obtain ⟨h1, h2, m, h3⟩ := h
  exact ⟨by rw [c.gl]; exact h1, Nat.lt_of_lt_of_le h2 c.next, m, c.blk _ _ h2 (by simp) h3⟩

theorem lrel_1 {ρ : Ren} {a : Value} {args' : List Value} (h : LRel ρ [a] args') : ∃ v1, args' = [v1] ∧ VRel ρ a v1 := by
  obtain ⟨h1, h2⟩ := h
  match args', h1 with
  | [v1], _ => exact ⟨v1, rfl, h2 0 _ _ rfl rfl⟩
end Go.Vf.S
end

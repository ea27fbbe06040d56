import Derived.Test.YtafdbfpclolpkaaTxF
/- Bytes that are brought to others one by one, where they lie. -/
namespace Go.Vf.S
open Go Go.Vf Go.Proofs Go.RowKit
set_option linter.unusedVariables false
set_option linter.unusedSimpArgs false

def plainC (c : UInt8) : UInt8 := UInt8.ofNat (32 + c.toNat % 95)
/-- Byte by byte so far. -/
def mixI (f : Nat → UInt8 → UInt8) (l : List UInt8) (p : Nat) : List UInt8 := (l.mapIdx f).take p ++ l.drop p
theorem mixI_len (f : Nat → UInt8 → UInt8) (l : List UInt8) (p : Nat) : (mixI f l p).length = l.length := by simp [mixI]; omega
theorem mixI_0 (f : Nat → UInt8 → UInt8) (l : List UInt8) : mixI f l 0 = l := by simp [mixI]
theorem mixI_end {f : Nat → UInt8 → UInt8} {l : List UInt8} {p : Nat} (h : l.length ≤ p) : mixI f l p = l.mapIdx f := by
  unfold mixI
  rw [List.drop_of_length_le h, List.append_nil, List.take_of_length_le (by simpa using h)]
theorem mixI_next {f : Nat → UInt8 → UInt8} {l : List UInt8} {p : Nat} {c : UInt8} (h : l[p]? = some c) : mixI f l (p + 1) = (mixI f l p).set p (f p c) := by
  have hp := lt_of_get h
  unfold mixI
  rw [drop_next h, take_next (c := f p c) (by rw [List.getElem?_mapIdx, h]; rfl), List.set_append_right _ _ (by simp; omega)]
  have e : ((l.mapIdx f).take p).length = p := by simp; omega
  rw [e, Nat.sub_self, List.append_assoc]
  rfl
theorem mixI_at {f : Nat → UInt8 → UInt8} {l : List UInt8} {p : Nat} {c : UInt8} (h : l[p]? = some c) : (mixI f l p)[p]? = some c := by
  have hp := lt_of_get h
  unfold mixI
  have e : ((l.mapIdx f).take p).length = p := by simp; omega
  rw [List.getElem?_append_right (by omega), e, Nat.sub_self, drop_next h]
  rfl
theorem bytes_get {l : List UInt8} {p : Nat} {c : UInt8} (h : l[p]? = some c) : (bytesV l)[p]? = some (.int .u8 c.toNat) := by
  rw [bytesV, List.getElem?_map, h]; rfl
theorem bytes_set {l : List UInt8} {p : Nat} (h : p < l.length) (c : UInt8) : setRow (bytesV l) p [.int .u8 c.toNat] = some (bytesV (l.set p c)) := by
  rw [setRow_one (by rw [bytesV_len]; exact h)]
  simp [bytesV, List.map_set]
theorem plainC_nat (c : UInt8) : (plainC c).toNat = 32 + c.toNat % 95 := by
  unfold plainC
  have := Nat.mod_lt c.toNat (show 0 < 95 by omega)
  rw [UInt8.toNat_ofNat']
  omega
theorem mapIdx_const (f : UInt8 → UInt8) (l : List UInt8) : l.mapIdx (fun _ => f) = l.map f := by
  refine List.ext_getElem? fun i => ?_
  rw [List.getElem?_mapIdx, List.getElem?_map]
/-- Few bytes of a text, as the machine cuts them. -/
theorem take_min {l g : List UInt8} {k m : Nat} {n z : Int} (hg : g = (l.drop 0).take (k - 0)) (hn : n = (l.length : Int)) (hz : z = min n (m : Int)) (hk : (k : Int) = z) : g = l.take m := by
  rw [hg, List.drop_zero, Nat.sub_zero]
  by_cases h : l.length ≤ m
  · rw [List.take_of_length_le (by omega), List.take_of_length_le h]
  · rw [show k = m by omega]
end Go.Vf.S

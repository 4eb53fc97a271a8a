/-
  A text's bytes, one by one. No program.
-/
import Derived.WalkKit
namespace Go.Proofs.Ytpjpghigilbfaaa
def byteAt (s : ByteArray) (i : Nat) : Nat := (s.get! i).toNat
theorem byteAt_lt (s : ByteArray) (i : Nat) : byteAt s i < 256 := UInt8.toNat_lt _
theorem byteAt_eq (s : ByteArray) (i : Nat) : byteAt s i = (s.data[i]?.getD 0).toNat := by
  cases s with
  | mk d =>
    unfold byteAt ByteArray.get!
    by_cases h : i < d.size
    · simp [h]
    · simp [h]; rfl
theorem byteAt_idx (s : ByteArray) (i : Nat) (h : i < s.size) : (s[i]'h).toNat = byteAt s i := by
  rw [byteAt_eq]
  have h' : i < s.data.size := h
  rw [Array.getElem?_eq_getElem h']
  rfl
theorem byteAt_extract (s : ByteArray) (a i : Nat) : byteAt (s.extract a s.size) i = byteAt s (a + i) := by
  rw [byteAt_eq, byteAt_eq, ByteArray.data_extract, Array.getElem?_extract]
  have e : s.size = s.data.size := rfl
  rw [e, Nat.min_self]
  split
  · rfl
  · rw [Array.getElem?_eq_none (by omega)]
theorem byteAt_left (a b : ByteArray) (i : Nat) (h : i < a.size) : byteAt (a ++ b) i = byteAt a i := by
  rw [byteAt_eq, byteAt_eq, ByteArray.data_append, Array.getElem?_append_left h]
theorem byteAt_right (a b : ByteArray) (i : Nat) : byteAt (a ++ b) (a.size + i) = byteAt b i := by
  rw [byteAt_eq, byteAt_eq, ByteArray.data_append]
  have e : a.size = a.data.size := rfl
  rw [e, Array.getElem?_append_right (by omega), Nat.add_sub_cancel_left]
end Go.Proofs.Ytpjpghigilbfaaa

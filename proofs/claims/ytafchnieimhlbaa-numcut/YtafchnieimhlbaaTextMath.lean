/-
  Plain facts about texts as bytes: read again, cut off.
-/
import Derived.Test.YtafchnieimhlbaaNumText
namespace Go.Proofs.Ytafchnieimhlbaa
open Go.RowKit
theorem getTextM_of {xs : List Int} {n k er : Int} (h : getM xs = (n, k, er)) : getTextM xs = if er = 0 then if n < 0 ∨ 65536 < n then ([], 0, 1) else if (xs.length : Int) - k < n then ([], 0, 2) else ((xs.drop k.toNat).take n.toNat, k + n, 0) else ([], 0, er) := by
  unfold getTextM; rw [h]
theorem getTextM_cut (s : ByteArray) (hs : s.size ≤ 65536) (k : Nat) (hk : k < (digs (zz s.size) ++ bts s).length) : getTextM ((digs (zz s.size) ++ bts s).take k) = ([], 0, 2) := by
  have hz := zz_lt s.size (by omega) (by omega)
  have hl := bts_length s
  by_cases hd : k < (digs (zz s.size)).length
  · rw [List.take_append_of_le_length (by omega), getTextM_of (getM_cut _ k hz hd)]
    simp
  · obtain ⟨j, rfl⟩ : ∃ j, k = (digs (zz s.size)).length + j := ⟨k - (digs (zz s.size)).length, by omega⟩
    have hj : j < s.size := by simp at hk; omega
    rw [List.take_length_add_append, getTextM_of (getM_digs _ _ hz), uz_zz, if_pos rfl, if_neg (by omega), if_pos (by simp; omega)]
theorem getTextM_whole (s : ByteArray) (hs : s.size ≤ 65536) (rest : List Int) : getTextM (digs (zz s.size) ++ (bts s ++ rest)) = (bts s, (((digs (zz s.size)).length + s.size : Nat) : Int), 0) := by
  have hz := zz_lt s.size (by omega) (by omega)
  have hl := bts_length s
  rw [getTextM_of (getM_digs _ _ hz), uz_zz, if_pos rfl, if_neg (by omega), if_neg (by simp; omega)]
  simp only [Int.toNat_natCast, Prod.mk.injEq, and_true, Int.natCast_add]
  rw [List.drop_left, List.take_append_of_le_length (by omega), List.take_of_length_le (by omega)]
theorem strOf_bts (s : ByteArray) : strOfNums (bts s) = s := by
  unfold strOfNums bts
  rw [List.map_map]
  have : ((fun n : Int => UInt8.ofNat n.toNat) ∘ fun b : UInt8 => (b.toNat : Int)) = id := by
    funext b
    simp
  rw [this, List.map_id]
end Go.Proofs.Ytafchnieimhlbaa

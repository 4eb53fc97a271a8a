/-
  The program's Of, bounds, At, Line.
-/
import Derived.Test.YtkpaafdmhalbmaaLinStarts
import Derived.Test.YtkpaafdmhalbmaaShelf
import Derived.Test.YtkpaafdmhalbmaaRet
import Derived.BigRegion
import Derived.Deep.DeepCutAuto
namespace Go.Proofs.Ytkpaafdmhalbmaa
open Go.RowKit
set_option maxHeartbeats 2000000 in
set_option maxRecDepth 100000 in
theorem of_any (s : ByteArray) (k : Nat) (w : World) (hs : s.size ≤ 100000) (hk : k ≤ s.size) :
    Calls Try.prog 10 #[.string s, .int .i64 k] w fun e w' => e = .returned (.tuple #[.int .i64 (lnK s k), .int .i64 (k - lsK s k + 1)]) ∧ w' = w := by
  have H1 := Try.strings_Count_one (s.extract 0 k) 10 w
  have e1 := count_ahead s hk
  have H2 := Try.strings_LastIndex_one (s.extract 0 k) ⟨#[10]⟩ rfl (by rw [ByteArray.size_extract]; omega) w
  rw [show (((⟨#[10]⟩ : ByteArray)[0]'(by decide)).toNat : Int) = 10 from rfl, last_index s hk] at H2
  have h3 := lnK_le s k
  have h4 := lsK_le s k
  unfold Lib.countByte at H1
  generalize List.count 10 (s.extract 0 k).data.toList = c at *
  generalize lnK s k = a at *
  generalize lsK s k = b at *
  replace H1 := hide H1
  replace H2 := hide H2
  obtain rfl : a = c + 1 := by omega
  clear e1
  go_enter Try.func10, Try.ntmps10
  go_wp2_with fail
  refine (unhide H1).mono ?_
  rintro e w1 ⟨rfl, rfl⟩
  go_wp2_with fail
  refine (unhide H2).mono ?_
  rintro e w1 ⟨rfl, rfl⟩
  go_wp2
  go_ret2
  refine ⟨?_, rfl⟩
  congr 3
  simp
  omega
set_option maxHeartbeats 2000000 in
set_option maxRecDepth 100000 in
theorem of_none (s : ByteArray) (n : Int) (w : World) (_hs : s.size ≤ 100000) (hk : n < 0 ∨ s.size < n) :
    Calls Try.prog 10 #[.string s, .int .i64 n] w fun e w' => e = .returned (.tuple #[.int .i64 0, .int .i64 0]) ∧ w' = w := by
  go_enter Try.func10, Try.ntmps10
  by_cases h : n < 0
  · go_wp2
    go_ret2
    exact ⟨rfl, rfl⟩
  · have h2 : (s.size : Int) < n := by omega
    go_wp2
    go_ret2
    exact ⟨rfl, rfl⟩
set_option maxHeartbeats 2000000 in
set_option maxRecDepth 100000 in
theorem bounds_any (s : ByteArray) (i : Nat) (w : World) (hs : s.size ≤ 100000) (hi : i < lnK s s.size) :
    Calls Try.prog 15 #[.string s, .int .i64 ((i : Int) + 1)] w fun e w' => e = .returned (.tuple #[.int .i64 (frK s i), .int .i64 (toK s i), .bool true]) ∧ Below w.heap.size w w' := by
  have h1 := lnK_le s s.size
  have hb := frK_bounds s hi
  have hS := hide (starts_any s w hs)
  go_enter Try.func15, Try.ntmps15
  go_wp2_with fail
  refine (unhide hS).mono ?_
  rintro e w1 ⟨v, rfl, hown, hb1⟩
  clear hS
  obtain ⟨b, off, cap, rfl, hc1, hc2, hc3, hc4⟩ := hown.lst (by show 0 < lnK s s.size; omega)
  rw [List.length_map] at hc1 hc4
  have hcell : ∀ j, j < lnK s s.size → w1.cell? ⟨b, off + j, none⟩ = some (.int .i64 (frK s j)) := fun j hj => by
    rw [hc4 j hj]
    have : j < (stK s s.size).length := hj
    simp [frK, List.getD, this]
  have hlen : (List.map (Value.int .i64) (stK s s.size)).length = lnK s s.size := by rw [List.length_map]; rfl
  rw [hlen]
  have hci := hcell i hi
  change lnK s s.size ≤ cap at hc1
  clear hc4 hlen hown
  by_cases hl : i + 1 = lnK s s.size
  · have ht := hide (toK_last hl)
    clear hcell
    generalize lnK s s.size = n at *
    subst hl
    go_wp2
    go_ret3
    exact ⟨by rw [unhide ht]; rfl, hb1⟩
  · have hcj := hcell (i + 1) (by omega)
    have ht := hide (toK_nl (s := s) (i := i) (by omega))
    have hb2 := frK_bounds s (i := i + 1) (by omega)
    clear hcell
    have hl2 : ¬ ((i : Int) + 1 = (lnK s s.size : Int)) := by omega
    generalize lnK s s.size = n at *
    go_upto_region 6 with fail
    go_region
    go_wp2
    go_ret3
    exact ⟨by rw [unhide ht]; rfl, hb1.drew⟩
set_option maxHeartbeats 2000000 in
set_option maxRecDepth 100000 in
theorem bounds_none (s : ByteArray) (n : Int) (w : World) (hs : s.size ≤ 100000) (hn : n < 1 ∨ lnK s s.size < n) :
    Calls Try.prog 15 #[.string s, .int .i64 n] w fun e w' => e = .returned (.tuple #[.int .i64 0, .int .i64 0, .bool false]) ∧ Below w.heap.size w w' := by
  have h1 := lnK_le s s.size
  have h2 := lnK_pos s s.size
  have hS := hide (starts_any s w hs)
  go_enter Try.func15, Try.ntmps15
  go_wp2_with fail
  refine (unhide hS).mono ?_
  rintro e w1 ⟨v, rfl, hown, hb1⟩
  clear hS
  obtain ⟨b, off, cap, rfl, hc1, hc2, hc3, hc4⟩ := hown.lst (by show 0 < lnK s s.size; omega)
  have hlen : (List.map (Value.int .i64) (stK s s.size)).length = lnK s s.size := by rw [List.length_map]; rfl
  rw [hlen]
  clear hc4 hlen hown hc1
  generalize lnK s s.size = m at *
  by_cases h : n < 1
  · go_wp2
    go_ret3
    exact ⟨rfl, hb1⟩
  · have h3 : (m : Int) < n := by omega
    go_wp2
    go_ret3
    exact ⟨rfl, hb1⟩
set_option maxHeartbeats 2000000 in
set_option maxRecDepth 100000 in
theorem at_any (s : ByteArray) (i c : Nat) (w : World) (hs : s.size ≤ 100000) (hi : i < lnK s s.size) (hc : frK s i + c ≤ toK s i) :
    Calls Try.prog 11 #[.string s, .int .i64 ((i : Int) + 1), .int .i64 ((c : Int) + 1)] w fun e w' => e = .returned (.int .i64 (frK s i + c)) ∧ Below w.heap.size w w' := by
  have hb := frK_bounds s hi
  have hb2 := frK_toK s hi
  have hS := hide (bounds_any s i w hs hi)
  generalize frK s i = x at *
  generalize toK s i = y at *
  go_enter Try.func11, Try.ntmps11
  go_wp2_with fail
  refine (unhide hS).mono ?_
  rintro e w1 ⟨rfl, hb1⟩
  clear hS
  go_wp2
  go_ret
  exact ⟨ret_int (by omega), hb1⟩
set_option maxHeartbeats 2000000 in
set_option maxRecDepth 100000 in
/-- No such column. -/
theorem at_off (s : ByteArray) (i : Nat) (c : Int) (w : World) (hs : s.size ≤ 100000) (hi : i < lnK s s.size) (hr : -9223372036854775808 ≤ c ∧ c ≤ 9223372036854775807) (hc : c < 1 ∨ toK s i < frK s i + (c - 1)) :
    Calls Try.prog 11 #[.string s, .int .i64 ((i : Int) + 1), .int .i64 c] w fun e w' => e = .returned (.int .i64 (-1)) ∧ Below w.heap.size w w' := by
  have hb := frK_bounds s hi
  have hb2 := frK_toK s hi
  have hS := hide (bounds_any s i w hs hi)
  generalize frK s i = x at *
  generalize toK s i = y at *
  go_enter Try.func11, Try.ntmps11
  go_wp2_with fail
  refine (unhide hS).mono ?_
  rintro e w1 ⟨rfl, hb1⟩
  clear hS
  by_cases h : c < 1
  · go_wp2
    go_ret
    exact ⟨rfl, hb1⟩
  · have h2 : y - x < c - 1 := by omega
    go_wp2
    go_ret
    exact ⟨rfl, hb1⟩
set_option maxHeartbeats 2000000 in
set_option maxRecDepth 100000 in
/-- No such line. -/
theorem at_none (s : ByteArray) (n c : Int) (w : World) (hs : s.size ≤ 100000) (hn : n < 1 ∨ lnK s s.size < n) :
    Calls Try.prog 11 #[.string s, .int .i64 n, .int .i64 c] w fun e w' => e = .returned (.int .i64 (-1)) ∧ Below w.heap.size w w' := by
  have hS := hide (bounds_none s n w hs hn)
  go_enter Try.func11, Try.ntmps11
  go_wp2_with fail
  refine (unhide hS).mono ?_
  rintro e w1 ⟨rfl, hb1⟩
  clear hS
  go_wp2
  go_ret
  exact ⟨rfl, hb1⟩
/-- The text of a line. -/
def lineK (s : ByteArray) (i : Nat) : ByteArray := s.extract (frK s i).toNat (toK s i).toNat
set_option maxHeartbeats 2000000 in
set_option maxRecDepth 100000 in
theorem line_any (s : ByteArray) (i : Nat) (w : World) (hs : s.size ≤ 100000) (hi : i < lnK s s.size) :
    Calls Try.prog 12 #[.string s, .int .i64 ((i : Int) + 1)] w fun e w' => e = .returned (.tuple #[.string (lineK s i), .bool true]) ∧ Below w.heap.size w w' := by
  have hb := frK_bounds s hi
  have hb2 := frK_toK s hi
  have hS := hide (bounds_any s i w hs hi)
  unfold lineK
  generalize frK s i = x at *
  generalize toK s i = y at *
  obtain ⟨a, rfl⟩ := Int.eq_ofNat_of_zero_le hb.1
  obtain ⟨b, rfl⟩ := Int.eq_ofNat_of_zero_le (show 0 ≤ y by omega)
  go_enter Try.func12, Try.ntmps12
  go_wp2_with fail
  refine (unhide hS).mono ?_
  rintro e w1 ⟨rfl, hb1⟩
  clear hS
  go_wp2
  go_ret2
  exact ⟨rfl, hb1⟩
set_option maxHeartbeats 2000000 in
set_option maxRecDepth 100000 in
theorem line_none (s : ByteArray) (n : Int) (w : World) (hs : s.size ≤ 100000) (hn : n < 1 ∨ lnK s s.size < n) :
    Calls Try.prog 12 #[.string s, .int .i64 n] w fun e w' => ∃ t, e = .returned (.tuple #[.string t, .bool false]) ∧ Below w.heap.size w w' := by
  have hS := hide (bounds_none s n w hs hn)
  go_enter Try.func12, Try.ntmps12
  go_wp2_with fail
  refine (unhide hS).mono ?_
  rintro e w1 ⟨rfl, hb1⟩
  clear hS
  go_wp2
  go_ret2
  exact ⟨_, rfl, hb1⟩
end Go.Proofs.Ytkpaafdmhalbmaa

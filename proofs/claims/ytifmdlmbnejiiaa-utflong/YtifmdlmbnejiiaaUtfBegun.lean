/-
  What each law of utf begins with: begun; Cut.
-/
import Derived.Test.YtifmdlmbnejiiaaUtfRefs
namespace Go.Proofs.Ytifmdlmbnejiiaa
open Go.RowKit
theorem g1 : flt ⟨#[97, 9, 10, 195, 169]⟩ = -1 := by kernel_rfl
theorem g2 : flt ⟨#[97, 255]⟩ = 1 := by kernel_rfl
theorem g3 : flt ⟨#[97, 98, 127]⟩ = 2 := by kernel_rfl
theorem g4 : (decide ((⟨#[]⟩ : ByteArray).size ≤ 2000) && decide (flt ⟨#[]⟩ < 0)) = true := by kernel_rfl
theorem g5 : cnt ⟨#[97, 195, 169, 255]⟩ = 3 := by kernel_rfl
theorem below3 {a b c : World} (h : Below a.heap.size a b) (k : Below b.heap.size b c) : Below a.heap.size a c := h.trans (k.mono h.size)
set_option maxHeartbeats 2000000 in
set_option maxRecDepth 100000 in
theorem begun_any (w : World) : Calls Try.prog 7 #[] w fun e w' => e = .returned (.bool true) ∧ Below w.heap.size w w' := by
  have h1 := fun w => uFault_any ⟨#[97, 9, 10, 195, 169]⟩ w (by decide)
  have h2 := fun w => uFault_any ⟨#[97, 255]⟩ w (by decide)
  have h3 := fun w => uFault_any ⟨#[97, 98, 127]⟩ w (by decide)
  have h4 := fun w => uText_any ⟨#[]⟩ w (by decide)
  have h5 := fun w => uCount_any ⟨#[97, 195, 169, 255]⟩ w (by decide)
  rw [g1] at h1
  rw [g2] at h2
  rw [g3] at h3
  rw [g4] at h4
  rw [g5] at h5
  have H1 := hide h1
  have H2 := hide h2
  have H3 := hide h3
  have H4 := hide h4
  have H5 := hide h5
  clear h1 h2 h3 h4 h5
  go_enter Try.func7, Try.ntmps7
  go_wp2_with fail
  refine (unhide H1 _).mono ?_
  rintro e w1 ⟨rfl, hb1⟩
  go_wp2_with fail
  refine (unhide H2 _).mono ?_
  rintro e w2 ⟨rfl, hb2⟩
  go_wp2_with fail
  refine (unhide H3 _).mono ?_
  rintro e w3 ⟨rfl, hb3⟩
  go_wp2_with fail
  refine (unhide H4 _).mono ?_
  rintro e w4 ⟨rfl, hb4⟩
  go_wp2_with fail
  refine (unhide H5 _).mono ?_
  rintro e w5 ⟨rfl, hb5⟩
  go_wp2
  go_ret
  exact ⟨rfl, below3 (below3 (below3 (below3 hb1 hb2) hb3) hb4) hb5⟩
/-- A text that is not too long. -/
def cutS (s : ByteArray) (n : Nat) : ByteArray := if n < s.size then s.extract 0 n else s
theorem cutS_le (s : ByteArray) (n : Nat) : (cutS s n).size ≤ n := by
  unfold cutS
  split
  · rw [ByteArray.size_extract]; omega
  · omega
set_option maxHeartbeats 400000 in
set_option maxRecDepth 100000 in
theorem cut_any (s : ByteArray) (n : Nat) (w : World) (_hs : s.size ≤ maxLen) (hn : n ≤ 1000000) :
    Calls Try.prog 8 #[.string s, .int .i64 n] w fun e w' => e = .returned (.string (cutS s n)) ∧ w' = w := by
  unfold maxLen at _hs
  by_cases h : n < s.size
  · rw [cutS, if_pos h]
    go_enter Try.func8, Try.ntmps8
    go_wp2
    go_ret
    exact ⟨rfl, rfl⟩
  · rw [cutS, if_neg h]
    go_enter Try.func8, Try.ntmps8
    go_wp2
    go_ret
    exact ⟨rfl, rfl⟩
end Go.Proofs.Ytifmdlmbnejiiaa

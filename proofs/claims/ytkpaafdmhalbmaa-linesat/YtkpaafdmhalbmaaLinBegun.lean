/-
  What each law of lines begins with: begun.
-/
import Derived.Test.YtkpaafdmhalbmaaLinWalk
namespace Go.Proofs.Ytkpaafdmhalbmaa
open Go.RowKit
theorem lb1 : stK ⟨#[97, 98, 10, 99]⟩ 4 = [0, 3] := by kernel_rfl
theorem lb2 : lnK ⟨#[97, 98, 10, 99]⟩ 3 = 2 := by kernel_rfl
theorem lb3 : lsK ⟨#[97, 98, 10, 99]⟩ 3 = 3 := by kernel_rfl
theorem lb4 : lineK ⟨#[97, 98, 10, 99]⟩ 0 = ⟨#[97, 98]⟩ := by kernel_rfl
theorem lb5 : frK ⟨#[97, 98, 10, 99]⟩ 0 = 0 := by kernel_rfl
theorem lb6 : toK ⟨#[97, 98, 10, 99]⟩ 0 = 2 := by kernel_rfl
set_option maxHeartbeats 2000000 in
set_option maxRecDepth 100000 in
theorem linesbegun_any (w : World) : Calls Try.prog 7 #[] w fun e w' => e = .returned (.bool true) ∧ Below w.heap.size w w' := by
  have hs : (⟨#[97, 98, 10, 99]⟩ : ByteArray).size ≤ 100000 := by decide
  have hl : 0 < lnK ⟨#[97, 98, 10, 99]⟩ (⟨#[97, 98, 10, 99]⟩ : ByteArray).size := lnK_pos _ _
  have H1 := fun w => starts_any ⟨#[97, 98, 10, 99]⟩ w hs
  have H2 := fun w => of_any ⟨#[97, 98, 10, 99]⟩ 3 w hs (by decide)
  have H3 := fun w => line_any ⟨#[97, 98, 10, 99]⟩ 0 w hs hl
  have H4 := fun w => at_any ⟨#[97, 98, 10, 99]⟩ 0 2 w hs hl (by rw [lb5, lb6]; decide)
  have H5 := fun w => at_off ⟨#[97, 98, 10, 99]⟩ 0 4 w hs hl (by omega) (by rw [lb5, lb6]; decide)
  rw [show (⟨#[97, 98, 10, 99]⟩ : ByteArray).size = 4 from rfl, lb1] at H1
  rw [lb2, lb3] at H2
  rw [lb4] at H3
  rw [lb5] at H4
  replace H1 := hide H1
  replace H2 := hide H2
  replace H3 := hide H3
  replace H4 := hide H4
  replace H5 := hide H5
  clear hs hl
  go_enter Try.func7, Try.ntmps7
  go_wp2_with fail
  refine (unhide H1 _).mono ?_
  rintro e w1 ⟨v, rfl, hown, hb1⟩
  obtain ⟨b, off, cap, rfl, hc1, hc2, hc3, hc4⟩ := hown.lst (by simp)
  have hcell := hc4 1 (by simp)
  simp only [List.length_map, List.length_cons, List.length_nil, Nat.zero_add, Nat.reduceAdd] at hc1 hcell ⊢
  have hcell : w1.cell? ⟨b, off + 1, none⟩ = some (.int .i64 3) := hcell
  clear hc4 hown
  go_wp2_with fail
  refine (unhide H2 _).mono ?_
  rintro e w1 ⟨rfl, rfl⟩
  go_wp2_with fail
  refine (unhide H3 _).mono ?_
  rintro e w2 ⟨rfl, hb2⟩
  have hcell2 : w2.cell? ⟨b, off + 1, none⟩ = some (.int .i64 3) := by rw [hb2.cell (by exact hc3)]; exact hcell
  clear hcell
  go_wp2_with fail
  refine (unhide H4 _).mono ?_
  rintro e w3 ⟨rfl, hb3⟩
  go_wp2_with fail
  refine (unhide H5 _).mono ?_
  rintro e w4 ⟨rfl, hb4⟩
  go_wp2
  go_ret
  exact ⟨rfl, below3 (below3 (below3 hb1 hb2) hb3) hb4⟩
end Go.Proofs.Ytkpaafdmhalbmaa

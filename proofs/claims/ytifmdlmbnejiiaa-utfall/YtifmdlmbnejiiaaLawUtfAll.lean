/-
  UtfAll's walk.
-/
import Derived.Test.YtifmdlmbnejiiaaUtfBegun
namespace Go.Proofs.Ytifmdlmbnejiiaa
open Go.RowKit
set_option maxHeartbeats 2000000 in
set_option maxRecDepth 100000 in
theorem utfAll_shell (a0 : ByteArray) (w0 : a0.size ≤ maxLen) (w : World) :
    Calls Try.prog 3 #[.string a0] w fun e w' => e = .returned (.bool true) ∧ Below w.heap.size w w' := by
  have hl := cutS_le a0 200
  have HC := hide (fun w => cut_any a0 200 w w0 (by omega))
  generalize cutS a0 200 = t at *
  have ht : t.size ≤ maxLen := by unfold maxLen; omega
  have HF := hide (fun w => uFault_any t w ht)
  have HR := hide (fun w => rFault_any t w ht)
  have HT := fun w => uText_any t w ht
  rw [decide_eq_true (show t.size ≤ 2000 by omega), Bool.true_and] at HT
  have HX := hide HT
  clear HT
  have HN := hide (fun w => uCount_any t w ht)
  have HM := hide (fun w => rCount_any t w ht)
  have hfr := flt_range t
  have hcn := cnt_le t
  generalize flt t = f at *
  generalize cnt t = c at *
  go_enter Try.func3, Try.ntmps3
  go_wp2_with fail
  refine (begun_any _).mono ?_
  rintro e w1 ⟨rfl, hb1⟩
  go_wp2_with fail
  refine (unhide HC _).mono ?_
  rintro e w1' ⟨rfl, rfl⟩
  go_wp2_with fail
  refine (unhide HR _).mono ?_
  rintro e w1'' ⟨rfl, rfl⟩
  go_wp2_with fail
  refine (unhide HF _).mono ?_
  rintro e w2 ⟨rfl, hb2⟩
  go_wp2_with fail
  refine (unhide HX _).mono ?_
  rintro e w3 ⟨rfl, hb3⟩
  go_wp2_with fail
  refine (unhide HN _).mono ?_
  rintro e w4 ⟨rfl, hb4⟩
  go_wp2_with fail
  refine (unhide HM _).mono ?_
  rintro e w4' ⟨rfl, rfl⟩
  go_wp2
  go_ret
  exact ⟨rfl, below3 (below3 (below3 hb1 hb2) hb3) hb4⟩
end Go.Proofs.Ytifmdlmbnejiiaa

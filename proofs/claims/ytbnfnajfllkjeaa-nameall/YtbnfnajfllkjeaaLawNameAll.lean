/-
  NameAll's walk.
-/
import Derived.Test.YtbnfnajfllkjeaaNameBegun
namespace Go.Proofs.Ytbnfnajfllkjeaa
open Go.RowKit
set_option maxHeartbeats 2000000 in
set_option maxRecDepth 100000 in
theorem nameAll_shell (a0 : ByteArray) (w0 : a0.size ≤ maxLen) (w : World) :
    Calls Try.prog 3 #[.string a0] w fun e w' => e = .returned (.bool true) ∧ Below w.heap.size w w' := by
  have hl := cutS_le a0 30
  have HC := hide (fun w => cut_any a0 30 w w0 (by omega))
  generalize cutS a0 30 = t at *
  have ht : t.size ≤ maxLen := by unfold maxLen; omega
  have HI := hide (fun w => nIs_any t w ht)
  have HJ := hide (fun w => rIs_any t w ht)
  have HK := hide (fun w => nKey_any t w)
  have HL := hide (fun w => rKey_any t w)
  have HW := hide (fun w => nWorld_any t w)
  have HV := hide (fun w => rWorld_any t w)
  have HF := hide (fun w => nFile_any t w ht)
  have HG := hide (fun w => rFileName_any t w ht)
  have hwr := worldN_range t
  generalize isN t = b1 at *
  generalize isKey t = b2 at *
  generalize worldN t = n at *
  generalize fileN t = b3 at *
  have hb1 : (b1 == b1) = true := by cases b1 <;> rfl
  have hb2 : (b2 == b2) = true := by cases b2 <;> rfl
  have hb3 : (b3 == b3) = true := by cases b3 <;> rfl
  go_enter Try.func3, Try.ntmps3
  go_wp2_with fail
  refine (begun_any _).mono ?_
  rintro e W1 ⟨rfl, rfl⟩
  go_wp2_with fail
  refine (unhide HC _).mono ?_
  rintro e W1' ⟨rfl, rfl⟩
  go_wp2_with fail
  refine (unhide HI _).mono ?_
  rintro e W1'' ⟨rfl, rfl⟩
  go_wp2_with fail
  refine (unhide HJ _).mono ?_
  rintro e W2 ⟨rfl, hw2⟩
  go_wp2_with fail
  refine (unhide HK _).mono ?_
  rintro e W2' ⟨rfl, rfl⟩
  go_wp2_with fail
  refine (unhide HL _).mono ?_
  rintro e W3 ⟨rfl, hw3⟩
  go_wp2_with fail
  refine (unhide HW _).mono ?_
  rintro e W3' ⟨rfl, rfl⟩
  go_wp2_with fail
  refine (unhide HV _).mono ?_
  rintro e W4 ⟨rfl, hw4⟩
  go_wp2_with fail
  refine (unhide HF _).mono ?_
  rintro e W4' ⟨rfl, rfl⟩
  go_wp2_with fail
  refine (unhide HG _).mono ?_
  rintro e W4'' ⟨rfl, rfl⟩
  go_wp2
  go_ret
  exact ⟨rfl, below3 (below3 hw2 hw3) hw4⟩
end Go.Proofs.Ytbnfnajfllkjeaa

/-
  UtfBytes' walk.
-/
import Derived.Test.YtifmdlmbnejiiaaUtfBegun
import Derived.Test.YtifmdlmbnejiiaaConv
namespace Go.Proofs.Ytifmdlmbnejiiaa
open Go.RowKit
set_option maxHeartbeats 2000000 in
set_option maxRecDepth 100000 in
theorem utfBytes_shell (a0 : Int) (a1 : Int) (a2 : Int) (a3 : Int) (w0 : (Lit.int .u8 a0).wf = true) (w1 : (Lit.int .u8 a1).wf = true) (w2 : (Lit.int .u8 a2).wf = true) (w3 : (Lit.int .u8 a3).wf = true) (w : World) :
    Calls Try.prog 4 #[.int .u8 a0, .int .u8 a1, .int .u8 a2, .int .u8 a3] w fun e w' => e = .returned (.bool true) ∧ Below w.heap.size w w' := by
  have hx : Byt [a0, a1, a2, a3] := by
    have := bounds_u8 w0
    have := bounds_u8 w1
    have := bounds_u8 w2
    have := bounds_u8 w3
    intro z hz
    simp only [List.mem_cons, List.not_mem_nil, or_false] at hz
    omega
  have HV := hide (fun w => (bts_alloc w [a0, a1, a2, a3] (0, 0) hx (by simp)).conv)
  have hsz : (strOfNums [a0, a1, a2, a3]).size = 4 := by rw [strOfNums_size]; rfl
  generalize strOfNums [a0, a1, a2, a3] = t at *
  have ht : t.size ≤ maxLen := by unfold maxLen; omega
  have HF := hide (fun w => uFault_any t w ht)
  have HR := hide (fun w => rFault_any t w ht)
  have HN := hide (fun w => uCount_any t w ht)
  have HM := hide (fun w => rCount_any t w ht)
  have hfr := flt_range t
  have hcn := cnt_le t
  generalize flt t = f at *
  generalize cnt t = c at *
  go_enter Try.func4, Try.ntmps4
  go_wp2_with fail
  refine (begun_any _).mono ?_
  rintro e W1 ⟨rfl, hb1⟩
  have hcv := unhide HV W1
  simp only [List.map_cons, List.map_nil, List.length_cons, List.length_nil, Nat.reduceAdd] at hcv
  have hb2 := below_alloc W1 (.cells #[.int .u8 a0, .int .u8 a1, .int .u8 a2, .int .u8 a3] 5)
  go_wp2_with fail
  refine (unhide HF _).mono ?_
  rintro e W2 ⟨rfl, hb3⟩
  go_wp2_with fail
  refine (unhide HR _).mono ?_
  rintro e W2' ⟨rfl, rfl⟩
  go_wp2_with fail
  refine (unhide HN _).mono ?_
  rintro e W3 ⟨rfl, hb4⟩
  go_wp2_with fail
  refine (unhide HM _).mono ?_
  rintro e W3' ⟨rfl, rfl⟩
  go_wp2
  go_ret
  exact ⟨rfl, below3 (below3 (below3 hb1 hb2) hb3) hb4⟩
end Go.Proofs.Ytifmdlmbnejiiaa

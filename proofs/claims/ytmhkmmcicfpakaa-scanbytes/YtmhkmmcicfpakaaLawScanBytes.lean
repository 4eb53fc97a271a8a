/-
  ScanBytes.
-/
import Derived.Test.YtmhkmmcicfpakaaScanSame
import Derived.Test.YtmhkmmcicfpakaaScanBegun
import Derived.Test.YtmhkmmcicfpakaaConv
namespace Go.Proofs.Ytmhkmmcicfpakaa
open Go.RowKit
set_option maxHeartbeats 2000000 in
set_option maxRecDepth 100000 in
theorem scanBytes_shell (a0 : Int) (a1 : Int) (a2 : Int) (a3 : Int) (w0 : (Lit.int .u8 a0).wf = true) (w1 : (Lit.int .u8 a1).wf = true) (w2 : (Lit.int .u8 a2).wf = true) (w3 : (Lit.int .u8 a3).wf = true) (w : World) :
    Calls Try.prog 5 #[.int .u8 a0, .int .u8 a1, .int .u8 a2, .int .u8 a3] w fun e w' => e = .returned (.bool true) ∧ Below w.heap.size w w' := by
  have hx : Byt [a0, a1, a2, a3] := by
    have := bounds_u8 w0
    have := bounds_u8 w1
    have := bounds_u8 w2
    have := bounds_u8 w3
    intro z hz
    simp only [List.mem_cons, List.not_mem_nil, or_false] at hz
    omega
  have HV := hide (fun w => (bts_alloc w [a0, a1, a2, a3] (0, 0) hx (by simp)).conv)
  have hsz : (strOfNums [a0, a1, a2, a3]).size = 4 := by rw [strOfNums_size]; rfl
  generalize strOfNums [a0, a1, a2, a3] = t at *
  have HB := hide (scanbegun_any w)
  have H0 := hide (fun w => same_any t w (by omega))
  have H1 := hide (fun w => same_any (⟨#[120, 32]⟩ ++ t) w (by rw [ByteArray.size_append]; show 2 + t.size ≤ _; omega))
  have H2 := hide (fun w => same_any (⟨#[120]⟩ ++ t ++ ⟨#[10]⟩) w (by rw [ByteArray.size_append, ByteArray.size_append]; show 1 + t.size + 1 ≤ _; omega))
  have H3 := hide (fun w => same_any (⟨#[34, 120]⟩ ++ t) w (by rw [ByteArray.size_append]; show 2 + t.size ≤ _; omega))
  go_enter Try.func5, Try.ntmps5
  go_wp2_with fail
  refine (unhide HB).mono ?_
  rintro e W1 ⟨rfl, hb1⟩
  have hcv := unhide HV W1
  simp only [List.map_cons, List.map_nil, List.length_cons, List.length_nil, Nat.reduceAdd] at hcv
  have hb2 := below_alloc W1 (.cells #[.int .u8 a0, .int .u8 a1, .int .u8 a2, .int .u8 a3] 5)
  go_wp2_with fail
  refine (unhide H0 _).mono ?_
  rintro e W2 ⟨rfl, hb3⟩
  go_wp2_with fail
  refine (unhide H1 _).mono ?_
  rintro e W3 ⟨rfl, hb4⟩
  go_wp2_with fail
  refine (unhide H2 _).mono ?_
  rintro e W4 ⟨rfl, hb5⟩
  go_wp2_with fail
  refine (unhide H3 _).mono ?_
  rintro e W5 ⟨rfl, hb6⟩
  go_wp2
  go_ret
  exact ⟨rfl, below3 (below3 (below3 (below3 (below3 hb1 hb2) hb3) hb4) hb5) hb6⟩
end Go.Proofs.Ytmhkmmcicfpakaa

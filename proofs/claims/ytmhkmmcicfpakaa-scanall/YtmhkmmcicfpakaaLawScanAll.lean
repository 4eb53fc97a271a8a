/-
  ScanAll.
-/
import Derived.Test.YtmhkmmcicfpakaaScanSame
import Derived.Test.YtmhkmmcicfpakaaScanBegun
namespace Go.Proofs.Ytmhkmmcicfpakaa
open Go.RowKit
set_option maxHeartbeats 400000 in
set_option maxRecDepth 100000 in
theorem scanAll_shell (s : ByteArray) (hs : s.size ≤ maxLen) (w : World) :
    Calls Try.prog 3 #[.string s] w fun e w' => e = .returned (.bool true) ∧ Below w.heap.size w w' := by
  have HB := hide (scanbegun_any w)
  have HC := hide (fun w => cut_any s 2010 w hs (by omega))
  have hle := cutS_le s 2010
  have HS := hide (fun w => same_any (cutS s 2010) w (by omega))
  generalize cutS s 2010 = t at *
  go_enter Try.func3, Try.ntmps3
  go_wp2_with fail
  refine (unhide HB).mono ?_
  rintro e W1 ⟨rfl, hb1⟩
  go_wp2_with fail
  refine (unhide HC _).mono ?_
  rintro e W2 ⟨rfl, rfl⟩
  go_wp2_with fail
  refine (unhide HS _).mono ?_
  rintro e W3 ⟨rfl, hb2⟩
  go_wp2
  go_ret
  exact ⟨rfl, below3 hb1 hb2⟩
end Go.Proofs.Ytmhkmmcicfpakaa

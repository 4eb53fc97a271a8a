/-
  ScanTwo.
-/
import Derived.Test.YtmhkmmcicfpakaaScanSame
import Derived.Test.YtmhkmmcicfpakaaScanBegun
namespace Go.Proofs.Ytmhkmmcicfpakaa
open Go.RowKit
set_option maxHeartbeats 400000 in
set_option maxRecDepth 100000 in
theorem scanTwo_shell (a m b : ByteArray) (ha : a.size ≤ maxLen) (hm : m.size ≤ maxLen) (hb : b.size ≤ maxLen) (w : World) :
    Calls Try.prog 4 #[.string a, .string m, .string b] w fun e w' => e = .returned (.bool true) ∧ Below w.heap.size w w' := by
  have HB := hide (scanbegun_any w)
  have HA := hide (fun w => cut_any a 200 w ha (by omega))
  have HM := hide (fun w => cut_any m 5 w hm (by omega))
  have HC := hide (fun w => cut_any b 200 w hb (by omega))
  have la := cutS_le a 200
  have lm := cutS_le m 5
  have lb := cutS_le b 200
  generalize cutS a 200 = x at *
  generalize cutS m 5 = y at *
  generalize cutS b 200 = z at *
  have H1 := hide (fun w => same_any (x ++ y ++ z) w (by simp only [ByteArray.size_append]; omega))
  have H2 := hide (fun w => same_any (x ++ ⟨#[10]⟩ ++ z) w (by simp only [ByteArray.size_append]; show x.size + 1 + z.size ≤ _; omega))
  have H3 := hide (fun w => same_any (x ++ ⟨#[32]⟩ ++ z) w (by simp only [ByteArray.size_append]; show x.size + 1 + z.size ≤ _; omega))
  go_enter Try.func4, Try.ntmps4
  go_wp2_with fail
  refine (unhide HB).mono ?_
  rintro e W1 ⟨rfl, hb1⟩
  go_wp2_with fail
  refine (unhide HA _).mono ?_
  rintro e W2 ⟨rfl, rfl⟩
  go_wp2_with fail
  refine (unhide HM _).mono ?_
  rintro e W2 ⟨rfl, rfl⟩
  go_wp2_with fail
  refine (unhide HC _).mono ?_
  rintro e W2 ⟨rfl, rfl⟩
  go_wp2_with fail
  refine (unhide H1 _).mono ?_
  rintro e W3 ⟨rfl, hb2⟩
  go_wp2_with fail
  refine (unhide H2 _).mono ?_
  rintro e W4 ⟨rfl, hb3⟩
  go_wp2_with fail
  refine (unhide H3 _).mono ?_
  rintro e W5 ⟨rfl, hb4⟩
  go_wp2
  go_ret
  exact ⟨rfl, below3 (below3 (below3 hb1 hb2) hb3) hb4⟩
end Go.Proofs.Ytmhkmmcicfpakaa

/-
  NumAny's walk.
-/
import Derived.Test.YtafchnieimhlbaaArg
import Derived.Test.YtafchnieimhlbaaRefText
namespace Go.Proofs.Ytafchnieimhlbaa
open Go.RowKit
set_option maxHeartbeats 1000000 in
set_option maxRecDepth 100000 in
theorem numAny_shell (a0 : Option Addr) (len0 cap0 : Nat) (z0 : List Int) (w : World) (w0 : IsRow .u8 w a0 len0 cap0 z0) :
    Calls Try.prog 4 #[.slice a0 len0 cap0] w fun e w' => e = .returned (.bool true) ∧ Below w.heap.size w w' := by
  go_enter Try.func4, Try.ntmps4
  go_wp2_with fail
  refine (begun_any _).mono ?_
  rintro e w1 ⟨rfl, hbel⟩
  have w0' := w0.below hbel
  have hB := short_bts (n := 60) w0' (by omega)
  have HG : Hid (∃ x y z, getM (z0.take (min len0 60)) = (x, y, z)) := ⟨_, _, _, rfl⟩
  have HT : Hid (∃ s x y, getTextM (z0.take (min len0 60)) = (s, x, y)) := ⟨_, _, _, rfl⟩
  obtain ⟨x, y, z, hg⟩ := unhide HG
  obtain ⟨s, i, h, ht⟩ := unhide HT
  go_wp2_with fail
  refine (short_any a0 len0 cap0 z0 60 _ w0' (by omega)).mono ?_
  rintro e w2 ⟨rfl, rfl⟩
  clear w0 w0'
  generalize min len0 60 = m at *
  generalize z0.take m = xs at *
  go_wp2_with fail
  refine (get_any _ _ _ hB).mono ?_
  rw [hg]
  rintro e w3 ⟨rfl, rfl⟩
  go_wp2_with fail
  refine (rget_any _ _ _ hB).mono ?_
  rw [hg]
  rintro e w3 ⟨rfl, rfl⟩
  go_wp2_with fail
  refine (getText_any _ _ _ hB).mono ?_
  rw [ht]
  rintro e w3 ⟨rfl, rfl⟩
  go_wp2_with fail
  refine (rgetText_any _ _ _ hB).mono ?_
  rw [ht]
  rintro e w3 ⟨rfl, rfl⟩
  clear hg ht hB HG HT
  go_wp2
  go_ret
  exact ⟨rfl, hbel⟩
end Go.Proofs.Ytafchnieimhlbaa

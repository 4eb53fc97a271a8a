/-
  The program's Starts.
-/
import Derived.Test.YtkpaafdmhalbmaaOwnI
import Derived.Test.YtkpaafdmhalbmaaLinMath
namespace Go.Proofs.Ytkpaafdmhalbmaa
open Go.RowKit
set_option maxHeartbeats 2000000 in
set_option maxRecDepth 100000 in
theorem starts_any (s : ByteArray) (w : World) (hs : s.size ≤ 100000) :
    Calls Try.prog 9 #[.string s] w fun e w' => ∃ v, e = .returned v ∧ OwnI w' w.heap.size v (stK s s.size) ∧ Below w.heap.size w w' := by
  have h0 := ownI_lit w [0] (by simp)
  go_enter Try.func9, Try.ntmps9
  go_wp2
  go_loopw [3, 8] (fun v ks wr => ∃ k : Nat, k ≤ s.size ∧ ks = .int .i64 k ∧ OwnI wr w.heap.size v (stK s k) ∧ Below w.heap.size w wr) (fun _ ks _ => s.size - (intOf ks).toNat)
  case atStart => exact ⟨0, by omega, rfl, h0, below_alloc w _⟩
  case round =>
    obtain ⟨k, hk, rfl, hown, hb⟩ := hrel
    clear h0
    by_cases hlt : k < s.size
    · have hbyte : ∀ h, (s[k]'h).toNat = byteAt s k := fun h => byteAt_idx s k h
      have hll := lnK_le s k
      unfold lnK at hll
      have hsz := hb.size
      by_cases h10 : byteAt s k = 10
      · have hst := hide (stK_nl h10)
        go_wp2_with (at_builtin; refine wpList_append_int wr rfl _ _ rfl w.heap.size _ (stK s k) hown rfl ((k : Int) + 1) hsz (by omega) rfl ?_)
        intro v' w1 hown1 hb1
        rw [← unhide hst] at hown1
        replace hb1 := hb.trans hb1
        clear hown hb
        go_wp2
        go_roundw
        case rel => exact ⟨k + 1, by omega, by go_num, hown1, hb1⟩
        case measure => simp [intOf]; omega
      · have hst := stK_no h10
        rw [← hst] at hown
        clear hst
        go_wp2
        go_roundw
        case rel => exact ⟨k + 1, by omega, by go_num, hown, hb⟩
        case measure => simp [intOf]; omega
    · obtain rfl : k = s.size := by omega
      go_wp2
      go_ret
      exact ⟨_, rfl, hown, hb⟩
end Go.Proofs.Ytkpaafdmhalbmaa

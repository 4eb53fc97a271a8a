/-
  The walk of the reference's Decode, at runes of four bytes.
-/
import Derived.Test.YtmhkmmcicfpakaaUtfRef
namespace Go.Proofs.Ytmhkmmcicfpakaa
open Go.RowKit
set_option maxHeartbeats 4000000 in
set_option maxRecDepth 100000 in
theorem rDecode_four (s : ByteArray) (w : World) (h0 : 0 < s.size) (hs : s.size ≤ maxLen) (b0 b1 b2 b3 : Nat) (h4 : Four s b0 b1 b2 b3) (hc : 240 ≤ b0 ∧ b0 < 248) :
    Calls Try.prog 29 #[.string s] w fun e w' => e = .returned (.tuple #[.int .i64 (refN s.size b0 b1 b2 b3).1, .bool (refN s.size b0 b1 b2 b3).2]) ∧ w' = w := by
  unfold maxLen at hs
  obtain ⟨e0, e1, e2, e3, c0, c1, c2, c3⟩ := h4
  have hr : refN s.size b0 b1 b2 b3 = if s.size < 4 then (1, false) else if b1 < 128 ∨ 191 < b1 then (1, false) else if b2 < 128 ∨ 191 < b2 then (1, false) else if b3 < 128 ∨ 191 < b3 then (1, false) else if (((b0 - 240) * 64 + b1 - 128) * 64 + b2 - 128) * 64 + b3 - 128 < 65536 ∨ 1114111 < (((b0 - 240) * 64 + b1 - 128) * 64 + b2 - 128) * 64 + b3 - 128 then (1, false) else (4, true) := by
    unfold refN
    rw [if_neg (by omega), if_neg (by omega), if_neg (by omega), if_pos hc]
  rw [hr]
  clear hr
  obtain ⟨ha, hb⟩ := hc
  by_cases h2 : s.size < 4
  · rw [if_pos h2]
    go_enter Try.func29, Try.ntmps29
    go_wp2
    go_ret2
    exact ⟨rfl, rfl⟩
  rw [if_neg h2]
  by_cases k1 : b1 < 128
  · rw [if_pos (.inl k1)]
    go_enter Try.func29, Try.ntmps29
    go_wp2
    go_rounds 1
    go_ret2
    exact ⟨rfl, rfl⟩
  by_cases q1 : 191 < b1
  · rw [if_pos (.inr q1)]
    go_enter Try.func29, Try.ntmps29
    go_wp2
    go_rounds 1
    go_ret2
    exact ⟨rfl, rfl⟩
  rw [if_neg (by omega)]
  by_cases k2 : b2 < 128
  · rw [if_pos (.inl k2)]
    go_enter Try.func29, Try.ntmps29
    go_wp2
    go_rounds 2
    go_ret2
    exact ⟨rfl, rfl⟩
  by_cases q2 : 191 < b2
  · rw [if_pos (.inr q2)]
    go_enter Try.func29, Try.ntmps29
    go_wp2
    go_rounds 2
    go_ret2
    exact ⟨rfl, rfl⟩
  rw [if_neg (by omega)]
  by_cases k3 : b3 < 128
  · rw [if_pos (.inl k3)]
    go_enter Try.func29, Try.ntmps29
    go_wp2
    go_rounds 3
    go_ret2
    exact ⟨rfl, rfl⟩
  by_cases q3 : 191 < b3
  · rw [if_pos (.inr q3)]
    go_enter Try.func29, Try.ntmps29
    go_wp2
    go_rounds 3
    go_ret2
    exact ⟨rfl, rfl⟩
  rw [if_neg (by omega)]
  by_cases z0 : (((b0 - 240) * 64 + b1 - 128) * 64 + b2 - 128) * 64 + b3 - 128 < 65536
  · rw [if_pos (by omega)]
    go_enter Try.func29, Try.ntmps29
    go_wp2
    go_rounds 4
    go_ret2
    exact ⟨rfl, rfl⟩
  by_cases z1 : 1114111 < (((b0 - 240) * 64 + b1 - 128) * 64 + b2 - 128) * 64 + b3 - 128
  · rw [if_pos (by omega)]
    go_enter Try.func29, Try.ntmps29
    go_wp2
    go_rounds 4
    go_ret2
    exact ⟨rfl, rfl⟩
  rw [if_neg (by omega)]
  go_enter Try.func29, Try.ntmps29
  go_wp2
  go_rounds 4
  go_ret2
  exact ⟨rfl, rfl⟩
end Go.Proofs.Ytmhkmmcicfpakaa

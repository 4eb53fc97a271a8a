/-
  The walk of the reference's Decode, at runes of one and two bytes.
-/
import Derived.Test.YtmhkmmcicfpakaaUtfFault
namespace Go.Proofs.Ytmhkmmcicfpakaa
open Go.RowKit
theorem ret_two {a b : Int} {x y : Bool} (h : a = b) (h' : x = y) : Ending.returned (.tuple #[.int .i64 a, .bool x]) = .returned (.tuple #[.int .i64 b, .bool y]) := by rw [h, h']
/-- The bytes of a text, as far as it has them. -/
structure Four (s : ByteArray) (b0 b1 b2 b3 : Nat) : Prop where
  e0 : ∀ h, (s[0]'h).toNat = b0
  e1 : ∀ h, (s[1]'h).toNat = b1
  e2 : ∀ h, (s[2]'h).toNat = b2
  e3 : ∀ h, (s[3]'h).toNat = b3
  c0 : b0 < 256
  c1 : b1 < 256
  c2 : b2 < 256
  c3 : b3 < 256
set_option maxHeartbeats 2000000 in
set_option maxRecDepth 100000 in
theorem rDecode_two (s : ByteArray) (w : World) (h0 : 0 < s.size) (hs : s.size ≤ maxLen) (b0 b1 b2 b3 : Nat) (h4 : Four s b0 b1 b2 b3) (hc : 192 ≤ b0 ∧ b0 < 224) :
    Calls Try.prog 29 #[.string s] w fun e w' => e = .returned (.tuple #[.int .i64 (refN s.size b0 b1 b2 b3).1, .bool (refN s.size b0 b1 b2 b3).2]) ∧ w' = w := by
  unfold maxLen at hs
  obtain ⟨e0, e1, e2, e3, c0, c1, c2, c3⟩ := h4
  have hr : refN s.size b0 b1 b2 b3 = if s.size < 2 then (1, false) else if b1 < 128 ∨ 191 < b1 then (1, false) else if (b0 - 192) * 64 + b1 - 128 < 128 then (1, false) else (2, true) := by
    unfold refN
    rw [if_neg (by omega), if_pos hc]
  rw [hr]
  clear hr
  obtain ⟨ha, hb⟩ := hc
  by_cases h2 : s.size < 2
  · rw [if_pos h2]
    go_enter Try.func29, Try.ntmps29
    go_wp2
    go_ret2
    exact ⟨rfl, rfl⟩
  · rw [if_neg h2]
    by_cases k1 : b1 < 128
    · rw [if_pos (.inl k1)]
      go_enter Try.func29, Try.ntmps29
      go_wp2
      go_rounds 1
      go_ret2
      exact ⟨rfl, rfl⟩
    by_cases k2 : 191 < b1
    · rw [if_pos (.inr k2)]
      go_enter Try.func29, Try.ntmps29
      go_wp2
      go_rounds 1
      go_ret2
      exact ⟨rfl, rfl⟩
    rw [if_neg (by omega)]
    by_cases k3 : (b0 - 192) * 64 + b1 - 128 < 128
    · rw [if_pos k3]
      go_enter Try.func29, Try.ntmps29
      go_wp2
      go_rounds 2
      go_ret2
      exact ⟨rfl, rfl⟩
    · rw [if_neg k3]
      go_enter Try.func29, Try.ntmps29
      go_wp2
      go_rounds 2
      go_ret2
      exact ⟨rfl, rfl⟩
set_option maxHeartbeats 1000000 in
set_option maxRecDepth 100000 in
theorem rDecode_one (s : ByteArray) (w : World) (h0 : 0 < s.size) (b0 b1 b2 b3 : Nat) (h4 : Four s b0 b1 b2 b3) (hc : b0 < 128) :
    Calls Try.prog 29 #[.string s] w fun e w' => e = .returned (.tuple #[.int .i64 (refN s.size b0 b1 b2 b3).1, .bool (refN s.size b0 b1 b2 b3).2]) ∧ w' = w := by
  obtain ⟨e0, e1, e2, e3, c0, c1, c2, c3⟩ := h4
  rw [refN, if_pos hc]
  go_enter Try.func29, Try.ntmps29
  go_wp2
  go_ret2
  exact ⟨rfl, rfl⟩
set_option maxHeartbeats 1000000 in
set_option maxRecDepth 100000 in
theorem rDecode_none (s : ByteArray) (w : World) (h0 : 0 < s.size) (b0 b1 b2 b3 : Nat) (h4 : Four s b0 b1 b2 b3) (hc : 128 ≤ b0) (hd : b0 < 192 ∨ 248 ≤ b0) :
    Calls Try.prog 29 #[.string s] w fun e w' => e = .returned (.tuple #[.int .i64 (refN s.size b0 b1 b2 b3).1, .bool (refN s.size b0 b1 b2 b3).2]) ∧ w' = w := by
  obtain ⟨e0, e1, e2, e3, c0, c1, c2, c3⟩ := h4
  rw [refN, if_neg (by omega), if_neg (by omega), if_neg (by omega), if_neg (by omega)]
  rcases hd with hd | hd
  · go_enter Try.func29, Try.ntmps29
    go_wp2
    go_ret2
    exact ⟨rfl, rfl⟩
  · go_enter Try.func29, Try.ntmps29
    go_wp2
    go_ret2
    exact ⟨rfl, rfl⟩
end Go.Proofs.Ytmhkmmcicfpakaa

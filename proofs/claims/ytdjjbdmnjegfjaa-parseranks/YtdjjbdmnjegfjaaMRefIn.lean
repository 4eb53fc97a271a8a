/-
  The reference's in: a word is one of some.
-/
import Derived.Test.YtdjjbdmnjegfjaaMLst
import Derived.Test.YtdjjbdmnjegfjaaB01
import Derived.LoopTactic
namespace Go.Proofs.Ytdjjbdmnjegfjaa
open Go.RowKit
set_option linter.unusedSimpArgs false
set_option maxHeartbeats 400000 in
set_option maxRecDepth 100000 in
theorem rin_any (s : ByteArray) (xs : List ByteArray) (v : Value) (w : World) (hl : xs.length ≤ 1000) (hv : Lst w v (xs.map Value.string)) :
    Calls Try.prog 12 #[.string s, v] w fun e w' => e = .returned (.bool (inB s xs)) ∧ w' = w := by
  obtain ⟨b, off, cap, rfl, h1, h2, h3, h4⟩ := hv
  rw [List.length_map] at *
  go_enter Try.func12, Try.ntmps12
  go_wp2
  go_loopw [5] (fun ks wr => ∃ k : Nat, k ≤ xs.length ∧ ks = .int .i64 k ∧ wr = w ∧ ∀ j, j < k → (s.data.toList == (xs.getD j ⟨#[]⟩).data.toList) = false) (fun ks _ => xs.length - (intOf ks).toNat)
  case atStart => exact ⟨0, by omega, rfl, rfl, fun i hi => by omega⟩
  case round =>
    obtain ⟨k, hk, rfl, rfl, hall⟩ := hrel
    by_cases hlt : k < xs.length
    · have hc := h4 k hlt
      rw [show (xs.map Value.string).getD k undef = .string (xs.getD k ⟨#[]⟩) by simp [List.getD, hlt]] at hc
      clear h4
      have hf := inB_at (s := s) k hlt
      obtain ⟨x, hx⟩ : ∃ x, xs.getD k ⟨#[]⟩ = x := ⟨_, rfl⟩
      have hx' := hide hx
      rw [hx] at hc hf
      clear hx
      have hall := hide hall
      cases he : (x.toList == s.toList) with
      | true =>
        have hf := hide (hf (eq_flip x s ▸ he))
        go_wp2
        go_ret
        exact ⟨ret_bool (unhide hf).symm, rfl⟩
      | false =>
        clear hf
        go_wp2
        go_roundw
        case rel =>
          refine ⟨k + 1, by omega, by go_num, by trivial, fun i hi => ?_⟩
          rcases Nat.lt_or_ge i k with h | h
          · exact unhide hall i h
          · obtain rfl : i = k := by omega
            rw [unhide hx', ← eq_flip]
            exact he
        case measure => simp [intOf]; omega
    · obtain rfl : k = xs.length := by omega
      have hall := hide hall
      clear h4
      go_wp2
      go_ret
      exact ⟨ret_bool (inB_none (unhide hall)).symm, rfl⟩
end Go.Proofs.Ytdjjbdmnjegfjaa

/-
  The reference's names: Letter, Digit, in, Key, World, Is, FileName.
-/
import Derived.Test.YtbnfnajfllkjeaaLst
import Derived.Test.YtbnfnajfllkjeaaNameWalk
namespace Go.Proofs.Ytbnfnajfllkjeaa
open Go.RowKit
set_option linter.unusedSimpArgs false
theorem inB_at {s : ByteArray} {xs : List ByteArray} (k : Nat) (hk : k < xs.length) (h : (s.data.toList == (xs.getD k ⟨#[]⟩).data.toList) = true) : inB s xs = true := by
  rw [inB, List.any_eq_true]
  refine ⟨xs.getD k ⟨#[]⟩, ?_, h⟩
  simp [List.getD, hk]
theorem inB_none {s : ByteArray} {xs : List ByteArray} (h : ∀ j, j < xs.length → (s.data.toList == (xs.getD j ⟨#[]⟩).data.toList) = false) : inB s xs = false := by
  rw [inB, List.any_eq_false]
  intro x hx
  obtain ⟨j, hj, rfl⟩ := List.getElem_of_mem hx
  have := h j hj
  simp only [List.getD, hj, getElem?_pos, Option.getD_some] at this
  rw [this]
  decide
theorem eq_flip (a b : ByteArray) : (a.toList == b.toList) = (b.data.toList == a.data.toList) := by
  rw [ByteArray.toList_eq, ByteArray.toList_eq, BEq.comm]
set_option maxHeartbeats 400000 in
set_option maxRecDepth 100000 in
theorem rin_any (s : ByteArray) (xs : List ByteArray) (v : Value) (w : World) (hl : xs.length ≤ 1000) (hv : Lst w v (xs.map Value.string)) :
    Calls Try.prog 21 #[.string s, v] w fun e w' => e = .returned (.bool (inB s xs)) ∧ w' = w := by
  obtain ⟨b, off, cap, rfl, h1, h2, h3, h4⟩ := hv
  rw [List.length_map] at *
  go_enter Try.func21, Try.ntmps21
  go_wp2
  go_loopw [5] (fun ks wr => ∃ k : Nat, k ≤ xs.length ∧ ks = .int .i64 k ∧ wr = w ∧ ∀ j, j < k → (s.data.toList == (xs.getD j ⟨#[]⟩).data.toList) = false) (fun ks _ => xs.length - (intOf ks).toNat)
  case atStart => exact ⟨0, by omega, rfl, rfl, fun i hi => by omega⟩
  case round =>
    obtain ⟨k, hk, rfl, rfl, hall⟩ := hrel
    by_cases hlt : k < xs.length
    · have hc := h4 k hlt
      rw [show (xs.map Value.string).getD k undef = .string (xs.getD k ⟨#[]⟩) by simp [List.getD, hlt]] at hc
      clear h4
      have hf := inB_at (s := s) k hlt
      obtain ⟨x, hx⟩ : ∃ x, xs.getD k ⟨#[]⟩ = x := ⟨_, rfl⟩
      have hx' := hide hx
      rw [hx] at hc hf
      clear hx
      have hall := hide hall
      cases he : (x.toList == s.toList) with
      | true =>
        have hf := hide (hf (eq_flip x s ▸ he))
        go_wp2
        go_ret
        exact ⟨ret_bool (unhide hf).symm, rfl⟩
      | false =>
        clear hf
        go_wp2
        go_roundw
        case rel =>
          refine ⟨k + 1, by omega, by go_num, by trivial, fun i hi => ?_⟩
          rcases Nat.lt_or_ge i k with h | h
          · exact unhide hall i h
          · obtain rfl : i = k := by omega
            rw [unhide hx', ← eq_flip]
            exact he
        case measure => simp [intOf]; omega
    · obtain rfl : k = xs.length := by omega
      have hall := hide hall
      clear h4
      go_wp2
      go_ret
      exact ⟨ret_bool (inB_none (unhide hall)).symm, rfl⟩
set_option maxHeartbeats 400000 in
set_option maxRecDepth 100000 in
theorem rKey_any (s : ByteArray) (w : World) :
    Calls Try.prog 12 #[.string s] w fun e w' => e = .returned (.bool (isKey s)) ∧ Below w.heap.size w w' := by
  have H := rin_any s keysB _ _ (by decide) (lst_alloc w (keysB.map Value.string) 9 (0, 0) (by decide))
  rw [show inB s keysB = isKey s from rfl] at H
  simp only [keysB, List.map_cons, List.map_nil, List.length_cons, List.length_nil, Nat.reduceAdd] at H
  have H := hide H
  go_enter Try.func12, Try.ntmps12
  go_wp2_with fail
  refine (unhide H).mono ?_
  rintro e W ⟨rfl, rfl⟩
  go_wp2
  go_ret
  exact ⟨rfl, below_alloc _ _⟩
end Go.Proofs.Ytbnfnajfllkjeaa

/-
  The reference's World, Letter, Digit, Is, FileName.
-/
import Derived.Test.YtbnfnajfllkjeaaNameRef
namespace Go.Proofs.Ytbnfnajfllkjeaa
open Go.RowKit
set_option linter.unusedSimpArgs false
set_option maxHeartbeats 400000 in
set_option maxRecDepth 100000 in
theorem rDigit_any (c : Nat) (w : World) (hc : c < 256) :
    Calls Try.prog 19 #[.int .u8 c] w fun e w' => e = .returned (.bool (digB c)) ∧ w' = w := by
  go_enter Try.func19, Try.ntmps19
  go_wp2
  all_goals
    go_ret
    refine ⟨ret_bool ?_, rfl⟩
    rw [Bool.eq_iff_iff]
    simp only [digB, Bool.or_eq_true, Bool.and_eq_true, decide_eq_true_eq, beq_iff_eq, Bool.false_eq_true, ne_eq, true_iff, false_iff]
    omega
set_option maxHeartbeats 400000 in
set_option maxRecDepth 100000 in
theorem rLetter_any (c : Nat) (w : World) (hc : c < 256) :
    Calls Try.prog 20 #[.int .u8 c] w fun e w' => e = .returned (.bool (letB c)) ∧ w' = w := by
  go_enter Try.func20, Try.ntmps20
  go_wp2
  all_goals
    go_ret
    refine ⟨ret_bool ?_, rfl⟩
    rw [Bool.eq_iff_iff]
    simp only [let_iff, Bool.or_eq_true, Bool.and_eq_true, decide_eq_true_eq, beq_iff_eq, Bool.false_eq_true, ne_eq, true_iff, false_iff]
    omega
theorem world_len : worldB.length = 5 := rfl
theorem world_at (s : ByteArray) (k : Nat) (hk : k < worldB.length) (hno : ∀ j, j < k → (s.data.toList == (worldB.getD j ⟨#[]⟩).data.toList) = false) (h : (s.data.toList == (worldB.getD k ⟨#[]⟩).data.toList) = true) : worldN s = k := by
  rw [worldN, idxB_skip worldB k 0 (fun j hj x hx => by
    have := hno j hj
    rw [List.getD, hx] at this
    exact this), List.drop_eq_getElem_cons hk, idxB]
  simp only [List.getD, hk, getElem?_pos, Option.getD_some] at h
  rw [h, if_pos rfl]
  omega
theorem world_none (s : ByteArray) (hno : ∀ j, j < worldB.length → (s.data.toList == (worldB.getD j ⟨#[]⟩).data.toList) = false) : worldN s = -1 := by
  rw [worldN, idxB_skip worldB worldB.length 0 (fun j hj x hx => by
    have := hno j hj
    rw [List.getD, hx] at this
    exact this), List.drop_length, idxB]
set_option maxHeartbeats 400000 in
set_option maxRecDepth 100000 in
theorem rWorld_any (s : ByteArray) (w : World) :
    Calls Try.prog 14 #[.string s] w fun e w' => e = .returned (.int .i64 (worldN s)) ∧ Below w.heap.size w w' := by
  obtain ⟨b, off, cap, he, h1, h2, h3, h4⟩ := lst_alloc w (worldB.map Value.string) 9 (0, 0) (by decide)
  have hb := below_alloc w (.cells (worldB.map Value.string).toArray 9 (0, 0))
  simp only [worldB, List.map_cons, List.map_nil, List.length_cons, List.length_nil, Nat.reduceAdd, Value.slice.injEq, Option.some.injEq, Addr.mk.injEq, true_and, and_true] at he
  obtain ⟨⟨rfl, rfl⟩, rfl⟩ := he
  rw [show (worldB.map Value.string).toArray = #[.string ⟨#[105, 110, 116]⟩, .string ⟨#[115, 116, 114, 105, 110, 103]⟩, .string ⟨#[98, 111, 111, 108]⟩, .string ⟨#[116, 114, 117, 101]⟩, .string ⟨#[102, 97, 108, 115, 101]⟩] from rfl] at *
  have hlen := world_len
  rw [List.length_map, world_len] at h1 h4
  go_enter Try.func14, Try.ntmps14
  go_wp2
  generalize w.alloc _ = W at *
  generalize hg : w.heap.size = g at *
  have hg := hide hg
  go_loopw [4] (fun ks wr => ∃ k : Nat, k ≤ 5 ∧ ks = .int .i64 k ∧ wr = W ∧ ∀ j, j < k → (s.data.toList == (worldB.getD j ⟨#[]⟩).data.toList) = false) (fun ks _ => 5 - (intOf ks).toNat)
  case atStart => exact ⟨0, by omega, rfl, rfl, fun i hi => by omega⟩
  case round =>
    obtain ⟨k, hk, rfl, rfl, hall⟩ := hrel
    by_cases hlt : k < 5
    · have hc := h4 k hlt
      rw [show (worldB.map Value.string).getD k undef = .string (worldB.getD k ⟨#[]⟩) by simp [List.getD, hlt, hlen], Nat.zero_add] at hc
      clear h4
      have hf := world_at s k (by omega) hall
      obtain ⟨x, hx⟩ : ∃ x, worldB.getD k ⟨#[]⟩ = x := ⟨_, rfl⟩
      have hx' := hide hx
      rw [hx] at hc hf
      clear hx
      have hall := hide hall
      cases he : (x.toList == s.toList) with
      | true =>
        have hf := hide (hf (eq_flip x s ▸ he))
        go_wp2
        go_ret
        exact ⟨ret_int (unhide hf).symm, (unhide hg) ▸ hb⟩
      | false =>
        clear hf
        go_wp2
        go_roundw
        case rel =>
          refine ⟨k + 1, by omega, by go_num, by trivial, fun i hi => ?_⟩
          rcases Nat.lt_or_ge i k with h | h
          · exact unhide hall i h
          · obtain rfl : i = k := by omega
            rw [unhide hx', ← eq_flip]
            exact he
        case measure => simp [intOf]; omega
    · obtain rfl : k = 5 := by omega
      have hall := hide (world_none s (by rw [hlen]; exact hall))
      clear h4
      go_wp2
      go_ret
      exact ⟨ret_int (unhide hall).symm, (unhide hg) ▸ hb⟩
end Go.Proofs.Ytbnfnajfllkjeaa

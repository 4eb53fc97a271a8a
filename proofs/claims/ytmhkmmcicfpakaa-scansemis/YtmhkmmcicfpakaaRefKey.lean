/-
  The reference's Key, Digit, Letter.
-/
import Derived.Test.YtmhkmmcicfpakaaRefIn
import Derived.Test.YtmhkmmcicfpakaaNameMath
namespace Go.Proofs.Ytmhkmmcicfpakaa
open Go.RowKit
set_option linter.unusedSimpArgs false
set_option maxHeartbeats 400000 in
set_option maxRecDepth 100000 in
theorem rKey_any (s : ByteArray) (w : World) :
    Calls Try.prog 35 #[.string s] w fun e w' => e = .returned (.bool (isKey s)) ∧ Below w.heap.size w w' := by
  have H := rin_any s keysB _ _ (by decide) (lst_alloc w (keysB.map Value.string) 9 (0, 0) (by decide))
  rw [show inB s keysB = isKey s from rfl] at H
  simp only [keysB, List.map_cons, List.map_nil, List.length_cons, List.length_nil, Nat.reduceAdd] at H
  have H := hide H
  go_enter Try.func35, Try.ntmps35
  go_wp2_with fail
  refine (unhide H).mono ?_
  rintro e W ⟨rfl, rfl⟩
  go_wp2
  go_ret
  exact ⟨rfl, below_alloc _ _⟩
set_option maxHeartbeats 400000 in
set_option maxRecDepth 100000 in
theorem rDigit_any (c : Nat) (w : World) (hc : c < 256) :
    Calls Try.prog 32 #[.int .u8 c] w fun e w' => e = .returned (.bool (digB c)) ∧ w' = w := by
  go_enter Try.func32, Try.ntmps32
  go_wp2
  all_goals
    go_ret
    refine ⟨ret_bool ?_, rfl⟩
    rw [Bool.eq_iff_iff]
    simp only [digB, Bool.or_eq_true, Bool.and_eq_true, decide_eq_true_eq, beq_iff_eq, Bool.false_eq_true, ne_eq, true_iff, false_iff]
    omega
set_option maxHeartbeats 400000 in
set_option maxRecDepth 100000 in
theorem rLetter_any (c : Nat) (w : World) (hc : c < 256) :
    Calls Try.prog 34 #[.int .u8 c] w fun e w' => e = .returned (.bool (letB c)) ∧ w' = w := by
  go_enter Try.func34, Try.ntmps34
  go_wp2
  all_goals
    go_ret
    refine ⟨ret_bool ?_, rfl⟩
    rw [Bool.eq_iff_iff]
    simp only [let_iff, Bool.or_eq_true, Bool.and_eq_true, decide_eq_true_eq, beq_iff_eq, Bool.false_eq_true, ne_eq, true_iff, false_iff]
    omega
end Go.Proofs.Ytmhkmmcicfpakaa

/-
  The walks of package token: Op, sign, operand, Ends.
-/
import Derived.Test.YtakllllnpdnpdaaTokBox
import Derived.LoopTactic
namespace Go.Proofs.Ytakllllnpdnpdaa
open Go.RowKit
set_option linter.unusedSimpArgs false
set_option maxHeartbeats 2000000 in
set_option maxRecDepth 100000 in
theorem tOp_any (s : ByteArray) (w : World) :
    Calls Try.prog 39 #[.string s] w fun e w' => e = .returned (.bool (isOp s)) ∧ w' = w := by
  go_enter Try.func39, Try.ntmps39
  go_wp2
  all_goals
    go_ret
    refine ⟨ret_bool ?_, rfl⟩
    simp only [ByteArray.toList_eq] at *
    simp_all only [isOp, inB, opsB, List.any_cons, List.any_nil, Bool.true_or, Bool.false_or, Bool.or_true, Bool.or_false, Bool.false_eq_true, Bool.true_eq_false]
set_option maxHeartbeats 400000 in
set_option maxRecDepth 100000 in
theorem tsign_any (t : Tk) (x : ByteArray) (w : World) :
    Calls Try.prog 26 #[t.val, .string x] w fun e w' => e = .returned (.bool (sgn t x.data.toList)) ∧ Below w.heap.size w w' := by
  obtain ⟨k, s, p, l, q⟩ := t
  unfold Tk.val
  dsimp only
  go_enter Try.func26, Try.ntmps26
  go_wp2
  all_goals
    go_ret
    refine ⟨ret_bool ?_, below_alloc _ _⟩
    simp_all [sgn, eqT_text]
set_option maxHeartbeats 400000 in
set_option maxRecDepth 100000 in
theorem toperand_any (t : Tk) (w : World) :
    Calls Try.prog 25 #[t.val] w fun e w' => e = .returned (.bool (operB t)) ∧ Below w.heap.size w w' := by
  have HS := fun w => tsign_any t ⟨#[41]⟩ w
  rw [show (⟨#[41]⟩ : ByteArray).data.toList = [41] from rfl] at HS
  have hb : ∀ b, sgn t [41] = b → operB t = (decide (t.k = 1) || decide (t.k = 2) || decide (t.k = 3) || b) := fun b hb => by rw [← hb]; rfl
  generalize sgn t [41] = b at *
  have hb := hb b rfl
  rw [hb]
  clear hb
  obtain ⟨k, s, p, l, q⟩ := t
  unfold Tk.val at *
  dsimp only at *
  have HS := hide HS
  by_cases h1 : k = 1
  · subst h1
    clear HS
    go_enter Try.func25, Try.ntmps25
    go_wp2
    go_ret
    exact ⟨ret_bool (by simp), below_alloc _ _⟩
  by_cases h2 : k = 2
  · subst h2
    clear HS
    go_enter Try.func25, Try.ntmps25
    go_wp2
    go_ret
    exact ⟨ret_bool (by simp), below_alloc _ _⟩
  by_cases h3 : k = 3
  · subst h3
    clear HS
    go_enter Try.func25, Try.ntmps25
    go_wp2
    go_ret
    exact ⟨ret_bool (by simp), below_alloc _ _⟩
  rw [decide_eq_false h1, decide_eq_false h2, decide_eq_false h3]
  go_enter Try.func25, Try.ntmps25
  go_wp2_with fail
  refine (unhide HS _).mono ?_
  rintro e W ⟨rfl, hw⟩
  go_wp2
  go_ret
  exact ⟨ret_bool (by simp), below3 (below_alloc _ _) hw⟩
set_option maxHeartbeats 1000000 in
set_option maxRecDepth 100000 in
theorem tEnds_any (t : Tk) (w : World) :
    Calls Try.prog 21 #[t.val] w fun e w' => e = .returned (.bool (endB t)) ∧ Below w.heap.size w w' := by
  have HO := fun w => toperand_any t w
  have HS := fun w => tsign_any t ⟨#[125]⟩ w
  rw [show (⟨#[125]⟩ : ByteArray).data.toList = [125] from rfl] at HS
  have hx := fun w => box_alloc w t (0, 0)
  by_cases hk : t.k = 5
  · have h0 : operB t = false := by simp [operB, sgn, hk]
    have h1 : sgn t [125] = false := by simp [sgn, hk]
    rw [endB, h0, h1, hk]
    clear h0 h1 HO HS hx
    obtain ⟨k, s, p, l, q⟩ := t
    obtain rfl : k = 5 := hk
    unfold Tk.val
    dsimp only
    go_enter Try.func21, Try.ntmps21
    go_wp2
    all_goals
      go_ret
      refine ⟨ret_bool ?_, below_alloc _ _⟩
      simp_all [eqT, ByteArray.toList_eq]
  · have h0 : endB t = (operB t || sgn t [125]) := by simp [endB, hk]
    rw [h0]
    clear h0
    generalize operB t = x at *
    generalize sgn t [125] = y at *
    obtain ⟨k, s, p, l, q⟩ := t
    unfold Tk.val at *
    dsimp only at *
    have HO := hide HO
    have HS := hide HS
    have hx := hide hx
    cases x with
    | true =>
      go_enter Try.func21, Try.ntmps21
      go_wp2_with fail
      refine (unhide HO _).mono ?_
      rintro e W ⟨rfl, hw⟩
      go_wp2
      go_ret
      exact ⟨rfl, below3 (below_alloc _ _) hw⟩
    | false =>
      go_enter Try.func21, Try.ntmps21
      go_wp2_with fail
      refine (unhide HO _).mono ?_
      rintro e W ⟨rfl, hw⟩
      obtain ⟨c0, c1, c2, c3, c4⟩ := (unhide hx w).below hw (by simp)
      dsimp only at c0 c1 c2 c3 c4
      go_wp2_with fail
      refine (unhide HS _).mono ?_
      rintro e W2 ⟨rfl, hw2⟩
      go_wp2
      go_ret
      exact ⟨rfl, below3 (below3 (below_alloc _ _) hw) hw2⟩
end Go.Proofs.Ytakllllnpdnpdaa

/-
  The walks of package token: Op, Rank, Unary, sign, operand, Eq.
-/
import Derived.Test.YtmapohaobinjjaaRefIn
import Derived.Test.YtmapohaobinjjaaTokMath
import Derived.LoopTactic
namespace Go.Proofs.Ytmapohaobinjjaa
open Go.RowKit
set_option linter.unusedSimpArgs false
theorem eqT_text (s x : ByteArray) : (s.toList == x.toList) = eqT s x.data.toList := by
  rw [ByteArray.toList_eq, ByteArray.toList_eq]; rfl
theorem eqT_list (s : ByteArray) (x : List UInt8) : (s.toList == x) = eqT s x := by
  rw [ByteArray.toList_eq]; rfl
set_option maxHeartbeats 2000000 in
set_option maxRecDepth 100000 in
theorem tOp_any (s : ByteArray) (w : World) :
    Calls Try.prog 9 #[.string s] w fun e w' => e = .returned (.bool (isOp s)) ∧ w' = w := by
  go_enter Try.func9, Try.ntmps9
  go_wp2
  all_goals
    go_ret
    refine ⟨ret_bool ?_, rfl⟩
    simp only [ByteArray.toList_eq] at *
    simp_all only [isOp, inB, opsB, List.any_cons, List.any_nil, Bool.true_or, Bool.false_or, Bool.or_true, Bool.or_false, Bool.false_eq_true, Bool.true_eq_false]
set_option maxHeartbeats 2000000 in
set_option maxRecDepth 100000 in
theorem tRank_any (s : ByteArray) (w : World) :
    Calls Try.prog 11 #[.string s] w fun e w' => e = .returned (.int .i64 (rankN s)) ∧ w' = w := by
  go_enter Try.func11, Try.ntmps11
  go_wp2
  all_goals
    go_ret
    refine ⟨ret_int ?_, rfl⟩
    simp only [ByteArray.toList_eq] at *
    simp_all only [rankN, eqT, if_true, if_false, Bool.true_or, Bool.false_or, Bool.or_true, Bool.or_false, Bool.false_eq_true, Bool.true_eq_false]
set_option maxHeartbeats 2000000 in
set_option maxRecDepth 100000 in
theorem tUnary_any (s : ByteArray) (w : World) :
    Calls Try.prog 13 #[.string s] w fun e w' => e = .returned (.bool (isUn s)) ∧ w' = w := by
  go_enter Try.func13, Try.ntmps13
  go_wp2
  all_goals
    go_ret
    refine ⟨ret_bool ?_, rfl⟩
    simp only [ByteArray.toList_eq] at *
    simp_all only [isUn, eqT, Bool.true_or, Bool.false_or, Bool.or_true, Bool.or_false, Bool.false_eq_true, Bool.true_eq_false]
    try rfl
set_option maxHeartbeats 400000 in
set_option maxRecDepth 100000 in
theorem tsign_any (t : Tk) (x : ByteArray) (w : World) :
    Calls Try.prog 23 #[t.val, .string x] w fun e w' => e = .returned (.bool (sgn t x.data.toList)) ∧ Below w.heap.size w w' := by
  obtain ⟨k, s, p, l, q⟩ := t
  unfold Tk.val
  dsimp only
  go_enter Try.func23, Try.ntmps23
  go_wp2
  all_goals
    go_ret
    refine ⟨ret_bool ?_, below_alloc _ _⟩
    simp_all [sgn, eqT_text]
set_option maxHeartbeats 400000 in
set_option maxRecDepth 100000 in
theorem tEq_any (a b : Tk) (w : World) :
    Calls Try.prog 16 #[a.val, b.val] w fun e w' => e = .returned (.bool (eqB a b)) ∧ Below w.heap.size w w' := by
  obtain ⟨k, s, p, l, q⟩ := a
  obtain ⟨k', s', p', l', q'⟩ := b
  unfold Tk.val
  dsimp only
  go_enter Try.func16, Try.ntmps16
  go_wp2
  all_goals
    go_ret
    refine ⟨ret_bool ?_, below3 (below_alloc _ _) (below_alloc _ _)⟩
    simp_all [eqB, eqT_text]
set_option maxHeartbeats 400000 in
set_option maxRecDepth 100000 in
theorem toperand_any (t : Tk) (w : World) :
    Calls Try.prog 22 #[t.val] w fun e w' => e = .returned (.bool (operB t)) ∧ Below w.heap.size w w' := by
  have HS := fun w => tsign_any t ⟨#[41]⟩ w
  rw [show (⟨#[41]⟩ : ByteArray).data.toList = [41] from rfl] at HS
  have hb : ∀ b, sgn t [41] = b → operB t = (decide (t.k = 1) || decide (t.k = 2) || decide (t.k = 3) || b) := fun b hb => by rw [← hb]; rfl
  generalize sgn t [41] = b at *
  have hb := hb b rfl
  rw [hb]
  clear hb
  obtain ⟨k, s, p, l, q⟩ := t
  unfold Tk.val at *
  dsimp only at *
  have HS := hide HS
  by_cases h1 : k = 1
  · subst h1
    clear HS
    go_enter Try.func22, Try.ntmps22
    go_wp2
    go_ret
    exact ⟨ret_bool (by simp), below_alloc _ _⟩
  by_cases h2 : k = 2
  · subst h2
    clear HS
    go_enter Try.func22, Try.ntmps22
    go_wp2
    go_ret
    exact ⟨ret_bool (by simp), below_alloc _ _⟩
  by_cases h3 : k = 3
  · subst h3
    clear HS
    go_enter Try.func22, Try.ntmps22
    go_wp2
    go_ret
    exact ⟨ret_bool (by simp), below_alloc _ _⟩
  rw [decide_eq_false h1, decide_eq_false h2, decide_eq_false h3]
  go_enter Try.func22, Try.ntmps22
  go_wp2_with fail
  refine (unhide HS _).mono ?_
  rintro e W ⟨rfl, hw⟩
  go_wp2
  go_ret
  exact ⟨ret_bool (by simp), below3 (below_alloc _ _) hw⟩
end Go.Proofs.Ytmapohaobinjjaa

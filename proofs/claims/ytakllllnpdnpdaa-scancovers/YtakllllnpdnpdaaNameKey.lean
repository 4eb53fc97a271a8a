/-
  The walk of name.Key.
-/
import Derived.Test.YtakllllnpdnpdaaRet
import Derived.Test.YtakllllnpdnpdaaNameMath
import Derived.LoopTactic
namespace Go.Proofs.Ytakllllnpdnpdaa
open Go.RowKit
set_option linter.unusedSimpArgs false
set_option maxHeartbeats 2000000 in
set_option maxRecDepth 100000 in
theorem nKey_any (s : ByteArray) (w : World) :
    Calls Try.prog 37 #[.string s] w fun e w' => e = .returned (.bool (isKey s)) ∧ w' = w := by
  go_enter Try.func37, Try.ntmps37
  go_wp2
  all_goals
    go_ret
    refine ⟨ret_bool ?_, rfl⟩
    simp only [ByteArray.toList_eq] at *
    simp_all only [isKey, inB, keysB, List.any_cons, List.any_nil, Bool.true_or, Bool.false_or, Bool.or_true, Bool.or_false, Bool.false_eq_true, Bool.true_eq_false]
end Go.Proofs.Ytakllllnpdnpdaa

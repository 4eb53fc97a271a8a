/-
  What a call answers; worlds one behind the other.
-/
import Derived.Test.YtlmfoieolomcfaaMem
namespace Go.Proofs.Ytlmfoieolomcfaa
open Go.RowKit
set_option linter.unusedSimpArgs false
set_option linter.unusedVariables false
theorem ret_bool {a b : Bool} (h : a = b) : Ending.returned (.bool a) = .returned (.bool b) := by rw [h]
theorem below3 {a b c : World} (h : Below a.heap.size a b) (k : Below b.heap.size b c) : Below a.heap.size a c := h.trans (k.mono h.size)
end Go.Proofs.Ytlmfoieolomcfaa

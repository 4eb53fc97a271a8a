/-
  Integers that fit. No program.
-/
import Derived.WalkKit
namespace Go.Proofs.YthnapcdanccohaaDoor
open Go.RowKit
theorem wrapI (x : Int) (h0 : -9223372036854775808 ≤ x) (h1 : x ≤ 9223372036854775807) : IntKind.i64.wrap x = x := by
  simp [IntKind.wrap, IntKind.signed, IntKind.bits]
  split <;> omega
end Go.Proofs.YthnapcdanccohaaDoor

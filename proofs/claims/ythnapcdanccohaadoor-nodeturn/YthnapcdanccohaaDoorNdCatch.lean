/-
  The deferred function of Walk: it recovers nothing where nothing panics.
-/
import Derived.Test.YthnapcdanccohaaDoorRows
import Derived.WalkKit
import Derived.Defers
import Derived.Recover
namespace Go.Proofs.YthnapcdanccohaaDoor
open Go.RowKit
theorem catch_idle (w : World) : CallsD Tryd.prog 27 #[] .returning w fun e u' w' => e = .returned (.tuple #[]) ∧ u' = .returning ∧ w' = w := by
  refine callsD_of_wpS Tryd.func27 rfl fun c₀ cs hu => ?_
  apply wpS_region
  simp [wpOpsS, go_sem, recoverD, hu, Tryd.ntmps27]
  cases c₀
  simp_all [bodyPostS, results, Tryd.results27]
end Go.Proofs.YthnapcdanccohaaDoor

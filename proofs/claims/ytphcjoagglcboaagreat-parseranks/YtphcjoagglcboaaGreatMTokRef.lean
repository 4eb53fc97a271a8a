/-
  The reference's words: Op.
-/
import Derived.Test.YtphcjoagglcboaaGreatMTokRefE
namespace Go.Proofs.YtphcjoagglcboaaGreat
open Go.RowKit
set_option linter.unusedSimpArgs false
set_option maxHeartbeats 400000 in
set_option maxRecDepth 100000 in
theorem rOp_any (s : ByteArray) (w : World) :
    Calls Tryz.prog 54 #[.string s] w fun e w' => e = .returned (.bool (isOp s)) ∧ Below w.heap.size w w' := by
  have H := rin_any s opsB _ _ (by decide) (lst_alloc w (opsB.map Value.string) 9 (0, 0) (by decide))
  rw [show inB s opsB = isOp s from rfl] at H
  simp only [opsB, List.map_cons, List.map_nil, List.length_cons, List.length_nil, Nat.reduceAdd] at H
  have H := hide H
  go_enter Tryz.func54, Tryz.ntmps54
  go_wp2_with fail
  refine (unhide H).mono ?_
  rintro e W ⟨rfl, rfl⟩
  go_wp2
  go_ret
  exact ⟨rfl, below_alloc _ _⟩
end Go.Proofs.YtphcjoagglcboaaGreat

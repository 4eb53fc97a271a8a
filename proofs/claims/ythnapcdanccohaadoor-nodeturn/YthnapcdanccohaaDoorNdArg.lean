/-
  A parameter that is a list of numbers, and its tree.
-/
import Derived.Test.YthnapcdanccohaaDoorNdTop
namespace Go.Proofs.YthnapcdanccohaaDoor
open Go.RowKit Go.Lib Go.Sort
set_option linter.unusedSimpArgs false
set_option linter.unusedVariables false
/-- The tree of a list that came in. -/
theorem row_tree {w : World} {a : Option Addr} {n cap : Nat} {z : List Int} (h : IsRow .i64 w a n cap z) (W : World) (hW : Below w.heap.size w W) :
    Calls Tryd.prog 7 #[.slice a n cap] W fun e w' => ∃ (a' : Option Addr) (n' cap' : Nat), e = .returned (.agg #[.int .i64 (treeN (z.take n)).k, .int .i64 (treeN (z.take n)).t, .slice a' n' cap']) ∧
      SlQ (fun x => W.heap.size ≤ x) w' a' n' cap' (treeN (z.take n)).c ∧ Below W.heap.size W w' := by
  replace h := h.below hW
  rcases h with ⟨rfl, rfl, rfl, rfl⟩ | ⟨x, rfl, h1, h2, h3, hcell, hwf⟩
  · exact nlTree_any _ none 0 0 W rfl ⟨Nat.le_refl _, Nat.zero_le _⟩ (fun h => absurd h (Nat.lt_irrefl 0))
  · refine nlTree_any _ (some x) n cap W (by simp; omega) ⟨h1, h2⟩ (fun h0 => ?_)
    obtain ⟨b, off, rfl, hc⟩ := ints_at hcell (by omega)
    exact ⟨b, off, rfl, World.block_lt_of_cell? W _ (hc 0 (by omega)), fun j hj => by rw [hc j (by omega), getD_take _ _ _ hj]⟩
theorem cf_ndCount' (us : Array Value) (W : World) : Sem.run Tryd.prog (callFunc 10 us) W = .ok (.enter 10 us) W := by kernel_rfl
end Go.Proofs.YthnapcdanccohaaDoor

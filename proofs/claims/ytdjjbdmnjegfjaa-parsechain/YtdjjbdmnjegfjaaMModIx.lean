/-
  (a % n + n) % n lies from 0 to n. No program.
-/
import Derived.WalkKit
namespace Go.Proofs.Ytdjjbdmnjegfjaa
open Go.RowKit
theorem mod_ix (a n : Int) (h : 0 < n) (hn : n ≤ 1000) : ∃ j : Nat, (wrap64 (a.tmod n + n)).tmod n = (j : Int) ∧ (j : Int) < n := by
  have e1 := Int.emod_nonneg a (Int.ne_of_gt h)
  have e2 := Int.emod_lt_of_pos a h
  have hb : -n < a.tmod n ∧ a.tmod n < n := by
    rw [Int.tmod_eq_emod]
    split <;> omega
  have hw : wrap64 (a.tmod n + n) = a.tmod n + n := by
    unfold wrap64
    omega
  rw [hw]
  have e3 : 0 ≤ (a.tmod n + n).tmod n := Int.tmod_nonneg _ (by omega)
  have e4 : (a.tmod n + n).tmod n < n := Int.tmod_lt_of_pos _ h
  exact ⟨((a.tmod n + n).tmod n).toNat, by omega, by omega⟩
end Go.Proofs.Ytdjjbdmnjegfjaa

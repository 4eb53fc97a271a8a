/-
  The reference's words: operand, Ends.
-/
import Derived.Test.YtphcjoagglcboaaGreatB01
import Derived.Test.YtphcjoagglcboaaGreatMRefIn
namespace Go.Proofs.YtphcjoagglcboaaGreat
open Go.RowKit
set_option linter.unusedSimpArgs false
set_option maxHeartbeats 1000000 in
set_option maxRecDepth 100000 in
theorem roperand_any (t : Tk) (w : World) :
    Calls Tryz.prog 79 #[t.val] w fun e w' => e = .returned (.bool (operB t)) ∧ Below w.heap.size w w' := by
  obtain ⟨k, s, p, l, q⟩ := t
  unfold Tk.val
  dsimp only
  go_enter Tryz.func79, Tryz.ntmps79
  go_wp2
  all_goals
    go_ret
    refine ⟨ret_bool ?_, below_alloc _ _⟩
    simp_all [operB, sgn, eqT, ByteArray.toList_eq]
def ends3 : List ByteArray := [⟨#[114, 101, 116, 117, 114, 110]⟩, ⟨#[98, 114, 101, 97, 107]⟩, ⟨#[99, 111, 110, 116, 105, 110, 117, 101]⟩]
set_option maxHeartbeats 1000000 in
set_option maxRecDepth 100000 in
theorem rEnds_any (t : Tk) (w : World) :
    Calls Tryz.prog 55 #[t.val] w fun e w' => e = .returned (.bool (endB t)) ∧ Below w.heap.size w w' := by
  have HO := fun w => roperand_any t w
  have HI := fun (w : World) => rin_any t.s ends3 _ _ (by decide) (lst_alloc w (ends3.map Value.string) 9 (0, 0) (by decide))
  have hx := hide (fun w => box_alloc w t (0, 0))
  by_cases hk : t.k = 5
  · have h0 : operB t = false := by simp [operB, sgn, hk]
    have h1 : sgn t [125] = false := by simp [sgn, hk]
    have h2 : endB t = inB t.s ends3 := by rw [endB, h0, h1, hk]; simp only [inB, ends3, eqT, List.any_cons, List.any_nil, Bool.or_false, Bool.false_or, decide_true, Bool.true_and, Bool.or_assoc]
    rw [h2]
    rw [h0] at HO
    simp only [ends3, List.map_cons, List.map_nil, List.length_cons, List.length_nil, Nat.reduceAdd] at HI
    rw [show ([⟨#[114, 101, 116, 117, 114, 110]⟩, ⟨#[98, 114, 101, 97, 107]⟩, ⟨#[99, 111, 110, 116, 105, 110, 117, 101]⟩] : List ByteArray) = ends3 from rfl] at HI
    generalize inB t.s ends3 = y at *
    clear h0 h1 h2
    have HI := hide HI
    have HO := hide HO
    obtain ⟨k, s, p, l, q⟩ := t
    obtain rfl : k = 5 := hk
    unfold Tk.val at *
    dsimp only at *
    go_enter Tryz.func55, Tryz.ntmps55
    go_wp2_with fail
    refine (unhide HO _).mono ?_
    rintro e W ⟨rfl, hw⟩
    obtain ⟨c0, c1, c2, c3, c4⟩ := (unhide hx w).below hw (by simp)
    dsimp only at c0 c1 c2 c3 c4
    go_wp2_with fail
    refine (unhide HI _).mono ?_
    rintro e W2 ⟨rfl, rfl⟩
    go_wp2
    go_ret
    exact ⟨rfl, below3 (below3 (below_alloc _ _) hw) (below_alloc _ _)⟩
  · clear HI
    have h0 : endB t = (operB t || sgn t [125]) := by simp [endB, hk]
    rw [h0]
    clear h0
    have hy : sgn t [125] = (decide (t.k = 4) && eqT t.s [125]) := rfl
    generalize sgn t [125] = y at *
    generalize operB t = x at *
    obtain ⟨k, s, p, l, q⟩ := t
    unfold Tk.val at *
    dsimp only at *
    have HO := hide HO
    have hy := hide hy
    cases x with
    | true =>
      go_enter Tryz.func55, Tryz.ntmps55
      go_wp2_with fail
      refine (unhide HO _).mono ?_
      rintro e W ⟨rfl, hw⟩
      go_wp2
      go_ret
      exact ⟨rfl, below3 (below_alloc _ _) hw⟩
    | false =>
      go_enter Tryz.func55, Tryz.ntmps55
      go_wp2_with fail
      refine (unhide HO _).mono ?_
      rintro e W ⟨rfl, hw⟩
      obtain ⟨c0, c1, c2, c3, c4⟩ := (unhide hx w).below hw (by simp)
      dsimp only at c0 c1 c2 c3 c4
      have hw := below3 (below_alloc _ _) hw
      go_wp2
      all_goals
        go_ret
        refine ⟨ret_bool ?_, hw⟩
        rw [unhide hy]
        simp_all [eqT, ByteArray.toList_eq]
end Go.Proofs.YtphcjoagglcboaaGreat

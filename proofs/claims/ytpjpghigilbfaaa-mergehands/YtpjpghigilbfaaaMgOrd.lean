/-
  The program's order: cmp.Compare, strings.Compare, cmp.Or.
-/
import Derived.Test.YtpjpghigilbfaaaMgMath
import Derived.Test.YtpjpghigilbfaaaOwnEd
import Derived.Test.YtpjpghigilbfaaaLst
import Derived.Test.YtpjpghigilbfaaaOrdN
import Derived.Deep.LoopGhost
import Derived.BigQuiet
import Derived.WalkSmall
import Derived.Sort.Grow
import Derived.Lib.Bytealg
namespace Go.Proofs.Ytpjpghigilbfaaa
open Go.RowKit Go.Lib Go.Sort
set_option linter.unusedSimpArgs false
set_option linter.unusedVariables false
set_option maxHeartbeats 1000000 in
theorem compare_any (x y : Int) (w : World) : Calls Try.prog 32 #[.int .i64 x, .int .i64 y] w fun e w' => e = .returned (.int .i64 (compareInt x y)) ∧ w' = w := by
  go_enter Try.func32, Try.ntmps32
  go_wp2
  all_goals (go_ret; refine ⟨?_, rfl⟩; unfold compareInt; (repeat' split) <;> first | rfl | (exfalso; omega))
set_option maxHeartbeats 1000000 in
theorem baCompare_any (a b : ByteArray) (w : World) : Calls Try.prog 46 #[.string a, .string b] w fun e w' => e = .returned (.int .i64 (compareBytes a.data.toList b.data.toList)) ∧ w' = w := by
  go_enter Try.func46, Try.ntmps46
  go_wp2
  rw [run_callFunc_extern Try.func52 (by kernel_rfl) (by kernel_rfl) (by kernel_rfl) (e := Extern.BytealgCompare.compare) (by kernel_rfl), Lib.run_compareString]
  simp only [Result.andThen]
  rw [Oper.upon_value]
  go_wp2
  go_ret
  exact ⟨rfl, rfl⟩
set_option maxHeartbeats 1000000 in
theorem strCompare_any (a b : ByteArray) (w : World) : Calls Try.prog 33 #[.string a, .string b] w fun e w' => e = .returned (.int .i64 (compareBytes a.data.toList b.data.toList)) ∧ w' = w := by
  go_enter Try.func33, Try.ntmps33
  go_wp2_with (go_at_call 46; refine (baCompare_any _ _ _).mono ?_; rintro e w' ⟨rfl, rfl⟩)
  go_ret
  exact ⟨rfl, rfl⟩
set_option maxHeartbeats 2000000 in
/-- cmp.Or of three. -/
theorem or_any (g : Nat) (x y z : Int) (w : World) (h0 : w.cell? ⟨g, 0, none⟩ = some (.int .i64 x)) (h1 : w.cell? ⟨g, 1, none⟩ = some (.int .i64 y)) (h2 : w.cell? ⟨g, 2, none⟩ = some (.int .i64 z)) :
    Calls Try.prog 31 #[.slice (some ⟨g, 0, none⟩) 3 3] w fun e w' => e = .returned (.int .i64 (if x ≠ 0 then x else if y ≠ 0 then y else z)) ∧ w' = w := by
  by_cases hx : x = 0
  · by_cases hy : y = 0
    · subst hx hy
      by_cases hz : z = 0
      · subst hz
        go_enter Try.func31, Try.ntmps31
        go_wp2
        go_rounds 4
        go_ret
        exact ⟨rfl, rfl⟩
      · go_enter Try.func31, Try.ntmps31
        go_wp2
        go_rounds 4
        go_ret
        exact ⟨rfl, rfl⟩
    · subst hx
      go_enter Try.func31, Try.ntmps31
      go_wp2
      go_rounds 4
      go_ret
      exact ⟨by simp [hy], rfl⟩
  · go_enter Try.func31, Try.ntmps31
    go_wp2
    go_rounds 4
    go_ret
    exact ⟨by simp [hx], rfl⟩
set_option maxHeartbeats 4000000 in
set_option maxRecDepth 100000 in
theorem order_any (d e : Ed) (w : World) : Calls Try.prog 23 #[.agg #[.int .i64 d.p, .int .i64 d.n, .string d.s], .agg #[.int .i64 e.p, .int .i64 e.n, .string e.s]] w fun x w' => x = .returned (.int .i64 (cmpE d e)) ∧ ∃ q os, w' = grow (w.drewN q) os := by
  obtain ⟨dp, dn, ds⟩ := d
  obtain ⟨ep, en, es⟩ := e
  have hc : Hid (cmpE ⟨dp, dn, ds⟩ ⟨ep, en, es⟩ = if compareInt dp ep ≠ 0 then compareInt dp ep else if compareInt dn en ≠ 0 then compareInt dn en else compareBytes ds.data.toList es.data.toList) := hide rfl
  generalize cmpE ⟨dp, dn, ds⟩ ⟨ep, en, es⟩ = c at *
  go_enter Try.func23, Try.ntmps23
  go_wp2
  obtain ⟨W, hWe⟩ : ∃ W, W = (w.alloc (.cells #[.int .i64 dp, .int .i64 dn, .string ds] 29 (0, 0))).alloc (.cells #[.int .i64 ep, .int .i64 en, .string es] 29 (0, 0)) := ⟨_, rfl⟩
  have hW : Hid (∃ q os, W = grow (w.drewN q) os) := hide ⟨0, _, by rw [hWe, alloc_eq_grow, alloc_eq_grow, grow_grow]; rfl⟩
  have x0 : W.cell? ⟨w.heap.size, 0, none⟩ = some (.int .i64 dp) := by rw [hWe]; simp
  have x1 : W.cell? ⟨w.heap.size, 1, none⟩ = some (.int .i64 dn) := by rw [hWe]; simp
  have x2 : W.cell? ⟨w.heap.size, 2, none⟩ = some (.string ds) := by rw [hWe]; simp
  have y0 : W.cell? ⟨w.heap.size + 1, 0, none⟩ = some (.int .i64 ep) := by rw [hWe]; simp
  have y1 : W.cell? ⟨w.heap.size + 1, 1, none⟩ = some (.int .i64 en) := by rw [hWe]; simp
  have y2 : W.cell? ⟨w.heap.size + 1, 2, none⟩ = some (.string es) := by rw [hWe]; simp
  rw [← hWe]
  clear hWe
  refine wp_region_narrow 15 (by kernel_rfl) rfl (by kernel_rfl) ?_
  simp only [List.take_succ_cons, List.take_zero]
  repeat (go_big_quiet_step (first | (go_at_call 32; exact Calls.quiet_of_same (compare_any _ _ _)) | (go_at_call 33; exact Calls.quiet_of_same (strCompare_any _ _ _))))
  refine wpQuiet_nil ?_
  intro nq K hK
  rw [if_pos (by kernel_rfl)]
  generalize compareInt dp ep = c1 at *
  generalize compareInt dn en = c2 at *
  generalize compareBytes ds.data.toList es.data.toList = c3 at *
  clear x0 x1 x2 y0 y1 y2
  obtain ⟨W2, hW2⟩ : ∃ W2, W2 = W.drewN nq := ⟨_, rfl⟩
  have hG2 : Hid (∃ q os, W2 = grow (w.drewN q) os) := hide (by obtain ⟨q, os, h⟩ := unhide hW; exact ⟨q + nq, os, by rw [hW2, h]; show grow ((w.drewN q).drewN nq) os = _; rw [World.drewN_drewN]⟩)
  rw [← hW2]
  clear hW hW2
  go_simp
  refine unhide hK _ _ ?_
  clear hK K
  have H4 : Hid (∀ n, Calls Try.prog 31 #[.slice (some ⟨W2.heap.size, 0, none⟩) 3 3] ((W2.alloc (.cells #[.int .i64 c1, .int .i64 c2, .int .i64 c3] 3 (0, 0))).drewN n) fun e w' => e = .returned (.int .i64 c) ∧ w' = (W2.alloc (.cells #[.int .i64 c1, .int .i64 c2, .int .i64 c3] 3 (0, 0))).drewN n) :=
    hide (fun n => by rw [unhide hc]; exact or_any W2.heap.size c1 c2 c3 ((W2.alloc (.cells #[.int .i64 c1, .int .i64 c2, .int .i64 c3] 3 (0, 0))).drewN n) (by simp) (by simp) (by simp))
  have hG3 : Hid (∃ q os, W2.alloc (.cells #[.int .i64 c1, .int .i64 c2, .int .i64 c3] 3 (0, 0)) = grow (w.drewN q) os) := hide (by obtain ⟨q, os, h⟩ := unhide hG2; exact ⟨q, _, by rw [h, alloc_eq_grow, grow_grow]⟩)
  generalize W2.alloc (.cells #[.int .i64 c1, .int .i64 c2, .int .i64 c3] 3 (0, 0)) = W3 at *
  simp only [List.drop_succ_cons, List.drop_zero]
  try simp only [List.getElem_toArray, List.getElem_cons_succ, List.getElem_cons_zero, Act.put, List.setIfInBounds_toArray, List.set_cons_zero, List.set_cons_succ]
  repeat (go_big_quiet_step (exact Calls.quiet_of_same (unhide H4 _)))
  refine wpQuiet_nil ?_
  rintro _ ⟨nq2, rfl⟩
  go_wp2
  go_ret
  refine ⟨rfl, ?_⟩
  obtain ⟨q, os, h⟩ := unhide hG3
  exact ⟨q + nq2, os, by rw [h]; show grow ((w.drewN q).drewN nq2) os = _; rw [World.drewN_drewN]⟩
end Go.Proofs.Ytpjpghigilbfaaa

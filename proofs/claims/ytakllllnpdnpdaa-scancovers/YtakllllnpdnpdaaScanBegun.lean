/-
  Two texts cut into words; the laws' begun.
-/
import Derived.Test.YtakllllnpdnpdaaCutScan
import Derived.KernelRfl
import Derived.Test.YtakllllnpdnpdaaOwnTok
namespace Go.Proofs.Ytakllllnpdnpdaa
set_option maxRecDepth 100000
theorem lit_one : scanR ⟨#[97, 32, 58, 61, 32, 49, 32, 47, 47, 32, 120, 10]⟩ (bigF ⟨#[97, 32, 58, 61, 32, 49, 32, 47, 47, 32, 120, 10]⟩ (flt ⟨#[97, 32, 58, 61, 32, 49, 32, 47, 47, 32, 120, 10]⟩)) =
    ([⟨1, ⟨#[97]⟩, 0, 1, false⟩, ⟨4, ⟨#[58, 61]⟩, 2, 1, false⟩, ⟨2, ⟨#[49]⟩, 5, 1, false⟩, ⟨6, ⟨#[59]⟩, 7, 1, true⟩, ⟨7, ⟨#[]⟩, 12, 2, false⟩], [⟨⟨#[47, 47, 32, 120]⟩, 7, 1, 4⟩], -1) := by kernel_rfl
theorem lit_two : scanR ⟨#[97, 32, 36]⟩ (bigF ⟨#[97, 32, 36]⟩ (flt ⟨#[97, 32, 36]⟩)) = ([], [], 2) := by kernel_rfl
end Go.Proofs.Ytakllllnpdnpdaa
namespace Go.Proofs.Ytakllllnpdnpdaa
open Go.RowKit
set_option linter.unusedSimpArgs false
set_option linter.unusedVariables false
set_option maxHeartbeats 2000000 in
set_option maxRecDepth 100000 in
theorem scanbegun_any (w : World) :
    Calls Try.prog 4 #[] w fun e w' => e = .returned (.bool true) ∧ Below w.heap.size w w' := by
  have H1 := pScan_any ⟨#[97, 32, 58, 61, 32, 49, 32, 47, 47, 32, 120, 10]⟩ w (by decide)
  have H2 := fun w => pScan_any ⟨#[97, 32, 36]⟩ w (by decide)
  rw [lit_one] at H1
  rw [lit_two] at H2
  replace H1 := hide H1
  replace H2 := hide H2
  go_enter Try.func4, Try.ntmps4
  go_wp2_with fail
  refine (unhide H1).mono ?_
  rintro e W1 ⟨vl, vc, rfl, ht, hc, hw⟩
  replace ht := own_toks ht
  replace hc := own_coms hc
  replace ht := hide ht
  replace hc := hide hc
  clear H1
  go_wp2_with fail
  refine (unhide H2 _).mono ?_
  rintro e W2 ⟨ul, uc, rfl, _, _, hw2⟩
  have ht := (unhide ht).below hw2
  have hc := (unhide hc).below hw2
  replace hw := below3 hw hw2
  clear hw2 H2
  obtain ⟨a, ca, rfl, ha1, ha2, ha3⟩ := ht
  obtain ⟨b, cb, rfl, hb1, hb2, hb3⟩ := hc
  obtain ⟨ga, rfl, hga, hca⟩ := ha3 (by decide)
  obtain ⟨gb, rfl, hgb, hcb⟩ := hb3 (by decide)
  obtain ⟨p0, p1, p2, p3, p4⟩ := hca 1 _ rfl
  obtain ⟨q0, q1, q2, q3, q4⟩ := hca 3 _ rfl
  obtain ⟨r0, r1, r2, r3, r4⟩ := hca 4 _ rfl
  obtain ⟨c0, c1, c2, c3⟩ := hcb 0 _ rfl
  simp only [Nat.reduceMul, Nat.reduceAdd, List.length_cons, List.length_nil] at *
  have e1 : (⟨#[58, 61]⟩ : ByteArray).toList = [58, 61] := by rw [ByteArray.toList_eq]
  have e2 : (⟨#[47, 47, 32, 120]⟩ : ByteArray).toList = [47, 47, 32, 120] := by rw [ByteArray.toList_eq]
  clear hca hcb ha3 hb3
  go_wp2
  all_goals go_ret
  all_goals exact ⟨by rfl, hw⟩
end Go.Proofs.Ytakllllnpdnpdaa

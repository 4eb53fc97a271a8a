/-
  Scopes: the law's begun.
-/
import Derived.Test.YtlmfoieolomcfaaSpLaw
namespace Go.Proofs.Ytlmfoieolomcfaa
open Go.RowKit Go.Maps Go.Lib Go.WideMaps
set_option linter.unusedSimpArgs false
set_option linter.unusedVariables false
def xB : ByteArray := ⟨#[120]⟩
theorem bgp0 : plc ⟨#[120]⟩ [] = -1 := rfl
theorem bgp1 : plc ⟨#[120]⟩ [⟨⟨#[120]⟩, 0, 1, 0, -1⟩] = 0 := by decide
theorem bgp2 : plc ⟨#[120]⟩ [⟨⟨#[120]⟩, 0, 1, 0, -1⟩, ⟨⟨#[120]⟩, 0, 2, 0, 0⟩] = 1 := by decide
theorem bgf1 : fnd ⟨#[120]⟩ [⟨⟨#[120]⟩, 0, 1, 0, -1⟩] 1 = none := by unfold fnd; rw [bgp1]; decide
theorem bgf2 : fnd ⟨#[120]⟩ [⟨⟨#[120]⟩, 0, 1, 0, -1⟩, ⟨⟨#[120]⟩, 0, 2, 0, 0⟩] 0 = some ⟨⟨#[120]⟩, 0, 2, 0, 0⟩ := by unfold fnd; rw [bgp2]; rfl
theorem bgf3 : fnd ⟨#[120]⟩ [⟨⟨#[120]⟩, 0, 1, 0, -1⟩] 0 = some ⟨⟨#[120]⟩, 0, 1, 0, -1⟩ := by unfold fnd; rw [bgp1]; rfl
set_option maxHeartbeats 2000000 in
set_option maxRecDepth 100000 in
theorem slScope_any (w : World) : Calls Try.prog 7 #[] w fun e w' => e = .returned (.bool true) ∧ Below w.heap.size w w' := by
  have hN := hide (lsNew w)
  have hg0 : w.heap.size ≤ w.heap.size := Nat.le_refl _
  obtain ⟨g, hg⟩ : ∃ x, w.heap.size = x := ⟨_, rfl⟩
  rw [hg] at hN
  go_enter Try.func7, Try.ntmps7
  go_wp2_with fail
  refine (unhide hN).mono ?_
  rintro e w1 ⟨rfl, hL, _⟩
  have hA := lsAdd hL (by decide) ⟨#[120]⟩ (by decide) 0 1 0
  simp only [bgp0, beg_nil, List.nil_append, show ((-1 : Int) < ((0 : Nat) : Int)) from by decide, if_true] at hA
  replace hA := hide hA
  clear hL
  go_wp2_with fail
  refine (unhide hA).mono ?_
  rintro e w2 ⟨rfl, hL, _⟩
  have hA := lsPush hL (by decide)
  simp only [List.nil_append, List.length_cons, List.length_nil, Nat.zero_add] at hA
  replace hA := hide hA
  clear hL
  go_wp2_with fail
  refine (unhide hA).mono ?_
  rintro e w3 ⟨rfl, hL, _⟩
  have hA := lsHere hL ⟨#[120]⟩ (by decide) (by decide)
  simp only [show beg [1] = 1 from rfl, show ((1 : Nat) : Int) = 1 from rfl, bgf1, fndV] at hA
  replace hA := hide hA
  clear hL
  go_wp2_with fail
  refine (unhide hA).mono ?_
  rintro e w4 ⟨rfl, hL, _⟩
  obtain ⟨hL, _⟩ := hL.more (.cells #[.int .i64 0, .int .i64 0, .int .i64 0] 34 (0, 0))
  have hA := lsAdd hL (by decide) ⟨#[120]⟩ (by decide) 0 2 0
  simp only [show beg [1] = 1 from rfl, bgp1, show ((0 : Int) < ((1 : Nat) : Int)) from by decide, if_true, List.cons_append, List.nil_append] at hA
  replace hA := hide hA
  clear hL
  go_wp2_with fail
  refine (unhide hA).mono ?_
  rintro e w5 ⟨rfl, hL, _⟩
  have hA := lsAdd hL (by decide) ⟨#[120]⟩ (by decide) 0 3 0
  simp only [show beg [1] = 1 from rfl, bgp2, show ¬ ((1 : Int) < ((1 : Nat) : Int)) from by decide, if_false] at hA
  replace hA := hide hA
  clear hL
  go_wp2_with fail
  refine (unhide hA).mono ?_
  rintro e w6 ⟨rfl, hL, _⟩
  have hA := lsFind hL ⟨#[120]⟩ (by decide) (by decide)
  simp only [bgf2, fndV] at hA
  replace hA := hide hA
  clear hL
  go_wp2_with fail
  refine (unhide hA).mono ?_
  rintro e w7 ⟨rfl, hL, _⟩
  have hD : DBlk (w7.alloc (.cells #[.int .i64 0, .int .i64 2, .int .i64 0] 34 (0, 0))) w7.heap.size 0 2 0 := heap_alloc_new w7 _
  obtain ⟨hL, _⟩ := hL.more (.cells #[.int .i64 0, .int .i64 2, .int .i64 0] 34 (0, 0))
  obtain ⟨z1, hz1⟩ : ∃ x, w7.heap.size = x := ⟨_, rfl⟩
  rw [hz1] at hL hD
  have hA := lsPop (b0 := 1) (bs := []) hL (by decide)
  simp only [List.take_succ_cons, List.take_zero] at hA
  replace hA := hide hA
  clear hL
  go_wp2_with fail
  refine (unhide hA).mono ?_
  rintro e w8 ⟨rfl, hL, hs⟩
  replace hD := hs.d (by simp) hD
  clear hs
  have hA := hide (lsPop0 hL (by decide))
  go_wp2_with fail
  refine (unhide hA).mono ?_
  rintro e w9 ⟨rfl, rfl⟩
  have hA := lsFind hL ⟨#[120]⟩ (by decide) (by decide)
  simp only [bgf3, fndV] at hA
  replace hA := hide hA
  clear hL
  go_wp2_with fail
  refine (unhide hA).mono ?_
  rintro e w10 ⟨rfl, hL, hs⟩
  replace hD := hs.d (by simp) hD
  clear hs
  have hD2 : DBlk (w10.alloc (.cells #[.int .i64 0, .int .i64 1, .int .i64 0] 34 (0, 0))) w10.heap.size 0 1 0 := heap_alloc_new w10 _
  obtain ⟨hL, hs⟩ := hL.more (.cells #[.int .i64 0, .int .i64 1, .int .i64 0] 34 (0, 0))
  replace hD := hs.d (by simp) hD
  clear hs
  have hA := hide (lsDeep hL (by decide))
  obtain ⟨d0, d1, d2⟩ := hD.cells
  obtain ⟨k0, k1, k2⟩ := hD2.cells
  go_wp2_with fail
  refine (unhide hA).mono ?_
  rintro e w11 ⟨rfl, rfl⟩
  go_wp2
  go_ret
  exact ⟨rfl, hL.1⟩
end Go.Proofs.Ytlmfoieolomcfaa

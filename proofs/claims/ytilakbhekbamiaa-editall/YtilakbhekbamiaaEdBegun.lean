/-
  begun of edit's laws: two edits.
-/
import Derived.Test.YtilakbhekbamiaaEdBak
import Derived.Test.YtilakbhekbamiaaEdEq
namespace Go.Proofs.Ytilakbhekbamiaa
open Go.RowKit
set_option linter.unusedSimpArgs false
set_option linter.unusedVariables false
theorem eds_two (w : World) (d e : Ed) (fr : Nat × Nat) : Eds (w.alloc (.cells #[.int .i64 d.p, .int .i64 d.n, .string d.s, .int .i64 e.p, .int .i64 e.n, .string e.s] 31 fr)) (.slice (some ⟨w.heap.size, 0, none⟩) 2 2) [d, e] := by
  refine ⟨_, 2, rfl, Nat.le_refl _, by unfold maxLen; omega, fun _ => ⟨w.heap.size, 0, rfl, (Array.getElem?_eq_some_iff.1 (heap_alloc_new w _)).1, fun i hi => ?_⟩⟩
  have hk := heap_alloc_new w (.cells #[.int .i64 d.p, .int .i64 d.n, .string d.s, .int .i64 e.p, .int .i64 e.n, .string e.s] 31 fr)
  match i, hi with
  | 0, _ => exact ⟨by rw [World.cell?_alloc_mark]; rfl, by rw [World.cell?_alloc_mark]; rfl, by rw [World.cell?_alloc_mark]; rfl⟩
  | 1, _ => exact ⟨by rw [World.cell?_alloc_mark]; rfl, by rw [World.cell?_alloc_mark]; rfl, by rw [World.cell?_alloc_mark]; rfl⟩
def be0 : List Ed := [⟨0, 1, ⟨#[120, 121]⟩⟩, ⟨3, 0, ⟨#[33]⟩⟩]
def be1 : List Ed := [⟨0, 1, ⟨#[]⟩⟩, ⟨1, 0, ⟨#[]⟩⟩]
def be2 : List Ed := [⟨0, 2, ⟨#[97]⟩⟩, ⟨4, 1, ⟨#[]⟩⟩]
def bs0 : ByteArray := ⟨#[97, 98, 99]⟩
def bs1 : ByteArray := ⟨#[120, 121, 98, 99, 33]⟩
theorem be_may : mayB be0 3 = true ∧ mayB be0 2 = false ∧ mayB be1 3 = false ∧ mayB be2 5 = true := by decide
theorem be_app : appS bs0 be0 = bs1 := by kernel_rfl
theorem be_bak : bakL bs0 be0 = be2 := by kernel_rfl
theorem be_app2 : appS bs1 be2 = bs0 := by kernel_rfl
theorem rng_of {L : List Ed} (h : L.all (fun e => decide (-9223372036854775808 ≤ e.p) && decide (e.p ≤ 9223372036854775807) && (decide (-9223372036854775808 ≤ e.n) && decide (e.n ≤ 9223372036854775807))) = true) : Rng L := by
  intro e he
  have := List.all_eq_true.1 h e he
  simp only [Bool.and_eq_true, decide_eq_true_eq] at this
  exact this
theorem rng_b : Rng be0 ∧ Rng be1 ∧ Rng be2 := ⟨rng_of (by decide), rng_of (by decide), rng_of (by decide)⟩
theorem siz_b : (∀ e ∈ be0, e.s.size ≤ 1000000) ∧ (∀ e ∈ be2, e.s.size ≤ 1000000) := by
  constructor <;> (intro e he; simp only [be0, be2, List.mem_cons, List.not_mem_nil, or_false] at he; rcases he with rfl | rfl <;> decide)
theorem beq_b : eqB be0 be0 = true ∧ eqB be0 be2 = false := by
  refine ⟨eqB_iff.2 rfl, ?_⟩
  cases h : eqB be0 be2 with
  | false => rfl
  | true => exact absurd (eqB_iff.1 h) (by unfold be0 be2; simp)
theorem bsApp (w : World) (v : Value) (h : Eds w v be0) : Calls Try.prog 10 #[.string ⟨#[97, 98, 99]⟩, v] w fun e w' => e = .returned (.tuple #[.string ⟨#[120, 121, 98, 99, 33]⟩, .bool true]) ∧ Below w.heap.size w w' := by
  have := pApply_yes v be0 bs0 w h (by decide) (by decide) siz_b.1 rng_b.1 be_may.1
  rw [be_app] at this
  exact this
theorem bsBak (w : World) (v : Value) (h : Eds w v be0) : Calls Try.prog 11 #[.string ⟨#[97, 98, 99]⟩, v] w fun e w' => ∃ u, e = .returned u ∧ Eds w' u be2 ∧ Below w.heap.size w w' := by
  refine (pBack_yes v be0 bs0 w h (by decide) (by decide) siz_b.1 rng_b.1 be_may.1).mono ?_
  rintro e w' ⟨u, rfl, ho, hb⟩
  rw [be_bak] at ho
  exact ⟨u, rfl, own_eds ho, hb⟩
theorem bsApp2 (w : World) (v : Value) (h : Eds w v be2) : Calls Try.prog 10 #[.string ⟨#[120, 121, 98, 99, 33]⟩, v] w fun e w' => e = .returned (.tuple #[.string ⟨#[97, 98, 99]⟩, .bool true]) ∧ Below w.heap.size w w' := by
  have := pApply_yes v be2 bs1 w h (by decide) (by decide) siz_b.2 rng_b.2.2 be_may.2.2.2
  rw [be_app2] at this
  exact this
theorem bsMay (w : World) (v : Value) (h : Eds w v be0) (z : Int) (hz : 0 ≤ z ∧ z ≤ 1000000000) : Calls Try.prog 12 #[v, .int .i64 z] w fun e w' => e = .returned (.bool (mayB be0 z)) ∧ Below w.heap.size w w' :=
  pMay_any v be0 z w h (by decide) hz rng_b.1
theorem bsMay1 (w : World) (v : Value) (h : Eds w v be1) : Calls Try.prog 12 #[v, .int .i64 3] w fun e w' => e = .returned (.bool false) ∧ Below w.heap.size w w' := by
  have := pMay_any v be1 3 w h (by decide) (by omega) rng_b.2.1
  rw [be_may.2.2.1] at this
  exact this
set_option maxHeartbeats 2000000 in
set_option maxRecDepth 100000 in
theorem editbegun_any (w : World) : Calls Try.prog 6 #[] w fun e w' => e = .returned (.bool true) ∧ Below w.heap.size w w' := by
  go_enter Try.func6, Try.ntmps6
  go_wp2_with fail
  obtain ⟨w0, hw0⟩ : ∃ w0, w0 = w.alloc (.cells #[.int .i64 0, .int .i64 1, .string ⟨#[120, 121]⟩, .int .i64 3, .int .i64 0, .string ⟨#[33]⟩] 31) := ⟨_, rfl⟩
  have hE0 : Eds w0 (.slice (some ⟨w.heap.size, 0, none⟩) 2 2) be0 := by rw [hw0]; exact eds_two w ⟨0, 1, ⟨#[120, 121]⟩⟩ ⟨3, 0, ⟨#[33]⟩⟩ _
  have hb0 : Below w.heap.size w w0 := by rw [hw0]; exact below_alloc w _
  rw [← hw0]
  clear hw0
  replace hE0 := hide hE0
  replace hb0 := hide hb0
  refine (bsApp _ _ (unhide hE0)).mono ?_
  rintro e w1 ⟨rfl, hb1⟩
  replace hE0 := hide ((unhide hE0).below hb1)
  replace hb0 := hide (below3 (unhide hb0) hb1)
  clear hb1
  go_wp2_with fail
  refine (bsBak _ _ (unhide hE0)).mono ?_
  rintro e w2 ⟨u, rfl, hE2, hb2⟩
  replace hE0 := hide ((unhide hE0).below hb2)
  replace hb0 := hide (below3 (unhide hb0) hb2)
  clear hb2
  obtain ⟨au, cu, rfl, hcu, hcm, hx⟩ := id hE2
  replace hE2 := hide hE2
  replace hx := hide hx
  unfold maxLen at hcm
  simp only [be2, List.length_cons, List.length_nil, Nat.zero_add, Nat.reduceAdd] at hcu ⊢
  go_wp2_with fail
  refine (bsApp2 _ _ (unhide hE2)).mono ?_
  rintro e w3 ⟨rfl, hb3⟩
  replace hE0 := hide ((unhide hE0).below hb3)
  replace hE2 := hide ((unhide hE2).below hb3)
  replace hb0 := hide (below3 (unhide hb0) hb3)
  clear hb3
  go_wp2_with fail
  refine (bsMay _ _ (unhide hE0) 3 (by omega)).mono ?_
  rw [be_may.1]
  rintro e w4 ⟨rfl, hb4⟩
  replace hE0 := hide ((unhide hE0).below hb4)
  replace hE2 := hide ((unhide hE2).below hb4)
  replace hb0 := hide (below3 (unhide hb0) hb4)
  clear hb4
  go_wp2_with fail
  refine (bsMay _ _ (unhide hE0) 2 (by omega)).mono ?_
  rw [be_may.2.1]
  rintro e w5 ⟨rfl, hb5⟩
  replace hE0 := hide ((unhide hE0).below hb5)
  replace hE2 := hide ((unhide hE2).below hb5)
  replace hb0 := hide (below3 (unhide hb0) hb5)
  clear hb5
  go_wp2_with fail
  obtain ⟨w6, hw6⟩ : ∃ w6, w6 = w5.alloc (.cells #[.int .i64 0, .int .i64 1, .string ⟨#[]⟩, .int .i64 1, .int .i64 0, .string ⟨#[]⟩] 31) := ⟨_, rfl⟩
  have hE1 : Eds w6 (.slice (some ⟨w5.heap.size, 0, none⟩) 2 2) be1 := by rw [hw6]; exact eds_two w5 ⟨0, 1, ⟨#[]⟩⟩ ⟨1, 0, ⟨#[]⟩⟩ _
  have hb6 : Below w5.heap.size w5 w6 := by rw [hw6]; exact below_alloc w5 _
  rw [← hw6]
  clear hw6
  replace hE0 := hide ((unhide hE0).below hb6)
  replace hE2 := hide ((unhide hE2).below hb6)
  replace hb0 := hide (below3 (unhide hb0) hb6)
  clear hb6
  refine (bsMay1 _ _ hE1).mono ?_
  rintro e w7 ⟨rfl, hb7⟩
  clear hE1
  replace hE0 := hide ((unhide hE0).below hb7)
  replace hE2 := hide ((unhide hE2).below hb7)
  replace hb0 := hide (below3 (unhide hb0) hb7)
  clear hb7
  go_wp2_with fail
  refine (pEq_any _ _ be0 be0 _ (unhide hE0) (unhide hE0) (by decide) (by decide)).mono ?_
  rw [beq_b.1]
  rintro e w8 ⟨rfl, hb8⟩
  replace hE0 := hide ((unhide hE0).below hb8)
  replace hE2 := hide ((unhide hE2).below hb8)
  replace hb0 := hide (below3 (unhide hb0) hb8)
  clear hb8
  go_wp2_with fail
  refine (pEq_any _ _ be0 be2 _ (unhide hE0) (unhide hE2) (by decide) (by decide)).mono ?_
  rw [beq_b.2]
  rintro e w9 ⟨rfl, hb9⟩
  replace hb0 := hide (below3 (unhide hb0) hb9)
  go_wp2
  go_ret
  exact ⟨rfl, unhide hb0⟩
end Go.Proofs.Ytilakbhekbamiaa

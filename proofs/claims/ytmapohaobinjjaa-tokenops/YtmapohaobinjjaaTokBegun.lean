/-
  What each law of token begins with: begun.
-/
import Derived.Test.YtmapohaobinjjaaTokRank
import Derived.Test.YtmapohaobinjjaaTokRefs
namespace Go.Proofs.Ytmapohaobinjjaa
open Go.RowKit
set_option linter.unusedSimpArgs false
set_option maxHeartbeats 4000000 in
set_option maxRecDepth 100000 in
theorem begun_any (w : World) : Calls Try.prog 6 #[] w fun e w' => e = .returned (.bool true) ∧ Below w.heap.size w w' := by
  have h0 := fun w => tOp_any ⟨#[58, 61]⟩ w
  rw [show isOp ⟨#[58, 61]⟩ = true by kernel_rfl] at h0
  replace h0 := hide h0
  have h1 := fun w => tOp_any ⟨#[38]⟩ w
  rw [show isOp ⟨#[38]⟩ = false by kernel_rfl] at h1
  replace h1 := hide h1
  have h2 := fun w => tRank_any ⟨#[42]⟩ w
  rw [show rankN ⟨#[42]⟩ = 5 by kernel_rfl] at h2
  replace h2 := hide h2
  have h3 := fun w => tRank_any ⟨#[124, 124]⟩ w
  rw [show rankN ⟨#[124, 124]⟩ = 1 by kernel_rfl] at h3
  replace h3 := hide h3
  have h4 := fun w => tUnary_any ⟨#[33]⟩ w
  rw [show isUn ⟨#[33]⟩ = true by kernel_rfl] at h4
  replace h4 := hide h4
  have h5 := fun w => tUnary_any ⟨#[43]⟩ w
  rw [show isUn ⟨#[43]⟩ = false by kernel_rfl] at h5
  replace h5 := hide h5
  have h6 := fun w => lword_any ⟨#[97]⟩ w
  simp only [Tk.val] at h6
  replace h6 := hide h6
  have h7 := fun w => tEnds_any ⟨1, ⟨#[97]⟩, 0, 0, false⟩ w
  rw [show endB ⟨1, ⟨#[97]⟩, 0, 0, false⟩ = true by kernel_rfl] at h7
  simp only [Tk.val] at h7
  replace h7 := hide h7
  have h8 := fun w => lop_any ⟨#[123]⟩ w
  simp only [Tk.val] at h8
  replace h8 := hide h8
  have h9 := fun w => tEnds_any ⟨4, ⟨#[123]⟩, 0, 0, false⟩ w
  rw [show endB ⟨4, ⟨#[123]⟩, 0, 0, false⟩ = false by kernel_rfl] at h9
  simp only [Tk.val] at h9
  replace h9 := hide h9
  have h10 := fun w => lword_any ⟨#[97]⟩ w
  simp only [Tk.val] at h10
  replace h10 := hide h10
  have h11 := fun w => tEq_any ⟨1, ⟨#[97]⟩, 0, 0, false⟩ ⟨1, ⟨#[97]⟩, 7, 0, false⟩ w
  rw [show eqB ⟨1, ⟨#[97]⟩, 0, 0, false⟩ ⟨1, ⟨#[97]⟩, 7, 0, false⟩ = true by kernel_rfl] at h11
  simp only [Tk.val] at h11
  replace h11 := hide h11
  have h12 := fun w => lword_any ⟨#[102]⟩ w
  simp only [Tk.val] at h12
  replace h12 := hide h12
  have h13 := fun w => lop_any ⟨#[40]⟩ w
  simp only [Tk.val] at h13
  replace h13 := hide h13
  have h14 := fun w => lword_any ⟨#[97]⟩ w
  simp only [Tk.val] at h14
  replace h14 := hide h14
  have h15 := fun w => tSpace_any ⟨1, ⟨#[102]⟩, 0, 0, false⟩ ⟨4, ⟨#[40]⟩, 0, 0, false⟩ ⟨1, ⟨#[97]⟩, 0, 0, false⟩ w
  rw [show spaceB ⟨1, ⟨#[102]⟩, 0, 0, false⟩ ⟨4, ⟨#[40]⟩, 0, 0, false⟩ ⟨1, ⟨#[97]⟩, 0, 0, false⟩ = false by kernel_rfl] at h15
  simp only [Tk.val] at h15
  replace h15 := hide h15
  have h16 := fun w => lword_any ⟨#[97]⟩ w
  simp only [Tk.val] at h16
  replace h16 := hide h16
  have h17 := fun w => lop_any ⟨#[45]⟩ w
  simp only [Tk.val] at h17
  replace h17 := hide h17
  have h18 := fun w => lword_any ⟨#[98]⟩ w
  simp only [Tk.val] at h18
  replace h18 := hide h18
  have h19 := fun w => tSpace_any ⟨1, ⟨#[97]⟩, 0, 0, false⟩ ⟨4, ⟨#[45]⟩, 0, 0, false⟩ ⟨1, ⟨#[98]⟩, 0, 0, false⟩ w
  rw [show spaceB ⟨1, ⟨#[97]⟩, 0, 0, false⟩ ⟨4, ⟨#[45]⟩, 0, 0, false⟩ ⟨1, ⟨#[98]⟩, 0, 0, false⟩ = true by kernel_rfl] at h19
  simp only [Tk.val] at h19
  replace h19 := hide h19
  have h20 := fun w => lop_any ⟨#[61]⟩ w
  simp only [Tk.val] at h20
  replace h20 := hide h20
  have h21 := fun w => lop_any ⟨#[45]⟩ w
  simp only [Tk.val] at h21
  replace h21 := hide h21
  have h22 := fun w => lword_any ⟨#[98]⟩ w
  simp only [Tk.val] at h22
  replace h22 := hide h22
  have h23 := fun w => tSpace_any ⟨4, ⟨#[61]⟩, 0, 0, false⟩ ⟨4, ⟨#[45]⟩, 0, 0, false⟩ ⟨1, ⟨#[98]⟩, 0, 0, false⟩ w
  rw [show spaceB ⟨4, ⟨#[61]⟩, 0, 0, false⟩ ⟨4, ⟨#[45]⟩, 0, 0, false⟩ ⟨1, ⟨#[98]⟩, 0, 0, false⟩ = false by kernel_rfl] at h23
  simp only [Tk.val] at h23
  replace h23 := hide h23
  go_enter Try.func6, Try.ntmps6
  have hw := Below.refl w.heap.size w
  go_wp2_with fail
  refine (unhide h0 _).mono ?_
  rintro e w0 ⟨rfl, rfl⟩
  go_wp2_with fail
  refine (unhide h1 _).mono ?_
  rintro e w1 ⟨rfl, rfl⟩
  go_wp2_with fail
  refine (unhide h2 _).mono ?_
  rintro e w2 ⟨rfl, rfl⟩
  go_wp2_with fail
  refine (unhide h3 _).mono ?_
  rintro e w3 ⟨rfl, rfl⟩
  go_wp2_with fail
  refine (unhide h4 _).mono ?_
  rintro e w4 ⟨rfl, rfl⟩
  go_wp2_with fail
  refine (unhide h5 _).mono ?_
  rintro e w5 ⟨rfl, rfl⟩
  go_wp2_with fail
  refine (unhide h6 _).mono ?_
  rintro e w6 ⟨rfl, hw6⟩
  replace hw := below3 hw hw6
  clear hw6
  go_wp2_with fail
  refine (unhide h7 _).mono ?_
  rintro e w7 ⟨rfl, hw7⟩
  replace hw := below3 hw hw7
  clear hw7
  go_wp2_with fail
  refine (unhide h8 _).mono ?_
  rintro e w8 ⟨rfl, hw8⟩
  replace hw := below3 hw hw8
  clear hw8
  go_wp2_with fail
  refine (unhide h9 _).mono ?_
  rintro e w9 ⟨rfl, hw9⟩
  replace hw := below3 hw hw9
  clear hw9
  go_wp2_with fail
  refine (unhide h10 _).mono ?_
  rintro e w10 ⟨rfl, hw10⟩
  replace hw := below3 hw hw10
  clear hw10
  go_wp2_with fail
  refine (unhide h11 _).mono ?_
  rintro e w11 ⟨rfl, hw11⟩
  replace hw := below3 hw hw11
  clear hw11
  go_wp2_with fail
  refine (unhide h12 _).mono ?_
  rintro e w12 ⟨rfl, hw12⟩
  replace hw := below3 hw hw12
  clear hw12
  go_wp2_with fail
  refine (unhide h13 _).mono ?_
  rintro e w13 ⟨rfl, hw13⟩
  replace hw := below3 hw hw13
  clear hw13
  go_wp2_with fail
  refine (unhide h14 _).mono ?_
  rintro e w14 ⟨rfl, hw14⟩
  replace hw := below3 hw hw14
  clear hw14
  go_wp2_with fail
  refine (unhide h15 _).mono ?_
  rintro e w15 ⟨rfl, hw15⟩
  replace hw := below3 hw hw15
  clear hw15
  go_wp2_with fail
  refine (unhide h16 _).mono ?_
  rintro e w16 ⟨rfl, hw16⟩
  replace hw := below3 hw hw16
  clear hw16
  go_wp2_with fail
  refine (unhide h17 _).mono ?_
  rintro e w17 ⟨rfl, hw17⟩
  replace hw := below3 hw hw17
  clear hw17
  go_wp2_with fail
  refine (unhide h18 _).mono ?_
  rintro e w18 ⟨rfl, hw18⟩
  replace hw := below3 hw hw18
  clear hw18
  go_wp2_with fail
  refine (unhide h19 _).mono ?_
  rintro e w19 ⟨rfl, hw19⟩
  replace hw := below3 hw hw19
  clear hw19
  go_wp2_with fail
  refine (unhide h20 _).mono ?_
  rintro e w20 ⟨rfl, hw20⟩
  replace hw := below3 hw hw20
  clear hw20
  go_wp2_with fail
  refine (unhide h21 _).mono ?_
  rintro e w21 ⟨rfl, hw21⟩
  replace hw := below3 hw hw21
  clear hw21
  go_wp2_with fail
  refine (unhide h22 _).mono ?_
  rintro e w22 ⟨rfl, hw22⟩
  replace hw := below3 hw hw22
  clear hw22
  go_wp2_with fail
  refine (unhide h23 _).mono ?_
  rintro e w23 ⟨rfl, hw23⟩
  replace hw := below3 hw hw23
  clear hw23
  go_wp2
  go_ret
  exact ⟨rfl, hw⟩
end Go.Proofs.Ytmapohaobinjjaa

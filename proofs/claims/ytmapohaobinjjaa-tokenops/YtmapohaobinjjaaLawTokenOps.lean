/-
  TokenOps' walk.
-/
import Derived.Test.YtmapohaobinjjaaTokSix
import Derived.Test.YtmapohaobinjjaaModIx
import Derived.Deep.DeepCutAuto
import Derived.Deep.RegionHeld
namespace Go.Proofs.Ytmapohaobinjjaa
open Go.RowKit
set_option linter.unusedSimpArgs false
theorem ops_at (j : Nat) (h : j < 18) : isOp (opsB.getD j ⟨#[]⟩) = true := by
  have hl : j < opsB.length := h
  have hm : opsB.getD j ⟨#[]⟩ ∈ opsB := by rw [List.getD, List.getElem?_eq_getElem hl]; exact List.getElem_mem hl
  rw [isOp, inB, List.any_eq_true]
  exact ⟨_, hm, by simp⟩
theorem ops_cell (W : World) (j : Nat) (h : j < 18) : (W.alloc (.cells (opsB.map Value.string).toArray 9)).cell? ⟨W.heap.size, j, none⟩ = some (.string (opsB.getD j ⟨#[]⟩)) := by
  have hl : j < opsB.length := h
  obtain ⟨_, _, _, he, _, _, _, h4⟩ := lst_alloc W (opsB.map Value.string) 9 (0, 0) (by decide)
  simp only [Value.slice.injEq, Option.some.injEq, Addr.mk.injEq, true_and, and_true] at he
  obtain ⟨⟨rfl, rfl⟩, rfl⟩ := he
  have h := h4 j (by rw [List.length_map]; exact hl)
  rw [Nat.zero_add] at h
  rw [h]
  simp [List.getD, hl]
theorem wrap_eq (x : Int) : IntKind.i64.wrap x = wrap64 x := by
  simp [IntKind.wrap, wrap64, IntKind.signed, IntKind.bits]
  split <;> omega
theorem keepT {g1 g2 g3 B : Nat} {a b p : Tk} {w0 w w' : World} (hb : Below w.heap.size w w') (h : Box w g1 a ∧ Box w g2 b ∧ Box w g3 p ∧ B ≤ g3 ∧ Below B w0 w) : Box w' g1 a ∧ Box w' g2 b ∧ Box w' g3 p ∧ B ≤ g3 ∧ Below B w0 w' :=
  ⟨h.1.below hb h.1.lt, h.2.1.below hb h.2.1.lt, h.2.2.1.below hb h.2.2.1.lt, h.2.2.2.1, h.2.2.2.2.trans (hb.mono (Nat.le_trans h.2.2.2.1 (Nat.le_of_lt h.2.2.1.lt)))⟩
set_option maxHeartbeats 8000000 in
set_option maxRecDepth 100000 in
theorem tokenOps_shell (a0 : Int) (a1 : Int) (a2 : Int) (a3 : Bool) (w0 : (Lit.int .i64 a0).wf = true) (w1 : (Lit.int .i64 a1).wf = true) (w2 : (Lit.int .i64 a2).wf = true) (w : World) :
    Calls Try.prog 4 #[.int .i64 a0, .int .i64 a1, .int .i64 a2, .bool a3] w fun e w' => e = .returned (.bool true) ∧ Below w.heap.size w w' := by
  obtain ⟨b00, b01⟩ := bounds_i64 w0
  obtain ⟨b10, b11⟩ := bounds_i64 w1
  obtain ⟨b20, b21⟩ := bounds_i64 w2
  clear w0 w1 w2
  obtain ⟨j0, hj0, hl0⟩ := mod_ix a0 18 (by omega) (by omega)
  obtain ⟨j1, hj1, hl1⟩ := mod_ix a1 18 (by omega) (by omega)
  obtain ⟨j2, hj2, hl2⟩ := mod_ix a2 18 (by omega) (by omega)
  have hA1 := ops_at j0 (by omega)
  have c0 := fun W => ops_cell W j0 (by omega)
  have c1 := fun W => ops_cell W j1 (by omega)
  have c2 := fun W => ops_cell W j2 (by omega)
  generalize opsB.getD j0 ⟨#[]⟩ = sa at *
  generalize opsB.getD j1 ⟨#[]⟩ = sb at *
  generalize opsB.getD j2 ⟨#[]⟩ = sp at *
  have HA := fun w => lop_any sa w
  have HB := fun w => lop_any sb w
  have HC := fun w => lop_any sp w
  have HX := fun w => lword_any ⟨#[120]⟩ w
  simp only [Tk.val] at HA HB HC HX
  replace HA := hide HA
  replace HB := hide HB
  replace HC := hide HC
  replace HX := hide HX
  replace c0 := hide c0
  replace c1 := hide c1
  replace c2 := hide c2
  replace hA1 := hide hA1
  go_enter Try.func4, Try.ntmps4
  go_wp2_with fail
  refine (begun_any _).mono ?_
  rintro e W1 ⟨rfl, hw⟩
  go_upto_region 5 with fail
  have e0 := unhide c0 W1
  have e1 := unhide c1 W1
  have e2 := unhide c2 W1
  clear c0 c1 c2
  replace hw := below3 hw (below_alloc W1 (.cells (opsB.map Value.string).toArray 9))
  have hgl : W1.heap.size < (W1.alloc (.cells (opsB.map Value.string).toArray 9)).heap.size := by simp
  simp only [opsB, List.map_cons, List.map_nil] at e0 e1 e2 hw hgl
  generalize World.alloc _ _ = W at *
  generalize W1.heap.size = g at *
  go_cut [11, 12, 13] from 14 (fun s11 s12 s13 wx => ∃ g1 g2 g3, s11 = .pointer (some ⟨g1, 0, none⟩) ∧ s12 = .pointer (some ⟨g2, 0, none⟩) ∧ s13 = .pointer (some ⟨g3, 0, none⟩) ∧ Blk wx g1 ⟨4, sa, 0, 0, false⟩ ∧ Blk wx g2 ⟨4, sb, 0, 0, false⟩ ∧ Blk wx g3 ⟨4, sp, 0, 0, false⟩ ∧ g1 ≠ g3 ∧ g2 ≠ g3 ∧ w.heap.size ≤ g3 ∧ Below w.heap.size w wx)
  case first =>
    have hS : Below W.heap.size W W.drew := (Below.refl _ _).drew
    have hd := hS
    refine wp_region_held_drew (S := fun w' => Below W.heap.size W w') (by kernel_rfl) hS (fun _ => ?_)
    generalize World.drew W = W2 at hS hd ⊢
    refine wpAnyH_take (i := 0) (v := .slice (some ⟨g, 0, none⟩) 18 18) rfl (by kernel_rfl) (by kernel_rfl) (by kernel_rfl) (fun _ _ _ h => h) (Or.inl ⟨by kernel_rfl, ?_⟩) hS ?_
    · intro w hSw; go_simp
    try simp only [List.getElem_toArray, List.getElem_cons_succ, List.getElem_cons_zero, Act.put, List.setIfInBounds_toArray, List.set_cons_zero, List.set_cons_succ]
    refine wpAnyH_take (i := 1) (v := .int .i64 a0) rfl (by kernel_rfl) (by kernel_rfl) (by kernel_rfl) (fun _ _ _ h => h) (Or.inl ⟨by kernel_rfl, ?_⟩) hS ?_
    · intro w hSw; go_simp
    try simp only [List.getElem_toArray, List.getElem_cons_succ, List.getElem_cons_zero, Act.put, List.setIfInBounds_toArray, List.set_cons_zero, List.set_cons_succ]
    refine wpAnyH_take (i := 2) (v := .int .i64 (a0.tmod 18)) rfl (by kernel_rfl) (by kernel_rfl) (by kernel_rfl) (fun _ _ _ h => h) (Or.inl ⟨by kernel_rfl, ?_⟩) hS ?_
    · intro w hSw; go_simp
    try simp only [List.getElem_toArray, List.getElem_cons_succ, List.getElem_cons_zero, Act.put, List.setIfInBounds_toArray, List.set_cons_zero, List.set_cons_succ]
    refine wpAnyH_take (i := 3) (v := .int .i64 (wrap64 (a0.tmod 18 + 18))) rfl (by kernel_rfl) (by kernel_rfl) (by kernel_rfl) (fun _ _ _ h => h) (Or.inl ⟨by kernel_rfl, ?_⟩) hS ?_
    · intro w hSw; go_simp; exact wrap_eq _
    try simp only [List.getElem_toArray, List.getElem_cons_succ, List.getElem_cons_zero, Act.put, List.setIfInBounds_toArray, List.set_cons_zero, List.set_cons_succ]
    refine wpAnyH_take (i := 4) (v := .int .i64 j0) rfl (by kernel_rfl) (by kernel_rfl) (by kernel_rfl) (fun _ _ _ h => h) (Or.inl ⟨by kernel_rfl, ?_⟩) hS ?_
    · intro w hSw; go_simp
    try simp only [List.getElem_toArray, List.getElem_cons_succ, List.getElem_cons_zero, Act.put, List.setIfInBounds_toArray, List.set_cons_zero, List.set_cons_succ]
    refine wpAnyH_take (i := 5) (v := .pointer (some ⟨g, j0, none⟩)) rfl (by kernel_rfl) (by kernel_rfl) (by kernel_rfl) (fun _ _ _ h => h) (Or.inl ⟨by kernel_rfl, ?_⟩) hS ?_
    · intro w hSw; go_simp
    try simp only [List.getElem_toArray, List.getElem_cons_succ, List.getElem_cons_zero, Act.put, List.setIfInBounds_toArray, List.set_cons_zero, List.set_cons_succ]
    refine wpAnyH_take (i := 6) (v := .string sa) rfl (by kernel_rfl) (by kernel_rfl) (by kernel_rfl) (fun _ _ _ h => h) (Or.inl ⟨by kernel_rfl, ?_⟩) hS ?_
    · intro w hSw; have e := (hSw.cell (p := ⟨g, j0, none⟩) hgl).trans e0; go_simp
    try simp only [List.getElem_toArray, List.getElem_cons_succ, List.getElem_cons_zero, Act.put, List.setIfInBounds_toArray, List.set_cons_zero, List.set_cons_succ]
    refine wpAnyH_take (i := 8) (v := .slice (some ⟨g, 0, none⟩) 18 18) rfl (by kernel_rfl) (by kernel_rfl) (by kernel_rfl) (fun _ _ _ h => h) (Or.inl ⟨by kernel_rfl, ?_⟩) hS ?_
    · intro w hSw; go_simp
    try simp only [List.getElem_toArray, List.getElem_cons_succ, List.getElem_cons_zero, Act.put, List.setIfInBounds_toArray, List.set_cons_zero, List.set_cons_succ]
    refine wpAnyH_take (i := 9) (v := .int .i64 a1) rfl (by kernel_rfl) (by kernel_rfl) (by kernel_rfl) (fun _ _ _ h => h) (Or.inl ⟨by kernel_rfl, ?_⟩) hS ?_
    · intro w hSw; go_simp
    try simp only [List.getElem_toArray, List.getElem_cons_succ, List.getElem_cons_zero, Act.put, List.setIfInBounds_toArray, List.set_cons_zero, List.set_cons_succ]
    refine wpAnyH_take (i := 10) (v := .int .i64 (a1.tmod 18)) rfl (by kernel_rfl) (by kernel_rfl) (by kernel_rfl) (fun _ _ _ h => h) (Or.inl ⟨by kernel_rfl, ?_⟩) hS ?_
    · intro w hSw; go_simp
    try simp only [List.getElem_toArray, List.getElem_cons_succ, List.getElem_cons_zero, Act.put, List.setIfInBounds_toArray, List.set_cons_zero, List.set_cons_succ]
    refine wpAnyH_take (i := 11) (v := .int .i64 (wrap64 (a1.tmod 18 + 18))) rfl (by kernel_rfl) (by kernel_rfl) (by kernel_rfl) (fun _ _ _ h => h) (Or.inl ⟨by kernel_rfl, ?_⟩) hS ?_
    · intro w hSw; go_simp; exact wrap_eq _
    try simp only [List.getElem_toArray, List.getElem_cons_succ, List.getElem_cons_zero, Act.put, List.setIfInBounds_toArray, List.set_cons_zero, List.set_cons_succ]
    refine wpAnyH_take (i := 12) (v := .int .i64 j1) rfl (by kernel_rfl) (by kernel_rfl) (by kernel_rfl) (fun _ _ _ h => h) (Or.inl ⟨by kernel_rfl, ?_⟩) hS ?_
    · intro w hSw; go_simp
    try simp only [List.getElem_toArray, List.getElem_cons_succ, List.getElem_cons_zero, Act.put, List.setIfInBounds_toArray, List.set_cons_zero, List.set_cons_succ]
    refine wpAnyH_take (i := 13) (v := .pointer (some ⟨g, j1, none⟩)) rfl (by kernel_rfl) (by kernel_rfl) (by kernel_rfl) (fun _ _ _ h => h) (Or.inl ⟨by kernel_rfl, ?_⟩) hS ?_
    · intro w hSw; go_simp
    try simp only [List.getElem_toArray, List.getElem_cons_succ, List.getElem_cons_zero, Act.put, List.setIfInBounds_toArray, List.set_cons_zero, List.set_cons_succ]
    refine wpAnyH_take (i := 14) (v := .string sb) rfl (by kernel_rfl) (by kernel_rfl) (by kernel_rfl) (fun _ _ _ h => h) (Or.inl ⟨by kernel_rfl, ?_⟩) hS ?_
    · intro w hSw; have e := (hSw.cell (p := ⟨g, j1, none⟩) hgl).trans e1; go_simp
    try simp only [List.getElem_toArray, List.getElem_cons_succ, List.getElem_cons_zero, Act.put, List.setIfInBounds_toArray, List.set_cons_zero, List.set_cons_succ]
    refine wpAnyH_take (i := 16) (v := .slice (some ⟨g, 0, none⟩) 18 18) rfl (by kernel_rfl) (by kernel_rfl) (by kernel_rfl) (fun _ _ _ h => h) (Or.inl ⟨by kernel_rfl, ?_⟩) hS ?_
    · intro w hSw; go_simp
    try simp only [List.getElem_toArray, List.getElem_cons_succ, List.getElem_cons_zero, Act.put, List.setIfInBounds_toArray, List.set_cons_zero, List.set_cons_succ]
    refine wpAnyH_take (i := 17) (v := .int .i64 a2) rfl (by kernel_rfl) (by kernel_rfl) (by kernel_rfl) (fun _ _ _ h => h) (Or.inl ⟨by kernel_rfl, ?_⟩) hS ?_
    · intro w hSw; go_simp
    try simp only [List.getElem_toArray, List.getElem_cons_succ, List.getElem_cons_zero, Act.put, List.setIfInBounds_toArray, List.set_cons_zero, List.set_cons_succ]
    refine wpAnyH_take (i := 18) (v := .int .i64 (a2.tmod 18)) rfl (by kernel_rfl) (by kernel_rfl) (by kernel_rfl) (fun _ _ _ h => h) (Or.inl ⟨by kernel_rfl, ?_⟩) hS ?_
    · intro w hSw; go_simp
    try simp only [List.getElem_toArray, List.getElem_cons_succ, List.getElem_cons_zero, Act.put, List.setIfInBounds_toArray, List.set_cons_zero, List.set_cons_succ]
    refine wpAnyH_take (i := 19) (v := .int .i64 (wrap64 (a2.tmod 18 + 18))) rfl (by kernel_rfl) (by kernel_rfl) (by kernel_rfl) (fun _ _ _ h => h) (Or.inl ⟨by kernel_rfl, ?_⟩) hS ?_
    · intro w hSw; go_simp; exact wrap_eq _
    try simp only [List.getElem_toArray, List.getElem_cons_succ, List.getElem_cons_zero, Act.put, List.setIfInBounds_toArray, List.set_cons_zero, List.set_cons_succ]
    refine wpAnyH_take (i := 20) (v := .int .i64 j2) rfl (by kernel_rfl) (by kernel_rfl) (by kernel_rfl) (fun _ _ _ h => h) (Or.inl ⟨by kernel_rfl, ?_⟩) hS ?_
    · intro w hSw; go_simp
    try simp only [List.getElem_toArray, List.getElem_cons_succ, List.getElem_cons_zero, Act.put, List.setIfInBounds_toArray, List.set_cons_zero, List.set_cons_succ]
    refine wpAnyH_take (i := 21) (v := .pointer (some ⟨g, j2, none⟩)) rfl (by kernel_rfl) (by kernel_rfl) (by kernel_rfl) (fun _ _ _ h => h) (Or.inl ⟨by kernel_rfl, ?_⟩) hS ?_
    · intro w hSw; go_simp
    try simp only [List.getElem_toArray, List.getElem_cons_succ, List.getElem_cons_zero, Act.put, List.setIfInBounds_toArray, List.set_cons_zero, List.set_cons_succ]
    refine wpAnyH_take (i := 22) (v := .string sp) rfl (by kernel_rfl) (by kernel_rfl) (by kernel_rfl) (fun _ _ _ h => h) (Or.inl ⟨by kernel_rfl, ?_⟩) hS ?_
    · intro w hSw; have e := (hSw.cell (p := ⟨g, j2, none⟩) hgl).trans e2; go_simp
    try simp only [List.getElem_toArray, List.getElem_cons_succ, List.getElem_cons_zero, Act.put, List.setIfInBounds_toArray, List.set_cons_zero, List.set_cons_succ]
    refine wpAnyH_act (fun T hT => ?_)
    refine wpAnyH_inv (R := fun l a w' => ∃ u11 u12 u13 u25 u33 u41 g1 g2 g3, a = ⟨six T u11 u12 u13 u25 u33 u41, []⟩ ∧ l.size = 30 ∧ (∀ k, k ∈ [0, 1, 2, 3, 4, 5, 6, 8, 9, 10, 11, 12, 13, 14, 16, 17, 18, 19, 20, 21, 22] → l.getD k false = true) ∧ Six W ⟨4, sa, 0, 0, false⟩ ⟨4, sb, 0, 0, false⟩ ⟨4, sp, 0, 0, false⟩ l w' u11 u12 u13 u25 u33 u41 g1 g2 g3) (fun _ _ _ h => by
      obtain ⟨_, _, _, _, _, _, _, _, _, _, _, _, h⟩ := h
      exact h.below) ?_ _ _ _ _ (closed_of (by kernel_rfl)) (by decide) ?_
    case refine_2 =>
      refine ⟨undef, undef, undef, undef, undef, undef, 0, 0, 0, by rw [hT]; rfl, rfl, by decide, ?_⟩
      exact ⟨fun h => (by cases h), fun h => (by cases h), fun h => (by cases h), fun h => (by cases h), fun h => (by cases h), fun h => (by cases h), fun h => (by cases h), fun h => (by cases h), fun h => (by cases h), hd⟩
    clear hd hS
    rintro l a w' hcl ⟨u11, u12, u13, u25, u33, u41, g1, g2, g3, rfl, hsz, htk, h6⟩
    refine ⟨fun hr => ?_, fun i hi => ?_⟩
    · have hall := all_listed hsz (by kernel_rfl) hr
      have k7 := hall 7 (by decide)
      have k24 := hall 24 (by decide)
      have k25 := hall 25 (by decide)
      have k26 := hall 26 (by decide)
      have k27 := hall 27 (by decide)
      have k28 := hall 28 (by decide)
      have k29 := hall 29 (by decide)
      obtain ⟨q1, m1, n1⟩ := h6.a1 k24
      obtain ⟨q2, m2, n2⟩ := h6.a2 k25
      obtain ⟨q3, m3, n3⟩ := h6.a3 k26
      rw [k27] at n1
      rw [k28] at n2
      rw [k29] at n3
      have hx := h6.d13 k24 k26
      have hy := h6.d23 k25 k26
      have hz := hw.trans (h6.below.mono hw.size)
      have hg3 : w.heap.size ≤ g3 := Nat.le_trans hw.size m3
      subst q1 q2 q3
      subst hT
      clear hall k7 k24 k25 k26 k27 k28 k29 h6 hcl htk hr
      simp only [six, List.setIfInBounds_toArray, List.set_cons_zero, List.set_cons_succ]
      dsimp only [cond, ptr] at *
      go_wp2
      go_meet
      case rel => exact ⟨g1, g2, g3, rfl, rfl, rfl, n1, n2, n3, hx, hy, hg3, hz⟩
    · have hi1 := ready_lt hi
      have hi2 : i ∉ [0, 1, 2, 3, 4, 5, 6, 8, 9, 10, 11, 12, 13, 14, 16, 17, 18, 19, 20, 21, 22] := fun h => by
        have h1 := htk i h
        rw [ready_not hi] at h1
        cases h1
      have hi3 : i ∈ [7, 15, 23, 24, 25, 26, 27, 28, 29] := (show ∀ i, i < 30 → i ∉ [0, 1, 2, 3, 4, 5, 6, 8, 9, 10, 11, 12, 13, 14, 16, 17, 18, 19, 20, 21, 22] → i ∈ [7, 15, 23, 24, 25, 26, 27, 28, 29] by decide) i hi1 hi2
      have htk' : ∀ j k, k ∈ [0, 1, 2, 3, 4, 5, 6, 8, 9, 10, 11, 12, 13, 14, 16, 17, 18, 19, 20, 21, 22] → (l.setIfInBounds j true).getD k false = true := fun j k hk => getD_set_true (htk k hk)
      have hsz' : ∀ j, (l.setIfInBounds j true).size = 30 := fun j => by rw [Array.size_setIfInBounds]; exact hsz
      clear hi1 hi2 htk
      simp only [List.mem_cons, List.not_mem_nil, or_false] at hi3
      replace htk' := hide htk'
      replace hsz' := hide hsz'
      replace hsz := hide hsz
      rcases hi3 with rfl | rfl | rfl | rfl | rfl | rfl | rfl | rfl | rfl
      · subst hT
        simp only [six, List.setIfInBounds_toArray, List.set_cons_zero, List.set_cons_succ]
        replace hi := hide hi
        replace hcl := hide hcl
        refine wpOp_step rfl (fun K hK => ?_)
        replace hK := hide hK
        go_simp
        refine (unhide HA _).mono ?_
        rintro e w2 ⟨rfl, hb⟩
        exact unhide hK _ _ ⟨u11, u12, u13, _, u33, u41, g1, g2, g3, by rfl, unhide hsz' _, unhide htk' _, h6.call7 hb⟩
      · subst hT
        simp only [six, List.setIfInBounds_toArray, List.set_cons_zero, List.set_cons_succ]
        replace hi := hide hi
        replace hcl := hide hcl
        refine wpOp_step rfl (fun K hK => ?_)
        replace hK := hide hK
        go_simp
        refine (unhide HB _).mono ?_
        rintro e w2 ⟨rfl, hb⟩
        exact unhide hK _ _ ⟨u11, u12, u13, u25, _, u41, g1, g2, g3, by rfl, unhide hsz' _, unhide htk' _, h6.call15 hb⟩
      · subst hT
        simp only [six, List.setIfInBounds_toArray, List.set_cons_zero, List.set_cons_succ]
        replace hi := hide hi
        replace hcl := hide hcl
        refine wpOp_step rfl (fun K hK => ?_)
        replace hK := hide hK
        go_simp
        refine (unhide HC _).mono ?_
        rintro e w2 ⟨rfl, hb⟩
        exact unhide hK _ _ ⟨u11, u12, u13, u25, u33, _, g1, g2, g3, by rfl, unhide hsz' _, unhide htk' _, h6.call23 hb⟩
      · have hs := ready_behind (k := 27) hcl hi (by kernel_rfl)
        subst hT
        simp only [six, List.setIfInBounds_toArray, List.set_cons_zero, List.set_cons_succ]
        replace hi := hide hi
        replace hcl := hide hcl
        replace hs := hide hs
        refine wpOp_step rfl (fun K hK => ?_)
        replace hK := hide hK
        go_simp
        exact unhide hK _ _ ⟨_, u12, u13, u25, u33, u41, _, g2, g3, by rfl, unhide hsz' _, unhide htk' _, h6.alloc24 (unhide hs)⟩
      · have hs := ready_behind (k := 28) hcl hi (by kernel_rfl)
        subst hT
        simp only [six, List.setIfInBounds_toArray, List.set_cons_zero, List.set_cons_succ]
        replace hi := hide hi
        replace hcl := hide hcl
        replace hs := hide hs
        refine wpOp_step rfl (fun K hK => ?_)
        replace hK := hide hK
        go_simp
        exact unhide hK _ _ ⟨u11, _, u13, u25, u33, u41, g1, _, g3, by rfl, unhide hsz' _, unhide htk' _, h6.alloc25 (unhide hs)⟩
      · have hs := ready_behind (k := 29) hcl hi (by kernel_rfl)
        subst hT
        simp only [six, List.setIfInBounds_toArray, List.set_cons_zero, List.set_cons_succ]
        replace hi := hide hi
        replace hcl := hide hcl
        replace hs := hide hs
        refine wpOp_step rfl (fun K hK => ?_)
        replace hK := hide hK
        go_simp
        exact unhide hK _ _ ⟨u11, u12, _, u25, u33, u41, g1, g2, _, by rfl, unhide hsz' _, unhide htk' _, h6.alloc26 (unhide hs)⟩
      · have k24 := ready_waits (i := 24) hi (by kernel_rfl)
        have k25 := ready_waits (i := 25) hi (by kernel_rfl)
        have k26 := ready_waits (i := 26) hi (by kernel_rfl)
        have kc := ready_waits (i := 7) hi (by kernel_rfl)
        have ks := ready_not hi
        have h7 := h6.store27 (by rw [unhide hsz]; decide) k24 k25 k26
        obtain ⟨q1, _, n1⟩ := h6.a1 k24
        have q2 := h6.c1 kc
        rw [ks] at n1
        obtain ⟨x0, x1, x2, x3, x4⟩ := Blk.box (t := zeroT) n1
        have hf := Blk.frozen (t := zeroT) n1
        subst q1 q2
        subst hT
        clear k24 k25 k26 kc ks n1
        replace h6 := hide h6
        replace h7 := hide h7
        simp only [six, List.setIfInBounds_toArray, List.set_cons_zero, List.set_cons_succ]
        replace hi := hide hi
        replace hcl := hide hcl
        dsimp only [ptr, Tk.val] at *
        refine wpOp_step rfl (fun K hK => ?_)
        replace hK := hide hK
        go_simp
        exact unhide hK _ _ ⟨_, u12, u13, _, u33, u41, g1, g2, g3, by rfl, unhide hsz' _, unhide htk' _, unhide h7⟩
      · have k24 := ready_waits (i := 24) hi (by kernel_rfl)
        have k25 := ready_waits (i := 25) hi (by kernel_rfl)
        have k26 := ready_waits (i := 26) hi (by kernel_rfl)
        have kc := ready_waits (i := 15) hi (by kernel_rfl)
        have ks := ready_not hi
        have h7 := h6.store28 (by rw [unhide hsz]; decide) k24 k25 k26
        obtain ⟨q1, _, n1⟩ := h6.a2 k25
        have q2 := h6.c2 kc
        rw [ks] at n1
        obtain ⟨x0, x1, x2, x3, x4⟩ := Blk.box (t := zeroT) n1
        have hf := Blk.frozen (t := zeroT) n1
        subst q1 q2
        subst hT
        clear k24 k25 k26 kc ks n1
        replace h6 := hide h6
        replace h7 := hide h7
        simp only [six, List.setIfInBounds_toArray, List.set_cons_zero, List.set_cons_succ]
        replace hi := hide hi
        replace hcl := hide hcl
        dsimp only [ptr, Tk.val] at *
        refine wpOp_step rfl (fun K hK => ?_)
        replace hK := hide hK
        go_simp
        exact unhide hK _ _ ⟨u11, _, u13, u25, _, u41, g1, g2, g3, by rfl, unhide hsz' _, unhide htk' _, unhide h7⟩
      · have k24 := ready_waits (i := 24) hi (by kernel_rfl)
        have k25 := ready_waits (i := 25) hi (by kernel_rfl)
        have k26 := ready_waits (i := 26) hi (by kernel_rfl)
        have kc := ready_waits (i := 23) hi (by kernel_rfl)
        have ks := ready_not hi
        have h7 := h6.store29 (by rw [unhide hsz]; decide) k24 k25 k26
        obtain ⟨q1, _, n1⟩ := h6.a3 k26
        have q2 := h6.c3 kc
        rw [ks] at n1
        obtain ⟨x0, x1, x2, x3, x4⟩ := Blk.box (t := zeroT) n1
        have hf := Blk.frozen (t := zeroT) n1
        subst q1 q2
        subst hT
        clear k24 k25 k26 kc ks n1
        replace h6 := hide h6
        replace h7 := hide h7
        simp only [six, List.setIfInBounds_toArray, List.set_cons_zero, List.set_cons_succ]
        replace hi := hide hi
        replace hcl := hide hcl
        dsimp only [ptr, Tk.val] at *
        refine wpOp_step rfl (fun K hK => ?_)
        replace hK := hide hK
        go_simp
        exact unhide hK _ _ ⟨u11, u12, _, u25, u33, _, g1, g2, g3, by rfl, unhide hsz' _, unhide htk' _, unhide h7⟩
  case rest =>
    clear e0 e1 e2 hgl hw HA HB HC
    obtain ⟨g1, g2, g3, rfl, rfl, rfl, n1, n2, n3, hx, hy, hg3, hw⟩ := hcut
    obtain ⟨a, ha⟩ : ∃ a : Tk, a = ⟨4, sa, 0, 0, false⟩ := ⟨_, rfl⟩
    have hop : isOp a.s = true := by rw [ha]; exact unhide hA1
    rw [← ha] at n1
    clear ha hA1
    generalize (⟨4, sb, 0, 0, false⟩ : Tk) = b at n2
    generalize (⟨4, sp, 0, 0, false⟩ : Tk) = p0 at n3
    generalize hgw : w.heap.size = B at *
    replace hgw := hide hgw
    replace hop := hide hop
    go_upto_if 42 with fail
    go_cut [] from 14 (fun wx => ∃ p : Tk, Blk wx g1 a ∧ Blk wx g2 b ∧ Blk wx g3 p ∧ Below B w wx)
    case first =>
      cases a3 with
      | true =>
        go_wp2_with fail
        refine (unhide HX _).mono ?_
        rintro e W3 ⟨rfl, hb⟩
        replace hw := hw.trans (hb.mono (Nat.le_trans hg3 (Nat.le_of_lt n3.lt)))
        replace n1 := n1.below hb n1.lt
        replace n2 := n2.below hb n2.lt
        replace n3 := n3.below hb n3.lt
        obtain ⟨x0, x1, x2, x3, x4⟩ := n3.box
        have hf := n3.frozen
        have m1 := n1.set_other (b := g3) ⟨1, ⟨#[120]⟩, 0, 0, false⟩ hx
        have m2 := n2.set_other (b := g3) ⟨1, ⟨#[120]⟩, 0, 0, false⟩ hy
        have m3 := n3.set ⟨1, ⟨#[120]⟩, 0, 0, false⟩
        have hm := setTk_below hw hg3 ⟨1, ⟨#[120]⟩, 0, 0, false⟩
        clear n1 n2 n3 hb hw
        replace m1 := hide m1
        replace m2 := hide m2
        replace m3 := hide m3
        replace hm := hide hm
        go_wp2
        go_meet
        case rel => exact ⟨_, unhide m1, unhide m2, unhide m3, unhide hm⟩
      | false =>
        go_wp2
        go_meet
        case rel => exact ⟨_, n1, n2, n3, hw⟩
    case rest =>
      clear n1 n2 n3 hw HX hx hy
      obtain ⟨p, n1, n2, n3, hw⟩ := hcut
      have H3 := fun w => tSpace_any p a b w
      have H7 := fun w => rSpace_any p a b w
      have HY := fun w => lword_any ⟨#[121]⟩ w
      have H13 := fun w => tSpace_any p a ⟨1, ⟨#[121]⟩, 0, 0, false⟩ w
      have H17 := fun w => rSpace_any p a ⟨1, ⟨#[121]⟩, 0, 0, false⟩ w
      have H24 := fun w => tSpace_any p ⟨1, ⟨#[121]⟩, 0, 0, false⟩ b w
      have H28 := fun w => rSpace_any p ⟨1, ⟨#[121]⟩, 0, 0, false⟩ b w
      have H34 := fun w => tOp_any a.s w
      have H39 := fun w => tRank_any a.s w
      have H42 := fun w => rRank_any a.s w
      rw [unhide hop] at H34
      generalize spaceB p a b = z1 at *
      generalize spaceB p a ⟨1, ⟨#[121]⟩, 0, 0, false⟩ = z2 at *
      generalize spaceB p ⟨1, ⟨#[121]⟩, 0, 0, false⟩ b = z3 at *
      generalize rankN a.s = r at *
      have hz1 : (z1 == z1) = true := by cases z1 <;> rfl
      have hz2 : (z2 == z2) = true := by cases z2 <;> rfl
      have hz3 : (z3 == z3) = true := by cases z3 <;> rfl
      simp only [Tk.val] at H3 H7 HY H13 H17 H24 H28
      replace H3 := hide H3
      replace H7 := hide H7
      replace HY := hide HY
      replace H13 := hide H13
      replace H17 := hide H17
      replace H24 := hide H24
      replace H28 := hide H28
      replace H34 := hide H34
      replace H39 := hide H39
      replace H42 := hide H42
      clear hop
      go_upto_region 8 with fail
      have hdr : Below wc.heap.size wc wc.drew := (Below.refl _ _).drew
      have hS : Box wc.drew g1 a ∧ Box wc.drew g2 b ∧ Box wc.drew g3 p ∧ B ≤ g3 ∧ Below B w wc.drew := keepT hdr ⟨n1.box, n2.box, n3.box, hg3, hw⟩
      clear hdr n1 n2 n3 hw
      refine wp_region_held_drew (S := fun w' => Box w' g1 a ∧ Box w' g2 b ∧ Box w' g3 p ∧ B ≤ g3 ∧ Below B w w') (by kernel_rfl) hS (fun _ => ?_)
      generalize World.drew wc = W9 at hS ⊢
      refine wpAnyH_take (i := 0) (v := .agg #[.int .i64 p.k, .string p.s, .int .i64 p.p, .int .i64 p.l, .bool p.q]) rfl (by kernel_rfl) (by kernel_rfl) (by kernel_rfl) (fun _ _ _ h => h) (Or.inl ⟨by kernel_rfl, ?_⟩) hS ?_
      · intro w hSw; obtain ⟨⟨x0, x1, x2, x3, x4⟩, ⟨y0, y1, y2, y3, y4⟩, ⟨z0, z1, z2, z3, z4⟩, _, _⟩ := hSw; go_simp
      try simp only [List.getElem_toArray, List.getElem_cons_succ, List.getElem_cons_zero, Act.put, List.setIfInBounds_toArray, List.set_cons_zero, List.set_cons_succ]
      refine wpAnyH_take (i := 1) (v := .agg #[.int .i64 a.k, .string a.s, .int .i64 a.p, .int .i64 a.l, .bool a.q]) rfl (by kernel_rfl) (by kernel_rfl) (by kernel_rfl) (fun _ _ _ h => h) (Or.inl ⟨by kernel_rfl, ?_⟩) hS ?_
      · intro w hSw; obtain ⟨⟨x0, x1, x2, x3, x4⟩, ⟨y0, y1, y2, y3, y4⟩, ⟨z0, z1, z2, z3, z4⟩, _, _⟩ := hSw; go_simp
      try simp only [List.getElem_toArray, List.getElem_cons_succ, List.getElem_cons_zero, Act.put, List.setIfInBounds_toArray, List.set_cons_zero, List.set_cons_succ]
      refine wpAnyH_take (i := 2) (v := .agg #[.int .i64 b.k, .string b.s, .int .i64 b.p, .int .i64 b.l, .bool b.q]) rfl (by kernel_rfl) (by kernel_rfl) (by kernel_rfl) (fun _ _ _ h => h) (Or.inl ⟨by kernel_rfl, ?_⟩) hS ?_
      · intro w hSw; obtain ⟨⟨x0, x1, x2, x3, x4⟩, ⟨y0, y1, y2, y3, y4⟩, ⟨z0, z1, z2, z3, z4⟩, _, _⟩ := hSw; go_simp
      try simp only [List.getElem_toArray, List.getElem_cons_succ, List.getElem_cons_zero, Act.put, List.setIfInBounds_toArray, List.set_cons_zero, List.set_cons_succ]
      refine wpAnyH_take (i := 4) (v := .agg #[.int .i64 p.k, .string p.s, .int .i64 p.p, .int .i64 p.l, .bool p.q]) rfl (by kernel_rfl) (by kernel_rfl) (by kernel_rfl) (fun _ _ _ h => h) (Or.inl ⟨by kernel_rfl, ?_⟩) hS ?_
      · intro w hSw; obtain ⟨⟨x0, x1, x2, x3, x4⟩, ⟨y0, y1, y2, y3, y4⟩, ⟨z0, z1, z2, z3, z4⟩, _, _⟩ := hSw; go_simp
      try simp only [List.getElem_toArray, List.getElem_cons_succ, List.getElem_cons_zero, Act.put, List.setIfInBounds_toArray, List.set_cons_zero, List.set_cons_succ]
      refine wpAnyH_take (i := 5) (v := .agg #[.int .i64 a.k, .string a.s, .int .i64 a.p, .int .i64 a.l, .bool a.q]) rfl (by kernel_rfl) (by kernel_rfl) (by kernel_rfl) (fun _ _ _ h => h) (Or.inl ⟨by kernel_rfl, ?_⟩) hS ?_
      · intro w hSw; obtain ⟨⟨x0, x1, x2, x3, x4⟩, ⟨y0, y1, y2, y3, y4⟩, ⟨z0, z1, z2, z3, z4⟩, _, _⟩ := hSw; go_simp
      try simp only [List.getElem_toArray, List.getElem_cons_succ, List.getElem_cons_zero, Act.put, List.setIfInBounds_toArray, List.set_cons_zero, List.set_cons_succ]
      refine wpAnyH_take (i := 6) (v := .agg #[.int .i64 b.k, .string b.s, .int .i64 b.p, .int .i64 b.l, .bool b.q]) rfl (by kernel_rfl) (by kernel_rfl) (by kernel_rfl) (fun _ _ _ h => h) (Or.inl ⟨by kernel_rfl, ?_⟩) hS ?_
      · intro w hSw; obtain ⟨⟨x0, x1, x2, x3, x4⟩, ⟨y0, y1, y2, y3, y4⟩, ⟨z0, z1, z2, z3, z4⟩, _, _⟩ := hSw; go_simp
      try simp only [List.getElem_toArray, List.getElem_cons_succ, List.getElem_cons_zero, Act.put, List.setIfInBounds_toArray, List.set_cons_zero, List.set_cons_succ]
      refine wpAnyH_ready (rs := [3]) (by kernel_rfl) (by simp) ?_
      refine AllReadyH.cons rfl (fun K hK => ?_) AllReadyH.nil
      go_simp
      refine (unhide H3 _).mono ?_
      rintro e W ⟨rfl, hwx⟩
      replace hS := keepT hwx hS
      refine hK.out _ _ hS (fun _ => ?_)
      clear hK K hwx
      try simp only [List.getElem_toArray, List.getElem_cons_succ, List.getElem_cons_zero, Act.put, List.setIfInBounds_toArray, List.set_cons_zero, List.set_cons_succ]
      refine wpAnyH_ready (rs := [7]) (by kernel_rfl) (by simp) ?_
      refine AllReadyH.cons rfl (fun K hK => ?_) AllReadyH.nil
      go_simp
      refine (unhide H7 _).mono ?_
      rintro e W ⟨rfl, hwx⟩
      replace hS := keepT hwx hS
      refine hK.out _ _ hS (fun _ => ?_)
      clear hK K hwx
      try simp only [List.getElem_toArray, List.getElem_cons_succ, List.getElem_cons_zero, Act.put, List.setIfInBounds_toArray, List.set_cons_zero, List.set_cons_succ]
      refine wpAnyH_take (i := 8) (v := .bool true) rfl (by kernel_rfl) (by kernel_rfl) (by kernel_rfl) (fun _ _ _ h => h) (Or.inl ⟨by kernel_rfl, ?_⟩) hS ?_
      · intro w hSw; go_simp
      try simp only [List.getElem_toArray, List.getElem_cons_succ, List.getElem_cons_zero, Act.put, List.setIfInBounds_toArray, List.set_cons_zero, List.set_cons_succ]
      refine wpAnyH_take (i := 9) (v := .bool true) rfl (by kernel_rfl) (by kernel_rfl) (by kernel_rfl) (fun _ _ _ h => h) (Or.inl ⟨by kernel_rfl, ?_⟩) hS ?_
      · intro w hSw; go_simp
      try simp only [List.getElem_toArray, List.getElem_cons_succ, List.getElem_cons_zero, Act.put, List.setIfInBounds_toArray, List.set_cons_zero, List.set_cons_succ]
      refine wpAnyH_take (i := 10) (v := .agg #[.int .i64 p.k, .string p.s, .int .i64 p.p, .int .i64 p.l, .bool p.q]) rfl (by kernel_rfl) (by kernel_rfl) (by kernel_rfl) (fun _ _ _ h => h) (Or.inl ⟨by kernel_rfl, ?_⟩) hS ?_
      · intro w hSw; obtain ⟨⟨x0, x1, x2, x3, x4⟩, ⟨y0, y1, y2, y3, y4⟩, ⟨z0, z1, z2, z3, z4⟩, _, _⟩ := hSw; go_simp
      try simp only [List.getElem_toArray, List.getElem_cons_succ, List.getElem_cons_zero, Act.put, List.setIfInBounds_toArray, List.set_cons_zero, List.set_cons_succ]
      refine wpAnyH_take (i := 11) (v := .agg #[.int .i64 a.k, .string a.s, .int .i64 a.p, .int .i64 a.l, .bool a.q]) rfl (by kernel_rfl) (by kernel_rfl) (by kernel_rfl) (fun _ _ _ h => h) (Or.inl ⟨by kernel_rfl, ?_⟩) hS ?_
      · intro w hSw; obtain ⟨⟨x0, x1, x2, x3, x4⟩, ⟨y0, y1, y2, y3, y4⟩, ⟨z0, z1, z2, z3, z4⟩, _, _⟩ := hSw; go_simp
      try simp only [List.getElem_toArray, List.getElem_cons_succ, List.getElem_cons_zero, Act.put, List.setIfInBounds_toArray, List.set_cons_zero, List.set_cons_succ]
      refine wpAnyH_take (i := 14) (v := .agg #[.int .i64 p.k, .string p.s, .int .i64 p.p, .int .i64 p.l, .bool p.q]) rfl (by kernel_rfl) (by kernel_rfl) (by kernel_rfl) (fun _ _ _ h => h) (Or.inl ⟨by kernel_rfl, ?_⟩) hS ?_
      · intro w hSw; obtain ⟨⟨x0, x1, x2, x3, x4⟩, ⟨y0, y1, y2, y3, y4⟩, ⟨z0, z1, z2, z3, z4⟩, _, _⟩ := hSw; go_simp
      try simp only [List.getElem_toArray, List.getElem_cons_succ, List.getElem_cons_zero, Act.put, List.setIfInBounds_toArray, List.set_cons_zero, List.set_cons_succ]
      refine wpAnyH_take (i := 15) (v := .agg #[.int .i64 a.k, .string a.s, .int .i64 a.p, .int .i64 a.l, .bool a.q]) rfl (by kernel_rfl) (by kernel_rfl) (by kernel_rfl) (fun _ _ _ h => h) (Or.inl ⟨by kernel_rfl, ?_⟩) hS ?_
      · intro w hSw; obtain ⟨⟨x0, x1, x2, x3, x4⟩, ⟨y0, y1, y2, y3, y4⟩, ⟨z0, z1, z2, z3, z4⟩, _, _⟩ := hSw; go_simp
      try simp only [List.getElem_toArray, List.getElem_cons_succ, List.getElem_cons_zero, Act.put, List.setIfInBounds_toArray, List.set_cons_zero, List.set_cons_succ]
      refine wpAnyH_ready (rs := [12]) (by kernel_rfl) (by simp) ?_
      refine AllReadyH.cons rfl (fun K hK => ?_) AllReadyH.nil
      go_simp
      refine (unhide HY _).mono ?_
      rintro e W ⟨rfl, hwx⟩
      replace hS := keepT hwx hS
      refine hK.out _ _ hS (fun _ => ?_)
      clear hK K hwx
      try simp only [List.getElem_toArray, List.getElem_cons_succ, List.getElem_cons_zero, Act.put, List.setIfInBounds_toArray, List.set_cons_zero, List.set_cons_succ]
      refine wpAnyH_ready (rs := [13]) (by kernel_rfl) (by simp) ?_
      refine AllReadyH.cons rfl (fun K hK => ?_) AllReadyH.nil
      go_simp
      refine (unhide H13 _).mono ?_
      rintro e W ⟨rfl, hwx⟩
      replace hS := keepT hwx hS
      refine hK.out _ _ hS (fun _ => ?_)
      clear hK K hwx
      try simp only [List.getElem_toArray, List.getElem_cons_succ, List.getElem_cons_zero, Act.put, List.setIfInBounds_toArray, List.set_cons_zero, List.set_cons_succ]
      refine wpAnyH_ready (rs := [16]) (by kernel_rfl) (by simp) ?_
      refine AllReadyH.cons rfl (fun K hK => ?_) AllReadyH.nil
      go_simp
      refine (unhide HY _).mono ?_
      rintro e W ⟨rfl, hwx⟩
      replace hS := keepT hwx hS
      refine hK.out _ _ hS (fun _ => ?_)
      clear hK K hwx
      try simp only [List.getElem_toArray, List.getElem_cons_succ, List.getElem_cons_zero, Act.put, List.setIfInBounds_toArray, List.set_cons_zero, List.set_cons_succ]
      refine wpAnyH_ready (rs := [17]) (by kernel_rfl) (by simp) ?_
      refine AllReadyH.cons rfl (fun K hK => ?_) AllReadyH.nil
      go_simp
      refine (unhide H17 _).mono ?_
      rintro e W ⟨rfl, hwx⟩
      replace hS := keepT hwx hS
      refine hK.out _ _ hS (fun _ => ?_)
      clear hK K hwx
      try simp only [List.getElem_toArray, List.getElem_cons_succ, List.getElem_cons_zero, Act.put, List.setIfInBounds_toArray, List.set_cons_zero, List.set_cons_succ]
      refine wpAnyH_take (i := 18) (v := .bool true) rfl (by kernel_rfl) (by kernel_rfl) (by kernel_rfl) (fun _ _ _ h => h) (Or.inl ⟨by kernel_rfl, ?_⟩) hS ?_
      · intro w hSw; go_simp
      try simp only [List.getElem_toArray, List.getElem_cons_succ, List.getElem_cons_zero, Act.put, List.setIfInBounds_toArray, List.set_cons_zero, List.set_cons_succ]
      refine wpAnyH_take (i := 19) (v := .bool true) rfl (by kernel_rfl) (by kernel_rfl) (by kernel_rfl) (fun _ _ _ h => h) (Or.inl ⟨by kernel_rfl, ?_⟩) hS ?_
      · intro w hSw; go_simp
      try simp only [List.getElem_toArray, List.getElem_cons_succ, List.getElem_cons_zero, Act.put, List.setIfInBounds_toArray, List.set_cons_zero, List.set_cons_succ]
      refine wpAnyH_take (i := 20) (v := .bool true) rfl (by kernel_rfl) (by kernel_rfl) (by kernel_rfl) (fun _ _ _ h => h) (Or.inl ⟨by kernel_rfl, ?_⟩) hS ?_
      · intro w hSw; go_simp
      try simp only [List.getElem_toArray, List.getElem_cons_succ, List.getElem_cons_zero, Act.put, List.setIfInBounds_toArray, List.set_cons_zero, List.set_cons_succ]
      refine wpAnyH_take (i := 21) (v := .agg #[.int .i64 p.k, .string p.s, .int .i64 p.p, .int .i64 p.l, .bool p.q]) rfl (by kernel_rfl) (by kernel_rfl) (by kernel_rfl) (fun _ _ _ h => h) (Or.inl ⟨by kernel_rfl, ?_⟩) hS ?_
      · intro w hSw; obtain ⟨⟨x0, x1, x2, x3, x4⟩, ⟨y0, y1, y2, y3, y4⟩, ⟨z0, z1, z2, z3, z4⟩, _, _⟩ := hSw; go_simp
      try simp only [List.getElem_toArray, List.getElem_cons_succ, List.getElem_cons_zero, Act.put, List.setIfInBounds_toArray, List.set_cons_zero, List.set_cons_succ]
      refine wpAnyH_take (i := 23) (v := .agg #[.int .i64 b.k, .string b.s, .int .i64 b.p, .int .i64 b.l, .bool b.q]) rfl (by kernel_rfl) (by kernel_rfl) (by kernel_rfl) (fun _ _ _ h => h) (Or.inl ⟨by kernel_rfl, ?_⟩) hS ?_
      · intro w hSw; obtain ⟨⟨x0, x1, x2, x3, x4⟩, ⟨y0, y1, y2, y3, y4⟩, ⟨z0, z1, z2, z3, z4⟩, _, _⟩ := hSw; go_simp
      try simp only [List.getElem_toArray, List.getElem_cons_succ, List.getElem_cons_zero, Act.put, List.setIfInBounds_toArray, List.set_cons_zero, List.set_cons_succ]
      refine wpAnyH_take (i := 25) (v := .agg #[.int .i64 p.k, .string p.s, .int .i64 p.p, .int .i64 p.l, .bool p.q]) rfl (by kernel_rfl) (by kernel_rfl) (by kernel_rfl) (fun _ _ _ h => h) (Or.inl ⟨by kernel_rfl, ?_⟩) hS ?_
      · intro w hSw; obtain ⟨⟨x0, x1, x2, x3, x4⟩, ⟨y0, y1, y2, y3, y4⟩, ⟨z0, z1, z2, z3, z4⟩, _, _⟩ := hSw; go_simp
      try simp only [List.getElem_toArray, List.getElem_cons_succ, List.getElem_cons_zero, Act.put, List.setIfInBounds_toArray, List.set_cons_zero, List.set_cons_succ]
      refine wpAnyH_take (i := 27) (v := .agg #[.int .i64 b.k, .string b.s, .int .i64 b.p, .int .i64 b.l, .bool b.q]) rfl (by kernel_rfl) (by kernel_rfl) (by kernel_rfl) (fun _ _ _ h => h) (Or.inl ⟨by kernel_rfl, ?_⟩) hS ?_
      · intro w hSw; obtain ⟨⟨x0, x1, x2, x3, x4⟩, ⟨y0, y1, y2, y3, y4⟩, ⟨z0, z1, z2, z3, z4⟩, _, _⟩ := hSw; go_simp
      try simp only [List.getElem_toArray, List.getElem_cons_succ, List.getElem_cons_zero, Act.put, List.setIfInBounds_toArray, List.set_cons_zero, List.set_cons_succ]
      refine wpAnyH_ready (rs := [22]) (by kernel_rfl) (by simp) ?_
      refine AllReadyH.cons rfl (fun K hK => ?_) AllReadyH.nil
      go_simp
      refine (unhide HY _).mono ?_
      rintro e W ⟨rfl, hwx⟩
      replace hS := keepT hwx hS
      refine hK.out _ _ hS (fun _ => ?_)
      clear hK K hwx
      try simp only [List.getElem_toArray, List.getElem_cons_succ, List.getElem_cons_zero, Act.put, List.setIfInBounds_toArray, List.set_cons_zero, List.set_cons_succ]
      refine wpAnyH_ready (rs := [24]) (by kernel_rfl) (by simp) ?_
      refine AllReadyH.cons rfl (fun K hK => ?_) AllReadyH.nil
      go_simp
      refine (unhide H24 _).mono ?_
      rintro e W ⟨rfl, hwx⟩
      replace hS := keepT hwx hS
      refine hK.out _ _ hS (fun _ => ?_)
      clear hK K hwx
      try simp only [List.getElem_toArray, List.getElem_cons_succ, List.getElem_cons_zero, Act.put, List.setIfInBounds_toArray, List.set_cons_zero, List.set_cons_succ]
      refine wpAnyH_ready (rs := [26]) (by kernel_rfl) (by simp) ?_
      refine AllReadyH.cons rfl (fun K hK => ?_) AllReadyH.nil
      go_simp
      refine (unhide HY _).mono ?_
      rintro e W ⟨rfl, hwx⟩
      replace hS := keepT hwx hS
      refine hK.out _ _ hS (fun _ => ?_)
      clear hK K hwx
      try simp only [List.getElem_toArray, List.getElem_cons_succ, List.getElem_cons_zero, Act.put, List.setIfInBounds_toArray, List.set_cons_zero, List.set_cons_succ]
      refine wpAnyH_ready (rs := [28]) (by kernel_rfl) (by simp) ?_
      refine AllReadyH.cons rfl (fun K hK => ?_) AllReadyH.nil
      go_simp
      refine (unhide H28 _).mono ?_
      rintro e W ⟨rfl, hwx⟩
      replace hS := keepT hwx hS
      refine hK.out _ _ hS (fun _ => ?_)
      clear hK K hwx
      try simp only [List.getElem_toArray, List.getElem_cons_succ, List.getElem_cons_zero, Act.put, List.setIfInBounds_toArray, List.set_cons_zero, List.set_cons_succ]
      refine wpAnyH_take (i := 29) (v := .bool true) rfl (by kernel_rfl) (by kernel_rfl) (by kernel_rfl) (fun _ _ _ h => h) (Or.inl ⟨by kernel_rfl, ?_⟩) hS ?_
      · intro w hSw; go_simp
      try simp only [List.getElem_toArray, List.getElem_cons_succ, List.getElem_cons_zero, Act.put, List.setIfInBounds_toArray, List.set_cons_zero, List.set_cons_succ]
      refine wpAnyH_take (i := 30) (v := .bool true) rfl (by kernel_rfl) (by kernel_rfl) (by kernel_rfl) (fun _ _ _ h => h) (Or.inl ⟨by kernel_rfl, ?_⟩) hS ?_
      · intro w hSw; go_simp
      try simp only [List.getElem_toArray, List.getElem_cons_succ, List.getElem_cons_zero, Act.put, List.setIfInBounds_toArray, List.set_cons_zero, List.set_cons_succ]
      refine wpAnyH_take (i := 31) (v := .bool true) rfl (by kernel_rfl) (by kernel_rfl) (by kernel_rfl) (fun _ _ _ h => h) (Or.inl ⟨by kernel_rfl, ?_⟩) hS ?_
      · intro w hSw; go_simp
      try simp only [List.getElem_toArray, List.getElem_cons_succ, List.getElem_cons_zero, Act.put, List.setIfInBounds_toArray, List.set_cons_zero, List.set_cons_succ]
      refine wpAnyH_take (i := 32) (v := .pointer (some ⟨g1, 1, none⟩)) rfl (by kernel_rfl) (by kernel_rfl) (by kernel_rfl) (fun _ _ _ h => h) (Or.inl ⟨by kernel_rfl, ?_⟩) hS ?_
      · intro w hSw; go_simp
      try simp only [List.getElem_toArray, List.getElem_cons_succ, List.getElem_cons_zero, Act.put, List.setIfInBounds_toArray, List.set_cons_zero, List.set_cons_succ]
      refine wpAnyH_take (i := 33) (v := .string a.s) rfl (by kernel_rfl) (by kernel_rfl) (by kernel_rfl) (fun _ _ _ h => h) (Or.inl ⟨by kernel_rfl, ?_⟩) hS ?_
      · intro w hSw; obtain ⟨⟨x0, x1, x2, x3, x4⟩, ⟨y0, y1, y2, y3, y4⟩, ⟨z0, z1, z2, z3, z4⟩, _, _⟩ := hSw; go_simp
      try simp only [List.getElem_toArray, List.getElem_cons_succ, List.getElem_cons_zero, Act.put, List.setIfInBounds_toArray, List.set_cons_zero, List.set_cons_succ]
      refine wpAnyH_ready (rs := [34]) (by kernel_rfl) (by simp) ?_
      refine AllReadyH.cons rfl (fun K hK => ?_) AllReadyH.nil
      go_simp
      refine (unhide H34 _).mono ?_
      rintro e W ⟨rfl, rfl⟩
      refine hK.out _ _ hS (fun _ => ?_)
      clear hK K
      try simp only [List.getElem_toArray, List.getElem_cons_succ, List.getElem_cons_zero, Act.put, List.setIfInBounds_toArray, List.set_cons_zero, List.set_cons_succ]
      refine wpAnyH_take (i := 35) (v := .bool true) rfl (by kernel_rfl) (by kernel_rfl) (by kernel_rfl) (fun _ _ _ h => h) (Or.inl ⟨by kernel_rfl, ?_⟩) hS ?_
      · intro w hSw; go_simp
      try simp only [List.getElem_toArray, List.getElem_cons_succ, List.getElem_cons_zero, Act.put, List.setIfInBounds_toArray, List.set_cons_zero, List.set_cons_succ]
      refine wpAnyH_take (i := 36) (v := .bool true) rfl (by kernel_rfl) (by kernel_rfl) (by kernel_rfl) (fun _ _ _ h => h) (Or.inl ⟨by kernel_rfl, ?_⟩) hS ?_
      · intro w hSw; go_simp
      try simp only [List.getElem_toArray, List.getElem_cons_succ, List.getElem_cons_zero, Act.put, List.setIfInBounds_toArray, List.set_cons_zero, List.set_cons_succ]
      refine wpAnyH_take (i := 37) (v := .pointer (some ⟨g1, 1, none⟩)) rfl (by kernel_rfl) (by kernel_rfl) (by kernel_rfl) (fun _ _ _ h => h) (Or.inl ⟨by kernel_rfl, ?_⟩) hS ?_
      · intro w hSw; go_simp
      try simp only [List.getElem_toArray, List.getElem_cons_succ, List.getElem_cons_zero, Act.put, List.setIfInBounds_toArray, List.set_cons_zero, List.set_cons_succ]
      refine wpAnyH_take (i := 38) (v := .string a.s) rfl (by kernel_rfl) (by kernel_rfl) (by kernel_rfl) (fun _ _ _ h => h) (Or.inl ⟨by kernel_rfl, ?_⟩) hS ?_
      · intro w hSw; obtain ⟨⟨x0, x1, x2, x3, x4⟩, ⟨y0, y1, y2, y3, y4⟩, ⟨z0, z1, z2, z3, z4⟩, _, _⟩ := hSw; go_simp
      try simp only [List.getElem_toArray, List.getElem_cons_succ, List.getElem_cons_zero, Act.put, List.setIfInBounds_toArray, List.set_cons_zero, List.set_cons_succ]
      refine wpAnyH_take (i := 40) (v := .pointer (some ⟨g1, 1, none⟩)) rfl (by kernel_rfl) (by kernel_rfl) (by kernel_rfl) (fun _ _ _ h => h) (Or.inl ⟨by kernel_rfl, ?_⟩) hS ?_
      · intro w hSw; go_simp
      try simp only [List.getElem_toArray, List.getElem_cons_succ, List.getElem_cons_zero, Act.put, List.setIfInBounds_toArray, List.set_cons_zero, List.set_cons_succ]
      refine wpAnyH_take (i := 41) (v := .string a.s) rfl (by kernel_rfl) (by kernel_rfl) (by kernel_rfl) (fun _ _ _ h => h) (Or.inl ⟨by kernel_rfl, ?_⟩) hS ?_
      · intro w hSw; obtain ⟨⟨x0, x1, x2, x3, x4⟩, ⟨y0, y1, y2, y3, y4⟩, ⟨z0, z1, z2, z3, z4⟩, _, _⟩ := hSw; go_simp
      try simp only [List.getElem_toArray, List.getElem_cons_succ, List.getElem_cons_zero, Act.put, List.setIfInBounds_toArray, List.set_cons_zero, List.set_cons_succ]
      refine wpAnyH_ready (rs := [39]) (by kernel_rfl) (by simp) ?_
      refine AllReadyH.cons rfl (fun K hK => ?_) AllReadyH.nil
      go_simp
      refine (unhide H39 _).mono ?_
      rintro e W ⟨rfl, rfl⟩
      refine hK.out _ _ hS (fun _ => ?_)
      clear hK K
      try simp only [List.getElem_toArray, List.getElem_cons_succ, List.getElem_cons_zero, Act.put, List.setIfInBounds_toArray, List.set_cons_zero, List.set_cons_succ]
      refine wpAnyH_ready (rs := [42]) (by kernel_rfl) (by simp) ?_
      refine AllReadyH.cons rfl (fun K hK => ?_) AllReadyH.nil
      go_simp
      refine (unhide H42 _).mono ?_
      rintro e W ⟨rfl, hwx⟩
      replace hS := keepT hwx hS
      refine hK.out _ _ hS (fun _ => ?_)
      clear hK K hwx
      try simp only [List.getElem_toArray, List.getElem_cons_succ, List.getElem_cons_zero, Act.put, List.setIfInBounds_toArray, List.set_cons_zero, List.set_cons_succ]
      refine wpAnyH_take (i := 43) (v := .bool true) rfl (by kernel_rfl) (by kernel_rfl) (by kernel_rfl) (fun _ _ _ h => h) (Or.inl ⟨by kernel_rfl, ?_⟩) hS ?_
      · intro w hSw; go_simp
      try simp only [List.getElem_toArray, List.getElem_cons_succ, List.getElem_cons_zero, Act.put, List.setIfInBounds_toArray, List.set_cons_zero, List.set_cons_succ]
      refine wpAnyH_take (i := 44) (v := .bool true) rfl (by kernel_rfl) (by kernel_rfl) (by kernel_rfl) (fun _ _ _ h => h) (Or.inl ⟨by kernel_rfl, ?_⟩) hS ?_
      · intro w hSw; go_simp
      try simp only [List.getElem_toArray, List.getElem_cons_succ, List.getElem_cons_zero, Act.put, List.setIfInBounds_toArray, List.set_cons_zero, List.set_cons_succ]
      refine wpAnyH_take (i := 45) (v := .bool true) rfl (by kernel_rfl) (by kernel_rfl) (by kernel_rfl) (fun _ _ _ h => h) (Or.inl ⟨by kernel_rfl, ?_⟩) hS ?_
      · intro w hSw; go_simp
      try simp only [List.getElem_toArray, List.getElem_cons_succ, List.getElem_cons_zero, Act.put, List.setIfInBounds_toArray, List.set_cons_zero, List.set_cons_succ]
      refine wpAnyH_done (by kernel_rfl) ?_ _
      go_wp2
      go_ret
      exact ⟨rfl, unhide hgw ▸ hS.2.2.2.2⟩
end Go.Proofs.Ytmapohaobinjjaa

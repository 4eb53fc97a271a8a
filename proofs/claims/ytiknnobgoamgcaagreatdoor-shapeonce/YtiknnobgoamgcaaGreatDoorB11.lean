/-
  1 texts in one.
-/
import Derived.Test.YtiknnobgoamgcaaGreatDoorB10
/-
  The parser: a jump, a return, a const.
-/
namespace Go.Proofs.YtiknnobgoamgcaaGreatDoor
open Go.RowKit Go.Lib Go.Sort
set_option linter.unusedSimpArgs false
set_option linter.unusedVariables false
set_option maxHeartbeats 4000000 in
set_option maxRecDepth 100000 in
theorem paJump_any {g : Nat} {tv : Value} {L : List Tk} {i d : Nat} {w : World} (h : PaW g tv L i d w) (kind : Int) (hi : i < L.length) : Calls Tryz.prog 142 #[.pointer (some ⟨g, 0, none⟩), .int .i64 kind] w fun e w' => ResN w.heap.size g tv L d w (jmpA L kind i) e w' := by
 unfold jmpA
 cases hk : knd L (i + 1) 1 with
 | false =>
  simp only [Bool.false_eq_true, if_false]
  have hP := zH (h.alloc (.cells #[.int .i64 0, .int .i64 0, .slice none 0 0] 24 (0, 0))).1
  have hM := zH (h.alloc (.cells #[.int .i64 0, .int .i64 0, .slice none 0 0] 24 (0, 0))).2
  have hN := zH (nblk_new w 0 0 none 0 0)
  obtain ⟨gb, hgb⟩ : ∃ gb, w.heap.size = gb := ⟨_, rfl⟩
  have hz : (w.alloc (.cells #[.int .i64 0, .int .i64 0, .slice none 0 0] 24 (0, 0))).heap.size = gb + 1 := by simp [hgb]
  have hgl : g < gb := by have := h.lt; omega
  rw [hgb] at hN
  obtain ⟨W1, hq_W1⟩ : ∃ W1, w.alloc (.cells #[.int .i64 0, .int .i64 0, .slice none 0 0] 24 (0, 0)) = W1 := ⟨_, rfl⟩
  rw [hq_W1] at hP hM hN hz
  replace hz := And.intro (Nat.le_of_eq hz) (Nat.le_of_eq hz.symm)
  replace h := zH h
  go_enter Tryz.func142, Tryz.ntmps142
  go_wp2_with fail
  clear hq_W1
  refine (paNext_any (uH hP) hi).mono ?_
  rintro e W2 ⟨rfl, h2, hm⟩
  replace hN := zH ((uH hN).mop (uH hP) hm)
  have hzz := hm.size
  replace hM := zH ((uH hM).trans hm)
  replace hP := zH h2
  clear hm h2
  obtain ⟨b1, hq_b1⟩ : ∃ x, W2.heap.size = x := ⟨_, rfl⟩
  have hB := zH (nblk_new W2 kind i none 0 0)
  have hm := mop_below (g := g) (below_alloc W2 (.cells #[.int .i64 kind, .int .i64 i, .slice none 0 0] 24 (0, 0)))
  have h2 := (uH hP).below (below_alloc W2 (.cells #[.int .i64 kind, .int .i64 i, .slice none 0 0] 24 (0, 0)))
  have hzs : (W2.alloc (.cells #[.int .i64 kind, .int .i64 i, .slice none 0 0] 24 (0, 0))).heap.size = b1 + 1 := by simp [hq_b1]
  obtain ⟨W3, hq_W3⟩ : ∃ x, W2.alloc (.cells #[.int .i64 kind, .int .i64 i, .slice none 0 0] 24 (0, 0)) = x := ⟨_, rfl⟩
  rw [hq_W3] at hB hm h2 hzs
  replace hzs := And.intro (Nat.le_of_eq hzs) (Nat.le_of_eq hzs.symm)
  rw [hq_b1] at hB
  replace hq_W3 := zH hq_W3
  replace hN := zH ((uH hN).mop (uH hP) hm)
  have hzz := hm.size
  replace hM := zH ((uH hM).trans hm)
  replace hP := zH h2
  clear hm h2
  go_wp2_with fail
  rw [uH hq_W3]
  clear hq_W3
  have hK := paIsKind_any (uH hP) 1
  rw [hk] at hK
  refine (hK).mono ?_
  rintro e W4 ⟨rfl, hb⟩
  have h2 := (uH hP).below hb
  have hm := mop_below (g := g) hb
  clear hb
  replace hN := zH ((uH hN).mop (uH hP) hm)
  replace hB := zH ((uH hB).mop (uH hP) hm)
  have hzz := hm.size
  replace hM := zH ((uH hM).trans hm)
  replace hP := zH h2
  clear hm h2
  obtain ⟨p0_hB, p1_hB, p2_hB⟩ := (uH hB).box
  have f0_hB := (uH hB).frozen 0
  have f1_hB := (uH hB).frozen 1
  have f2_hB := (uH hB).frozen 2
  obtain ⟨p0_hN, p1_hN, p2_hN⟩ := (uH hN).box
  have f0_hN := (uH hN).frozen 0
  have f1_hN := (uH hN).frozen 1
  have f2_hN := (uH hN).frozen 2
  have hF := zH (res_fin (k := kind) (t := i) (a := none) (m := 0) (c := 0) (f := .nil) (B := gb) (w := w) (Nat.le_refl gb) (by omega) (uH hN) (sl_nil _ (none) 0 (Nat.zero_le _) (fun _ => rfl)) (uH hP) (uH hM))
  go_wp2
  obtain ⟨q1, q2, q3, q4⟩ := uH hF
  obtain ⟨u0, u1, u2⟩ := q1.box
  refine bodyPost_ret (v := .agg #[.int .i64 (kind), .int .i64 (i), .slice (none) (0) (0)]) (by simp [results, Tryz.results142, go_sem, u0, u1, u2]) rfl ?_
  exact ⟨_, _, _, rfl, (by first | exact q2 | (rw [hgb]; exact q2)), q3, q4⟩
 | true =>
  simp only [if_true]
  have hP := zH (h.alloc (.cells #[.int .i64 0, .int .i64 0, .slice none 0 0] 24 (0, 0))).1
  have hM := zH (h.alloc (.cells #[.int .i64 0, .int .i64 0, .slice none 0 0] 24 (0, 0))).2
  have hN := zH (nblk_new w 0 0 none 0 0)
  obtain ⟨gb, hgb⟩ : ∃ gb, w.heap.size = gb := ⟨_, rfl⟩
  have hz : (w.alloc (.cells #[.int .i64 0, .int .i64 0, .slice none 0 0] 24 (0, 0))).heap.size = gb + 1 := by simp [hgb]
  have hgl : g < gb := by have := h.lt; omega
  rw [hgb] at hN
  obtain ⟨W1, hq_W1⟩ : ∃ W1, w.alloc (.cells #[.int .i64 0, .int .i64 0, .slice none 0 0] 24 (0, 0)) = W1 := ⟨_, rfl⟩
  rw [hq_W1] at hP hM hN hz
  replace hz := And.intro (Nat.le_of_eq hz) (Nat.le_of_eq hz.symm)
  replace h := zH h
  go_enter Tryz.func142, Tryz.ntmps142
  go_wp2_with fail
  clear hq_W1
  refine (paNext_any (uH hP) hi).mono ?_
  rintro e W2 ⟨rfl, h2, hm⟩
  replace hN := zH ((uH hN).mop (uH hP) hm)
  have hzz := hm.size
  replace hM := zH ((uH hM).trans hm)
  replace hP := zH h2
  clear hm h2
  obtain ⟨b1, hq_b1⟩ : ∃ x, W2.heap.size = x := ⟨_, rfl⟩
  have hB := zH (nblk_new W2 kind i none 0 0)
  have hm := mop_below (g := g) (below_alloc W2 (.cells #[.int .i64 kind, .int .i64 i, .slice none 0 0] 24 (0, 0)))
  have h2 := (uH hP).below (below_alloc W2 (.cells #[.int .i64 kind, .int .i64 i, .slice none 0 0] 24 (0, 0)))
  have hzs : (W2.alloc (.cells #[.int .i64 kind, .int .i64 i, .slice none 0 0] 24 (0, 0))).heap.size = b1 + 1 := by simp [hq_b1]
  obtain ⟨W3, hq_W3⟩ : ∃ x, W2.alloc (.cells #[.int .i64 kind, .int .i64 i, .slice none 0 0] 24 (0, 0)) = x := ⟨_, rfl⟩
  rw [hq_W3] at hB hm h2 hzs
  replace hzs := And.intro (Nat.le_of_eq hzs) (Nat.le_of_eq hzs.symm)
  rw [hq_b1] at hB
  replace hq_W3 := zH hq_W3
  replace hN := zH ((uH hN).mop (uH hP) hm)
  have hzz := hm.size
  replace hM := zH ((uH hM).trans hm)
  replace hP := zH h2
  clear hm h2
  go_wp2_with fail
  rw [uH hq_W3]
  clear hq_W3
  have hK := paIsKind_any (uH hP) 1
  rw [hk] at hK
  refine (hK).mono ?_
  rintro e W4 ⟨rfl, hb⟩
  have h2 := (uH hP).below hb
  have hm := mop_below (g := g) hb
  clear hb
  replace hN := zH ((uH hN).mop (uH hP) hm)
  replace hB := zH ((uH hB).mop (uH hP) hm)
  have hzz := hm.size
  replace hM := zH ((uH hM).trans hm)
  replace hP := zH h2
  clear hm h2
  go_wp2_with fail
  refine (paNamed_yes (uH hP) 19 hk).mono ?_
  rintro e W5 ⟨a2, m2, c2, rfl, hs, h2, hm⟩
  have hzs := hm.size
  have hs2 := zH (hs.mono (P' := fun x => gb < x ∧ x < W5.heap.size ∧ x ≠ b1) (fun x hx => by have := (uH hN).lt; have := (uH hB).lt; have e1 := hx.1; have e2 := hx.lt; exact ⟨by omega, by omega, by omega⟩))
  clear hs
  replace hN := zH ((uH hN).mop (uH hP) hm)
  replace hB := zH ((uH hB).mop (uH hP) hm)
  have hzz := hm.size
  replace hM := zH ((uH hM).trans hm)
  replace hP := zH h2
  clear hm h2
  dsimp only at hs2 ⊢
  obtain rfl := sl_empty (uH hs2)
  obtain ⟨p0_hB, p1_hB, p2_hB⟩ := (uH hB).box
  have f0_hB := (uH hB).frozen 0
  have f1_hB := (uH hB).frozen 1
  have f2_hB := (uH hB).frozen 2
  obtain ⟨b3, hq_b3⟩ : ∃ x, W5.heap.size = x := ⟨_, rfl⟩
  have hzz : (W5.alloc (.cells #[.int .i64 19, .int .i64 ((i : Int) + 1), .slice a2 0 c2] 24 (0, 0))).heap.size = b3 + 1 := by simp [hq_b3]
  have hm := mop_below (g := g) (below_alloc W5 (.cells #[.int .i64 19, .int .i64 ((i : Int) + 1), .slice a2 0 c2] 24 (0, 0)))
  have h2 := (uH hP).below (below_alloc W5 (.cells #[.int .i64 19, .int .i64 ((i : Int) + 1), .slice a2 0 c2] 24 (0, 0)))
  have hs3 := lit1_sl (P := fun x => gb < x ∧ x < b3 + 1 ∧ x ≠ b1) W5 19 ((i : Int) + 1) a2 0 c2 .nil ((uH hs2).mono (fun x hx => by have e1 := hx.1; have e2 := hx.lt; exact ⟨by omega, by omega, by omega⟩)) ⟨by omega, by omega, (by have := (uH hN).lt; have := (uH hB).lt; omega)⟩
  rw [hq_b3] at hs3
  obtain ⟨W6, hq_W6⟩ : ∃ x, W5.alloc (.cells #[.int .i64 19, .int .i64 ((i : Int) + 1), .slice a2 0 c2] 24 (0, 0)) = x := ⟨_, rfl⟩
  rw [hq_W6] at hs3 hm h2 hzz
  rw [← hzz] at hs3
  replace hzz := And.intro (Nat.le_of_eq hzz) (Nat.le_of_eq hzz.symm)
  replace hs3 := zH hs3
  replace hN := zH ((uH hN).mop (uH hP) hm)
  replace hB := zH ((uH hB).mop (uH hP) hm)
  have hzz := hm.size
  replace hM := zH ((uH hM).trans hm)
  replace hP := zH h2
  clear hm h2
  obtain ⟨p0_hB, p1_hB, p2_hB⟩ := (uH hB).box
  have f0_hB := (uH hB).frozen 0
  have f1_hB := (uH hB).frozen 1
  have f2_hB := (uH hB).frozen 2
  obtain ⟨h2, hM2, hB2, hh⟩ := kid_set (uH hP) (uH hM) (uH hB) (by omega) (some ⟨b3, 0, none⟩) 1 1
  have hzz : (W6.setCell ⟨b1, 2, none⟩ (.slice (some ⟨b3, 0, none⟩) 1 1)).heap.size = W6.heap.size := by simp
  obtain ⟨W7, hq_W7⟩ : ∃ x, W6.setCell ⟨b1, 2, none⟩ (.slice (some ⟨b3, 0, none⟩) 1 1) = x := ⟨_, rfl⟩
  rw [hq_W7] at h2 hM2 hB2 hh hzz
  replace hzz := And.intro (Nat.le_of_eq hzz) (Nat.le_of_eq hzz.symm)
  replace hN := zH ((uH hN).same (hh _ (by omega)))
  replace hs3 := zH ((uH hs3).keep (w' := W7) (fun x hx => hh x (by have e1 := hx.1; omega)))
  replace hB := zH hB2
  replace hM := zH hM2
  replace hP := zH h2
  clear hB2 hM2 h2 hh
  obtain ⟨p0_hB, p1_hB, p2_hB⟩ := (uH hB).box
  have f0_hB := (uH hB).frozen 0
  have f1_hB := (uH hB).frozen 1
  have f2_hB := (uH hB).frozen 2
  obtain ⟨p0_hN, p1_hN, p2_hN⟩ := (uH hN).box
  have f0_hN := (uH hN).frozen 0
  have f1_hN := (uH hN).frozen 1
  have f2_hN := (uH hN).frozen 2
  have hF := zH (res_fin (k := kind) (t := i) (a := some ⟨b3, 0, none⟩) (m := 1) (c := 1) (f := .cons 19 ((i : Int) + 1) .nil .nil) (B := gb) (w := w) (Nat.le_refl gb) (by omega) (uH hN) ((uH hs3).mono (fun x hx => by have e1 := hx.1; exact ⟨by omega, by omega⟩)) (uH hP) (uH hM))
  go_wp2
  obtain ⟨q1, q2, q3, q4⟩ := uH hF
  obtain ⟨u0, u1, u2⟩ := q1.box
  refine bodyPost_ret (v := .agg #[.int .i64 (kind), .int .i64 (i), .slice (some ⟨b3, 0, none⟩) (1) (1)]) (by simp [results, Tryz.results142, go_sem, u0, u1, u2]) rfl ?_
  exact ⟨_, _, _, rfl, (by first | exact q2 | (rw [hgb]; exact q2)), q3, q4⟩
set_option maxHeartbeats 4000000 in
set_option maxRecDepth 100000 in
theorem paResult_any {g : Nat} {tv : Value} {L : List Tk} {i d : Nat} {w : World} (h : PaW g tv L i d w) {f : Nat} (H : ExA g tv L f) (hi : i < L.length) (hd : d ≤ 40) (hne : retA L f i d ≠ .out) : Calls Tryz.prog 141 #[.pointer (some ⟨g, 0, none⟩)] w fun e w' => ResN w.heap.size g tv L d w (retA L f i d) e w' := by
 unfold retA at hne ⊢
 cases hk : knd L (i + 1) 6 with
 | true =>
  simp only [Bool.true_or, if_true]
  clear H hne
  have hP := zH (h.alloc (.cells #[.int .i64 0, .int .i64 0, .slice none 0 0] 24 (0, 0))).1
  have hM := zH (h.alloc (.cells #[.int .i64 0, .int .i64 0, .slice none 0 0] 24 (0, 0))).2
  have hN := zH (nblk_new w 0 0 none 0 0)
  obtain ⟨gb, hgb⟩ : ∃ gb, w.heap.size = gb := ⟨_, rfl⟩
  have hz : (w.alloc (.cells #[.int .i64 0, .int .i64 0, .slice none 0 0] 24 (0, 0))).heap.size = gb + 1 := by simp [hgb]
  have hgl : g < gb := by have := h.lt; omega
  rw [hgb] at hN
  obtain ⟨W1, hq_W1⟩ : ∃ W1, w.alloc (.cells #[.int .i64 0, .int .i64 0, .slice none 0 0] 24 (0, 0)) = W1 := ⟨_, rfl⟩
  rw [hq_W1] at hP hM hN hz
  replace hz := And.intro (Nat.le_of_eq hz) (Nat.le_of_eq hz.symm)
  replace h := zH h
  go_enter Tryz.func141, Tryz.ntmps141
  go_wp2_with fail
  clear hq_W1
  refine (paNext_any (uH hP) hi).mono ?_
  rintro e W2 ⟨rfl, h2, hm⟩
  replace hN := zH ((uH hN).mop (uH hP) hm)
  have hzz := hm.size
  replace hM := zH ((uH hM).trans hm)
  replace hP := zH h2
  clear hm h2
  obtain ⟨b1, hq_b1⟩ : ∃ x, W2.heap.size = x := ⟨_, rfl⟩
  have hB := zH (nblk_new W2 16 i none 0 0)
  have hm := mop_below (g := g) (below_alloc W2 (.cells #[.int .i64 16, .int .i64 i, .slice none 0 0] 24 (0, 0)))
  have h2 := (uH hP).below (below_alloc W2 (.cells #[.int .i64 16, .int .i64 i, .slice none 0 0] 24 (0, 0)))
  have hzs : (W2.alloc (.cells #[.int .i64 16, .int .i64 i, .slice none 0 0] 24 (0, 0))).heap.size = b1 + 1 := by simp [hq_b1]
  obtain ⟨W3, hq_W3⟩ : ∃ x, W2.alloc (.cells #[.int .i64 16, .int .i64 i, .slice none 0 0] 24 (0, 0)) = x := ⟨_, rfl⟩
  rw [hq_W3] at hB hm h2 hzs
  replace hzs := And.intro (Nat.le_of_eq hzs) (Nat.le_of_eq hzs.symm)
  rw [hq_b1] at hB
  replace hq_W3 := zH hq_W3
  replace hN := zH ((uH hN).mop (uH hP) hm)
  have hzz := hm.size
  replace hM := zH ((uH hM).trans hm)
  replace hP := zH h2
  clear hm h2
  go_wp2_with fail
  rw [uH hq_W3]
  clear hq_W3
  have hK := paIsKind_any (uH hP) 6
  rw [hk] at hK
  refine (hK).mono ?_
  rintro e W4 ⟨rfl, hb⟩
  have h2 := (uH hP).below hb
  have hm := mop_below (g := g) hb
  clear hb
  replace hN := zH ((uH hN).mop (uH hP) hm)
  replace hB := zH ((uH hB).mop (uH hP) hm)
  have hzz := hm.size
  replace hM := zH ((uH hM).trans hm)
  replace hP := zH h2
  clear hm h2
  obtain ⟨p0_hB, p1_hB, p2_hB⟩ := (uH hB).box
  have f0_hB := (uH hB).frozen 0
  have f1_hB := (uH hB).frozen 1
  have f2_hB := (uH hB).frozen 2
  obtain ⟨p0_hN, p1_hN, p2_hN⟩ := (uH hN).box
  have f0_hN := (uH hN).frozen 0
  have f1_hN := (uH hN).frozen 1
  have f2_hN := (uH hN).frozen 2
  have hF := zH (res_fin (k := 16) (t := i) (a := none) (m := 0) (c := 0) (f := .nil) (B := gb) (w := w) (Nat.le_refl gb) (by omega) (uH hN) (sl_nil _ (none) 0 (Nat.zero_le _) (fun _ => rfl)) (uH hP) (uH hM))
  go_wp2
  obtain ⟨q1, q2, q3, q4⟩ := uH hF
  obtain ⟨u0, u1, u2⟩ := q1.box
  refine bodyPost_ret (v := .agg #[.int .i64 (16), .int .i64 (i), .slice (none) (0) (0)]) (by simp [results, Tryz.results141, go_sem, u0, u1, u2]) rfl ?_
  exact ⟨_, _, _, rfl, (by first | exact q2 | (rw [hgb]; exact q2)), q3, q4⟩
 | false =>
  cases ho : opA L (i + 1) [125] with
  | true =>
   simp only [Bool.or_true, if_true]
   clear H hne
   have hP := zH (h.alloc (.cells #[.int .i64 0, .int .i64 0, .slice none 0 0] 24 (0, 0))).1
   have hM := zH (h.alloc (.cells #[.int .i64 0, .int .i64 0, .slice none 0 0] 24 (0, 0))).2
   have hN := zH (nblk_new w 0 0 none 0 0)
   obtain ⟨gb, hgb⟩ : ∃ gb, w.heap.size = gb := ⟨_, rfl⟩
   have hz : (w.alloc (.cells #[.int .i64 0, .int .i64 0, .slice none 0 0] 24 (0, 0))).heap.size = gb + 1 := by simp [hgb]
   have hgl : g < gb := by have := h.lt; omega
   rw [hgb] at hN
   obtain ⟨W1, hq_W1⟩ : ∃ W1, w.alloc (.cells #[.int .i64 0, .int .i64 0, .slice none 0 0] 24 (0, 0)) = W1 := ⟨_, rfl⟩
   rw [hq_W1] at hP hM hN hz
   replace hz := And.intro (Nat.le_of_eq hz) (Nat.le_of_eq hz.symm)
   replace h := zH h
   go_enter Tryz.func141, Tryz.ntmps141
   go_wp2_with fail
   clear hq_W1
   refine (paNext_any (uH hP) hi).mono ?_
   rintro e W2 ⟨rfl, h2, hm⟩
   replace hN := zH ((uH hN).mop (uH hP) hm)
   have hzz := hm.size
   replace hM := zH ((uH hM).trans hm)
   replace hP := zH h2
   clear hm h2
   obtain ⟨b1, hq_b1⟩ : ∃ x, W2.heap.size = x := ⟨_, rfl⟩
   have hB := zH (nblk_new W2 16 i none 0 0)
   have hm := mop_below (g := g) (below_alloc W2 (.cells #[.int .i64 16, .int .i64 i, .slice none 0 0] 24 (0, 0)))
   have h2 := (uH hP).below (below_alloc W2 (.cells #[.int .i64 16, .int .i64 i, .slice none 0 0] 24 (0, 0)))
   have hzs : (W2.alloc (.cells #[.int .i64 16, .int .i64 i, .slice none 0 0] 24 (0, 0))).heap.size = b1 + 1 := by simp [hq_b1]
   obtain ⟨W3, hq_W3⟩ : ∃ x, W2.alloc (.cells #[.int .i64 16, .int .i64 i, .slice none 0 0] 24 (0, 0)) = x := ⟨_, rfl⟩
   rw [hq_W3] at hB hm h2 hzs
   replace hzs := And.intro (Nat.le_of_eq hzs) (Nat.le_of_eq hzs.symm)
   rw [hq_b1] at hB
   replace hq_W3 := zH hq_W3
   replace hN := zH ((uH hN).mop (uH hP) hm)
   have hzz := hm.size
   replace hM := zH ((uH hM).trans hm)
   replace hP := zH h2
   clear hm h2
   go_wp2_with fail
   rw [uH hq_W3]
   clear hq_W3
   have hK := paIsKind_any (uH hP) 6
   rw [hk] at hK
   refine (hK).mono ?_
   rintro e W4 ⟨rfl, hb⟩
   have h2 := (uH hP).below hb
   have hm := mop_below (g := g) hb
   clear hb
   replace hN := zH ((uH hN).mop (uH hP) hm)
   replace hB := zH ((uH hB).mop (uH hP) hm)
   have hzz := hm.size
   replace hM := zH ((uH hM).trans hm)
   replace hP := zH h2
   clear hm h2
   go_wp2_with fail
   refine (paOp_any _ _).mono ?_
   rintro e W5 ⟨rfl, hb⟩
   have h2 := (uH hP).below hb
   have hm := mop_below (g := g) hb
   clear hb
   replace hN := zH ((uH hN).mop (uH hP) hm)
   replace hB := zH ((uH hB).mop (uH hP) hm)
   have hzz := hm.size
   replace hM := zH ((uH hM).trans hm)
   replace hP := zH h2
   clear hm h2
   go_wp2_with fail
   have hK := paIs_any (uH hP) (opT [125])
   rw [eqB_op, ho] at hK
   refine (hK).mono ?_
   rintro e W6 ⟨rfl, hb⟩
   have h2 := (uH hP).below hb
   have hm := mop_below (g := g) hb
   clear hb
   replace hN := zH ((uH hN).mop (uH hP) hm)
   replace hB := zH ((uH hB).mop (uH hP) hm)
   have hzz := hm.size
   replace hM := zH ((uH hM).trans hm)
   replace hP := zH h2
   clear hm h2
   obtain ⟨p0_hB, p1_hB, p2_hB⟩ := (uH hB).box
   have f0_hB := (uH hB).frozen 0
   have f1_hB := (uH hB).frozen 1
   have f2_hB := (uH hB).frozen 2
   obtain ⟨p0_hN, p1_hN, p2_hN⟩ := (uH hN).box
   have f0_hN := (uH hN).frozen 0
   have f1_hN := (uH hN).frozen 1
   have f2_hN := (uH hN).frozen 2
   have hF := zH (res_fin (k := 16) (t := i) (a := none) (m := 0) (c := 0) (f := .nil) (B := gb) (w := w) (Nat.le_refl gb) (by omega) (uH hN) (sl_nil _ (none) 0 (Nat.zero_le _) (fun _ => rfl)) (uH hP) (uH hM))
   go_wp2
   obtain ⟨q1, q2, q3, q4⟩ := uH hF
   obtain ⟨u0, u1, u2⟩ := q1.box
   refine bodyPost_ret (v := .agg #[.int .i64 (16), .int .i64 (i), .slice (none) (0) (0)]) (by simp [results, Tryz.results141, go_sem, u0, u1, u2]) rfl ?_
   exact ⟨_, _, _, rfl, (by first | exact q2 | (rw [hgb]; exact q2)), q3, q4⟩
  | false =>
   simp only [hk, ho, Bool.or_false, Bool.false_eq_true, if_false] at hne ⊢
   have hne1 : absA L f 0 (i + 1) d ≠ .out := fun e => hne (by rw [e]; rfl)
   have hH := zH (fun w h => paExpr_any (w := w) (i := i + 1) (d := d) h H hd hne1)
   clear H
   cases hr : absA L f 0 (i + 1) d with
   | out => exact absurd hr hne1
   | bad j =>
    simp only [PR.bind]
    clear hne
    have hP := zH (h.alloc (.cells #[.int .i64 0, .int .i64 0, .slice none 0 0] 24 (0, 0))).1
    have hM := zH (h.alloc (.cells #[.int .i64 0, .int .i64 0, .slice none 0 0] 24 (0, 0))).2
    have hN := zH (nblk_new w 0 0 none 0 0)
    obtain ⟨gb, hgb⟩ : ∃ gb, w.heap.size = gb := ⟨_, rfl⟩
    have hz : (w.alloc (.cells #[.int .i64 0, .int .i64 0, .slice none 0 0] 24 (0, 0))).heap.size = gb + 1 := by simp [hgb]
    have hgl : g < gb := by have := h.lt; omega
    rw [hgb] at hN
    obtain ⟨W1, hq_W1⟩ : ∃ W1, w.alloc (.cells #[.int .i64 0, .int .i64 0, .slice none 0 0] 24 (0, 0)) = W1 := ⟨_, rfl⟩
    rw [hq_W1] at hP hM hN hz
    replace hz := And.intro (Nat.le_of_eq hz) (Nat.le_of_eq hz.symm)
    replace h := zH h
    go_enter Tryz.func141, Tryz.ntmps141
    go_wp2_with fail
    clear hq_W1
    refine (paNext_any (uH hP) hi).mono ?_
    rintro e W2 ⟨rfl, h2, hm⟩
    replace hN := zH ((uH hN).mop (uH hP) hm)
    have hzz := hm.size
    replace hM := zH ((uH hM).trans hm)
    replace hP := zH h2
    clear hm h2
    obtain ⟨b1, hq_b1⟩ : ∃ x, W2.heap.size = x := ⟨_, rfl⟩
    have hB := zH (nblk_new W2 16 i none 0 0)
    have hm := mop_below (g := g) (below_alloc W2 (.cells #[.int .i64 16, .int .i64 i, .slice none 0 0] 24 (0, 0)))
    have h2 := (uH hP).below (below_alloc W2 (.cells #[.int .i64 16, .int .i64 i, .slice none 0 0] 24 (0, 0)))
    have hzs : (W2.alloc (.cells #[.int .i64 16, .int .i64 i, .slice none 0 0] 24 (0, 0))).heap.size = b1 + 1 := by simp [hq_b1]
    obtain ⟨W3, hq_W3⟩ : ∃ x, W2.alloc (.cells #[.int .i64 16, .int .i64 i, .slice none 0 0] 24 (0, 0)) = x := ⟨_, rfl⟩
    rw [hq_W3] at hB hm h2 hzs
    replace hzs := And.intro (Nat.le_of_eq hzs) (Nat.le_of_eq hzs.symm)
    rw [hq_b1] at hB
    replace hq_W3 := zH hq_W3
    replace hN := zH ((uH hN).mop (uH hP) hm)
    have hzz := hm.size
    replace hM := zH ((uH hM).trans hm)
    replace hP := zH h2
    clear hm h2
    go_wp2_with fail
    rw [uH hq_W3]
    clear hq_W3
    have hK := paIsKind_any (uH hP) 6
    rw [hk] at hK
    refine (hK).mono ?_
    rintro e W4 ⟨rfl, hb⟩
    have h2 := (uH hP).below hb
    have hm := mop_below (g := g) hb
    clear hb
    replace hN := zH ((uH hN).mop (uH hP) hm)
    replace hB := zH ((uH hB).mop (uH hP) hm)
    have hzz := hm.size
    replace hM := zH ((uH hM).trans hm)
    replace hP := zH h2
    clear hm h2
    go_wp2_with fail
    refine (paOp_any _ _).mono ?_
    rintro e W5 ⟨rfl, hb⟩
    have h2 := (uH hP).below hb
    have hm := mop_below (g := g) hb
    clear hb
    replace hN := zH ((uH hN).mop (uH hP) hm)
    replace hB := zH ((uH hB).mop (uH hP) hm)
    have hzz := hm.size
    replace hM := zH ((uH hM).trans hm)
    replace hP := zH h2
    clear hm h2
    go_wp2_with fail
    have hK := paIs_any (uH hP) (opT [125])
    rw [eqB_op, ho] at hK
    refine (hK).mono ?_
    rintro e W6 ⟨rfl, hb⟩
    have h2 := (uH hP).below hb
    have hm := mop_below (g := g) hb
    clear hb
    replace hN := zH ((uH hN).mop (uH hP) hm)
    replace hB := zH ((uH hB).mop (uH hP) hm)
    have hzz := hm.size
    replace hM := zH ((uH hM).trans hm)
    replace hP := zH h2
    clear hm h2
    go_wp2_with fail
    have hC := uH hH _ (uH hP)
    rw [hr] at hC
    refine (hC).mono ?_
    rintro e W7 hBad
    obtain rfl := hBad.1
    have hG := zH (hBad.pre (uH hM))
    clear hBad
    go_wp2
    exact ⟨rfl, uH hG⟩
   | ok n j =>
    obtain ⟨nk, nt, nc⟩ := n
    simp only [PR.bind, one]
    clear hne
    have hP := zH (h.alloc (.cells #[.int .i64 0, .int .i64 0, .slice none 0 0] 24 (0, 0))).1
    have hM := zH (h.alloc (.cells #[.int .i64 0, .int .i64 0, .slice none 0 0] 24 (0, 0))).2
    have hN := zH (nblk_new w 0 0 none 0 0)
    obtain ⟨gb, hgb⟩ : ∃ gb, w.heap.size = gb := ⟨_, rfl⟩
    have hz : (w.alloc (.cells #[.int .i64 0, .int .i64 0, .slice none 0 0] 24 (0, 0))).heap.size = gb + 1 := by simp [hgb]
    have hgl : g < gb := by have := h.lt; omega
    rw [hgb] at hN
    obtain ⟨W1, hq_W1⟩ : ∃ W1, w.alloc (.cells #[.int .i64 0, .int .i64 0, .slice none 0 0] 24 (0, 0)) = W1 := ⟨_, rfl⟩
    rw [hq_W1] at hP hM hN hz
    replace hz := And.intro (Nat.le_of_eq hz) (Nat.le_of_eq hz.symm)
    replace h := zH h
    go_enter Tryz.func141, Tryz.ntmps141
    go_wp2_with fail
    clear hq_W1
    refine (paNext_any (uH hP) hi).mono ?_
    rintro e W2 ⟨rfl, h2, hm⟩
    replace hN := zH ((uH hN).mop (uH hP) hm)
    have hzz := hm.size
    replace hM := zH ((uH hM).trans hm)
    replace hP := zH h2
    clear hm h2
    obtain ⟨b1, hq_b1⟩ : ∃ x, W2.heap.size = x := ⟨_, rfl⟩
    have hB := zH (nblk_new W2 16 i none 0 0)
    have hm := mop_below (g := g) (below_alloc W2 (.cells #[.int .i64 16, .int .i64 i, .slice none 0 0] 24 (0, 0)))
    have h2 := (uH hP).below (below_alloc W2 (.cells #[.int .i64 16, .int .i64 i, .slice none 0 0] 24 (0, 0)))
    have hzs : (W2.alloc (.cells #[.int .i64 16, .int .i64 i, .slice none 0 0] 24 (0, 0))).heap.size = b1 + 1 := by simp [hq_b1]
    obtain ⟨W3, hq_W3⟩ : ∃ x, W2.alloc (.cells #[.int .i64 16, .int .i64 i, .slice none 0 0] 24 (0, 0)) = x := ⟨_, rfl⟩
    rw [hq_W3] at hB hm h2 hzs
    replace hzs := And.intro (Nat.le_of_eq hzs) (Nat.le_of_eq hzs.symm)
    rw [hq_b1] at hB
    replace hq_W3 := zH hq_W3
    replace hN := zH ((uH hN).mop (uH hP) hm)
    have hzz := hm.size
    replace hM := zH ((uH hM).trans hm)
    replace hP := zH h2
    clear hm h2
    go_wp2_with fail
    rw [uH hq_W3]
    clear hq_W3
    have hK := paIsKind_any (uH hP) 6
    rw [hk] at hK
    refine (hK).mono ?_
    rintro e W4 ⟨rfl, hb⟩
    have h2 := (uH hP).below hb
    have hm := mop_below (g := g) hb
    clear hb
    replace hN := zH ((uH hN).mop (uH hP) hm)
    replace hB := zH ((uH hB).mop (uH hP) hm)
    have hzz := hm.size
    replace hM := zH ((uH hM).trans hm)
    replace hP := zH h2
    clear hm h2
    go_wp2_with fail
    refine (paOp_any _ _).mono ?_
    rintro e W5 ⟨rfl, hb⟩
    have h2 := (uH hP).below hb
    have hm := mop_below (g := g) hb
    clear hb
    replace hN := zH ((uH hN).mop (uH hP) hm)
    replace hB := zH ((uH hB).mop (uH hP) hm)
    have hzz := hm.size
    replace hM := zH ((uH hM).trans hm)
    replace hP := zH h2
    clear hm h2
    go_wp2_with fail
    have hK := paIs_any (uH hP) (opT [125])
    rw [eqB_op, ho] at hK
    refine (hK).mono ?_
    rintro e W6 ⟨rfl, hb⟩
    have h2 := (uH hP).below hb
    have hm := mop_below (g := g) hb
    clear hb
    replace hN := zH ((uH hN).mop (uH hP) hm)
    replace hB := zH ((uH hB).mop (uH hP) hm)
    have hzz := hm.size
    replace hM := zH ((uH hM).trans hm)
    replace hP := zH h2
    clear hm h2
    go_wp2_with fail
    have hC := uH hH _ (uH hP)
    rw [hr] at hC
    refine (hC).mono ?_
    rintro e W7 ⟨a2, m2, c2, rfl, hs, h2, hm⟩
    have hzs := hm.size
    have hs2 := zH (hs.mono (P' := fun x => gb < x ∧ x < W7.heap.size ∧ x ≠ b1) (fun x hx => by have := (uH hN).lt; have := (uH hB).lt; have e1 := hx.1; have e2 := hx.lt; exact ⟨by omega, by omega, by omega⟩))
    clear hs
    replace hN := zH ((uH hN).mop (uH hP) hm)
    replace hB := zH ((uH hB).mop (uH hP) hm)
    have hzz := hm.size
    replace hM := zH ((uH hM).trans hm)
    replace hP := zH h2
    clear hm h2
    dsimp only at hs2 ⊢
    obtain ⟨p0_hB, p1_hB, p2_hB⟩ := (uH hB).box
    have f0_hB := (uH hB).frozen 0
    have f1_hB := (uH hB).frozen 1
    have f2_hB := (uH hB).frozen 2
    obtain ⟨b3, hq_b3⟩ : ∃ x, W7.heap.size = x := ⟨_, rfl⟩
    have hzz : (W7.alloc (.cells #[.int .i64 nk, .int .i64 nt, .slice a2 m2 c2] 24 (0, 0))).heap.size = b3 + 1 := by simp [hq_b3]
    have hm := mop_below (g := g) (below_alloc W7 (.cells #[.int .i64 nk, .int .i64 nt, .slice a2 m2 c2] 24 (0, 0)))
    have h2 := (uH hP).below (below_alloc W7 (.cells #[.int .i64 nk, .int .i64 nt, .slice a2 m2 c2] 24 (0, 0)))
    have hs3 := lit1_sl (P := fun x => gb < x ∧ x < b3 + 1 ∧ x ≠ b1) W7 nk nt a2 m2 c2 nc ((uH hs2).mono (fun x hx => by have e1 := hx.1; have e2 := hx.lt; exact ⟨by omega, by omega, by omega⟩)) ⟨by omega, by omega, (by have := (uH hN).lt; have := (uH hB).lt; omega)⟩
    rw [hq_b3] at hs3
    obtain ⟨W8, hq_W8⟩ : ∃ x, W7.alloc (.cells #[.int .i64 nk, .int .i64 nt, .slice a2 m2 c2] 24 (0, 0)) = x := ⟨_, rfl⟩
    rw [hq_W8] at hs3 hm h2 hzz
    rw [← hzz] at hs3
    replace hzz := And.intro (Nat.le_of_eq hzz) (Nat.le_of_eq hzz.symm)
    replace hs3 := zH hs3
    replace hN := zH ((uH hN).mop (uH hP) hm)
    replace hB := zH ((uH hB).mop (uH hP) hm)
    have hzz := hm.size
    replace hM := zH ((uH hM).trans hm)
    replace hP := zH h2
    clear hm h2
    obtain ⟨p0_hB, p1_hB, p2_hB⟩ := (uH hB).box
    have f0_hB := (uH hB).frozen 0
    have f1_hB := (uH hB).frozen 1
    have f2_hB := (uH hB).frozen 2
    obtain ⟨h2, hM2, hB2, hh⟩ := kid_set (uH hP) (uH hM) (uH hB) (by omega) (some ⟨b3, 0, none⟩) 1 1
    have hzz : (W8.setCell ⟨b1, 2, none⟩ (.slice (some ⟨b3, 0, none⟩) 1 1)).heap.size = W8.heap.size := by simp
    obtain ⟨W9, hq_W9⟩ : ∃ x, W8.setCell ⟨b1, 2, none⟩ (.slice (some ⟨b3, 0, none⟩) 1 1) = x := ⟨_, rfl⟩
    rw [hq_W9] at h2 hM2 hB2 hh hzz
    replace hzz := And.intro (Nat.le_of_eq hzz) (Nat.le_of_eq hzz.symm)
    replace hN := zH ((uH hN).same (hh _ (by omega)))
    replace hs3 := zH ((uH hs3).keep (w' := W9) (fun x hx => hh x (by have e1 := hx.1; omega)))
    replace hB := zH hB2
    replace hM := zH hM2
    replace hP := zH h2
    clear hB2 hM2 h2 hh
    obtain ⟨p0_hB, p1_hB, p2_hB⟩ := (uH hB).box
    have f0_hB := (uH hB).frozen 0
    have f1_hB := (uH hB).frozen 1
    have f2_hB := (uH hB).frozen 2
    obtain ⟨p0_hN, p1_hN, p2_hN⟩ := (uH hN).box
    have f0_hN := (uH hN).frozen 0
    have f1_hN := (uH hN).frozen 1
    have f2_hN := (uH hN).frozen 2
    have hF := zH (res_fin (k := 16) (t := i) (a := some ⟨b3, 0, none⟩) (m := 1) (c := 1) (f := .cons nk nt nc .nil) (B := gb) (w := w) (Nat.le_refl gb) (by omega) (uH hN) ((uH hs3).mono (fun x hx => by have e1 := hx.1; exact ⟨by omega, by omega⟩)) (uH hP) (uH hM))
    go_wp2
    obtain ⟨q1, q2, q3, q4⟩ := uH hF
    obtain ⟨u0, u1, u2⟩ := q1.box
    refine bodyPost_ret (v := .agg #[.int .i64 (16), .int .i64 (i), .slice (some ⟨b3, 0, none⟩) (1) (1)]) (by simp [results, Tryz.results141, go_sem, u0, u1, u2]) rfl ?_
    exact ⟨_, _, _, rfl, (by first | exact q2 | (rw [hgb]; exact q2)), q3, q4⟩
set_option maxHeartbeats 4000000 in
set_option maxRecDepth 100000 in
theorem paConstant_any {g : Nat} {tv : Value} {L : List Tk} {i d : Nat} {w : World} (h : PaW g tv L i d w) {f : Nat} (H : ExA g tv L f) (hd : d ≤ 40) (hne : conA L f i d ≠ .out) : Calls Tryz.prog 89 #[.pointer (some ⟨g, 0, none⟩)] w fun e w' => ResN w.heap.size g tv L d w (conA L f i d) e w' := by
 unfold conA at hne ⊢
 cases h1 : knd L i 1 with
 | false =>
  simp only [leafA, h1, PR.bind, Bool.false_eq_true, if_false]
  clear H hne
  have hP := zH (h.alloc (.cells #[.int .i64 0, .int .i64 0, .slice none 0 0] 24 (0, 0))).1
  have hM := zH (h.alloc (.cells #[.int .i64 0, .int .i64 0, .slice none 0 0] 24 (0, 0))).2
  have hN := zH (nblk_new w 0 0 none 0 0)
  obtain ⟨gb, hgb⟩ : ∃ gb, w.heap.size = gb := ⟨_, rfl⟩
  have hz : (w.alloc (.cells #[.int .i64 0, .int .i64 0, .slice none 0 0] 24 (0, 0))).heap.size = gb + 1 := by simp [hgb]
  have hgl : g < gb := by have := h.lt; omega
  rw [hgb] at hN
  obtain ⟨W1, hq_W1⟩ : ∃ W1, w.alloc (.cells #[.int .i64 0, .int .i64 0, .slice none 0 0] 24 (0, 0)) = W1 := ⟨_, rfl⟩
  rw [hq_W1] at hP hM hN hz
  replace hz := And.intro (Nat.le_of_eq hz) (Nat.le_of_eq hz.symm)
  replace h := zH h
  go_enter Tryz.func89, Tryz.ntmps89
  go_wp2_with fail
  clear hq_W1
  refine (paNamed_no (uH hP) 5 h1).mono ?_
  rintro e W2 hBad
  obtain rfl := hBad.1
  have hG := zH (hBad.pre (uH hM))
  clear hBad
  go_wp2
  exact ⟨rfl, uH hG⟩
 | true =>
  simp only [leafA, h1, PR.bind, if_true, wantA] at hne ⊢
  cases ho : opA L (i + 1) [61] with
  | false =>
   simp only [Bool.false_eq_true, if_false]
   clear H hne
   have hP := zH (h.alloc (.cells #[.int .i64 0, .int .i64 0, .slice none 0 0] 24 (0, 0))).1
   have hM := zH (h.alloc (.cells #[.int .i64 0, .int .i64 0, .slice none 0 0] 24 (0, 0))).2
   have hN := zH (nblk_new w 0 0 none 0 0)
   obtain ⟨gb, hgb⟩ : ∃ gb, w.heap.size = gb := ⟨_, rfl⟩
   have hz : (w.alloc (.cells #[.int .i64 0, .int .i64 0, .slice none 0 0] 24 (0, 0))).heap.size = gb + 1 := by simp [hgb]
   have hgl : g < gb := by have := h.lt; omega
   rw [hgb] at hN
   obtain ⟨W1, hq_W1⟩ : ∃ W1, w.alloc (.cells #[.int .i64 0, .int .i64 0, .slice none 0 0] 24 (0, 0)) = W1 := ⟨_, rfl⟩
   rw [hq_W1] at hP hM hN hz
   replace hz := And.intro (Nat.le_of_eq hz) (Nat.le_of_eq hz.symm)
   replace h := zH h
   go_enter Tryz.func89, Tryz.ntmps89
   go_wp2_with fail
   clear hq_W1
   refine (paNamed_yes (uH hP) 5 h1).mono ?_
   rintro e W2 ⟨a1, m1, c1, rfl, hs, h2, hm⟩
   have hzs := hm.size
   have hs1 := zH (hs.mono (P' := fun x => gb < x ∧ x < W2.heap.size) (fun x hx => by have := (uH hN).lt; have e1 := hx.1; have e2 := hx.lt; exact ⟨by omega, by omega⟩))
   clear hs
   replace hN := zH ((uH hN).mop (uH hP) hm)
   have hzz := hm.size
   replace hM := zH ((uH hM).trans hm)
   replace hP := zH h2
   clear hm h2
   dsimp only at hs1 ⊢
   obtain rfl := sl_empty (uH hs1)
   obtain ⟨b1, hq_b1⟩ : ∃ x, W2.heap.size = x := ⟨_, rfl⟩
   have hB := zH (nblk_new W2 5 i a1 0 c1)
   have hm := mop_below (g := g) (below_alloc W2 (.cells #[.int .i64 5, .int .i64 i, .slice a1 0 c1] 24 (0, 0)))
   have h2 := (uH hP).below (below_alloc W2 (.cells #[.int .i64 5, .int .i64 i, .slice a1 0 c1] 24 (0, 0)))
   have hzs : (W2.alloc (.cells #[.int .i64 5, .int .i64 i, .slice a1 0 c1] 24 (0, 0))).heap.size = b1 + 1 := by simp [hq_b1]
   obtain ⟨W3, hq_W3⟩ : ∃ x, W2.alloc (.cells #[.int .i64 5, .int .i64 i, .slice a1 0 c1] 24 (0, 0)) = x := ⟨_, rfl⟩
   rw [hq_W3] at hB hm h2 hzs
   replace hzs := And.intro (Nat.le_of_eq hzs) (Nat.le_of_eq hzs.symm)
   rw [hq_b1] at hB
   replace hq_W3 := zH hq_W3
   replace hN := zH ((uH hN).mop (uH hP) hm)
   replace hs1 := zH ((uH hs1).mop (uH hP) hm)
   have hzz := hm.size
   replace hM := zH ((uH hM).trans hm)
   replace hP := zH h2
   clear hm h2
   go_wp2_with fail
   rw [uH hq_W3]
   clear hq_W3
   refine (paOp_any _ _).mono ?_
   rintro e W4 ⟨rfl, hb⟩
   have h2 := (uH hP).below hb
   have hm := mop_below (g := g) hb
   clear hb
   replace hN := zH ((uH hN).mop (uH hP) hm)
   replace hB := zH ((uH hB).mop (uH hP) hm)
   replace hs1 := zH ((uH hs1).mop (uH hP) hm)
   have hzz := hm.size
   replace hM := zH ((uH hM).trans hm)
   replace hP := zH h2
   clear hm h2
   go_wp2_with fail
   refine (paWant_no (uH hP) (opT [61]) (by rw [eqB_op]; exact ho)).mono ?_
   rintro e W5 hBad
   obtain rfl := hBad.1
   have hG := zH (hBad.pre (uH hM))
   clear hBad
   go_wp2
   exact ⟨rfl, uH hG⟩
  | true =>
   simp only [ho, if_true] at hne ⊢
   have hne1 : absA L f 0 (i + 1 + 1) d ≠ .out := fun e => hne (by rw [e])
   have hH := zH (fun w h => paExpr_any (w := w) (i := i + 1 + 1) (d := d) h H hd hne1)
   clear H hne
   cases hr : absA L f 0 (i + 1 + 1) d with
   | out => exact absurd hr hne1
   | bad j =>
    dsimp only
    have hP := zH (h.alloc (.cells #[.int .i64 0, .int .i64 0, .slice none 0 0] 24 (0, 0))).1
    have hM := zH (h.alloc (.cells #[.int .i64 0, .int .i64 0, .slice none 0 0] 24 (0, 0))).2
    have hN := zH (nblk_new w 0 0 none 0 0)
    obtain ⟨gb, hgb⟩ : ∃ gb, w.heap.size = gb := ⟨_, rfl⟩
    have hz : (w.alloc (.cells #[.int .i64 0, .int .i64 0, .slice none 0 0] 24 (0, 0))).heap.size = gb + 1 := by simp [hgb]
    have hgl : g < gb := by have := h.lt; omega
    rw [hgb] at hN
    obtain ⟨W1, hq_W1⟩ : ∃ W1, w.alloc (.cells #[.int .i64 0, .int .i64 0, .slice none 0 0] 24 (0, 0)) = W1 := ⟨_, rfl⟩
    rw [hq_W1] at hP hM hN hz
    replace hz := And.intro (Nat.le_of_eq hz) (Nat.le_of_eq hz.symm)
    replace h := zH h
    go_enter Tryz.func89, Tryz.ntmps89
    go_wp2_with fail
    clear hq_W1
    refine (paNamed_yes (uH hP) 5 h1).mono ?_
    rintro e W2 ⟨a1, m1, c1, rfl, hs, h2, hm⟩
    have hzs := hm.size
    have hs1 := zH (hs.mono (P' := fun x => gb < x ∧ x < W2.heap.size) (fun x hx => by have := (uH hN).lt; have e1 := hx.1; have e2 := hx.lt; exact ⟨by omega, by omega⟩))
    clear hs
    replace hN := zH ((uH hN).mop (uH hP) hm)
    have hzz := hm.size
    replace hM := zH ((uH hM).trans hm)
    replace hP := zH h2
    clear hm h2
    dsimp only at hs1 ⊢
    obtain rfl := sl_empty (uH hs1)
    obtain ⟨b1, hq_b1⟩ : ∃ x, W2.heap.size = x := ⟨_, rfl⟩
    have hB := zH (nblk_new W2 5 i a1 0 c1)
    have hm := mop_below (g := g) (below_alloc W2 (.cells #[.int .i64 5, .int .i64 i, .slice a1 0 c1] 24 (0, 0)))
    have h2 := (uH hP).below (below_alloc W2 (.cells #[.int .i64 5, .int .i64 i, .slice a1 0 c1] 24 (0, 0)))
    have hzs : (W2.alloc (.cells #[.int .i64 5, .int .i64 i, .slice a1 0 c1] 24 (0, 0))).heap.size = b1 + 1 := by simp [hq_b1]
    obtain ⟨W3, hq_W3⟩ : ∃ x, W2.alloc (.cells #[.int .i64 5, .int .i64 i, .slice a1 0 c1] 24 (0, 0)) = x := ⟨_, rfl⟩
    rw [hq_W3] at hB hm h2 hzs
    replace hzs := And.intro (Nat.le_of_eq hzs) (Nat.le_of_eq hzs.symm)
    rw [hq_b1] at hB
    replace hq_W3 := zH hq_W3
    replace hN := zH ((uH hN).mop (uH hP) hm)
    replace hs1 := zH ((uH hs1).mop (uH hP) hm)
    have hzz := hm.size
    replace hM := zH ((uH hM).trans hm)
    replace hP := zH h2
    clear hm h2
    go_wp2_with fail
    rw [uH hq_W3]
    clear hq_W3
    refine (paOp_any _ _).mono ?_
    rintro e W4 ⟨rfl, hb⟩
    have h2 := (uH hP).below hb
    have hm := mop_below (g := g) hb
    clear hb
    replace hN := zH ((uH hN).mop (uH hP) hm)
    replace hB := zH ((uH hB).mop (uH hP) hm)
    replace hs1 := zH ((uH hs1).mop (uH hP) hm)
    have hzz := hm.size
    replace hM := zH ((uH hM).trans hm)
    replace hP := zH h2
    clear hm h2
    go_wp2_with fail
    refine (paWant_yes (uH hP) (opT [61]) (by rw [eqB_op]; exact ho) (opA_lt ho)).mono ?_
    rintro e W5 ⟨rfl, h2, hm⟩
    replace hN := zH ((uH hN).mop (uH hP) hm)
    replace hB := zH ((uH hB).mop (uH hP) hm)
    replace hs1 := zH ((uH hs1).mop (uH hP) hm)
    have hzz := hm.size
    replace hM := zH ((uH hM).trans hm)
    replace hP := zH h2
    clear hm h2
    go_wp2_with fail
    have hC := uH hH _ (uH hP)
    rw [hr] at hC
    refine (hC).mono ?_
    rintro e W6 hBad
    obtain rfl := hBad.1
    have hG := zH (hBad.pre (uH hM))
    clear hBad
    go_wp2
    exact ⟨rfl, uH hG⟩
   | ok n j =>
    obtain ⟨nk, nt, nc⟩ := n
    simp only [one]
    have hP := zH (h.alloc (.cells #[.int .i64 0, .int .i64 0, .slice none 0 0] 24 (0, 0))).1
    have hM := zH (h.alloc (.cells #[.int .i64 0, .int .i64 0, .slice none 0 0] 24 (0, 0))).2
    have hN := zH (nblk_new w 0 0 none 0 0)
    obtain ⟨gb, hgb⟩ : ∃ gb, w.heap.size = gb := ⟨_, rfl⟩
    have hz : (w.alloc (.cells #[.int .i64 0, .int .i64 0, .slice none 0 0] 24 (0, 0))).heap.size = gb + 1 := by simp [hgb]
    have hgl : g < gb := by have := h.lt; omega
    rw [hgb] at hN
    obtain ⟨W1, hq_W1⟩ : ∃ W1, w.alloc (.cells #[.int .i64 0, .int .i64 0, .slice none 0 0] 24 (0, 0)) = W1 := ⟨_, rfl⟩
    rw [hq_W1] at hP hM hN hz
    replace hz := And.intro (Nat.le_of_eq hz) (Nat.le_of_eq hz.symm)
    replace h := zH h
    go_enter Tryz.func89, Tryz.ntmps89
    go_wp2_with fail
    clear hq_W1
    refine (paNamed_yes (uH hP) 5 h1).mono ?_
    rintro e W2 ⟨a1, m1, c1, rfl, hs, h2, hm⟩
    have hzs := hm.size
    have hs1 := zH (hs.mono (P' := fun x => gb < x ∧ x < W2.heap.size) (fun x hx => by have := (uH hN).lt; have e1 := hx.1; have e2 := hx.lt; exact ⟨by omega, by omega⟩))
    clear hs
    replace hN := zH ((uH hN).mop (uH hP) hm)
    have hzz := hm.size
    replace hM := zH ((uH hM).trans hm)
    replace hP := zH h2
    clear hm h2
    dsimp only at hs1 ⊢
    obtain rfl := sl_empty (uH hs1)
    obtain ⟨b1, hq_b1⟩ : ∃ x, W2.heap.size = x := ⟨_, rfl⟩
    have hB := zH (nblk_new W2 5 i a1 0 c1)
    have hm := mop_below (g := g) (below_alloc W2 (.cells #[.int .i64 5, .int .i64 i, .slice a1 0 c1] 24 (0, 0)))
    have h2 := (uH hP).below (below_alloc W2 (.cells #[.int .i64 5, .int .i64 i, .slice a1 0 c1] 24 (0, 0)))
    have hzs : (W2.alloc (.cells #[.int .i64 5, .int .i64 i, .slice a1 0 c1] 24 (0, 0))).heap.size = b1 + 1 := by simp [hq_b1]
    obtain ⟨W3, hq_W3⟩ : ∃ x, W2.alloc (.cells #[.int .i64 5, .int .i64 i, .slice a1 0 c1] 24 (0, 0)) = x := ⟨_, rfl⟩
    rw [hq_W3] at hB hm h2 hzs
    replace hzs := And.intro (Nat.le_of_eq hzs) (Nat.le_of_eq hzs.symm)
    rw [hq_b1] at hB
    replace hq_W3 := zH hq_W3
    replace hN := zH ((uH hN).mop (uH hP) hm)
    replace hs1 := zH ((uH hs1).mop (uH hP) hm)
    have hzz := hm.size
    replace hM := zH ((uH hM).trans hm)
    replace hP := zH h2
    clear hm h2
    go_wp2_with fail
    rw [uH hq_W3]
    clear hq_W3
    refine (paOp_any _ _).mono ?_
    rintro e W4 ⟨rfl, hb⟩
    have h2 := (uH hP).below hb
    have hm := mop_below (g := g) hb
    clear hb
    replace hN := zH ((uH hN).mop (uH hP) hm)
    replace hB := zH ((uH hB).mop (uH hP) hm)
    replace hs1 := zH ((uH hs1).mop (uH hP) hm)
    have hzz := hm.size
    replace hM := zH ((uH hM).trans hm)
    replace hP := zH h2
    clear hm h2
    go_wp2_with fail
    refine (paWant_yes (uH hP) (opT [61]) (by rw [eqB_op]; exact ho) (opA_lt ho)).mono ?_
    rintro e W5 ⟨rfl, h2, hm⟩
    replace hN := zH ((uH hN).mop (uH hP) hm)
    replace hB := zH ((uH hB).mop (uH hP) hm)
    replace hs1 := zH ((uH hs1).mop (uH hP) hm)
    have hzz := hm.size
    replace hM := zH ((uH hM).trans hm)
    replace hP := zH h2
    clear hm h2
    go_wp2_with fail
    have hC := uH hH _ (uH hP)
    rw [hr] at hC
    refine (hC).mono ?_
    rintro e W6 ⟨a2, m2, c2, rfl, hs, h2, hm⟩
    have hzs := hm.size
    have hs2 := zH (hs.mono (P' := fun x => gb < x ∧ x < W6.heap.size ∧ x ≠ b1) (fun x hx => by have := (uH hN).lt; have := (uH hB).lt; have e1 := hx.1; have e2 := hx.lt; exact ⟨by omega, by omega, by omega⟩))
    clear hs
    replace hN := zH ((uH hN).mop (uH hP) hm)
    replace hB := zH ((uH hB).mop (uH hP) hm)
    replace hs1 := zH ((uH hs1).mop (uH hP) hm)
    have hzz := hm.size
    replace hM := zH ((uH hM).trans hm)
    replace hP := zH h2
    clear hm h2
    dsimp only at hs2 ⊢
    obtain ⟨p0_hB, p1_hB, p2_hB⟩ := (uH hB).box
    have f0_hB := (uH hB).frozen 0
    have f1_hB := (uH hB).frozen 1
    have f2_hB := (uH hB).frozen 2
    obtain ⟨b3, hq_b3⟩ : ∃ x, W6.heap.size = x := ⟨_, rfl⟩
    have hzz : (W6.alloc (.cells #[.int .i64 nk, .int .i64 nt, .slice a2 m2 c2] 24 (0, 0))).heap.size = b3 + 1 := by simp [hq_b3]
    have hm := mop_below (g := g) (below_alloc W6 (.cells #[.int .i64 nk, .int .i64 nt, .slice a2 m2 c2] 24 (0, 0)))
    have h2 := (uH hP).below (below_alloc W6 (.cells #[.int .i64 nk, .int .i64 nt, .slice a2 m2 c2] 24 (0, 0)))
    have hs3 := lit1_sl (P := fun x => gb < x ∧ x < b3 + 1 ∧ x ≠ b1) W6 nk nt a2 m2 c2 nc ((uH hs2).mono (fun x hx => by have e1 := hx.1; have e2 := hx.lt; exact ⟨by omega, by omega, by omega⟩)) ⟨by omega, by omega, (by have := (uH hN).lt; have := (uH hB).lt; omega)⟩
    rw [hq_b3] at hs3
    obtain ⟨W7, hq_W7⟩ : ∃ x, W6.alloc (.cells #[.int .i64 nk, .int .i64 nt, .slice a2 m2 c2] 24 (0, 0)) = x := ⟨_, rfl⟩
    rw [hq_W7] at hs3 hm h2 hzz
    rw [← hzz] at hs3
    replace hzz := And.intro (Nat.le_of_eq hzz) (Nat.le_of_eq hzz.symm)
    replace hs3 := zH hs3
    replace hN := zH ((uH hN).mop (uH hP) hm)
    replace hB := zH ((uH hB).mop (uH hP) hm)
    replace hs1 := zH ((uH hs1).mop (uH hP) hm)
    have hzz := hm.size
    replace hM := zH ((uH hM).trans hm)
    replace hP := zH h2
    clear hm h2
    obtain ⟨p0_hB, p1_hB, p2_hB⟩ := (uH hB).box
    have f0_hB := (uH hB).frozen 0
    have f1_hB := (uH hB).frozen 1
    have f2_hB := (uH hB).frozen 2
    obtain ⟨h2, hM2, hB2, hh⟩ := kid_set (uH hP) (uH hM) (uH hB) (by omega) (some ⟨b3, 0, none⟩) 1 1
    have hzz : (W7.setCell ⟨b1, 2, none⟩ (.slice (some ⟨b3, 0, none⟩) 1 1)).heap.size = W7.heap.size := by simp
    obtain ⟨W8, hq_W8⟩ : ∃ x, W7.setCell ⟨b1, 2, none⟩ (.slice (some ⟨b3, 0, none⟩) 1 1) = x := ⟨_, rfl⟩
    rw [hq_W8] at h2 hM2 hB2 hh hzz
    replace hzz := And.intro (Nat.le_of_eq hzz) (Nat.le_of_eq hzz.symm)
    replace hN := zH ((uH hN).same (hh _ (by omega)))
    replace hs1 := zH ((uH hs1).keep (w' := W8) (fun x hx => hh x (by have e1 := hx.1; omega)))
    replace hs3 := zH ((uH hs3).keep (w' := W8) (fun x hx => hh x (by have e1 := hx.1; omega)))
    replace hB := zH hB2
    replace hM := zH hM2
    replace hP := zH h2
    clear hB2 hM2 h2 hh
    obtain ⟨p0_hB, p1_hB, p2_hB⟩ := (uH hB).box
    have f0_hB := (uH hB).frozen 0
    have f1_hB := (uH hB).frozen 1
    have f2_hB := (uH hB).frozen 2
    obtain ⟨p0_hN, p1_hN, p2_hN⟩ := (uH hN).box
    have f0_hN := (uH hN).frozen 0
    have f1_hN := (uH hN).frozen 1
    have f2_hN := (uH hN).frozen 2
    have hF := zH (res_fin (k := 5) (t := i) (a := some ⟨b3, 0, none⟩) (m := 1) (c := 1) (f := .cons nk nt nc .nil) (B := gb) (w := w) (Nat.le_refl gb) (by omega) (uH hN) ((uH hs3).mono (fun x hx => by have e1 := hx.1; exact ⟨by omega, by omega⟩)) (uH hP) (uH hM))
    go_wp2
    obtain ⟨q1, q2, q3, q4⟩ := uH hF
    obtain ⟨u0, u1, u2⟩ := q1.box
    refine bodyPost_ret (v := .agg #[.int .i64 (5), .int .i64 (i), .slice (some ⟨b3, 0, none⟩) (1) (1)]) (by simp [results, Tryz.results89, go_sem, u0, u1, u2]) rfl ?_
    exact ⟨_, _, _, rfl, (by first | exact q2 | (rw [hgb]; exact q2)), q3, q4⟩
end Go.Proofs.YtiknnobgoamgcaaGreatDoor

/-
  1 texts in one.
-/
import Derived.Test.YtiknnobgoamgcaaGreatDoorB14
/-
  The parser: statements, all.
-/
namespace Go.Proofs.YtiknnobgoamgcaaGreatDoor
open Go.RowKit Go.Lib Go.Sort
set_option linter.unusedSimpArgs false
set_option linter.unusedVariables false
set_option maxHeartbeats 4000000 in
set_option maxRecDepth 100000 in
theorem paStatement_var {g : Nat} {tv : Value} {L : List Tk} {i d : Nat} {w : World} (h : PaW g tv L i d w) {R : PR Nd} (h0 : keyA L i [118, 97, 114] = true) (hH : Hid (∀ (w : World), PaW g tv L (i + 1) d w → Calls Tryz.prog 88 #[.pointer (some ⟨g, 0, none⟩)] w fun e w' => ResN w.heap.size g tv L d w R e w')) (hne : R ≠ .out) :
  Calls Tryz.prog 126 #[.pointer (some ⟨g, 0, none⟩)] w fun e w' => ResN w.heap.size g tv L d w R e w' := by
 generalize hr : R = r at hne ⊢
 cases r with
 | out => exact absurd rfl hne
 | bad j =>
  have hP := zH (h.alloc (.cells #[.int .i64 0, .int .i64 0, .slice none 0 0] 24 (0, 0))).1
  have hM := zH (h.alloc (.cells #[.int .i64 0, .int .i64 0, .slice none 0 0] 24 (0, 0))).2
  have hN := zH (nblk_new w 0 0 none 0 0)
  obtain ⟨gb, hgb⟩ : ∃ gb, w.heap.size = gb := ⟨_, rfl⟩
  have hz : (w.alloc (.cells #[.int .i64 0, .int .i64 0, .slice none 0 0] 24 (0, 0))).heap.size = gb + 1 := by simp [hgb]
  have hgl : g < gb := by have := h.lt; omega
  rw [hgb] at hN
  obtain ⟨W1, hq_W1⟩ : ∃ W1, w.alloc (.cells #[.int .i64 0, .int .i64 0, .slice none 0 0] 24 (0, 0)) = W1 := ⟨_, rfl⟩
  rw [hq_W1] at hP hM hN hz
  replace hz := And.intro (Nat.le_of_eq hz) (Nat.le_of_eq hz.symm)
  replace h := zH h
  go_enter Tryz.func126, Tryz.ntmps126
  go_wp2_with fail
  clear hq_W1
  refine (paKey_any _ _).mono ?_
  rintro e W2 ⟨rfl, hb⟩
  have h2 := (uH hP).below hb
  have hm := mop_below (g := g) hb
  clear hb
  replace hN := zH ((uH hN).mop (uH hP) hm)
  have hzz := hm.size
  replace hM := zH ((uH hM).trans hm)
  replace hP := zH h2
  clear hm h2
  go_wp2_with fail
  refine (paTake_yes (uH hP) (keyT [118, 97, 114]) (by rw [eqB_key]; exact h0) (keyA_lt h0)).mono ?_
  rintro e W3 ⟨rfl, h2, hm⟩
  replace hN := zH ((uH hN).mop (uH hP) hm)
  have hzz := hm.size
  replace hM := zH ((uH hM).trans hm)
  replace hP := zH h2
  clear hm h2
  go_wp2_with fail
  have hC := uH hH _ (uH hP)
  rw [hr] at hC
  refine (hC).mono ?_
  rintro e W4 hBad
  obtain rfl := hBad.1
  have hG := zH (hBad.pre (uH hM))
  clear hBad
  go_wp2
  exact ⟨rfl, uH hG⟩
 | ok n j =>
  obtain ⟨nk, nt, nc⟩ := n
  have hP := zH (h.alloc (.cells #[.int .i64 0, .int .i64 0, .slice none 0 0] 24 (0, 0))).1
  have hM := zH (h.alloc (.cells #[.int .i64 0, .int .i64 0, .slice none 0 0] 24 (0, 0))).2
  have hN := zH (nblk_new w 0 0 none 0 0)
  obtain ⟨gb, hgb⟩ : ∃ gb, w.heap.size = gb := ⟨_, rfl⟩
  have hz : (w.alloc (.cells #[.int .i64 0, .int .i64 0, .slice none 0 0] 24 (0, 0))).heap.size = gb + 1 := by simp [hgb]
  have hgl : g < gb := by have := h.lt; omega
  rw [hgb] at hN
  obtain ⟨W1, hq_W1⟩ : ∃ W1, w.alloc (.cells #[.int .i64 0, .int .i64 0, .slice none 0 0] 24 (0, 0)) = W1 := ⟨_, rfl⟩
  rw [hq_W1] at hP hM hN hz
  replace hz := And.intro (Nat.le_of_eq hz) (Nat.le_of_eq hz.symm)
  replace h := zH h
  go_enter Tryz.func126, Tryz.ntmps126
  go_wp2_with fail
  clear hq_W1
  refine (paKey_any _ _).mono ?_
  rintro e W2 ⟨rfl, hb⟩
  have h2 := (uH hP).below hb
  have hm := mop_below (g := g) hb
  clear hb
  replace hN := zH ((uH hN).mop (uH hP) hm)
  have hzz := hm.size
  replace hM := zH ((uH hM).trans hm)
  replace hP := zH h2
  clear hm h2
  go_wp2_with fail
  refine (paTake_yes (uH hP) (keyT [118, 97, 114]) (by rw [eqB_key]; exact h0) (keyA_lt h0)).mono ?_
  rintro e W3 ⟨rfl, h2, hm⟩
  replace hN := zH ((uH hN).mop (uH hP) hm)
  have hzz := hm.size
  replace hM := zH ((uH hM).trans hm)
  replace hP := zH h2
  clear hm h2
  go_wp2_with fail
  have hC := uH hH _ (uH hP)
  rw [hr] at hC
  refine (hC).mono ?_
  rintro e W4 ⟨a1, m1, c1, rfl, hs, h2, hm⟩
  have hzs := hm.size
  have hs1 := zH (hs.mono (P' := fun x => gb < x ∧ x < W4.heap.size) (fun x hx => by have := (uH hN).lt; have e1 := hx.1; have e2 := hx.lt; exact ⟨by omega, by omega⟩))
  clear hs
  replace hN := zH ((uH hN).mop (uH hP) hm)
  have hzz := hm.size
  replace hM := zH ((uH hM).trans hm)
  replace hP := zH h2
  clear hm h2
  dsimp only at hs1
  obtain ⟨p0_hN, p1_hN, p2_hN⟩ := (uH hN).box
  have f0_hN := (uH hN).frozen 0
  have f1_hN := (uH hN).frozen 1
  have f2_hN := (uH hN).frozen 2
  have hF := zH (res_fin (k := nk) (t := nt) (a := a1) (m := m1) (c := c1) (f := nc) (B := gb) (w := w) (Nat.le_refl gb) (by omega) (uH hN) ((uH hs1).mono (fun x hx => by have e1 := hx.1; exact ⟨by omega, by omega⟩)) (uH hP) (uH hM))
  go_wp2
  obtain ⟨q1, q2, q3, q4⟩ := uH hF
  obtain ⟨u0, u1, u2⟩ := q1.box
  refine bodyPost_ret (v := .agg #[.int .i64 (nk), .int .i64 (nt), .slice (a1) (m1) (c1)]) (by simp [results, Tryz.results126, go_sem, u0, u1, u2]) rfl ?_
  exact ⟨_, _, _, rfl, (by first | exact q2 | (rw [hgb]; exact q2)), q3, q4⟩
set_option maxHeartbeats 4000000 in
set_option maxRecDepth 100000 in
theorem paStatement_const {g : Nat} {tv : Value} {L : List Tk} {i d : Nat} {w : World} (h : PaW g tv L i d w) {R : PR Nd} (h0 : keyA L i [118, 97, 114] = false) (h1 : keyA L i [99, 111, 110, 115, 116] = true) (hH : Hid (∀ (w : World), PaW g tv L (i + 1) d w → Calls Tryz.prog 89 #[.pointer (some ⟨g, 0, none⟩)] w fun e w' => ResN w.heap.size g tv L d w R e w')) (hne : R ≠ .out) :
  Calls Tryz.prog 126 #[.pointer (some ⟨g, 0, none⟩)] w fun e w' => ResN w.heap.size g tv L d w R e w' := by
 generalize hr : R = r at hne ⊢
 cases r with
 | out => exact absurd rfl hne
 | bad j =>
  have hP := zH (h.alloc (.cells #[.int .i64 0, .int .i64 0, .slice none 0 0] 24 (0, 0))).1
  have hM := zH (h.alloc (.cells #[.int .i64 0, .int .i64 0, .slice none 0 0] 24 (0, 0))).2
  have hN := zH (nblk_new w 0 0 none 0 0)
  obtain ⟨gb, hgb⟩ : ∃ gb, w.heap.size = gb := ⟨_, rfl⟩
  have hz : (w.alloc (.cells #[.int .i64 0, .int .i64 0, .slice none 0 0] 24 (0, 0))).heap.size = gb + 1 := by simp [hgb]
  have hgl : g < gb := by have := h.lt; omega
  rw [hgb] at hN
  obtain ⟨W1, hq_W1⟩ : ∃ W1, w.alloc (.cells #[.int .i64 0, .int .i64 0, .slice none 0 0] 24 (0, 0)) = W1 := ⟨_, rfl⟩
  rw [hq_W1] at hP hM hN hz
  replace hz := And.intro (Nat.le_of_eq hz) (Nat.le_of_eq hz.symm)
  replace h := zH h
  go_enter Tryz.func126, Tryz.ntmps126
  go_wp2_with fail
  clear hq_W1
  refine (paKey_any _ _).mono ?_
  rintro e W2 ⟨rfl, hb⟩
  have h2 := (uH hP).below hb
  have hm := mop_below (g := g) hb
  clear hb
  replace hN := zH ((uH hN).mop (uH hP) hm)
  have hzz := hm.size
  replace hM := zH ((uH hM).trans hm)
  replace hP := zH h2
  clear hm h2
  go_wp2_with fail
  refine (paTake_no (uH hP) (keyT [118, 97, 114]) (by rw [eqB_key]; exact h0)).mono ?_
  rintro e W3 ⟨rfl, h2, hm⟩
  replace hN := zH ((uH hN).mop (uH hP) hm)
  have hzz := hm.size
  replace hM := zH ((uH hM).trans hm)
  replace hP := zH h2
  clear hm h2
  go_wp2_with fail
  refine (paKey_any _ _).mono ?_
  rintro e W4 ⟨rfl, hb⟩
  have h2 := (uH hP).below hb
  have hm := mop_below (g := g) hb
  clear hb
  replace hN := zH ((uH hN).mop (uH hP) hm)
  have hzz := hm.size
  replace hM := zH ((uH hM).trans hm)
  replace hP := zH h2
  clear hm h2
  go_wp2_with fail
  refine (paTake_yes (uH hP) (keyT [99, 111, 110, 115, 116]) (by rw [eqB_key]; exact h1) (keyA_lt h1)).mono ?_
  rintro e W5 ⟨rfl, h2, hm⟩
  replace hN := zH ((uH hN).mop (uH hP) hm)
  have hzz := hm.size
  replace hM := zH ((uH hM).trans hm)
  replace hP := zH h2
  clear hm h2
  go_wp2_with fail
  have hC := uH hH _ (uH hP)
  rw [hr] at hC
  refine (hC).mono ?_
  rintro e W6 hBad
  obtain rfl := hBad.1
  have hG := zH (hBad.pre (uH hM))
  clear hBad
  go_wp2
  exact ⟨rfl, uH hG⟩
 | ok n j =>
  obtain ⟨nk, nt, nc⟩ := n
  have hP := zH (h.alloc (.cells #[.int .i64 0, .int .i64 0, .slice none 0 0] 24 (0, 0))).1
  have hM := zH (h.alloc (.cells #[.int .i64 0, .int .i64 0, .slice none 0 0] 24 (0, 0))).2
  have hN := zH (nblk_new w 0 0 none 0 0)
  obtain ⟨gb, hgb⟩ : ∃ gb, w.heap.size = gb := ⟨_, rfl⟩
  have hz : (w.alloc (.cells #[.int .i64 0, .int .i64 0, .slice none 0 0] 24 (0, 0))).heap.size = gb + 1 := by simp [hgb]
  have hgl : g < gb := by have := h.lt; omega
  rw [hgb] at hN
  obtain ⟨W1, hq_W1⟩ : ∃ W1, w.alloc (.cells #[.int .i64 0, .int .i64 0, .slice none 0 0] 24 (0, 0)) = W1 := ⟨_, rfl⟩
  rw [hq_W1] at hP hM hN hz
  replace hz := And.intro (Nat.le_of_eq hz) (Nat.le_of_eq hz.symm)
  replace h := zH h
  go_enter Tryz.func126, Tryz.ntmps126
  go_wp2_with fail
  clear hq_W1
  refine (paKey_any _ _).mono ?_
  rintro e W2 ⟨rfl, hb⟩
  have h2 := (uH hP).below hb
  have hm := mop_below (g := g) hb
  clear hb
  replace hN := zH ((uH hN).mop (uH hP) hm)
  have hzz := hm.size
  replace hM := zH ((uH hM).trans hm)
  replace hP := zH h2
  clear hm h2
  go_wp2_with fail
  refine (paTake_no (uH hP) (keyT [118, 97, 114]) (by rw [eqB_key]; exact h0)).mono ?_
  rintro e W3 ⟨rfl, h2, hm⟩
  replace hN := zH ((uH hN).mop (uH hP) hm)
  have hzz := hm.size
  replace hM := zH ((uH hM).trans hm)
  replace hP := zH h2
  clear hm h2
  go_wp2_with fail
  refine (paKey_any _ _).mono ?_
  rintro e W4 ⟨rfl, hb⟩
  have h2 := (uH hP).below hb
  have hm := mop_below (g := g) hb
  clear hb
  replace hN := zH ((uH hN).mop (uH hP) hm)
  have hzz := hm.size
  replace hM := zH ((uH hM).trans hm)
  replace hP := zH h2
  clear hm h2
  go_wp2_with fail
  refine (paTake_yes (uH hP) (keyT [99, 111, 110, 115, 116]) (by rw [eqB_key]; exact h1) (keyA_lt h1)).mono ?_
  rintro e W5 ⟨rfl, h2, hm⟩
  replace hN := zH ((uH hN).mop (uH hP) hm)
  have hzz := hm.size
  replace hM := zH ((uH hM).trans hm)
  replace hP := zH h2
  clear hm h2
  go_wp2_with fail
  have hC := uH hH _ (uH hP)
  rw [hr] at hC
  refine (hC).mono ?_
  rintro e W6 ⟨a1, m1, c1, rfl, hs, h2, hm⟩
  have hzs := hm.size
  have hs1 := zH (hs.mono (P' := fun x => gb < x ∧ x < W6.heap.size) (fun x hx => by have := (uH hN).lt; have e1 := hx.1; have e2 := hx.lt; exact ⟨by omega, by omega⟩))
  clear hs
  replace hN := zH ((uH hN).mop (uH hP) hm)
  have hzz := hm.size
  replace hM := zH ((uH hM).trans hm)
  replace hP := zH h2
  clear hm h2
  dsimp only at hs1
  obtain ⟨p0_hN, p1_hN, p2_hN⟩ := (uH hN).box
  have f0_hN := (uH hN).frozen 0
  have f1_hN := (uH hN).frozen 1
  have f2_hN := (uH hN).frozen 2
  have hF := zH (res_fin (k := nk) (t := nt) (a := a1) (m := m1) (c := c1) (f := nc) (B := gb) (w := w) (Nat.le_refl gb) (by omega) (uH hN) ((uH hs1).mono (fun x hx => by have e1 := hx.1; exact ⟨by omega, by omega⟩)) (uH hP) (uH hM))
  go_wp2
  obtain ⟨q1, q2, q3, q4⟩ := uH hF
  obtain ⟨u0, u1, u2⟩ := q1.box
  refine bodyPost_ret (v := .agg #[.int .i64 (nk), .int .i64 (nt), .slice (a1) (m1) (c1)]) (by simp [results, Tryz.results126, go_sem, u0, u1, u2]) rfl ?_
  exact ⟨_, _, _, rfl, (by first | exact q2 | (rw [hgb]; exact q2)), q3, q4⟩
set_option maxHeartbeats 4000000 in
set_option maxRecDepth 100000 in
theorem paStatement_block {g : Nat} {tv : Value} {L : List Tk} {i d : Nat} {w : World} (h : PaW g tv L i d w) {R : PR Nd} (h0 : keyA L i [118, 97, 114] = false) (h1 : keyA L i [99, 111, 110, 115, 116] = false) (h2 : opA L i [123] = true) (hH : Hid (∀ (w : World), PaW g tv L (i) d w → Calls Tryz.prog 113 #[.pointer (some ⟨g, 0, none⟩)] w fun e w' => ResN w.heap.size g tv L d w R e w')) (hne : R ≠ .out) :
  Calls Tryz.prog 126 #[.pointer (some ⟨g, 0, none⟩)] w fun e w' => ResN w.heap.size g tv L d w R e w' := by
 generalize hr : R = r at hne ⊢
 cases r with
 | out => exact absurd rfl hne
 | bad j =>
  have hP := zH (h.alloc (.cells #[.int .i64 0, .int .i64 0, .slice none 0 0] 24 (0, 0))).1
  have hM := zH (h.alloc (.cells #[.int .i64 0, .int .i64 0, .slice none 0 0] 24 (0, 0))).2
  have hN := zH (nblk_new w 0 0 none 0 0)
  obtain ⟨gb, hgb⟩ : ∃ gb, w.heap.size = gb := ⟨_, rfl⟩
  have hz : (w.alloc (.cells #[.int .i64 0, .int .i64 0, .slice none 0 0] 24 (0, 0))).heap.size = gb + 1 := by simp [hgb]
  have hgl : g < gb := by have := h.lt; omega
  rw [hgb] at hN
  obtain ⟨W1, hq_W1⟩ : ∃ W1, w.alloc (.cells #[.int .i64 0, .int .i64 0, .slice none 0 0] 24 (0, 0)) = W1 := ⟨_, rfl⟩
  rw [hq_W1] at hP hM hN hz
  replace hz := And.intro (Nat.le_of_eq hz) (Nat.le_of_eq hz.symm)
  replace h := zH h
  go_enter Tryz.func126, Tryz.ntmps126
  go_wp2_with fail
  clear hq_W1
  refine (paKey_any _ _).mono ?_
  rintro e W2 ⟨rfl, hb⟩
  have h2 := (uH hP).below hb
  have hm := mop_below (g := g) hb
  clear hb
  replace hN := zH ((uH hN).mop (uH hP) hm)
  have hzz := hm.size
  replace hM := zH ((uH hM).trans hm)
  replace hP := zH h2
  clear hm h2
  go_wp2_with fail
  refine (paTake_no (uH hP) (keyT [118, 97, 114]) (by rw [eqB_key]; exact h0)).mono ?_
  rintro e W3 ⟨rfl, h2, hm⟩
  replace hN := zH ((uH hN).mop (uH hP) hm)
  have hzz := hm.size
  replace hM := zH ((uH hM).trans hm)
  replace hP := zH h2
  clear hm h2
  go_wp2_with fail
  refine (paKey_any _ _).mono ?_
  rintro e W4 ⟨rfl, hb⟩
  have h2 := (uH hP).below hb
  have hm := mop_below (g := g) hb
  clear hb
  replace hN := zH ((uH hN).mop (uH hP) hm)
  have hzz := hm.size
  replace hM := zH ((uH hM).trans hm)
  replace hP := zH h2
  clear hm h2
  go_wp2_with fail
  refine (paTake_no (uH hP) (keyT [99, 111, 110, 115, 116]) (by rw [eqB_key]; exact h1)).mono ?_
  rintro e W5 ⟨rfl, h2, hm⟩
  replace hN := zH ((uH hN).mop (uH hP) hm)
  have hzz := hm.size
  replace hM := zH ((uH hM).trans hm)
  replace hP := zH h2
  clear hm h2
  go_wp2_with fail
  refine (paOp_any _ _).mono ?_
  rintro e W6 ⟨rfl, hb⟩
  have h2 := (uH hP).below hb
  have hm := mop_below (g := g) hb
  clear hb
  replace hN := zH ((uH hN).mop (uH hP) hm)
  have hzz := hm.size
  replace hM := zH ((uH hM).trans hm)
  replace hP := zH h2
  clear hm h2
  go_wp2_with fail
  have hK := paIs_any (uH hP) (opT [123])
  rw [eqB_op, h2] at hK
  refine (hK).mono ?_
  rintro e W7 ⟨rfl, hb⟩
  have h2 := (uH hP).below hb
  have hm := mop_below (g := g) hb
  clear hb
  replace hN := zH ((uH hN).mop (uH hP) hm)
  have hzz := hm.size
  replace hM := zH ((uH hM).trans hm)
  replace hP := zH h2
  clear hm h2
  go_wp2_with fail
  have hC := uH hH _ (uH hP)
  rw [hr] at hC
  refine (hC).mono ?_
  rintro e W8 hBad
  obtain rfl := hBad.1
  have hG := zH (hBad.pre (uH hM))
  clear hBad
  go_wp2
  exact ⟨rfl, uH hG⟩
 | ok n j =>
  obtain ⟨nk, nt, nc⟩ := n
  have hP := zH (h.alloc (.cells #[.int .i64 0, .int .i64 0, .slice none 0 0] 24 (0, 0))).1
  have hM := zH (h.alloc (.cells #[.int .i64 0, .int .i64 0, .slice none 0 0] 24 (0, 0))).2
  have hN := zH (nblk_new w 0 0 none 0 0)
  obtain ⟨gb, hgb⟩ : ∃ gb, w.heap.size = gb := ⟨_, rfl⟩
  have hz : (w.alloc (.cells #[.int .i64 0, .int .i64 0, .slice none 0 0] 24 (0, 0))).heap.size = gb + 1 := by simp [hgb]
  have hgl : g < gb := by have := h.lt; omega
  rw [hgb] at hN
  obtain ⟨W1, hq_W1⟩ : ∃ W1, w.alloc (.cells #[.int .i64 0, .int .i64 0, .slice none 0 0] 24 (0, 0)) = W1 := ⟨_, rfl⟩
  rw [hq_W1] at hP hM hN hz
  replace hz := And.intro (Nat.le_of_eq hz) (Nat.le_of_eq hz.symm)
  replace h := zH h
  go_enter Tryz.func126, Tryz.ntmps126
  go_wp2_with fail
  clear hq_W1
  refine (paKey_any _ _).mono ?_
  rintro e W2 ⟨rfl, hb⟩
  have h2 := (uH hP).below hb
  have hm := mop_below (g := g) hb
  clear hb
  replace hN := zH ((uH hN).mop (uH hP) hm)
  have hzz := hm.size
  replace hM := zH ((uH hM).trans hm)
  replace hP := zH h2
  clear hm h2
  go_wp2_with fail
  refine (paTake_no (uH hP) (keyT [118, 97, 114]) (by rw [eqB_key]; exact h0)).mono ?_
  rintro e W3 ⟨rfl, h2, hm⟩
  replace hN := zH ((uH hN).mop (uH hP) hm)
  have hzz := hm.size
  replace hM := zH ((uH hM).trans hm)
  replace hP := zH h2
  clear hm h2
  go_wp2_with fail
  refine (paKey_any _ _).mono ?_
  rintro e W4 ⟨rfl, hb⟩
  have h2 := (uH hP).below hb
  have hm := mop_below (g := g) hb
  clear hb
  replace hN := zH ((uH hN).mop (uH hP) hm)
  have hzz := hm.size
  replace hM := zH ((uH hM).trans hm)
  replace hP := zH h2
  clear hm h2
  go_wp2_with fail
  refine (paTake_no (uH hP) (keyT [99, 111, 110, 115, 116]) (by rw [eqB_key]; exact h1)).mono ?_
  rintro e W5 ⟨rfl, h2, hm⟩
  replace hN := zH ((uH hN).mop (uH hP) hm)
  have hzz := hm.size
  replace hM := zH ((uH hM).trans hm)
  replace hP := zH h2
  clear hm h2
  go_wp2_with fail
  refine (paOp_any _ _).mono ?_
  rintro e W6 ⟨rfl, hb⟩
  have h2 := (uH hP).below hb
  have hm := mop_below (g := g) hb
  clear hb
  replace hN := zH ((uH hN).mop (uH hP) hm)
  have hzz := hm.size
  replace hM := zH ((uH hM).trans hm)
  replace hP := zH h2
  clear hm h2
  go_wp2_with fail
  have hK := paIs_any (uH hP) (opT [123])
  rw [eqB_op, h2] at hK
  refine (hK).mono ?_
  rintro e W7 ⟨rfl, hb⟩
  have h2 := (uH hP).below hb
  have hm := mop_below (g := g) hb
  clear hb
  replace hN := zH ((uH hN).mop (uH hP) hm)
  have hzz := hm.size
  replace hM := zH ((uH hM).trans hm)
  replace hP := zH h2
  clear hm h2
  go_wp2_with fail
  have hC := uH hH _ (uH hP)
  rw [hr] at hC
  refine (hC).mono ?_
  rintro e W8 ⟨a1, m1, c1, rfl, hs, h2, hm⟩
  have hzs := hm.size
  have hs1 := zH (hs.mono (P' := fun x => gb < x ∧ x < W8.heap.size) (fun x hx => by have := (uH hN).lt; have e1 := hx.1; have e2 := hx.lt; exact ⟨by omega, by omega⟩))
  clear hs
  replace hN := zH ((uH hN).mop (uH hP) hm)
  have hzz := hm.size
  replace hM := zH ((uH hM).trans hm)
  replace hP := zH h2
  clear hm h2
  dsimp only at hs1
  obtain ⟨p0_hN, p1_hN, p2_hN⟩ := (uH hN).box
  have f0_hN := (uH hN).frozen 0
  have f1_hN := (uH hN).frozen 1
  have f2_hN := (uH hN).frozen 2
  have hF := zH (res_fin (k := nk) (t := nt) (a := a1) (m := m1) (c := c1) (f := nc) (B := gb) (w := w) (Nat.le_refl gb) (by omega) (uH hN) ((uH hs1).mono (fun x hx => by have e1 := hx.1; exact ⟨by omega, by omega⟩)) (uH hP) (uH hM))
  go_wp2
  obtain ⟨q1, q2, q3, q4⟩ := uH hF
  obtain ⟨u0, u1, u2⟩ := q1.box
  refine bodyPost_ret (v := .agg #[.int .i64 (nk), .int .i64 (nt), .slice (a1) (m1) (c1)]) (by simp [results, Tryz.results126, go_sem, u0, u1, u2]) rfl ?_
  exact ⟨_, _, _, rfl, (by first | exact q2 | (rw [hgb]; exact q2)), q3, q4⟩
set_option maxHeartbeats 4000000 in
set_option maxRecDepth 100000 in
theorem paStatement_if {g : Nat} {tv : Value} {L : List Tk} {i d : Nat} {w : World} (h : PaW g tv L i d w) {R : PR Nd} (h0 : keyA L i [118, 97, 114] = false) (h1 : keyA L i [99, 111, 110, 115, 116] = false) (h2 : opA L i [123] = false) (h3 : keyA L i kIf = true) (hH : Hid (∀ (w : World), PaW g tv L (i) d w → Calls Tryz.prog 139 #[.pointer (some ⟨g, 0, none⟩)] w fun e w' => ResN w.heap.size g tv L d w R e w')) (hne : R ≠ .out) :
  Calls Tryz.prog 126 #[.pointer (some ⟨g, 0, none⟩)] w fun e w' => ResN w.heap.size g tv L d w R e w' := by
 generalize hr : R = r at hne ⊢
 cases r with
 | out => exact absurd rfl hne
 | bad j =>
  have hP := zH (h.alloc (.cells #[.int .i64 0, .int .i64 0, .slice none 0 0] 24 (0, 0))).1
  have hM := zH (h.alloc (.cells #[.int .i64 0, .int .i64 0, .slice none 0 0] 24 (0, 0))).2
  have hN := zH (nblk_new w 0 0 none 0 0)
  obtain ⟨gb, hgb⟩ : ∃ gb, w.heap.size = gb := ⟨_, rfl⟩
  have hz : (w.alloc (.cells #[.int .i64 0, .int .i64 0, .slice none 0 0] 24 (0, 0))).heap.size = gb + 1 := by simp [hgb]
  have hgl : g < gb := by have := h.lt; omega
  rw [hgb] at hN
  obtain ⟨W1, hq_W1⟩ : ∃ W1, w.alloc (.cells #[.int .i64 0, .int .i64 0, .slice none 0 0] 24 (0, 0)) = W1 := ⟨_, rfl⟩
  rw [hq_W1] at hP hM hN hz
  replace hz := And.intro (Nat.le_of_eq hz) (Nat.le_of_eq hz.symm)
  replace h := zH h
  go_enter Tryz.func126, Tryz.ntmps126
  go_wp2_with fail
  clear hq_W1
  refine (paKey_any _ _).mono ?_
  rintro e W2 ⟨rfl, hb⟩
  have h2 := (uH hP).below hb
  have hm := mop_below (g := g) hb
  clear hb
  replace hN := zH ((uH hN).mop (uH hP) hm)
  have hzz := hm.size
  replace hM := zH ((uH hM).trans hm)
  replace hP := zH h2
  clear hm h2
  go_wp2_with fail
  refine (paTake_no (uH hP) (keyT [118, 97, 114]) (by rw [eqB_key]; exact h0)).mono ?_
  rintro e W3 ⟨rfl, h2, hm⟩
  replace hN := zH ((uH hN).mop (uH hP) hm)
  have hzz := hm.size
  replace hM := zH ((uH hM).trans hm)
  replace hP := zH h2
  clear hm h2
  go_wp2_with fail
  refine (paKey_any _ _).mono ?_
  rintro e W4 ⟨rfl, hb⟩
  have h2 := (uH hP).below hb
  have hm := mop_below (g := g) hb
  clear hb
  replace hN := zH ((uH hN).mop (uH hP) hm)
  have hzz := hm.size
  replace hM := zH ((uH hM).trans hm)
  replace hP := zH h2
  clear hm h2
  go_wp2_with fail
  refine (paTake_no (uH hP) (keyT [99, 111, 110, 115, 116]) (by rw [eqB_key]; exact h1)).mono ?_
  rintro e W5 ⟨rfl, h2, hm⟩
  replace hN := zH ((uH hN).mop (uH hP) hm)
  have hzz := hm.size
  replace hM := zH ((uH hM).trans hm)
  replace hP := zH h2
  clear hm h2
  go_wp2_with fail
  refine (paOp_any _ _).mono ?_
  rintro e W6 ⟨rfl, hb⟩
  have h2 := (uH hP).below hb
  have hm := mop_below (g := g) hb
  clear hb
  replace hN := zH ((uH hN).mop (uH hP) hm)
  have hzz := hm.size
  replace hM := zH ((uH hM).trans hm)
  replace hP := zH h2
  clear hm h2
  go_wp2_with fail
  have hK := paIs_any (uH hP) (opT [123])
  rw [eqB_op, h2] at hK
  refine (hK).mono ?_
  rintro e W7 ⟨rfl, hb⟩
  have h2 := (uH hP).below hb
  have hm := mop_below (g := g) hb
  clear hb
  replace hN := zH ((uH hN).mop (uH hP) hm)
  have hzz := hm.size
  replace hM := zH ((uH hM).trans hm)
  replace hP := zH h2
  clear hm h2
  go_wp2_with fail
  refine (paKey_any _ _).mono ?_
  rintro e W8 ⟨rfl, hb⟩
  have h2 := (uH hP).below hb
  have hm := mop_below (g := g) hb
  clear hb
  replace hN := zH ((uH hN).mop (uH hP) hm)
  have hzz := hm.size
  replace hM := zH ((uH hM).trans hm)
  replace hP := zH h2
  clear hm h2
  go_wp2_with fail
  have hK := paIs_any (uH hP) (keyT kIf)
  rw [eqB_key, h3] at hK
  refine (hK).mono ?_
  rintro e W9 ⟨rfl, hb⟩
  have h2 := (uH hP).below hb
  have hm := mop_below (g := g) hb
  clear hb
  replace hN := zH ((uH hN).mop (uH hP) hm)
  have hzz := hm.size
  replace hM := zH ((uH hM).trans hm)
  replace hP := zH h2
  clear hm h2
  go_wp2_with fail
  have hC := uH hH _ (uH hP)
  rw [hr] at hC
  refine (hC).mono ?_
  rintro e W10 hBad
  obtain rfl := hBad.1
  have hG := zH (hBad.pre (uH hM))
  clear hBad
  go_wp2
  exact ⟨rfl, uH hG⟩
 | ok n j =>
  obtain ⟨nk, nt, nc⟩ := n
  have hP := zH (h.alloc (.cells #[.int .i64 0, .int .i64 0, .slice none 0 0] 24 (0, 0))).1
  have hM := zH (h.alloc (.cells #[.int .i64 0, .int .i64 0, .slice none 0 0] 24 (0, 0))).2
  have hN := zH (nblk_new w 0 0 none 0 0)
  obtain ⟨gb, hgb⟩ : ∃ gb, w.heap.size = gb := ⟨_, rfl⟩
  have hz : (w.alloc (.cells #[.int .i64 0, .int .i64 0, .slice none 0 0] 24 (0, 0))).heap.size = gb + 1 := by simp [hgb]
  have hgl : g < gb := by have := h.lt; omega
  rw [hgb] at hN
  obtain ⟨W1, hq_W1⟩ : ∃ W1, w.alloc (.cells #[.int .i64 0, .int .i64 0, .slice none 0 0] 24 (0, 0)) = W1 := ⟨_, rfl⟩
  rw [hq_W1] at hP hM hN hz
  replace hz := And.intro (Nat.le_of_eq hz) (Nat.le_of_eq hz.symm)
  replace h := zH h
  go_enter Tryz.func126, Tryz.ntmps126
  go_wp2_with fail
  clear hq_W1
  refine (paKey_any _ _).mono ?_
  rintro e W2 ⟨rfl, hb⟩
  have h2 := (uH hP).below hb
  have hm := mop_below (g := g) hb
  clear hb
  replace hN := zH ((uH hN).mop (uH hP) hm)
  have hzz := hm.size
  replace hM := zH ((uH hM).trans hm)
  replace hP := zH h2
  clear hm h2
  go_wp2_with fail
  refine (paTake_no (uH hP) (keyT [118, 97, 114]) (by rw [eqB_key]; exact h0)).mono ?_
  rintro e W3 ⟨rfl, h2, hm⟩
  replace hN := zH ((uH hN).mop (uH hP) hm)
  have hzz := hm.size
  replace hM := zH ((uH hM).trans hm)
  replace hP := zH h2
  clear hm h2
  go_wp2_with fail
  refine (paKey_any _ _).mono ?_
  rintro e W4 ⟨rfl, hb⟩
  have h2 := (uH hP).below hb
  have hm := mop_below (g := g) hb
  clear hb
  replace hN := zH ((uH hN).mop (uH hP) hm)
  have hzz := hm.size
  replace hM := zH ((uH hM).trans hm)
  replace hP := zH h2
  clear hm h2
  go_wp2_with fail
  refine (paTake_no (uH hP) (keyT [99, 111, 110, 115, 116]) (by rw [eqB_key]; exact h1)).mono ?_
  rintro e W5 ⟨rfl, h2, hm⟩
  replace hN := zH ((uH hN).mop (uH hP) hm)
  have hzz := hm.size
  replace hM := zH ((uH hM).trans hm)
  replace hP := zH h2
  clear hm h2
  go_wp2_with fail
  refine (paOp_any _ _).mono ?_
  rintro e W6 ⟨rfl, hb⟩
  have h2 := (uH hP).below hb
  have hm := mop_below (g := g) hb
  clear hb
  replace hN := zH ((uH hN).mop (uH hP) hm)
  have hzz := hm.size
  replace hM := zH ((uH hM).trans hm)
  replace hP := zH h2
  clear hm h2
  go_wp2_with fail
  have hK := paIs_any (uH hP) (opT [123])
  rw [eqB_op, h2] at hK
  refine (hK).mono ?_
  rintro e W7 ⟨rfl, hb⟩
  have h2 := (uH hP).below hb
  have hm := mop_below (g := g) hb
  clear hb
  replace hN := zH ((uH hN).mop (uH hP) hm)
  have hzz := hm.size
  replace hM := zH ((uH hM).trans hm)
  replace hP := zH h2
  clear hm h2
  go_wp2_with fail
  refine (paKey_any _ _).mono ?_
  rintro e W8 ⟨rfl, hb⟩
  have h2 := (uH hP).below hb
  have hm := mop_below (g := g) hb
  clear hb
  replace hN := zH ((uH hN).mop (uH hP) hm)
  have hzz := hm.size
  replace hM := zH ((uH hM).trans hm)
  replace hP := zH h2
  clear hm h2
  go_wp2_with fail
  have hK := paIs_any (uH hP) (keyT kIf)
  rw [eqB_key, h3] at hK
  refine (hK).mono ?_
  rintro e W9 ⟨rfl, hb⟩
  have h2 := (uH hP).below hb
  have hm := mop_below (g := g) hb
  clear hb
  replace hN := zH ((uH hN).mop (uH hP) hm)
  have hzz := hm.size
  replace hM := zH ((uH hM).trans hm)
  replace hP := zH h2
  clear hm h2
  go_wp2_with fail
  have hC := uH hH _ (uH hP)
  rw [hr] at hC
  refine (hC).mono ?_
  rintro e W10 ⟨a1, m1, c1, rfl, hs, h2, hm⟩
  have hzs := hm.size
  have hs1 := zH (hs.mono (P' := fun x => gb < x ∧ x < W10.heap.size) (fun x hx => by have := (uH hN).lt; have e1 := hx.1; have e2 := hx.lt; exact ⟨by omega, by omega⟩))
  clear hs
  replace hN := zH ((uH hN).mop (uH hP) hm)
  have hzz := hm.size
  replace hM := zH ((uH hM).trans hm)
  replace hP := zH h2
  clear hm h2
  dsimp only at hs1
  obtain ⟨p0_hN, p1_hN, p2_hN⟩ := (uH hN).box
  have f0_hN := (uH hN).frozen 0
  have f1_hN := (uH hN).frozen 1
  have f2_hN := (uH hN).frozen 2
  have hF := zH (res_fin (k := nk) (t := nt) (a := a1) (m := m1) (c := c1) (f := nc) (B := gb) (w := w) (Nat.le_refl gb) (by omega) (uH hN) ((uH hs1).mono (fun x hx => by have e1 := hx.1; exact ⟨by omega, by omega⟩)) (uH hP) (uH hM))
  go_wp2
  obtain ⟨q1, q2, q3, q4⟩ := uH hF
  obtain ⟨u0, u1, u2⟩ := q1.box
  refine bodyPost_ret (v := .agg #[.int .i64 (nk), .int .i64 (nt), .slice (a1) (m1) (c1)]) (by simp [results, Tryz.results126, go_sem, u0, u1, u2]) rfl ?_
  exact ⟨_, _, _, rfl, (by first | exact q2 | (rw [hgb]; exact q2)), q3, q4⟩
set_option maxHeartbeats 4000000 in
set_option maxRecDepth 100000 in
theorem paStatement_for {g : Nat} {tv : Value} {L : List Tk} {i d : Nat} {w : World} (h : PaW g tv L i d w) {R : PR Nd} (h0 : keyA L i [118, 97, 114] = false) (h1 : keyA L i [99, 111, 110, 115, 116] = false) (h2 : opA L i [123] = false) (h3 : keyA L i kIf = false) (h4 : keyA L i kFor = true) (hH : Hid (∀ (w : World), PaW g tv L (i) d w → Calls Tryz.prog 140 #[.pointer (some ⟨g, 0, none⟩)] w fun e w' => ResN w.heap.size g tv L d w R e w')) (hne : R ≠ .out) :
  Calls Tryz.prog 126 #[.pointer (some ⟨g, 0, none⟩)] w fun e w' => ResN w.heap.size g tv L d w R e w' := by
 generalize hr : R = r at hne ⊢
 cases r with
 | out => exact absurd rfl hne
 | bad j =>
  have hP := zH (h.alloc (.cells #[.int .i64 0, .int .i64 0, .slice none 0 0] 24 (0, 0))).1
  have hM := zH (h.alloc (.cells #[.int .i64 0, .int .i64 0, .slice none 0 0] 24 (0, 0))).2
  have hN := zH (nblk_new w 0 0 none 0 0)
  obtain ⟨gb, hgb⟩ : ∃ gb, w.heap.size = gb := ⟨_, rfl⟩
  have hz : (w.alloc (.cells #[.int .i64 0, .int .i64 0, .slice none 0 0] 24 (0, 0))).heap.size = gb + 1 := by simp [hgb]
  have hgl : g < gb := by have := h.lt; omega
  rw [hgb] at hN
  obtain ⟨W1, hq_W1⟩ : ∃ W1, w.alloc (.cells #[.int .i64 0, .int .i64 0, .slice none 0 0] 24 (0, 0)) = W1 := ⟨_, rfl⟩
  rw [hq_W1] at hP hM hN hz
  replace hz := And.intro (Nat.le_of_eq hz) (Nat.le_of_eq hz.symm)
  replace h := zH h
  go_enter Tryz.func126, Tryz.ntmps126
  go_wp2_with fail
  clear hq_W1
  refine (paKey_any _ _).mono ?_
  rintro e W2 ⟨rfl, hb⟩
  have h2 := (uH hP).below hb
  have hm := mop_below (g := g) hb
  clear hb
  replace hN := zH ((uH hN).mop (uH hP) hm)
  have hzz := hm.size
  replace hM := zH ((uH hM).trans hm)
  replace hP := zH h2
  clear hm h2
  go_wp2_with fail
  refine (paTake_no (uH hP) (keyT [118, 97, 114]) (by rw [eqB_key]; exact h0)).mono ?_
  rintro e W3 ⟨rfl, h2, hm⟩
  replace hN := zH ((uH hN).mop (uH hP) hm)
  have hzz := hm.size
  replace hM := zH ((uH hM).trans hm)
  replace hP := zH h2
  clear hm h2
  go_wp2_with fail
  refine (paKey_any _ _).mono ?_
  rintro e W4 ⟨rfl, hb⟩
  have h2 := (uH hP).below hb
  have hm := mop_below (g := g) hb
  clear hb
  replace hN := zH ((uH hN).mop (uH hP) hm)
  have hzz := hm.size
  replace hM := zH ((uH hM).trans hm)
  replace hP := zH h2
  clear hm h2
  go_wp2_with fail
  refine (paTake_no (uH hP) (keyT [99, 111, 110, 115, 116]) (by rw [eqB_key]; exact h1)).mono ?_
  rintro e W5 ⟨rfl, h2, hm⟩
  replace hN := zH ((uH hN).mop (uH hP) hm)
  have hzz := hm.size
  replace hM := zH ((uH hM).trans hm)
  replace hP := zH h2
  clear hm h2
  go_wp2_with fail
  refine (paOp_any _ _).mono ?_
  rintro e W6 ⟨rfl, hb⟩
  have h2 := (uH hP).below hb
  have hm := mop_below (g := g) hb
  clear hb
  replace hN := zH ((uH hN).mop (uH hP) hm)
  have hzz := hm.size
  replace hM := zH ((uH hM).trans hm)
  replace hP := zH h2
  clear hm h2
  go_wp2_with fail
  have hK := paIs_any (uH hP) (opT [123])
  rw [eqB_op, h2] at hK
  refine (hK).mono ?_
  rintro e W7 ⟨rfl, hb⟩
  have h2 := (uH hP).below hb
  have hm := mop_below (g := g) hb
  clear hb
  replace hN := zH ((uH hN).mop (uH hP) hm)
  have hzz := hm.size
  replace hM := zH ((uH hM).trans hm)
  replace hP := zH h2
  clear hm h2
  go_wp2_with fail
  refine (paKey_any _ _).mono ?_
  rintro e W8 ⟨rfl, hb⟩
  have h2 := (uH hP).below hb
  have hm := mop_below (g := g) hb
  clear hb
  replace hN := zH ((uH hN).mop (uH hP) hm)
  have hzz := hm.size
  replace hM := zH ((uH hM).trans hm)
  replace hP := zH h2
  clear hm h2
  go_wp2_with fail
  have hK := paIs_any (uH hP) (keyT kIf)
  rw [eqB_key, h3] at hK
  refine (hK).mono ?_
  rintro e W9 ⟨rfl, hb⟩
  have h2 := (uH hP).below hb
  have hm := mop_below (g := g) hb
  clear hb
  replace hN := zH ((uH hN).mop (uH hP) hm)
  have hzz := hm.size
  replace hM := zH ((uH hM).trans hm)
  replace hP := zH h2
  clear hm h2
  go_wp2_with fail
  refine (paKey_any _ _).mono ?_
  rintro e W10 ⟨rfl, hb⟩
  have h2 := (uH hP).below hb
  have hm := mop_below (g := g) hb
  clear hb
  replace hN := zH ((uH hN).mop (uH hP) hm)
  have hzz := hm.size
  replace hM := zH ((uH hM).trans hm)
  replace hP := zH h2
  clear hm h2
  go_wp2_with fail
  have hK := paIs_any (uH hP) (keyT kFor)
  rw [eqB_key, h4] at hK
  refine (hK).mono ?_
  rintro e W11 ⟨rfl, hb⟩
  have h2 := (uH hP).below hb
  have hm := mop_below (g := g) hb
  clear hb
  replace hN := zH ((uH hN).mop (uH hP) hm)
  have hzz := hm.size
  replace hM := zH ((uH hM).trans hm)
  replace hP := zH h2
  clear hm h2
  go_wp2_with fail
  have hC := uH hH _ (uH hP)
  rw [hr] at hC
  refine (hC).mono ?_
  rintro e W12 hBad
  obtain rfl := hBad.1
  have hG := zH (hBad.pre (uH hM))
  clear hBad
  go_wp2
  exact ⟨rfl, uH hG⟩
 | ok n j =>
  obtain ⟨nk, nt, nc⟩ := n
  have hP := zH (h.alloc (.cells #[.int .i64 0, .int .i64 0, .slice none 0 0] 24 (0, 0))).1
  have hM := zH (h.alloc (.cells #[.int .i64 0, .int .i64 0, .slice none 0 0] 24 (0, 0))).2
  have hN := zH (nblk_new w 0 0 none 0 0)
  obtain ⟨gb, hgb⟩ : ∃ gb, w.heap.size = gb := ⟨_, rfl⟩
  have hz : (w.alloc (.cells #[.int .i64 0, .int .i64 0, .slice none 0 0] 24 (0, 0))).heap.size = gb + 1 := by simp [hgb]
  have hgl : g < gb := by have := h.lt; omega
  rw [hgb] at hN
  obtain ⟨W1, hq_W1⟩ : ∃ W1, w.alloc (.cells #[.int .i64 0, .int .i64 0, .slice none 0 0] 24 (0, 0)) = W1 := ⟨_, rfl⟩
  rw [hq_W1] at hP hM hN hz
  replace hz := And.intro (Nat.le_of_eq hz) (Nat.le_of_eq hz.symm)
  replace h := zH h
  go_enter Tryz.func126, Tryz.ntmps126
  go_wp2_with fail
  clear hq_W1
  refine (paKey_any _ _).mono ?_
  rintro e W2 ⟨rfl, hb⟩
  have h2 := (uH hP).below hb
  have hm := mop_below (g := g) hb
  clear hb
  replace hN := zH ((uH hN).mop (uH hP) hm)
  have hzz := hm.size
  replace hM := zH ((uH hM).trans hm)
  replace hP := zH h2
  clear hm h2
  go_wp2_with fail
  refine (paTake_no (uH hP) (keyT [118, 97, 114]) (by rw [eqB_key]; exact h0)).mono ?_
  rintro e W3 ⟨rfl, h2, hm⟩
  replace hN := zH ((uH hN).mop (uH hP) hm)
  have hzz := hm.size
  replace hM := zH ((uH hM).trans hm)
  replace hP := zH h2
  clear hm h2
  go_wp2_with fail
  refine (paKey_any _ _).mono ?_
  rintro e W4 ⟨rfl, hb⟩
  have h2 := (uH hP).below hb
  have hm := mop_below (g := g) hb
  clear hb
  replace hN := zH ((uH hN).mop (uH hP) hm)
  have hzz := hm.size
  replace hM := zH ((uH hM).trans hm)
  replace hP := zH h2
  clear hm h2
  go_wp2_with fail
  refine (paTake_no (uH hP) (keyT [99, 111, 110, 115, 116]) (by rw [eqB_key]; exact h1)).mono ?_
  rintro e W5 ⟨rfl, h2, hm⟩
  replace hN := zH ((uH hN).mop (uH hP) hm)
  have hzz := hm.size
  replace hM := zH ((uH hM).trans hm)
  replace hP := zH h2
  clear hm h2
  go_wp2_with fail
  refine (paOp_any _ _).mono ?_
  rintro e W6 ⟨rfl, hb⟩
  have h2 := (uH hP).below hb
  have hm := mop_below (g := g) hb
  clear hb
  replace hN := zH ((uH hN).mop (uH hP) hm)
  have hzz := hm.size
  replace hM := zH ((uH hM).trans hm)
  replace hP := zH h2
  clear hm h2
  go_wp2_with fail
  have hK := paIs_any (uH hP) (opT [123])
  rw [eqB_op, h2] at hK
  refine (hK).mono ?_
  rintro e W7 ⟨rfl, hb⟩
  have h2 := (uH hP).below hb
  have hm := mop_below (g := g) hb
  clear hb
  replace hN := zH ((uH hN).mop (uH hP) hm)
  have hzz := hm.size
  replace hM := zH ((uH hM).trans hm)
  replace hP := zH h2
  clear hm h2
  go_wp2_with fail
  refine (paKey_any _ _).mono ?_
  rintro e W8 ⟨rfl, hb⟩
  have h2 := (uH hP).below hb
  have hm := mop_below (g := g) hb
  clear hb
  replace hN := zH ((uH hN).mop (uH hP) hm)
  have hzz := hm.size
  replace hM := zH ((uH hM).trans hm)
  replace hP := zH h2
  clear hm h2
  go_wp2_with fail
  have hK := paIs_any (uH hP) (keyT kIf)
  rw [eqB_key, h3] at hK
  refine (hK).mono ?_
  rintro e W9 ⟨rfl, hb⟩
  have h2 := (uH hP).below hb
  have hm := mop_below (g := g) hb
  clear hb
  replace hN := zH ((uH hN).mop (uH hP) hm)
  have hzz := hm.size
  replace hM := zH ((uH hM).trans hm)
  replace hP := zH h2
  clear hm h2
  go_wp2_with fail
  refine (paKey_any _ _).mono ?_
  rintro e W10 ⟨rfl, hb⟩
  have h2 := (uH hP).below hb
  have hm := mop_below (g := g) hb
  clear hb
  replace hN := zH ((uH hN).mop (uH hP) hm)
  have hzz := hm.size
  replace hM := zH ((uH hM).trans hm)
  replace hP := zH h2
  clear hm h2
  go_wp2_with fail
  have hK := paIs_any (uH hP) (keyT kFor)
  rw [eqB_key, h4] at hK
  refine (hK).mono ?_
  rintro e W11 ⟨rfl, hb⟩
  have h2 := (uH hP).below hb
  have hm := mop_below (g := g) hb
  clear hb
  replace hN := zH ((uH hN).mop (uH hP) hm)
  have hzz := hm.size
  replace hM := zH ((uH hM).trans hm)
  replace hP := zH h2
  clear hm h2
  go_wp2_with fail
  have hC := uH hH _ (uH hP)
  rw [hr] at hC
  refine (hC).mono ?_
  rintro e W12 ⟨a1, m1, c1, rfl, hs, h2, hm⟩
  have hzs := hm.size
  have hs1 := zH (hs.mono (P' := fun x => gb < x ∧ x < W12.heap.size) (fun x hx => by have := (uH hN).lt; have e1 := hx.1; have e2 := hx.lt; exact ⟨by omega, by omega⟩))
  clear hs
  replace hN := zH ((uH hN).mop (uH hP) hm)
  have hzz := hm.size
  replace hM := zH ((uH hM).trans hm)
  replace hP := zH h2
  clear hm h2
  dsimp only at hs1
  obtain ⟨p0_hN, p1_hN, p2_hN⟩ := (uH hN).box
  have f0_hN := (uH hN).frozen 0
  have f1_hN := (uH hN).frozen 1
  have f2_hN := (uH hN).frozen 2
  have hF := zH (res_fin (k := nk) (t := nt) (a := a1) (m := m1) (c := c1) (f := nc) (B := gb) (w := w) (Nat.le_refl gb) (by omega) (uH hN) ((uH hs1).mono (fun x hx => by have e1 := hx.1; exact ⟨by omega, by omega⟩)) (uH hP) (uH hM))
  go_wp2
  obtain ⟨q1, q2, q3, q4⟩ := uH hF
  obtain ⟨u0, u1, u2⟩ := q1.box
  refine bodyPost_ret (v := .agg #[.int .i64 (nk), .int .i64 (nt), .slice (a1) (m1) (c1)]) (by simp [results, Tryz.results126, go_sem, u0, u1, u2]) rfl ?_
  exact ⟨_, _, _, rfl, (by first | exact q2 | (rw [hgb]; exact q2)), q3, q4⟩
set_option maxHeartbeats 4000000 in
set_option maxRecDepth 100000 in
theorem paStatement_ret {g : Nat} {tv : Value} {L : List Tk} {i d : Nat} {w : World} (h : PaW g tv L i d w) {R : PR Nd} (h0 : keyA L i [118, 97, 114] = false) (h1 : keyA L i [99, 111, 110, 115, 116] = false) (h2 : opA L i [123] = false) (h3 : keyA L i kIf = false) (h4 : keyA L i kFor = false) (h5 : keyA L i [114, 101, 116, 117, 114, 110] = true) (hH : Hid (∀ (w : World), PaW g tv L (i) d w → Calls Tryz.prog 141 #[.pointer (some ⟨g, 0, none⟩)] w fun e w' => ResN w.heap.size g tv L d w R e w')) (hne : R ≠ .out) :
  Calls Tryz.prog 126 #[.pointer (some ⟨g, 0, none⟩)] w fun e w' => ResN w.heap.size g tv L d w R e w' := by
 generalize hr : R = r at hne ⊢
 cases r with
 | out => exact absurd rfl hne
 | bad j =>
  have hP := zH (h.alloc (.cells #[.int .i64 0, .int .i64 0, .slice none 0 0] 24 (0, 0))).1
  have hM := zH (h.alloc (.cells #[.int .i64 0, .int .i64 0, .slice none 0 0] 24 (0, 0))).2
  have hN := zH (nblk_new w 0 0 none 0 0)
  obtain ⟨gb, hgb⟩ : ∃ gb, w.heap.size = gb := ⟨_, rfl⟩
  have hz : (w.alloc (.cells #[.int .i64 0, .int .i64 0, .slice none 0 0] 24 (0, 0))).heap.size = gb + 1 := by simp [hgb]
  have hgl : g < gb := by have := h.lt; omega
  rw [hgb] at hN
  obtain ⟨W1, hq_W1⟩ : ∃ W1, w.alloc (.cells #[.int .i64 0, .int .i64 0, .slice none 0 0] 24 (0, 0)) = W1 := ⟨_, rfl⟩
  rw [hq_W1] at hP hM hN hz
  replace hz := And.intro (Nat.le_of_eq hz) (Nat.le_of_eq hz.symm)
  replace h := zH h
  go_enter Tryz.func126, Tryz.ntmps126
  go_wp2_with fail
  clear hq_W1
  refine (paKey_any _ _).mono ?_
  rintro e W2 ⟨rfl, hb⟩
  have h2 := (uH hP).below hb
  have hm := mop_below (g := g) hb
  clear hb
  replace hN := zH ((uH hN).mop (uH hP) hm)
  have hzz := hm.size
  replace hM := zH ((uH hM).trans hm)
  replace hP := zH h2
  clear hm h2
  go_wp2_with fail
  refine (paTake_no (uH hP) (keyT [118, 97, 114]) (by rw [eqB_key]; exact h0)).mono ?_
  rintro e W3 ⟨rfl, h2, hm⟩
  replace hN := zH ((uH hN).mop (uH hP) hm)
  have hzz := hm.size
  replace hM := zH ((uH hM).trans hm)
  replace hP := zH h2
  clear hm h2
  go_wp2_with fail
  refine (paKey_any _ _).mono ?_
  rintro e W4 ⟨rfl, hb⟩
  have h2 := (uH hP).below hb
  have hm := mop_below (g := g) hb
  clear hb
  replace hN := zH ((uH hN).mop (uH hP) hm)
  have hzz := hm.size
  replace hM := zH ((uH hM).trans hm)
  replace hP := zH h2
  clear hm h2
  go_wp2_with fail
  refine (paTake_no (uH hP) (keyT [99, 111, 110, 115, 116]) (by rw [eqB_key]; exact h1)).mono ?_
  rintro e W5 ⟨rfl, h2, hm⟩
  replace hN := zH ((uH hN).mop (uH hP) hm)
  have hzz := hm.size
  replace hM := zH ((uH hM).trans hm)
  replace hP := zH h2
  clear hm h2
  go_wp2_with fail
  refine (paOp_any _ _).mono ?_
  rintro e W6 ⟨rfl, hb⟩
  have h2 := (uH hP).below hb
  have hm := mop_below (g := g) hb
  clear hb
  replace hN := zH ((uH hN).mop (uH hP) hm)
  have hzz := hm.size
  replace hM := zH ((uH hM).trans hm)
  replace hP := zH h2
  clear hm h2
  go_wp2_with fail
  have hK := paIs_any (uH hP) (opT [123])
  rw [eqB_op, h2] at hK
  refine (hK).mono ?_
  rintro e W7 ⟨rfl, hb⟩
  have h2 := (uH hP).below hb
  have hm := mop_below (g := g) hb
  clear hb
  replace hN := zH ((uH hN).mop (uH hP) hm)
  have hzz := hm.size
  replace hM := zH ((uH hM).trans hm)
  replace hP := zH h2
  clear hm h2
  go_wp2_with fail
  refine (paKey_any _ _).mono ?_
  rintro e W8 ⟨rfl, hb⟩
  have h2 := (uH hP).below hb
  have hm := mop_below (g := g) hb
  clear hb
  replace hN := zH ((uH hN).mop (uH hP) hm)
  have hzz := hm.size
  replace hM := zH ((uH hM).trans hm)
  replace hP := zH h2
  clear hm h2
  go_wp2_with fail
  have hK := paIs_any (uH hP) (keyT kIf)
  rw [eqB_key, h3] at hK
  refine (hK).mono ?_
  rintro e W9 ⟨rfl, hb⟩
  have h2 := (uH hP).below hb
  have hm := mop_below (g := g) hb
  clear hb
  replace hN := zH ((uH hN).mop (uH hP) hm)
  have hzz := hm.size
  replace hM := zH ((uH hM).trans hm)
  replace hP := zH h2
  clear hm h2
  go_wp2_with fail
  refine (paKey_any _ _).mono ?_
  rintro e W10 ⟨rfl, hb⟩
  have h2 := (uH hP).below hb
  have hm := mop_below (g := g) hb
  clear hb
  replace hN := zH ((uH hN).mop (uH hP) hm)
  have hzz := hm.size
  replace hM := zH ((uH hM).trans hm)
  replace hP := zH h2
  clear hm h2
  go_wp2_with fail
  have hK := paIs_any (uH hP) (keyT kFor)
  rw [eqB_key, h4] at hK
  refine (hK).mono ?_
  rintro e W11 ⟨rfl, hb⟩
  have h2 := (uH hP).below hb
  have hm := mop_below (g := g) hb
  clear hb
  replace hN := zH ((uH hN).mop (uH hP) hm)
  have hzz := hm.size
  replace hM := zH ((uH hM).trans hm)
  replace hP := zH h2
  clear hm h2
  go_wp2_with fail
  refine (paKey_any _ _).mono ?_
  rintro e W12 ⟨rfl, hb⟩
  have h2 := (uH hP).below hb
  have hm := mop_below (g := g) hb
  clear hb
  replace hN := zH ((uH hN).mop (uH hP) hm)
  have hzz := hm.size
  replace hM := zH ((uH hM).trans hm)
  replace hP := zH h2
  clear hm h2
  go_wp2_with fail
  have hK := paIs_any (uH hP) (keyT [114, 101, 116, 117, 114, 110])
  rw [eqB_key, h5] at hK
  refine (hK).mono ?_
  rintro e W13 ⟨rfl, hb⟩
  have h2 := (uH hP).below hb
  have hm := mop_below (g := g) hb
  clear hb
  replace hN := zH ((uH hN).mop (uH hP) hm)
  have hzz := hm.size
  replace hM := zH ((uH hM).trans hm)
  replace hP := zH h2
  clear hm h2
  go_wp2_with fail
  have hC := uH hH _ (uH hP)
  rw [hr] at hC
  refine (hC).mono ?_
  rintro e W14 hBad
  obtain rfl := hBad.1
  have hG := zH (hBad.pre (uH hM))
  clear hBad
  go_wp2
  exact ⟨rfl, uH hG⟩
 | ok n j =>
  obtain ⟨nk, nt, nc⟩ := n
  have hP := zH (h.alloc (.cells #[.int .i64 0, .int .i64 0, .slice none 0 0] 24 (0, 0))).1
  have hM := zH (h.alloc (.cells #[.int .i64 0, .int .i64 0, .slice none 0 0] 24 (0, 0))).2
  have hN := zH (nblk_new w 0 0 none 0 0)
  obtain ⟨gb, hgb⟩ : ∃ gb, w.heap.size = gb := ⟨_, rfl⟩
  have hz : (w.alloc (.cells #[.int .i64 0, .int .i64 0, .slice none 0 0] 24 (0, 0))).heap.size = gb + 1 := by simp [hgb]
  have hgl : g < gb := by have := h.lt; omega
  rw [hgb] at hN
  obtain ⟨W1, hq_W1⟩ : ∃ W1, w.alloc (.cells #[.int .i64 0, .int .i64 0, .slice none 0 0] 24 (0, 0)) = W1 := ⟨_, rfl⟩
  rw [hq_W1] at hP hM hN hz
  replace hz := And.intro (Nat.le_of_eq hz) (Nat.le_of_eq hz.symm)
  replace h := zH h
  go_enter Tryz.func126, Tryz.ntmps126
  go_wp2_with fail
  clear hq_W1
  refine (paKey_any _ _).mono ?_
  rintro e W2 ⟨rfl, hb⟩
  have h2 := (uH hP).below hb
  have hm := mop_below (g := g) hb
  clear hb
  replace hN := zH ((uH hN).mop (uH hP) hm)
  have hzz := hm.size
  replace hM := zH ((uH hM).trans hm)
  replace hP := zH h2
  clear hm h2
  go_wp2_with fail
  refine (paTake_no (uH hP) (keyT [118, 97, 114]) (by rw [eqB_key]; exact h0)).mono ?_
  rintro e W3 ⟨rfl, h2, hm⟩
  replace hN := zH ((uH hN).mop (uH hP) hm)
  have hzz := hm.size
  replace hM := zH ((uH hM).trans hm)
  replace hP := zH h2
  clear hm h2
  go_wp2_with fail
  refine (paKey_any _ _).mono ?_
  rintro e W4 ⟨rfl, hb⟩
  have h2 := (uH hP).below hb
  have hm := mop_below (g := g) hb
  clear hb
  replace hN := zH ((uH hN).mop (uH hP) hm)
  have hzz := hm.size
  replace hM := zH ((uH hM).trans hm)
  replace hP := zH h2
  clear hm h2
  go_wp2_with fail
  refine (paTake_no (uH hP) (keyT [99, 111, 110, 115, 116]) (by rw [eqB_key]; exact h1)).mono ?_
  rintro e W5 ⟨rfl, h2, hm⟩
  replace hN := zH ((uH hN).mop (uH hP) hm)
  have hzz := hm.size
  replace hM := zH ((uH hM).trans hm)
  replace hP := zH h2
  clear hm h2
  go_wp2_with fail
  refine (paOp_any _ _).mono ?_
  rintro e W6 ⟨rfl, hb⟩
  have h2 := (uH hP).below hb
  have hm := mop_below (g := g) hb
  clear hb
  replace hN := zH ((uH hN).mop (uH hP) hm)
  have hzz := hm.size
  replace hM := zH ((uH hM).trans hm)
  replace hP := zH h2
  clear hm h2
  go_wp2_with fail
  have hK := paIs_any (uH hP) (opT [123])
  rw [eqB_op, h2] at hK
  refine (hK).mono ?_
  rintro e W7 ⟨rfl, hb⟩
  have h2 := (uH hP).below hb
  have hm := mop_below (g := g) hb
  clear hb
  replace hN := zH ((uH hN).mop (uH hP) hm)
  have hzz := hm.size
  replace hM := zH ((uH hM).trans hm)
  replace hP := zH h2
  clear hm h2
  go_wp2_with fail
  refine (paKey_any _ _).mono ?_
  rintro e W8 ⟨rfl, hb⟩
  have h2 := (uH hP).below hb
  have hm := mop_below (g := g) hb
  clear hb
  replace hN := zH ((uH hN).mop (uH hP) hm)
  have hzz := hm.size
  replace hM := zH ((uH hM).trans hm)
  replace hP := zH h2
  clear hm h2
  go_wp2_with fail
  have hK := paIs_any (uH hP) (keyT kIf)
  rw [eqB_key, h3] at hK
  refine (hK).mono ?_
  rintro e W9 ⟨rfl, hb⟩
  have h2 := (uH hP).below hb
  have hm := mop_below (g := g) hb
  clear hb
  replace hN := zH ((uH hN).mop (uH hP) hm)
  have hzz := hm.size
  replace hM := zH ((uH hM).trans hm)
  replace hP := zH h2
  clear hm h2
  go_wp2_with fail
  refine (paKey_any _ _).mono ?_
  rintro e W10 ⟨rfl, hb⟩
  have h2 := (uH hP).below hb
  have hm := mop_below (g := g) hb
  clear hb
  replace hN := zH ((uH hN).mop (uH hP) hm)
  have hzz := hm.size
  replace hM := zH ((uH hM).trans hm)
  replace hP := zH h2
  clear hm h2
  go_wp2_with fail
  have hK := paIs_any (uH hP) (keyT kFor)
  rw [eqB_key, h4] at hK
  refine (hK).mono ?_
  rintro e W11 ⟨rfl, hb⟩
  have h2 := (uH hP).below hb
  have hm := mop_below (g := g) hb
  clear hb
  replace hN := zH ((uH hN).mop (uH hP) hm)
  have hzz := hm.size
  replace hM := zH ((uH hM).trans hm)
  replace hP := zH h2
  clear hm h2
  go_wp2_with fail
  refine (paKey_any _ _).mono ?_
  rintro e W12 ⟨rfl, hb⟩
  have h2 := (uH hP).below hb
  have hm := mop_below (g := g) hb
  clear hb
  replace hN := zH ((uH hN).mop (uH hP) hm)
  have hzz := hm.size
  replace hM := zH ((uH hM).trans hm)
  replace hP := zH h2
  clear hm h2
  go_wp2_with fail
  have hK := paIs_any (uH hP) (keyT [114, 101, 116, 117, 114, 110])
  rw [eqB_key, h5] at hK
  refine (hK).mono ?_
  rintro e W13 ⟨rfl, hb⟩
  have h2 := (uH hP).below hb
  have hm := mop_below (g := g) hb
  clear hb
  replace hN := zH ((uH hN).mop (uH hP) hm)
  have hzz := hm.size
  replace hM := zH ((uH hM).trans hm)
  replace hP := zH h2
  clear hm h2
  go_wp2_with fail
  have hC := uH hH _ (uH hP)
  rw [hr] at hC
  refine (hC).mono ?_
  rintro e W14 ⟨a1, m1, c1, rfl, hs, h2, hm⟩
  have hzs := hm.size
  have hs1 := zH (hs.mono (P' := fun x => gb < x ∧ x < W14.heap.size) (fun x hx => by have := (uH hN).lt; have e1 := hx.1; have e2 := hx.lt; exact ⟨by omega, by omega⟩))
  clear hs
  replace hN := zH ((uH hN).mop (uH hP) hm)
  have hzz := hm.size
  replace hM := zH ((uH hM).trans hm)
  replace hP := zH h2
  clear hm h2
  dsimp only at hs1
  obtain ⟨p0_hN, p1_hN, p2_hN⟩ := (uH hN).box
  have f0_hN := (uH hN).frozen 0
  have f1_hN := (uH hN).frozen 1
  have f2_hN := (uH hN).frozen 2
  have hF := zH (res_fin (k := nk) (t := nt) (a := a1) (m := m1) (c := c1) (f := nc) (B := gb) (w := w) (Nat.le_refl gb) (by omega) (uH hN) ((uH hs1).mono (fun x hx => by have e1 := hx.1; exact ⟨by omega, by omega⟩)) (uH hP) (uH hM))
  go_wp2
  obtain ⟨q1, q2, q3, q4⟩ := uH hF
  obtain ⟨u0, u1, u2⟩ := q1.box
  refine bodyPost_ret (v := .agg #[.int .i64 (nk), .int .i64 (nt), .slice (a1) (m1) (c1)]) (by simp [results, Tryz.results126, go_sem, u0, u1, u2]) rfl ?_
  exact ⟨_, _, _, rfl, (by first | exact q2 | (rw [hgb]; exact q2)), q3, q4⟩
set_option maxHeartbeats 4000000 in
set_option maxRecDepth 100000 in
theorem paStatement_brk {g : Nat} {tv : Value} {L : List Tk} {i d : Nat} {w : World} (h : PaW g tv L i d w) {R : PR Nd} (h0 : keyA L i [118, 97, 114] = false) (h1 : keyA L i [99, 111, 110, 115, 116] = false) (h2 : opA L i [123] = false) (h3 : keyA L i kIf = false) (h4 : keyA L i kFor = false) (h5 : keyA L i [114, 101, 116, 117, 114, 110] = false) (h6 : keyA L i [98, 114, 101, 97, 107] = true) (hH : Hid (∀ (w : World), PaW g tv L (i) d w → Calls Tryz.prog 142 #[.pointer (some ⟨g, 0, none⟩), .int .i64 17] w fun e w' => ResN w.heap.size g tv L d w R e w')) (hne : R ≠ .out) :
  Calls Tryz.prog 126 #[.pointer (some ⟨g, 0, none⟩)] w fun e w' => ResN w.heap.size g tv L d w R e w' := by
 generalize hr : R = r at hne ⊢
 cases r with
 | out => exact absurd rfl hne
 | bad j =>
  have hP := zH (h.alloc (.cells #[.int .i64 0, .int .i64 0, .slice none 0 0] 24 (0, 0))).1
  have hM := zH (h.alloc (.cells #[.int .i64 0, .int .i64 0, .slice none 0 0] 24 (0, 0))).2
  have hN := zH (nblk_new w 0 0 none 0 0)
  obtain ⟨gb, hgb⟩ : ∃ gb, w.heap.size = gb := ⟨_, rfl⟩
  have hz : (w.alloc (.cells #[.int .i64 0, .int .i64 0, .slice none 0 0] 24 (0, 0))).heap.size = gb + 1 := by simp [hgb]
  have hgl : g < gb := by have := h.lt; omega
  rw [hgb] at hN
  obtain ⟨W1, hq_W1⟩ : ∃ W1, w.alloc (.cells #[.int .i64 0, .int .i64 0, .slice none 0 0] 24 (0, 0)) = W1 := ⟨_, rfl⟩
  rw [hq_W1] at hP hM hN hz
  replace hz := And.intro (Nat.le_of_eq hz) (Nat.le_of_eq hz.symm)
  replace h := zH h
  go_enter Tryz.func126, Tryz.ntmps126
  go_wp2_with fail
  clear hq_W1
  refine (paKey_any _ _).mono ?_
  rintro e W2 ⟨rfl, hb⟩
  have h2 := (uH hP).below hb
  have hm := mop_below (g := g) hb
  clear hb
  replace hN := zH ((uH hN).mop (uH hP) hm)
  have hzz := hm.size
  replace hM := zH ((uH hM).trans hm)
  replace hP := zH h2
  clear hm h2
  go_wp2_with fail
  refine (paTake_no (uH hP) (keyT [118, 97, 114]) (by rw [eqB_key]; exact h0)).mono ?_
  rintro e W3 ⟨rfl, h2, hm⟩
  replace hN := zH ((uH hN).mop (uH hP) hm)
  have hzz := hm.size
  replace hM := zH ((uH hM).trans hm)
  replace hP := zH h2
  clear hm h2
  go_wp2_with fail
  refine (paKey_any _ _).mono ?_
  rintro e W4 ⟨rfl, hb⟩
  have h2 := (uH hP).below hb
  have hm := mop_below (g := g) hb
  clear hb
  replace hN := zH ((uH hN).mop (uH hP) hm)
  have hzz := hm.size
  replace hM := zH ((uH hM).trans hm)
  replace hP := zH h2
  clear hm h2
  go_wp2_with fail
  refine (paTake_no (uH hP) (keyT [99, 111, 110, 115, 116]) (by rw [eqB_key]; exact h1)).mono ?_
  rintro e W5 ⟨rfl, h2, hm⟩
  replace hN := zH ((uH hN).mop (uH hP) hm)
  have hzz := hm.size
  replace hM := zH ((uH hM).trans hm)
  replace hP := zH h2
  clear hm h2
  go_wp2_with fail
  refine (paOp_any _ _).mono ?_
  rintro e W6 ⟨rfl, hb⟩
  have h2 := (uH hP).below hb
  have hm := mop_below (g := g) hb
  clear hb
  replace hN := zH ((uH hN).mop (uH hP) hm)
  have hzz := hm.size
  replace hM := zH ((uH hM).trans hm)
  replace hP := zH h2
  clear hm h2
  go_wp2_with fail
  have hK := paIs_any (uH hP) (opT [123])
  rw [eqB_op, h2] at hK
  refine (hK).mono ?_
  rintro e W7 ⟨rfl, hb⟩
  have h2 := (uH hP).below hb
  have hm := mop_below (g := g) hb
  clear hb
  replace hN := zH ((uH hN).mop (uH hP) hm)
  have hzz := hm.size
  replace hM := zH ((uH hM).trans hm)
  replace hP := zH h2
  clear hm h2
  go_wp2_with fail
  refine (paKey_any _ _).mono ?_
  rintro e W8 ⟨rfl, hb⟩
  have h2 := (uH hP).below hb
  have hm := mop_below (g := g) hb
  clear hb
  replace hN := zH ((uH hN).mop (uH hP) hm)
  have hzz := hm.size
  replace hM := zH ((uH hM).trans hm)
  replace hP := zH h2
  clear hm h2
  go_wp2_with fail
  have hK := paIs_any (uH hP) (keyT kIf)
  rw [eqB_key, h3] at hK
  refine (hK).mono ?_
  rintro e W9 ⟨rfl, hb⟩
  have h2 := (uH hP).below hb
  have hm := mop_below (g := g) hb
  clear hb
  replace hN := zH ((uH hN).mop (uH hP) hm)
  have hzz := hm.size
  replace hM := zH ((uH hM).trans hm)
  replace hP := zH h2
  clear hm h2
  go_wp2_with fail
  refine (paKey_any _ _).mono ?_
  rintro e W10 ⟨rfl, hb⟩
  have h2 := (uH hP).below hb
  have hm := mop_below (g := g) hb
  clear hb
  replace hN := zH ((uH hN).mop (uH hP) hm)
  have hzz := hm.size
  replace hM := zH ((uH hM).trans hm)
  replace hP := zH h2
  clear hm h2
  go_wp2_with fail
  have hK := paIs_any (uH hP) (keyT kFor)
  rw [eqB_key, h4] at hK
  refine (hK).mono ?_
  rintro e W11 ⟨rfl, hb⟩
  have h2 := (uH hP).below hb
  have hm := mop_below (g := g) hb
  clear hb
  replace hN := zH ((uH hN).mop (uH hP) hm)
  have hzz := hm.size
  replace hM := zH ((uH hM).trans hm)
  replace hP := zH h2
  clear hm h2
  go_wp2_with fail
  refine (paKey_any _ _).mono ?_
  rintro e W12 ⟨rfl, hb⟩
  have h2 := (uH hP).below hb
  have hm := mop_below (g := g) hb
  clear hb
  replace hN := zH ((uH hN).mop (uH hP) hm)
  have hzz := hm.size
  replace hM := zH ((uH hM).trans hm)
  replace hP := zH h2
  clear hm h2
  go_wp2_with fail
  have hK := paIs_any (uH hP) (keyT [114, 101, 116, 117, 114, 110])
  rw [eqB_key, h5] at hK
  refine (hK).mono ?_
  rintro e W13 ⟨rfl, hb⟩
  have h2 := (uH hP).below hb
  have hm := mop_below (g := g) hb
  clear hb
  replace hN := zH ((uH hN).mop (uH hP) hm)
  have hzz := hm.size
  replace hM := zH ((uH hM).trans hm)
  replace hP := zH h2
  clear hm h2
  go_wp2_with fail
  refine (paKey_any _ _).mono ?_
  rintro e W14 ⟨rfl, hb⟩
  have h2 := (uH hP).below hb
  have hm := mop_below (g := g) hb
  clear hb
  replace hN := zH ((uH hN).mop (uH hP) hm)
  have hzz := hm.size
  replace hM := zH ((uH hM).trans hm)
  replace hP := zH h2
  clear hm h2
  go_wp2_with fail
  have hK := paIs_any (uH hP) (keyT [98, 114, 101, 97, 107])
  rw [eqB_key, h6] at hK
  refine (hK).mono ?_
  rintro e W15 ⟨rfl, hb⟩
  have h2 := (uH hP).below hb
  have hm := mop_below (g := g) hb
  clear hb
  replace hN := zH ((uH hN).mop (uH hP) hm)
  have hzz := hm.size
  replace hM := zH ((uH hM).trans hm)
  replace hP := zH h2
  clear hm h2
  go_wp2_with fail
  have hC := uH hH _ (uH hP)
  rw [hr] at hC
  refine (hC).mono ?_
  rintro e W16 hBad
  obtain rfl := hBad.1
  have hG := zH (hBad.pre (uH hM))
  clear hBad
  go_wp2
  exact ⟨rfl, uH hG⟩
 | ok n j =>
  obtain ⟨nk, nt, nc⟩ := n
  have hP := zH (h.alloc (.cells #[.int .i64 0, .int .i64 0, .slice none 0 0] 24 (0, 0))).1
  have hM := zH (h.alloc (.cells #[.int .i64 0, .int .i64 0, .slice none 0 0] 24 (0, 0))).2
  have hN := zH (nblk_new w 0 0 none 0 0)
  obtain ⟨gb, hgb⟩ : ∃ gb, w.heap.size = gb := ⟨_, rfl⟩
  have hz : (w.alloc (.cells #[.int .i64 0, .int .i64 0, .slice none 0 0] 24 (0, 0))).heap.size = gb + 1 := by simp [hgb]
  have hgl : g < gb := by have := h.lt; omega
  rw [hgb] at hN
  obtain ⟨W1, hq_W1⟩ : ∃ W1, w.alloc (.cells #[.int .i64 0, .int .i64 0, .slice none 0 0] 24 (0, 0)) = W1 := ⟨_, rfl⟩
  rw [hq_W1] at hP hM hN hz
  replace hz := And.intro (Nat.le_of_eq hz) (Nat.le_of_eq hz.symm)
  replace h := zH h
  go_enter Tryz.func126, Tryz.ntmps126
  go_wp2_with fail
  clear hq_W1
  refine (paKey_any _ _).mono ?_
  rintro e W2 ⟨rfl, hb⟩
  have h2 := (uH hP).below hb
  have hm := mop_below (g := g) hb
  clear hb
  replace hN := zH ((uH hN).mop (uH hP) hm)
  have hzz := hm.size
  replace hM := zH ((uH hM).trans hm)
  replace hP := zH h2
  clear hm h2
  go_wp2_with fail
  refine (paTake_no (uH hP) (keyT [118, 97, 114]) (by rw [eqB_key]; exact h0)).mono ?_
  rintro e W3 ⟨rfl, h2, hm⟩
  replace hN := zH ((uH hN).mop (uH hP) hm)
  have hzz := hm.size
  replace hM := zH ((uH hM).trans hm)
  replace hP := zH h2
  clear hm h2
  go_wp2_with fail
  refine (paKey_any _ _).mono ?_
  rintro e W4 ⟨rfl, hb⟩
  have h2 := (uH hP).below hb
  have hm := mop_below (g := g) hb
  clear hb
  replace hN := zH ((uH hN).mop (uH hP) hm)
  have hzz := hm.size
  replace hM := zH ((uH hM).trans hm)
  replace hP := zH h2
  clear hm h2
  go_wp2_with fail
  refine (paTake_no (uH hP) (keyT [99, 111, 110, 115, 116]) (by rw [eqB_key]; exact h1)).mono ?_
  rintro e W5 ⟨rfl, h2, hm⟩
  replace hN := zH ((uH hN).mop (uH hP) hm)
  have hzz := hm.size
  replace hM := zH ((uH hM).trans hm)
  replace hP := zH h2
  clear hm h2
  go_wp2_with fail
  refine (paOp_any _ _).mono ?_
  rintro e W6 ⟨rfl, hb⟩
  have h2 := (uH hP).below hb
  have hm := mop_below (g := g) hb
  clear hb
  replace hN := zH ((uH hN).mop (uH hP) hm)
  have hzz := hm.size
  replace hM := zH ((uH hM).trans hm)
  replace hP := zH h2
  clear hm h2
  go_wp2_with fail
  have hK := paIs_any (uH hP) (opT [123])
  rw [eqB_op, h2] at hK
  refine (hK).mono ?_
  rintro e W7 ⟨rfl, hb⟩
  have h2 := (uH hP).below hb
  have hm := mop_below (g := g) hb
  clear hb
  replace hN := zH ((uH hN).mop (uH hP) hm)
  have hzz := hm.size
  replace hM := zH ((uH hM).trans hm)
  replace hP := zH h2
  clear hm h2
  go_wp2_with fail
  refine (paKey_any _ _).mono ?_
  rintro e W8 ⟨rfl, hb⟩
  have h2 := (uH hP).below hb
  have hm := mop_below (g := g) hb
  clear hb
  replace hN := zH ((uH hN).mop (uH hP) hm)
  have hzz := hm.size
  replace hM := zH ((uH hM).trans hm)
  replace hP := zH h2
  clear hm h2
  go_wp2_with fail
  have hK := paIs_any (uH hP) (keyT kIf)
  rw [eqB_key, h3] at hK
  refine (hK).mono ?_
  rintro e W9 ⟨rfl, hb⟩
  have h2 := (uH hP).below hb
  have hm := mop_below (g := g) hb
  clear hb
  replace hN := zH ((uH hN).mop (uH hP) hm)
  have hzz := hm.size
  replace hM := zH ((uH hM).trans hm)
  replace hP := zH h2
  clear hm h2
  go_wp2_with fail
  refine (paKey_any _ _).mono ?_
  rintro e W10 ⟨rfl, hb⟩
  have h2 := (uH hP).below hb
  have hm := mop_below (g := g) hb
  clear hb
  replace hN := zH ((uH hN).mop (uH hP) hm)
  have hzz := hm.size
  replace hM := zH ((uH hM).trans hm)
  replace hP := zH h2
  clear hm h2
  go_wp2_with fail
  have hK := paIs_any (uH hP) (keyT kFor)
  rw [eqB_key, h4] at hK
  refine (hK).mono ?_
  rintro e W11 ⟨rfl, hb⟩
  have h2 := (uH hP).below hb
  have hm := mop_below (g := g) hb
  clear hb
  replace hN := zH ((uH hN).mop (uH hP) hm)
  have hzz := hm.size
  replace hM := zH ((uH hM).trans hm)
  replace hP := zH h2
  clear hm h2
  go_wp2_with fail
  refine (paKey_any _ _).mono ?_
  rintro e W12 ⟨rfl, hb⟩
  have h2 := (uH hP).below hb
  have hm := mop_below (g := g) hb
  clear hb
  replace hN := zH ((uH hN).mop (uH hP) hm)
  have hzz := hm.size
  replace hM := zH ((uH hM).trans hm)
  replace hP := zH h2
  clear hm h2
  go_wp2_with fail
  have hK := paIs_any (uH hP) (keyT [114, 101, 116, 117, 114, 110])
  rw [eqB_key, h5] at hK
  refine (hK).mono ?_
  rintro e W13 ⟨rfl, hb⟩
  have h2 := (uH hP).below hb
  have hm := mop_below (g := g) hb
  clear hb
  replace hN := zH ((uH hN).mop (uH hP) hm)
  have hzz := hm.size
  replace hM := zH ((uH hM).trans hm)
  replace hP := zH h2
  clear hm h2
  go_wp2_with fail
  refine (paKey_any _ _).mono ?_
  rintro e W14 ⟨rfl, hb⟩
  have h2 := (uH hP).below hb
  have hm := mop_below (g := g) hb
  clear hb
  replace hN := zH ((uH hN).mop (uH hP) hm)
  have hzz := hm.size
  replace hM := zH ((uH hM).trans hm)
  replace hP := zH h2
  clear hm h2
  go_wp2_with fail
  have hK := paIs_any (uH hP) (keyT [98, 114, 101, 97, 107])
  rw [eqB_key, h6] at hK
  refine (hK).mono ?_
  rintro e W15 ⟨rfl, hb⟩
  have h2 := (uH hP).below hb
  have hm := mop_below (g := g) hb
  clear hb
  replace hN := zH ((uH hN).mop (uH hP) hm)
  have hzz := hm.size
  replace hM := zH ((uH hM).trans hm)
  replace hP := zH h2
  clear hm h2
  go_wp2_with fail
  have hC := uH hH _ (uH hP)
  rw [hr] at hC
  refine (hC).mono ?_
  rintro e W16 ⟨a1, m1, c1, rfl, hs, h2, hm⟩
  have hzs := hm.size
  have hs1 := zH (hs.mono (P' := fun x => gb < x ∧ x < W16.heap.size) (fun x hx => by have := (uH hN).lt; have e1 := hx.1; have e2 := hx.lt; exact ⟨by omega, by omega⟩))
  clear hs
  replace hN := zH ((uH hN).mop (uH hP) hm)
  have hzz := hm.size
  replace hM := zH ((uH hM).trans hm)
  replace hP := zH h2
  clear hm h2
  dsimp only at hs1
  obtain ⟨p0_hN, p1_hN, p2_hN⟩ := (uH hN).box
  have f0_hN := (uH hN).frozen 0
  have f1_hN := (uH hN).frozen 1
  have f2_hN := (uH hN).frozen 2
  have hF := zH (res_fin (k := nk) (t := nt) (a := a1) (m := m1) (c := c1) (f := nc) (B := gb) (w := w) (Nat.le_refl gb) (by omega) (uH hN) ((uH hs1).mono (fun x hx => by have e1 := hx.1; exact ⟨by omega, by omega⟩)) (uH hP) (uH hM))
  go_wp2
  obtain ⟨q1, q2, q3, q4⟩ := uH hF
  obtain ⟨u0, u1, u2⟩ := q1.box
  refine bodyPost_ret (v := .agg #[.int .i64 (nk), .int .i64 (nt), .slice (a1) (m1) (c1)]) (by simp [results, Tryz.results126, go_sem, u0, u1, u2]) rfl ?_
  exact ⟨_, _, _, rfl, (by first | exact q2 | (rw [hgb]; exact q2)), q3, q4⟩
set_option maxHeartbeats 4000000 in
set_option maxRecDepth 100000 in
theorem paStatement_cnt {g : Nat} {tv : Value} {L : List Tk} {i d : Nat} {w : World} (h : PaW g tv L i d w) {R : PR Nd} (h0 : keyA L i [118, 97, 114] = false) (h1 : keyA L i [99, 111, 110, 115, 116] = false) (h2 : opA L i [123] = false) (h3 : keyA L i kIf = false) (h4 : keyA L i kFor = false) (h5 : keyA L i [114, 101, 116, 117, 114, 110] = false) (h6 : keyA L i [98, 114, 101, 97, 107] = false) (h7 : keyA L i [99, 111, 110, 116, 105, 110, 117, 101] = true) (hH : Hid (∀ (w : World), PaW g tv L (i) d w → Calls Tryz.prog 142 #[.pointer (some ⟨g, 0, none⟩), .int .i64 18] w fun e w' => ResN w.heap.size g tv L d w R e w')) (hne : R ≠ .out) :
  Calls Tryz.prog 126 #[.pointer (some ⟨g, 0, none⟩)] w fun e w' => ResN w.heap.size g tv L d w R e w' := by
 generalize hr : R = r at hne ⊢
 cases r with
 | out => exact absurd rfl hne
 | bad j =>
  have hP := zH (h.alloc (.cells #[.int .i64 0, .int .i64 0, .slice none 0 0] 24 (0, 0))).1
  have hM := zH (h.alloc (.cells #[.int .i64 0, .int .i64 0, .slice none 0 0] 24 (0, 0))).2
  have hN := zH (nblk_new w 0 0 none 0 0)
  obtain ⟨gb, hgb⟩ : ∃ gb, w.heap.size = gb := ⟨_, rfl⟩
  have hz : (w.alloc (.cells #[.int .i64 0, .int .i64 0, .slice none 0 0] 24 (0, 0))).heap.size = gb + 1 := by simp [hgb]
  have hgl : g < gb := by have := h.lt; omega
  rw [hgb] at hN
  obtain ⟨W1, hq_W1⟩ : ∃ W1, w.alloc (.cells #[.int .i64 0, .int .i64 0, .slice none 0 0] 24 (0, 0)) = W1 := ⟨_, rfl⟩
  rw [hq_W1] at hP hM hN hz
  replace hz := And.intro (Nat.le_of_eq hz) (Nat.le_of_eq hz.symm)
  replace h := zH h
  go_enter Tryz.func126, Tryz.ntmps126
  go_wp2_with fail
  clear hq_W1
  refine (paKey_any _ _).mono ?_
  rintro e W2 ⟨rfl, hb⟩
  have h2 := (uH hP).below hb
  have hm := mop_below (g := g) hb
  clear hb
  replace hN := zH ((uH hN).mop (uH hP) hm)
  have hzz := hm.size
  replace hM := zH ((uH hM).trans hm)
  replace hP := zH h2
  clear hm h2
  go_wp2_with fail
  refine (paTake_no (uH hP) (keyT [118, 97, 114]) (by rw [eqB_key]; exact h0)).mono ?_
  rintro e W3 ⟨rfl, h2, hm⟩
  replace hN := zH ((uH hN).mop (uH hP) hm)
  have hzz := hm.size
  replace hM := zH ((uH hM).trans hm)
  replace hP := zH h2
  clear hm h2
  go_wp2_with fail
  refine (paKey_any _ _).mono ?_
  rintro e W4 ⟨rfl, hb⟩
  have h2 := (uH hP).below hb
  have hm := mop_below (g := g) hb
  clear hb
  replace hN := zH ((uH hN).mop (uH hP) hm)
  have hzz := hm.size
  replace hM := zH ((uH hM).trans hm)
  replace hP := zH h2
  clear hm h2
  go_wp2_with fail
  refine (paTake_no (uH hP) (keyT [99, 111, 110, 115, 116]) (by rw [eqB_key]; exact h1)).mono ?_
  rintro e W5 ⟨rfl, h2, hm⟩
  replace hN := zH ((uH hN).mop (uH hP) hm)
  have hzz := hm.size
  replace hM := zH ((uH hM).trans hm)
  replace hP := zH h2
  clear hm h2
  go_wp2_with fail
  refine (paOp_any _ _).mono ?_
  rintro e W6 ⟨rfl, hb⟩
  have h2 := (uH hP).below hb
  have hm := mop_below (g := g) hb
  clear hb
  replace hN := zH ((uH hN).mop (uH hP) hm)
  have hzz := hm.size
  replace hM := zH ((uH hM).trans hm)
  replace hP := zH h2
  clear hm h2
  go_wp2_with fail
  have hK := paIs_any (uH hP) (opT [123])
  rw [eqB_op, h2] at hK
  refine (hK).mono ?_
  rintro e W7 ⟨rfl, hb⟩
  have h2 := (uH hP).below hb
  have hm := mop_below (g := g) hb
  clear hb
  replace hN := zH ((uH hN).mop (uH hP) hm)
  have hzz := hm.size
  replace hM := zH ((uH hM).trans hm)
  replace hP := zH h2
  clear hm h2
  go_wp2_with fail
  refine (paKey_any _ _).mono ?_
  rintro e W8 ⟨rfl, hb⟩
  have h2 := (uH hP).below hb
  have hm := mop_below (g := g) hb
  clear hb
  replace hN := zH ((uH hN).mop (uH hP) hm)
  have hzz := hm.size
  replace hM := zH ((uH hM).trans hm)
  replace hP := zH h2
  clear hm h2
  go_wp2_with fail
  have hK := paIs_any (uH hP) (keyT kIf)
  rw [eqB_key, h3] at hK
  refine (hK).mono ?_
  rintro e W9 ⟨rfl, hb⟩
  have h2 := (uH hP).below hb
  have hm := mop_below (g := g) hb
  clear hb
  replace hN := zH ((uH hN).mop (uH hP) hm)
  have hzz := hm.size
  replace hM := zH ((uH hM).trans hm)
  replace hP := zH h2
  clear hm h2
  go_wp2_with fail
  refine (paKey_any _ _).mono ?_
  rintro e W10 ⟨rfl, hb⟩
  have h2 := (uH hP).below hb
  have hm := mop_below (g := g) hb
  clear hb
  replace hN := zH ((uH hN).mop (uH hP) hm)
  have hzz := hm.size
  replace hM := zH ((uH hM).trans hm)
  replace hP := zH h2
  clear hm h2
  go_wp2_with fail
  have hK := paIs_any (uH hP) (keyT kFor)
  rw [eqB_key, h4] at hK
  refine (hK).mono ?_
  rintro e W11 ⟨rfl, hb⟩
  have h2 := (uH hP).below hb
  have hm := mop_below (g := g) hb
  clear hb
  replace hN := zH ((uH hN).mop (uH hP) hm)
  have hzz := hm.size
  replace hM := zH ((uH hM).trans hm)
  replace hP := zH h2
  clear hm h2
  go_wp2_with fail
  refine (paKey_any _ _).mono ?_
  rintro e W12 ⟨rfl, hb⟩
  have h2 := (uH hP).below hb
  have hm := mop_below (g := g) hb
  clear hb
  replace hN := zH ((uH hN).mop (uH hP) hm)
  have hzz := hm.size
  replace hM := zH ((uH hM).trans hm)
  replace hP := zH h2
  clear hm h2
  go_wp2_with fail
  have hK := paIs_any (uH hP) (keyT [114, 101, 116, 117, 114, 110])
  rw [eqB_key, h5] at hK
  refine (hK).mono ?_
  rintro e W13 ⟨rfl, hb⟩
  have h2 := (uH hP).below hb
  have hm := mop_below (g := g) hb
  clear hb
  replace hN := zH ((uH hN).mop (uH hP) hm)
  have hzz := hm.size
  replace hM := zH ((uH hM).trans hm)
  replace hP := zH h2
  clear hm h2
  go_wp2_with fail
  refine (paKey_any _ _).mono ?_
  rintro e W14 ⟨rfl, hb⟩
  have h2 := (uH hP).below hb
  have hm := mop_below (g := g) hb
  clear hb
  replace hN := zH ((uH hN).mop (uH hP) hm)
  have hzz := hm.size
  replace hM := zH ((uH hM).trans hm)
  replace hP := zH h2
  clear hm h2
  go_wp2_with fail
  have hK := paIs_any (uH hP) (keyT [98, 114, 101, 97, 107])
  rw [eqB_key, h6] at hK
  refine (hK).mono ?_
  rintro e W15 ⟨rfl, hb⟩
  have h2 := (uH hP).below hb
  have hm := mop_below (g := g) hb
  clear hb
  replace hN := zH ((uH hN).mop (uH hP) hm)
  have hzz := hm.size
  replace hM := zH ((uH hM).trans hm)
  replace hP := zH h2
  clear hm h2
  go_wp2_with fail
  refine (paKey_any _ _).mono ?_
  rintro e W16 ⟨rfl, hb⟩
  have h2 := (uH hP).below hb
  have hm := mop_below (g := g) hb
  clear hb
  replace hN := zH ((uH hN).mop (uH hP) hm)
  have hzz := hm.size
  replace hM := zH ((uH hM).trans hm)
  replace hP := zH h2
  clear hm h2
  go_wp2_with fail
  have hK := paIs_any (uH hP) (keyT [99, 111, 110, 116, 105, 110, 117, 101])
  rw [eqB_key, h7] at hK
  refine (hK).mono ?_
  rintro e W17 ⟨rfl, hb⟩
  have h2 := (uH hP).below hb
  have hm := mop_below (g := g) hb
  clear hb
  replace hN := zH ((uH hN).mop (uH hP) hm)
  have hzz := hm.size
  replace hM := zH ((uH hM).trans hm)
  replace hP := zH h2
  clear hm h2
  go_wp2_with fail
  have hC := uH hH _ (uH hP)
  rw [hr] at hC
  refine (hC).mono ?_
  rintro e W18 hBad
  obtain rfl := hBad.1
  have hG := zH (hBad.pre (uH hM))
  clear hBad
  go_wp2
  exact ⟨rfl, uH hG⟩
 | ok n j =>
  obtain ⟨nk, nt, nc⟩ := n
  have hP := zH (h.alloc (.cells #[.int .i64 0, .int .i64 0, .slice none 0 0] 24 (0, 0))).1
  have hM := zH (h.alloc (.cells #[.int .i64 0, .int .i64 0, .slice none 0 0] 24 (0, 0))).2
  have hN := zH (nblk_new w 0 0 none 0 0)
  obtain ⟨gb, hgb⟩ : ∃ gb, w.heap.size = gb := ⟨_, rfl⟩
  have hz : (w.alloc (.cells #[.int .i64 0, .int .i64 0, .slice none 0 0] 24 (0, 0))).heap.size = gb + 1 := by simp [hgb]
  have hgl : g < gb := by have := h.lt; omega
  rw [hgb] at hN
  obtain ⟨W1, hq_W1⟩ : ∃ W1, w.alloc (.cells #[.int .i64 0, .int .i64 0, .slice none 0 0] 24 (0, 0)) = W1 := ⟨_, rfl⟩
  rw [hq_W1] at hP hM hN hz
  replace hz := And.intro (Nat.le_of_eq hz) (Nat.le_of_eq hz.symm)
  replace h := zH h
  go_enter Tryz.func126, Tryz.ntmps126
  go_wp2_with fail
  clear hq_W1
  refine (paKey_any _ _).mono ?_
  rintro e W2 ⟨rfl, hb⟩
  have h2 := (uH hP).below hb
  have hm := mop_below (g := g) hb
  clear hb
  replace hN := zH ((uH hN).mop (uH hP) hm)
  have hzz := hm.size
  replace hM := zH ((uH hM).trans hm)
  replace hP := zH h2
  clear hm h2
  go_wp2_with fail
  refine (paTake_no (uH hP) (keyT [118, 97, 114]) (by rw [eqB_key]; exact h0)).mono ?_
  rintro e W3 ⟨rfl, h2, hm⟩
  replace hN := zH ((uH hN).mop (uH hP) hm)
  have hzz := hm.size
  replace hM := zH ((uH hM).trans hm)
  replace hP := zH h2
  clear hm h2
  go_wp2_with fail
  refine (paKey_any _ _).mono ?_
  rintro e W4 ⟨rfl, hb⟩
  have h2 := (uH hP).below hb
  have hm := mop_below (g := g) hb
  clear hb
  replace hN := zH ((uH hN).mop (uH hP) hm)
  have hzz := hm.size
  replace hM := zH ((uH hM).trans hm)
  replace hP := zH h2
  clear hm h2
  go_wp2_with fail
  refine (paTake_no (uH hP) (keyT [99, 111, 110, 115, 116]) (by rw [eqB_key]; exact h1)).mono ?_
  rintro e W5 ⟨rfl, h2, hm⟩
  replace hN := zH ((uH hN).mop (uH hP) hm)
  have hzz := hm.size
  replace hM := zH ((uH hM).trans hm)
  replace hP := zH h2
  clear hm h2
  go_wp2_with fail
  refine (paOp_any _ _).mono ?_
  rintro e W6 ⟨rfl, hb⟩
  have h2 := (uH hP).below hb
  have hm := mop_below (g := g) hb
  clear hb
  replace hN := zH ((uH hN).mop (uH hP) hm)
  have hzz := hm.size
  replace hM := zH ((uH hM).trans hm)
  replace hP := zH h2
  clear hm h2
  go_wp2_with fail
  have hK := paIs_any (uH hP) (opT [123])
  rw [eqB_op, h2] at hK
  refine (hK).mono ?_
  rintro e W7 ⟨rfl, hb⟩
  have h2 := (uH hP).below hb
  have hm := mop_below (g := g) hb
  clear hb
  replace hN := zH ((uH hN).mop (uH hP) hm)
  have hzz := hm.size
  replace hM := zH ((uH hM).trans hm)
  replace hP := zH h2
  clear hm h2
  go_wp2_with fail
  refine (paKey_any _ _).mono ?_
  rintro e W8 ⟨rfl, hb⟩
  have h2 := (uH hP).below hb
  have hm := mop_below (g := g) hb
  clear hb
  replace hN := zH ((uH hN).mop (uH hP) hm)
  have hzz := hm.size
  replace hM := zH ((uH hM).trans hm)
  replace hP := zH h2
  clear hm h2
  go_wp2_with fail
  have hK := paIs_any (uH hP) (keyT kIf)
  rw [eqB_key, h3] at hK
  refine (hK).mono ?_
  rintro e W9 ⟨rfl, hb⟩
  have h2 := (uH hP).below hb
  have hm := mop_below (g := g) hb
  clear hb
  replace hN := zH ((uH hN).mop (uH hP) hm)
  have hzz := hm.size
  replace hM := zH ((uH hM).trans hm)
  replace hP := zH h2
  clear hm h2
  go_wp2_with fail
  refine (paKey_any _ _).mono ?_
  rintro e W10 ⟨rfl, hb⟩
  have h2 := (uH hP).below hb
  have hm := mop_below (g := g) hb
  clear hb
  replace hN := zH ((uH hN).mop (uH hP) hm)
  have hzz := hm.size
  replace hM := zH ((uH hM).trans hm)
  replace hP := zH h2
  clear hm h2
  go_wp2_with fail
  have hK := paIs_any (uH hP) (keyT kFor)
  rw [eqB_key, h4] at hK
  refine (hK).mono ?_
  rintro e W11 ⟨rfl, hb⟩
  have h2 := (uH hP).below hb
  have hm := mop_below (g := g) hb
  clear hb
  replace hN := zH ((uH hN).mop (uH hP) hm)
  have hzz := hm.size
  replace hM := zH ((uH hM).trans hm)
  replace hP := zH h2
  clear hm h2
  go_wp2_with fail
  refine (paKey_any _ _).mono ?_
  rintro e W12 ⟨rfl, hb⟩
  have h2 := (uH hP).below hb
  have hm := mop_below (g := g) hb
  clear hb
  replace hN := zH ((uH hN).mop (uH hP) hm)
  have hzz := hm.size
  replace hM := zH ((uH hM).trans hm)
  replace hP := zH h2
  clear hm h2
  go_wp2_with fail
  have hK := paIs_any (uH hP) (keyT [114, 101, 116, 117, 114, 110])
  rw [eqB_key, h5] at hK
  refine (hK).mono ?_
  rintro e W13 ⟨rfl, hb⟩
  have h2 := (uH hP).below hb
  have hm := mop_below (g := g) hb
  clear hb
  replace hN := zH ((uH hN).mop (uH hP) hm)
  have hzz := hm.size
  replace hM := zH ((uH hM).trans hm)
  replace hP := zH h2
  clear hm h2
  go_wp2_with fail
  refine (paKey_any _ _).mono ?_
  rintro e W14 ⟨rfl, hb⟩
  have h2 := (uH hP).below hb
  have hm := mop_below (g := g) hb
  clear hb
  replace hN := zH ((uH hN).mop (uH hP) hm)
  have hzz := hm.size
  replace hM := zH ((uH hM).trans hm)
  replace hP := zH h2
  clear hm h2
  go_wp2_with fail
  have hK := paIs_any (uH hP) (keyT [98, 114, 101, 97, 107])
  rw [eqB_key, h6] at hK
  refine (hK).mono ?_
  rintro e W15 ⟨rfl, hb⟩
  have h2 := (uH hP).below hb
  have hm := mop_below (g := g) hb
  clear hb
  replace hN := zH ((uH hN).mop (uH hP) hm)
  have hzz := hm.size
  replace hM := zH ((uH hM).trans hm)
  replace hP := zH h2
  clear hm h2
  go_wp2_with fail
  refine (paKey_any _ _).mono ?_
  rintro e W16 ⟨rfl, hb⟩
  have h2 := (uH hP).below hb
  have hm := mop_below (g := g) hb
  clear hb
  replace hN := zH ((uH hN).mop (uH hP) hm)
  have hzz := hm.size
  replace hM := zH ((uH hM).trans hm)
  replace hP := zH h2
  clear hm h2
  go_wp2_with fail
  have hK := paIs_any (uH hP) (keyT [99, 111, 110, 116, 105, 110, 117, 101])
  rw [eqB_key, h7] at hK
  refine (hK).mono ?_
  rintro e W17 ⟨rfl, hb⟩
  have h2 := (uH hP).below hb
  have hm := mop_below (g := g) hb
  clear hb
  replace hN := zH ((uH hN).mop (uH hP) hm)
  have hzz := hm.size
  replace hM := zH ((uH hM).trans hm)
  replace hP := zH h2
  clear hm h2
  go_wp2_with fail
  have hC := uH hH _ (uH hP)
  rw [hr] at hC
  refine (hC).mono ?_
  rintro e W18 ⟨a1, m1, c1, rfl, hs, h2, hm⟩
  have hzs := hm.size
  have hs1 := zH (hs.mono (P' := fun x => gb < x ∧ x < W18.heap.size) (fun x hx => by have := (uH hN).lt; have e1 := hx.1; have e2 := hx.lt; exact ⟨by omega, by omega⟩))
  clear hs
  replace hN := zH ((uH hN).mop (uH hP) hm)
  have hzz := hm.size
  replace hM := zH ((uH hM).trans hm)
  replace hP := zH h2
  clear hm h2
  dsimp only at hs1
  obtain ⟨p0_hN, p1_hN, p2_hN⟩ := (uH hN).box
  have f0_hN := (uH hN).frozen 0
  have f1_hN := (uH hN).frozen 1
  have f2_hN := (uH hN).frozen 2
  have hF := zH (res_fin (k := nk) (t := nt) (a := a1) (m := m1) (c := c1) (f := nc) (B := gb) (w := w) (Nat.le_refl gb) (by omega) (uH hN) ((uH hs1).mono (fun x hx => by have e1 := hx.1; exact ⟨by omega, by omega⟩)) (uH hP) (uH hM))
  go_wp2
  obtain ⟨q1, q2, q3, q4⟩ := uH hF
  obtain ⟨u0, u1, u2⟩ := q1.box
  refine bodyPost_ret (v := .agg #[.int .i64 (nk), .int .i64 (nt), .slice (a1) (m1) (c1)]) (by simp [results, Tryz.results126, go_sem, u0, u1, u2]) rfl ?_
  exact ⟨_, _, _, rfl, (by first | exact q2 | (rw [hgb]; exact q2)), q3, q4⟩
set_option maxHeartbeats 4000000 in
set_option maxRecDepth 100000 in
theorem paStatement_sim {g : Nat} {tv : Value} {L : List Tk} {i d : Nat} {w : World} (h : PaW g tv L i d w) {R : PR Nd} (h0 : keyA L i [118, 97, 114] = false) (h1 : keyA L i [99, 111, 110, 115, 116] = false) (h2 : opA L i [123] = false) (h3 : keyA L i kIf = false) (h4 : keyA L i kFor = false) (h5 : keyA L i [114, 101, 116, 117, 114, 110] = false) (h6 : keyA L i [98, 114, 101, 97, 107] = false) (h7 : keyA L i [99, 111, 110, 116, 105, 110, 117, 101] = false) (hH : Hid (∀ (w : World), PaW g tv L (i) d w → Calls Tryz.prog 143 #[.pointer (some ⟨g, 0, none⟩)] w fun e w' => ResN w.heap.size g tv L d w R e w')) (hne : R ≠ .out) :
  Calls Tryz.prog 126 #[.pointer (some ⟨g, 0, none⟩)] w fun e w' => ResN w.heap.size g tv L d w R e w' := by
 generalize hr : R = r at hne ⊢
 cases r with
 | out => exact absurd rfl hne
 | bad j =>
  have hP := zH (h.alloc (.cells #[.int .i64 0, .int .i64 0, .slice none 0 0] 24 (0, 0))).1
  have hM := zH (h.alloc (.cells #[.int .i64 0, .int .i64 0, .slice none 0 0] 24 (0, 0))).2
  have hN := zH (nblk_new w 0 0 none 0 0)
  obtain ⟨gb, hgb⟩ : ∃ gb, w.heap.size = gb := ⟨_, rfl⟩
  have hz : (w.alloc (.cells #[.int .i64 0, .int .i64 0, .slice none 0 0] 24 (0, 0))).heap.size = gb + 1 := by simp [hgb]
  have hgl : g < gb := by have := h.lt; omega
  rw [hgb] at hN
  obtain ⟨W1, hq_W1⟩ : ∃ W1, w.alloc (.cells #[.int .i64 0, .int .i64 0, .slice none 0 0] 24 (0, 0)) = W1 := ⟨_, rfl⟩
  rw [hq_W1] at hP hM hN hz
  replace hz := And.intro (Nat.le_of_eq hz) (Nat.le_of_eq hz.symm)
  replace h := zH h
  go_enter Tryz.func126, Tryz.ntmps126
  go_wp2_with fail
  clear hq_W1
  refine (paKey_any _ _).mono ?_
  rintro e W2 ⟨rfl, hb⟩
  have h2 := (uH hP).below hb
  have hm := mop_below (g := g) hb
  clear hb
  replace hN := zH ((uH hN).mop (uH hP) hm)
  have hzz := hm.size
  replace hM := zH ((uH hM).trans hm)
  replace hP := zH h2
  clear hm h2
  go_wp2_with fail
  refine (paTake_no (uH hP) (keyT [118, 97, 114]) (by rw [eqB_key]; exact h0)).mono ?_
  rintro e W3 ⟨rfl, h2, hm⟩
  replace hN := zH ((uH hN).mop (uH hP) hm)
  have hzz := hm.size
  replace hM := zH ((uH hM).trans hm)
  replace hP := zH h2
  clear hm h2
  go_wp2_with fail
  refine (paKey_any _ _).mono ?_
  rintro e W4 ⟨rfl, hb⟩
  have h2 := (uH hP).below hb
  have hm := mop_below (g := g) hb
  clear hb
  replace hN := zH ((uH hN).mop (uH hP) hm)
  have hzz := hm.size
  replace hM := zH ((uH hM).trans hm)
  replace hP := zH h2
  clear hm h2
  go_wp2_with fail
  refine (paTake_no (uH hP) (keyT [99, 111, 110, 115, 116]) (by rw [eqB_key]; exact h1)).mono ?_
  rintro e W5 ⟨rfl, h2, hm⟩
  replace hN := zH ((uH hN).mop (uH hP) hm)
  have hzz := hm.size
  replace hM := zH ((uH hM).trans hm)
  replace hP := zH h2
  clear hm h2
  go_wp2_with fail
  refine (paOp_any _ _).mono ?_
  rintro e W6 ⟨rfl, hb⟩
  have h2 := (uH hP).below hb
  have hm := mop_below (g := g) hb
  clear hb
  replace hN := zH ((uH hN).mop (uH hP) hm)
  have hzz := hm.size
  replace hM := zH ((uH hM).trans hm)
  replace hP := zH h2
  clear hm h2
  go_wp2_with fail
  have hK := paIs_any (uH hP) (opT [123])
  rw [eqB_op, h2] at hK
  refine (hK).mono ?_
  rintro e W7 ⟨rfl, hb⟩
  have h2 := (uH hP).below hb
  have hm := mop_below (g := g) hb
  clear hb
  replace hN := zH ((uH hN).mop (uH hP) hm)
  have hzz := hm.size
  replace hM := zH ((uH hM).trans hm)
  replace hP := zH h2
  clear hm h2
  go_wp2_with fail
  refine (paKey_any _ _).mono ?_
  rintro e W8 ⟨rfl, hb⟩
  have h2 := (uH hP).below hb
  have hm := mop_below (g := g) hb
  clear hb
  replace hN := zH ((uH hN).mop (uH hP) hm)
  have hzz := hm.size
  replace hM := zH ((uH hM).trans hm)
  replace hP := zH h2
  clear hm h2
  go_wp2_with fail
  have hK := paIs_any (uH hP) (keyT kIf)
  rw [eqB_key, h3] at hK
  refine (hK).mono ?_
  rintro e W9 ⟨rfl, hb⟩
  have h2 := (uH hP).below hb
  have hm := mop_below (g := g) hb
  clear hb
  replace hN := zH ((uH hN).mop (uH hP) hm)
  have hzz := hm.size
  replace hM := zH ((uH hM).trans hm)
  replace hP := zH h2
  clear hm h2
  go_wp2_with fail
  refine (paKey_any _ _).mono ?_
  rintro e W10 ⟨rfl, hb⟩
  have h2 := (uH hP).below hb
  have hm := mop_below (g := g) hb
  clear hb
  replace hN := zH ((uH hN).mop (uH hP) hm)
  have hzz := hm.size
  replace hM := zH ((uH hM).trans hm)
  replace hP := zH h2
  clear hm h2
  go_wp2_with fail
  have hK := paIs_any (uH hP) (keyT kFor)
  rw [eqB_key, h4] at hK
  refine (hK).mono ?_
  rintro e W11 ⟨rfl, hb⟩
  have h2 := (uH hP).below hb
  have hm := mop_below (g := g) hb
  clear hb
  replace hN := zH ((uH hN).mop (uH hP) hm)
  have hzz := hm.size
  replace hM := zH ((uH hM).trans hm)
  replace hP := zH h2
  clear hm h2
  go_wp2_with fail
  refine (paKey_any _ _).mono ?_
  rintro e W12 ⟨rfl, hb⟩
  have h2 := (uH hP).below hb
  have hm := mop_below (g := g) hb
  clear hb
  replace hN := zH ((uH hN).mop (uH hP) hm)
  have hzz := hm.size
  replace hM := zH ((uH hM).trans hm)
  replace hP := zH h2
  clear hm h2
  go_wp2_with fail
  have hK := paIs_any (uH hP) (keyT [114, 101, 116, 117, 114, 110])
  rw [eqB_key, h5] at hK
  refine (hK).mono ?_
  rintro e W13 ⟨rfl, hb⟩
  have h2 := (uH hP).below hb
  have hm := mop_below (g := g) hb
  clear hb
  replace hN := zH ((uH hN).mop (uH hP) hm)
  have hzz := hm.size
  replace hM := zH ((uH hM).trans hm)
  replace hP := zH h2
  clear hm h2
  go_wp2_with fail
  refine (paKey_any _ _).mono ?_
  rintro e W14 ⟨rfl, hb⟩
  have h2 := (uH hP).below hb
  have hm := mop_below (g := g) hb
  clear hb
  replace hN := zH ((uH hN).mop (uH hP) hm)
  have hzz := hm.size
  replace hM := zH ((uH hM).trans hm)
  replace hP := zH h2
  clear hm h2
  go_wp2_with fail
  have hK := paIs_any (uH hP) (keyT [98, 114, 101, 97, 107])
  rw [eqB_key, h6] at hK
  refine (hK).mono ?_
  rintro e W15 ⟨rfl, hb⟩
  have h2 := (uH hP).below hb
  have hm := mop_below (g := g) hb
  clear hb
  replace hN := zH ((uH hN).mop (uH hP) hm)
  have hzz := hm.size
  replace hM := zH ((uH hM).trans hm)
  replace hP := zH h2
  clear hm h2
  go_wp2_with fail
  refine (paKey_any _ _).mono ?_
  rintro e W16 ⟨rfl, hb⟩
  have h2 := (uH hP).below hb
  have hm := mop_below (g := g) hb
  clear hb
  replace hN := zH ((uH hN).mop (uH hP) hm)
  have hzz := hm.size
  replace hM := zH ((uH hM).trans hm)
  replace hP := zH h2
  clear hm h2
  go_wp2_with fail
  have hK := paIs_any (uH hP) (keyT [99, 111, 110, 116, 105, 110, 117, 101])
  rw [eqB_key, h7] at hK
  refine (hK).mono ?_
  rintro e W17 ⟨rfl, hb⟩
  have h2 := (uH hP).below hb
  have hm := mop_below (g := g) hb
  clear hb
  replace hN := zH ((uH hN).mop (uH hP) hm)
  have hzz := hm.size
  replace hM := zH ((uH hM).trans hm)
  replace hP := zH h2
  clear hm h2
  go_wp2_with fail
  have hC := uH hH _ (uH hP)
  rw [hr] at hC
  refine (hC).mono ?_
  rintro e W18 hBad
  obtain rfl := hBad.1
  have hG := zH (hBad.pre (uH hM))
  clear hBad
  go_wp2
  exact ⟨rfl, uH hG⟩
 | ok n j =>
  obtain ⟨nk, nt, nc⟩ := n
  have hP := zH (h.alloc (.cells #[.int .i64 0, .int .i64 0, .slice none 0 0] 24 (0, 0))).1
  have hM := zH (h.alloc (.cells #[.int .i64 0, .int .i64 0, .slice none 0 0] 24 (0, 0))).2
  have hN := zH (nblk_new w 0 0 none 0 0)
  obtain ⟨gb, hgb⟩ : ∃ gb, w.heap.size = gb := ⟨_, rfl⟩
  have hz : (w.alloc (.cells #[.int .i64 0, .int .i64 0, .slice none 0 0] 24 (0, 0))).heap.size = gb + 1 := by simp [hgb]
  have hgl : g < gb := by have := h.lt; omega
  rw [hgb] at hN
  obtain ⟨W1, hq_W1⟩ : ∃ W1, w.alloc (.cells #[.int .i64 0, .int .i64 0, .slice none 0 0] 24 (0, 0)) = W1 := ⟨_, rfl⟩
  rw [hq_W1] at hP hM hN hz
  replace hz := And.intro (Nat.le_of_eq hz) (Nat.le_of_eq hz.symm)
  replace h := zH h
  go_enter Tryz.func126, Tryz.ntmps126
  go_wp2_with fail
  clear hq_W1
  refine (paKey_any _ _).mono ?_
  rintro e W2 ⟨rfl, hb⟩
  have h2 := (uH hP).below hb
  have hm := mop_below (g := g) hb
  clear hb
  replace hN := zH ((uH hN).mop (uH hP) hm)
  have hzz := hm.size
  replace hM := zH ((uH hM).trans hm)
  replace hP := zH h2
  clear hm h2
  go_wp2_with fail
  refine (paTake_no (uH hP) (keyT [118, 97, 114]) (by rw [eqB_key]; exact h0)).mono ?_
  rintro e W3 ⟨rfl, h2, hm⟩
  replace hN := zH ((uH hN).mop (uH hP) hm)
  have hzz := hm.size
  replace hM := zH ((uH hM).trans hm)
  replace hP := zH h2
  clear hm h2
  go_wp2_with fail
  refine (paKey_any _ _).mono ?_
  rintro e W4 ⟨rfl, hb⟩
  have h2 := (uH hP).below hb
  have hm := mop_below (g := g) hb
  clear hb
  replace hN := zH ((uH hN).mop (uH hP) hm)
  have hzz := hm.size
  replace hM := zH ((uH hM).trans hm)
  replace hP := zH h2
  clear hm h2
  go_wp2_with fail
  refine (paTake_no (uH hP) (keyT [99, 111, 110, 115, 116]) (by rw [eqB_key]; exact h1)).mono ?_
  rintro e W5 ⟨rfl, h2, hm⟩
  replace hN := zH ((uH hN).mop (uH hP) hm)
  have hzz := hm.size
  replace hM := zH ((uH hM).trans hm)
  replace hP := zH h2
  clear hm h2
  go_wp2_with fail
  refine (paOp_any _ _).mono ?_
  rintro e W6 ⟨rfl, hb⟩
  have h2 := (uH hP).below hb
  have hm := mop_below (g := g) hb
  clear hb
  replace hN := zH ((uH hN).mop (uH hP) hm)
  have hzz := hm.size
  replace hM := zH ((uH hM).trans hm)
  replace hP := zH h2
  clear hm h2
  go_wp2_with fail
  have hK := paIs_any (uH hP) (opT [123])
  rw [eqB_op, h2] at hK
  refine (hK).mono ?_
  rintro e W7 ⟨rfl, hb⟩
  have h2 := (uH hP).below hb
  have hm := mop_below (g := g) hb
  clear hb
  replace hN := zH ((uH hN).mop (uH hP) hm)
  have hzz := hm.size
  replace hM := zH ((uH hM).trans hm)
  replace hP := zH h2
  clear hm h2
  go_wp2_with fail
  refine (paKey_any _ _).mono ?_
  rintro e W8 ⟨rfl, hb⟩
  have h2 := (uH hP).below hb
  have hm := mop_below (g := g) hb
  clear hb
  replace hN := zH ((uH hN).mop (uH hP) hm)
  have hzz := hm.size
  replace hM := zH ((uH hM).trans hm)
  replace hP := zH h2
  clear hm h2
  go_wp2_with fail
  have hK := paIs_any (uH hP) (keyT kIf)
  rw [eqB_key, h3] at hK
  refine (hK).mono ?_
  rintro e W9 ⟨rfl, hb⟩
  have h2 := (uH hP).below hb
  have hm := mop_below (g := g) hb
  clear hb
  replace hN := zH ((uH hN).mop (uH hP) hm)
  have hzz := hm.size
  replace hM := zH ((uH hM).trans hm)
  replace hP := zH h2
  clear hm h2
  go_wp2_with fail
  refine (paKey_any _ _).mono ?_
  rintro e W10 ⟨rfl, hb⟩
  have h2 := (uH hP).below hb
  have hm := mop_below (g := g) hb
  clear hb
  replace hN := zH ((uH hN).mop (uH hP) hm)
  have hzz := hm.size
  replace hM := zH ((uH hM).trans hm)
  replace hP := zH h2
  clear hm h2
  go_wp2_with fail
  have hK := paIs_any (uH hP) (keyT kFor)
  rw [eqB_key, h4] at hK
  refine (hK).mono ?_
  rintro e W11 ⟨rfl, hb⟩
  have h2 := (uH hP).below hb
  have hm := mop_below (g := g) hb
  clear hb
  replace hN := zH ((uH hN).mop (uH hP) hm)
  have hzz := hm.size
  replace hM := zH ((uH hM).trans hm)
  replace hP := zH h2
  clear hm h2
  go_wp2_with fail
  refine (paKey_any _ _).mono ?_
  rintro e W12 ⟨rfl, hb⟩
  have h2 := (uH hP).below hb
  have hm := mop_below (g := g) hb
  clear hb
  replace hN := zH ((uH hN).mop (uH hP) hm)
  have hzz := hm.size
  replace hM := zH ((uH hM).trans hm)
  replace hP := zH h2
  clear hm h2
  go_wp2_with fail
  have hK := paIs_any (uH hP) (keyT [114, 101, 116, 117, 114, 110])
  rw [eqB_key, h5] at hK
  refine (hK).mono ?_
  rintro e W13 ⟨rfl, hb⟩
  have h2 := (uH hP).below hb
  have hm := mop_below (g := g) hb
  clear hb
  replace hN := zH ((uH hN).mop (uH hP) hm)
  have hzz := hm.size
  replace hM := zH ((uH hM).trans hm)
  replace hP := zH h2
  clear hm h2
  go_wp2_with fail
  refine (paKey_any _ _).mono ?_
  rintro e W14 ⟨rfl, hb⟩
  have h2 := (uH hP).below hb
  have hm := mop_below (g := g) hb
  clear hb
  replace hN := zH ((uH hN).mop (uH hP) hm)
  have hzz := hm.size
  replace hM := zH ((uH hM).trans hm)
  replace hP := zH h2
  clear hm h2
  go_wp2_with fail
  have hK := paIs_any (uH hP) (keyT [98, 114, 101, 97, 107])
  rw [eqB_key, h6] at hK
  refine (hK).mono ?_
  rintro e W15 ⟨rfl, hb⟩
  have h2 := (uH hP).below hb
  have hm := mop_below (g := g) hb
  clear hb
  replace hN := zH ((uH hN).mop (uH hP) hm)
  have hzz := hm.size
  replace hM := zH ((uH hM).trans hm)
  replace hP := zH h2
  clear hm h2
  go_wp2_with fail
  refine (paKey_any _ _).mono ?_
  rintro e W16 ⟨rfl, hb⟩
  have h2 := (uH hP).below hb
  have hm := mop_below (g := g) hb
  clear hb
  replace hN := zH ((uH hN).mop (uH hP) hm)
  have hzz := hm.size
  replace hM := zH ((uH hM).trans hm)
  replace hP := zH h2
  clear hm h2
  go_wp2_with fail
  have hK := paIs_any (uH hP) (keyT [99, 111, 110, 116, 105, 110, 117, 101])
  rw [eqB_key, h7] at hK
  refine (hK).mono ?_
  rintro e W17 ⟨rfl, hb⟩
  have h2 := (uH hP).below hb
  have hm := mop_below (g := g) hb
  clear hb
  replace hN := zH ((uH hN).mop (uH hP) hm)
  have hzz := hm.size
  replace hM := zH ((uH hM).trans hm)
  replace hP := zH h2
  clear hm h2
  go_wp2_with fail
  have hC := uH hH _ (uH hP)
  rw [hr] at hC
  refine (hC).mono ?_
  rintro e W18 ⟨a1, m1, c1, rfl, hs, h2, hm⟩
  have hzs := hm.size
  have hs1 := zH (hs.mono (P' := fun x => gb < x ∧ x < W18.heap.size) (fun x hx => by have := (uH hN).lt; have e1 := hx.1; have e2 := hx.lt; exact ⟨by omega, by omega⟩))
  clear hs
  replace hN := zH ((uH hN).mop (uH hP) hm)
  have hzz := hm.size
  replace hM := zH ((uH hM).trans hm)
  replace hP := zH h2
  clear hm h2
  dsimp only at hs1
  obtain ⟨p0_hN, p1_hN, p2_hN⟩ := (uH hN).box
  have f0_hN := (uH hN).frozen 0
  have f1_hN := (uH hN).frozen 1
  have f2_hN := (uH hN).frozen 2
  have hF := zH (res_fin (k := nk) (t := nt) (a := a1) (m := m1) (c := c1) (f := nc) (B := gb) (w := w) (Nat.le_refl gb) (by omega) (uH hN) ((uH hs1).mono (fun x hx => by have e1 := hx.1; exact ⟨by omega, by omega⟩)) (uH hP) (uH hM))
  go_wp2
  obtain ⟨q1, q2, q3, q4⟩ := uH hF
  obtain ⟨u0, u1, u2⟩ := q1.box
  refine bodyPost_ret (v := .agg #[.int .i64 (nk), .int .i64 (nt), .slice (a1) (m1) (c1)]) (by simp [results, Tryz.results126, go_sem, u0, u1, u2]) rfl ?_
  exact ⟨_, _, _, rfl, (by first | exact q2 | (rw [hgb]; exact q2)), q3, q4⟩
theorem paStatement_step {g : Nat} {tv : Value} {L : List Tk} {i d : Nat} {w : World} (h : PaW g tv L i d w) {f : Nat} (H : ExA g tv L f) (HB : ∀ (w : World) (i : Nat), PaW g tv L i d w → blkA L f i d ≠ .out → Calls Tryz.prog 113 #[.pointer (some ⟨g, 0, none⟩)] w fun e w' => ResN w.heap.size g tv L d w (blkA L f i d) e w') (HC : ∀ (w : World) (i : Nat), PaW g tv L i d w → choA L f i d ≠ .out → Calls Tryz.prog 139 #[.pointer (some ⟨g, 0, none⟩)] w fun e w' => ResN w.heap.size g tv L d w (choA L f i d) e w') (HP : ∀ (w : World) (i : Nat), PaW g tv L i d w → guaA L f 15 kFor i d ≠ .out → Calls Tryz.prog 140 #[.pointer (some ⟨g, 0, none⟩)] w fun e w' => ResN w.heap.size g tv L d w (guaA L f 15 kFor i d) e w') (HS : ∀ (w : World) (i : Nat), PaW g tv L i d w → simA L f i d ≠ .out → Calls Tryz.prog 143 #[.pointer (some ⟨g, 0, none⟩)] w fun e w' => ResN w.heap.size g tv L d w (simA L f i d) e w') (hd : d ≤ 40) (hne : stmA L (f + 1) i d ≠ .out) :
  Calls Tryz.prog 126 #[.pointer (some ⟨g, 0, none⟩)] w fun e w' => ResN w.heap.size g tv L d w (stmA L (f + 1) i d) e w' := by
 unfold stmA at hne ⊢
 cases h0 : keyA L i [118, 97, 114] with
 | true =>
  simp only [h0, if_true, Bool.false_eq_true, if_false] at hne ⊢
  exact paStatement_var h h0 (zH (fun w h => paVariable_any (w := w) (i := i + 1) (d := d) h H hd hne)) hne
 | false =>
  cases h1 : keyA L i [99, 111, 110, 115, 116] with
  | true =>
   simp only [h0, h1, if_true, Bool.false_eq_true, if_false] at hne ⊢
   exact paStatement_const h h0 h1 (zH (fun w h => paConstant_any (w := w) (i := i + 1) (d := d) h H hd hne)) hne
  | false =>
   cases h2 : opA L i [123] with
   | true =>
    simp only [h0, h1, h2, if_true, Bool.false_eq_true, if_false] at hne ⊢
    exact paStatement_block h h0 h1 h2 (zH (fun w h => HB w i h hne)) hne
   | false =>
    cases h3 : keyA L i kIf with
    | true =>
     simp only [h0, h1, h2, h3, if_true, Bool.false_eq_true, if_false] at hne ⊢
     exact paStatement_if h h0 h1 h2 h3 (zH (fun w h => HC w i h hne)) hne
    | false =>
     cases h4 : keyA L i kFor with
     | true =>
      simp only [h0, h1, h2, h3, h4, if_true, Bool.false_eq_true, if_false] at hne ⊢
      exact paStatement_for h h0 h1 h2 h3 h4 (zH (fun w h => HP w i h hne)) hne
     | false =>
      cases h5 : keyA L i [114, 101, 116, 117, 114, 110] with
      | true =>
       simp only [h0, h1, h2, h3, h4, h5, if_true, Bool.false_eq_true, if_false] at hne ⊢
       exact paStatement_ret h h0 h1 h2 h3 h4 h5 (zH (fun w h => paResult_any (w := w) (i := i) (d := d) h H (keyA_lt h5) hd hne)) hne
      | false =>
       cases h6 : keyA L i [98, 114, 101, 97, 107] with
       | true =>
        simp only [h0, h1, h2, h3, h4, h5, h6, if_true, Bool.false_eq_true, if_false] at hne ⊢
        exact paStatement_brk h h0 h1 h2 h3 h4 h5 h6 (zH (fun w h => paJump_any (w := w) (i := i) (d := d) h 17 (keyA_lt h6))) hne
       | false =>
        cases h7 : keyA L i [99, 111, 110, 116, 105, 110, 117, 101] with
        | true =>
         simp only [h0, h1, h2, h3, h4, h5, h6, h7, if_true, Bool.false_eq_true, if_false] at hne ⊢
         exact paStatement_cnt h h0 h1 h2 h3 h4 h5 h6 h7 (zH (fun w h => paJump_any (w := w) (i := i) (d := d) h 18 (keyA_lt h7))) hne
        | false =>
         simp only [h0, h1, h2, h3, h4, h5, h6, h7, Bool.false_eq_true, if_false] at hne ⊢
         exact paStatement_sim h h0 h1 h2 h3 h4 h5 h6 h7 (zH (fun w h => HS w i h hne)) hne
structure StA (g : Nat) (tv : Value) (L : List Tk) (f : Nat) : Prop where
 blk : ∀ (w : World) (i d : Nat), PaW g tv L i d w → d ≤ 40 → blkA L f i d ≠ .out → Calls Tryz.prog 113 #[.pointer (some ⟨g, 0, none⟩)] w fun e w' => ResN w.heap.size g tv L d w (blkA L f i d) e w'
 brs : ∀ (w : World) (i d : Nat), PaW g tv L i d w → d ≤ 40 → brsA L f .nil (skN L i) d ≠ .out → Calls Tryz.prog 107 #[.pointer (some ⟨g, 0, none⟩), .func (.func 126) #[.pointer (some ⟨g, 0, none⟩)] #[]] w fun e w' => ResF w.heap.size g tv L d w (brsA L f .nil (skN L i) d) e w'
 stm : ∀ (w : World) (i d : Nat), PaW g tv L i d w → d ≤ 40 → stmA L f i d ≠ .out → Calls Tryz.prog 126 #[.pointer (some ⟨g, 0, none⟩)] w fun e w' => ResN w.heap.size g tv L d w (stmA L f i d) e w'
 cho : ∀ (w : World) (i d : Nat), PaW g tv L i d w → d ≤ 40 → choA L f i d ≠ .out → Calls Tryz.prog 139 #[.pointer (some ⟨g, 0, none⟩)] w fun e w' => ResN w.heap.size g tv L d w (choA L f i d) e w'
 oth : ∀ (w : World) (i d : Nat), PaW g tv L i d w → d ≤ 40 → othA L f i d ≠ .out → Calls Tryz.prog 157 #[.pointer (some ⟨g, 0, none⟩)] w fun e w' => ResN w.heap.size g tv L d w (othA L f i d) e w'
 gua : ∀ (kind : Int) (x : List UInt8) (w : World) (i d : Nat), PaW g tv L i d w → d ≤ 40 → guaA L f kind x i d ≠ .out → Calls Tryz.prog 156 #[.pointer (some ⟨g, 0, none⟩), .int .i64 kind, (keyT x).val] w fun e w' => ResR w.heap.size g tv L d w (guaA L f kind x i d) e w'
 sim : ∀ (w : World) (i d : Nat), PaW g tv L i d w → d ≤ 40 → simA L f i d ≠ .out → Calls Tryz.prog 143 #[.pointer (some ⟨g, 0, none⟩)] w fun e w' => ResN w.heap.size g tv L d w (simA L f i d) e w'
theorem StA.lop {g : Nat} {tv : Value} {L : List Tk} {f : Nat} (S : StA g tv L f) (w : World) (i d : Nat) (h : PaW g tv L i d w) (hd : d ≤ 40) (hne : guaA L f 15 kFor i d ≠ .out) : Calls Tryz.prog 140 #[.pointer (some ⟨g, 0, none⟩)] w fun e w' => ResN w.heap.size g tv L d w (guaA L f 15 kFor i d) e w' :=
 paLoop_step h (fun w i d h hd hne => S.gua 15 kFor w i d h hd hne) hd hne
theorem stA_all (g : Nat) (tv : Value) (L : List Tk) : ∀ f, f ≤ 900000 → StA g tv L f := by
 intro f
 induction f using Nat.strongRecOn with
 | ind f ih =>
  intro hf
  have hbrs : ∀ (w : World) (i d : Nat), PaW g tv L i d w → d ≤ 40 → brsA L f .nil (skN L i) d ≠ .out → Calls Tryz.prog 107 #[.pointer (some ⟨g, 0, none⟩), .func (.func 126) #[.pointer (some ⟨g, 0, none⟩)] #[]] w fun e w' => ResF w.heap.size g tv L d w (brsA L f .nil (skN L i) d) e w' :=
   fun w i d h hd hne => paBraces_step h (fun f' hf' w i h hne => (ih f' hf' (by omega)).stm w i d h hd hne) (by omega) hne
  cases f with
  | zero =>
   exact ⟨fun w i d _ _ hne => absurd (by unfold blkA; rfl) hne, hbrs, fun w i d _ _ hne => absurd (by unfold stmA; rfl) hne, fun w i d _ _ hne => absurd (by unfold choA; rfl) hne,
    fun w i d _ _ hne => absurd (by unfold othA; rfl) hne, fun kind x w i d _ _ hne => absurd (by unfold guaA; rfl) hne, fun w i d _ _ hne => absurd (by unfold simA; rfl) hne⟩
  | succ f =>
   have S := ih f (by omega) (by omega)
   have H := exA_all g tv L f (by omega)
   exact ⟨fun w i d h hd hne => paBlock_step h S.brs hd hne, hbrs,
    fun w i d h hd hne => paStatement_step h H (fun w i h hne => S.blk w i d h hd hne) (fun w i h hne => S.cho w i d h hd hne) (fun w i h hne => S.lop w i d h hd hne) (fun w i h hne => S.sim w i d h hd hne) hd hne,
    fun w i d h hd hne => paChoice_step h (fun w i d h hd hne => S.gua 14 kIf w i d h hd hne) (fun w i h hne => S.oth w i d h hd hne) hd hne,
    fun w i d h hd hne => paOtherwise_step h S.cho (fun w i h hne => S.blk w i d h hd hne) hd hne,
    fun kind x w i d h hd hne => paGuarded_step h kind x H (fun w i h hne => S.blk w i d h hd hne) hd hne,
    fun w i d h hd hne => paSimple_step h H (fun w i h hne => S.lop w i d h hd hne) hd hne⟩
end Go.Proofs.YtiknnobgoamgcaaGreatDoor

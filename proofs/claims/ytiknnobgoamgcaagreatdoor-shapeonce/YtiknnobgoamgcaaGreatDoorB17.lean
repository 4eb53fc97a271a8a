/-
  1 texts in one.
-/
import Derived.Test.YtiknnobgoamgcaaGreatDoorB16
/-
  The parser: a declaration.
-/
namespace Go.Proofs.YtiknnobgoamgcaaGreatDoor
open Go.RowKit Go.Lib Go.Sort
set_option linter.unusedSimpArgs false
set_option linter.unusedVariables false
set_option maxHeartbeats 4000000 in
set_option maxRecDepth 100000 in
theorem paDecl_var {g : Nat} {tv : Value} {L : List Tk} {i : Nat} {w : World} (h : PaW g tv L i 0 w) {R : PR Nd} (h0 : keyA L i [118, 97, 114] = true) (hH : Hid (∀ (w : World), PaW g tv L (i + 1) 0 w → Calls Tryz.prog 88 #[.pointer (some ⟨g, 0, none⟩)] w fun e w' => ResN w.heap.size g tv L 0 w R e w')) (hne : R ≠ .out) :
  Calls Tryz.prog 69 #[.pointer (some ⟨g, 0, none⟩)] w fun e w' => ResN w.heap.size g tv L 0 w R e w' := by
 generalize hr : R = r at hne ⊢
 cases r with
 | out => exact absurd rfl hne
 | bad j =>
  have hP := zH (h.alloc (.cells #[.int .i64 0, .int .i64 0, .slice none 0 0] 24 (0, 0))).1
  have hM := zH (h.alloc (.cells #[.int .i64 0, .int .i64 0, .slice none 0 0] 24 (0, 0))).2
  have hN := zH (nblk_new w 0 0 none 0 0)
  obtain ⟨gb, hgb⟩ : ∃ gb, w.heap.size = gb := ⟨_, rfl⟩
  have hz : (w.alloc (.cells #[.int .i64 0, .int .i64 0, .slice none 0 0] 24 (0, 0))).heap.size = gb + 1 := by simp [hgb]
  have hgl : g < gb := by have := h.lt; omega
  rw [hgb] at hN
  obtain ⟨W1, hq_W1⟩ : ∃ W1, w.alloc (.cells #[.int .i64 0, .int .i64 0, .slice none 0 0] 24 (0, 0)) = W1 := ⟨_, rfl⟩
  rw [hq_W1] at hP hM hN hz
  replace hz := And.intro (Nat.le_of_eq hz) (Nat.le_of_eq hz.symm)
  replace h := zH h
  go_enter Tryz.func69, Tryz.ntmps69
  go_wp2_with fail
  clear hq_W1
  refine (paKey_any _ _).mono ?_
  rintro e W2 ⟨rfl, hb⟩
  have h2 := (uH hP).below hb
  have hm := mop_below (g := g) hb
  clear hb
  replace hN := zH ((uH hN).mop (uH hP) hm)
  have hzz := hm.size
  replace hM := zH ((uH hM).trans hm)
  replace hP := zH h2
  clear hm h2
  go_wp2_with fail
  refine (paTake_yes (uH hP) (keyT [118, 97, 114]) (by rw [eqB_key]; exact h0) (keyA_lt h0)).mono ?_
  rintro e W3 ⟨rfl, h2, hm⟩
  replace hN := zH ((uH hN).mop (uH hP) hm)
  have hzz := hm.size
  replace hM := zH ((uH hM).trans hm)
  replace hP := zH h2
  clear hm h2
  go_wp2_with fail
  have hC := uH hH _ (uH hP)
  rw [hr] at hC
  refine (hC).mono ?_
  rintro e W4 hBad
  obtain rfl := hBad.1
  have hG := zH (hBad.pre (uH hM))
  clear hBad
  go_wp2
  exact ⟨rfl, uH hG⟩
 | ok n j =>
  obtain ⟨nk, nt, nc⟩ := n
  have hP := zH (h.alloc (.cells #[.int .i64 0, .int .i64 0, .slice none 0 0] 24 (0, 0))).1
  have hM := zH (h.alloc (.cells #[.int .i64 0, .int .i64 0, .slice none 0 0] 24 (0, 0))).2
  have hN := zH (nblk_new w 0 0 none 0 0)
  obtain ⟨gb, hgb⟩ : ∃ gb, w.heap.size = gb := ⟨_, rfl⟩
  have hz : (w.alloc (.cells #[.int .i64 0, .int .i64 0, .slice none 0 0] 24 (0, 0))).heap.size = gb + 1 := by simp [hgb]
  have hgl : g < gb := by have := h.lt; omega
  rw [hgb] at hN
  obtain ⟨W1, hq_W1⟩ : ∃ W1, w.alloc (.cells #[.int .i64 0, .int .i64 0, .slice none 0 0] 24 (0, 0)) = W1 := ⟨_, rfl⟩
  rw [hq_W1] at hP hM hN hz
  replace hz := And.intro (Nat.le_of_eq hz) (Nat.le_of_eq hz.symm)
  replace h := zH h
  go_enter Tryz.func69, Tryz.ntmps69
  go_wp2_with fail
  clear hq_W1
  refine (paKey_any _ _).mono ?_
  rintro e W2 ⟨rfl, hb⟩
  have h2 := (uH hP).below hb
  have hm := mop_below (g := g) hb
  clear hb
  replace hN := zH ((uH hN).mop (uH hP) hm)
  have hzz := hm.size
  replace hM := zH ((uH hM).trans hm)
  replace hP := zH h2
  clear hm h2
  go_wp2_with fail
  refine (paTake_yes (uH hP) (keyT [118, 97, 114]) (by rw [eqB_key]; exact h0) (keyA_lt h0)).mono ?_
  rintro e W3 ⟨rfl, h2, hm⟩
  replace hN := zH ((uH hN).mop (uH hP) hm)
  have hzz := hm.size
  replace hM := zH ((uH hM).trans hm)
  replace hP := zH h2
  clear hm h2
  go_wp2_with fail
  have hC := uH hH _ (uH hP)
  rw [hr] at hC
  refine (hC).mono ?_
  rintro e W4 ⟨a1, m1, c1, rfl, hs, h2, hm⟩
  have hzs := hm.size
  have hs1 := zH (hs.mono (P' := fun x => gb < x ∧ x < W4.heap.size) (fun x hx => by have := (uH hN).lt; have e1 := hx.1; have e2 := hx.lt; exact ⟨by omega, by omega⟩))
  clear hs
  replace hN := zH ((uH hN).mop (uH hP) hm)
  have hzz := hm.size
  replace hM := zH ((uH hM).trans hm)
  replace hP := zH h2
  clear hm h2
  dsimp only at hs1
  obtain ⟨p0_hN, p1_hN, p2_hN⟩ := (uH hN).box
  have f0_hN := (uH hN).frozen 0
  have f1_hN := (uH hN).frozen 1
  have f2_hN := (uH hN).frozen 2
  have hF := zH (res_fin (k := nk) (t := nt) (a := a1) (m := m1) (c := c1) (f := nc) (B := gb) (w := w) (Nat.le_refl gb) (by omega) (uH hN) ((uH hs1).mono (fun x hx => by have e1 := hx.1; exact ⟨by omega, by omega⟩)) (uH hP) (uH hM))
  go_wp2
  obtain ⟨q1, q2, q3, q4⟩ := uH hF
  obtain ⟨u0, u1, u2⟩ := q1.box
  refine bodyPost_ret (v := .agg #[.int .i64 (nk), .int .i64 (nt), .slice (a1) (m1) (c1)]) (by simp [results, Tryz.results69, go_sem, u0, u1, u2]) rfl ?_
  exact ⟨_, _, _, rfl, (by first | exact q2 | (rw [hgb]; exact q2)), q3, q4⟩
set_option maxHeartbeats 4000000 in
set_option maxRecDepth 100000 in
theorem paDecl_const {g : Nat} {tv : Value} {L : List Tk} {i : Nat} {w : World} (h : PaW g tv L i 0 w) {R : PR Nd} (h0 : keyA L i [118, 97, 114] = false) (h1 : keyA L i [99, 111, 110, 115, 116] = true) (hH : Hid (∀ (w : World), PaW g tv L (i + 1) 0 w → Calls Tryz.prog 89 #[.pointer (some ⟨g, 0, none⟩)] w fun e w' => ResN w.heap.size g tv L 0 w R e w')) (hne : R ≠ .out) :
  Calls Tryz.prog 69 #[.pointer (some ⟨g, 0, none⟩)] w fun e w' => ResN w.heap.size g tv L 0 w R e w' := by
 generalize hr : R = r at hne ⊢
 cases r with
 | out => exact absurd rfl hne
 | bad j =>
  have hP := zH (h.alloc (.cells #[.int .i64 0, .int .i64 0, .slice none 0 0] 24 (0, 0))).1
  have hM := zH (h.alloc (.cells #[.int .i64 0, .int .i64 0, .slice none 0 0] 24 (0, 0))).2
  have hN := zH (nblk_new w 0 0 none 0 0)
  obtain ⟨gb, hgb⟩ : ∃ gb, w.heap.size = gb := ⟨_, rfl⟩
  have hz : (w.alloc (.cells #[.int .i64 0, .int .i64 0, .slice none 0 0] 24 (0, 0))).heap.size = gb + 1 := by simp [hgb]
  have hgl : g < gb := by have := h.lt; omega
  rw [hgb] at hN
  obtain ⟨W1, hq_W1⟩ : ∃ W1, w.alloc (.cells #[.int .i64 0, .int .i64 0, .slice none 0 0] 24 (0, 0)) = W1 := ⟨_, rfl⟩
  rw [hq_W1] at hP hM hN hz
  replace hz := And.intro (Nat.le_of_eq hz) (Nat.le_of_eq hz.symm)
  replace h := zH h
  go_enter Tryz.func69, Tryz.ntmps69
  go_wp2_with fail
  clear hq_W1
  refine (paKey_any _ _).mono ?_
  rintro e W2 ⟨rfl, hb⟩
  have h2 := (uH hP).below hb
  have hm := mop_below (g := g) hb
  clear hb
  replace hN := zH ((uH hN).mop (uH hP) hm)
  have hzz := hm.size
  replace hM := zH ((uH hM).trans hm)
  replace hP := zH h2
  clear hm h2
  go_wp2_with fail
  refine (paTake_no (uH hP) (keyT [118, 97, 114]) (by rw [eqB_key]; exact h0)).mono ?_
  rintro e W3 ⟨rfl, h2, hm⟩
  replace hN := zH ((uH hN).mop (uH hP) hm)
  have hzz := hm.size
  replace hM := zH ((uH hM).trans hm)
  replace hP := zH h2
  clear hm h2
  go_wp2_with fail
  refine (paKey_any _ _).mono ?_
  rintro e W4 ⟨rfl, hb⟩
  have h2 := (uH hP).below hb
  have hm := mop_below (g := g) hb
  clear hb
  replace hN := zH ((uH hN).mop (uH hP) hm)
  have hzz := hm.size
  replace hM := zH ((uH hM).trans hm)
  replace hP := zH h2
  clear hm h2
  go_wp2_with fail
  refine (paTake_yes (uH hP) (keyT [99, 111, 110, 115, 116]) (by rw [eqB_key]; exact h1) (keyA_lt h1)).mono ?_
  rintro e W5 ⟨rfl, h2, hm⟩
  replace hN := zH ((uH hN).mop (uH hP) hm)
  have hzz := hm.size
  replace hM := zH ((uH hM).trans hm)
  replace hP := zH h2
  clear hm h2
  go_wp2_with fail
  have hC := uH hH _ (uH hP)
  rw [hr] at hC
  refine (hC).mono ?_
  rintro e W6 hBad
  obtain rfl := hBad.1
  have hG := zH (hBad.pre (uH hM))
  clear hBad
  go_wp2
  exact ⟨rfl, uH hG⟩
 | ok n j =>
  obtain ⟨nk, nt, nc⟩ := n
  have hP := zH (h.alloc (.cells #[.int .i64 0, .int .i64 0, .slice none 0 0] 24 (0, 0))).1
  have hM := zH (h.alloc (.cells #[.int .i64 0, .int .i64 0, .slice none 0 0] 24 (0, 0))).2
  have hN := zH (nblk_new w 0 0 none 0 0)
  obtain ⟨gb, hgb⟩ : ∃ gb, w.heap.size = gb := ⟨_, rfl⟩
  have hz : (w.alloc (.cells #[.int .i64 0, .int .i64 0, .slice none 0 0] 24 (0, 0))).heap.size = gb + 1 := by simp [hgb]
  have hgl : g < gb := by have := h.lt; omega
  rw [hgb] at hN
  obtain ⟨W1, hq_W1⟩ : ∃ W1, w.alloc (.cells #[.int .i64 0, .int .i64 0, .slice none 0 0] 24 (0, 0)) = W1 := ⟨_, rfl⟩
  rw [hq_W1] at hP hM hN hz
  replace hz := And.intro (Nat.le_of_eq hz) (Nat.le_of_eq hz.symm)
  replace h := zH h
  go_enter Tryz.func69, Tryz.ntmps69
  go_wp2_with fail
  clear hq_W1
  refine (paKey_any _ _).mono ?_
  rintro e W2 ⟨rfl, hb⟩
  have h2 := (uH hP).below hb
  have hm := mop_below (g := g) hb
  clear hb
  replace hN := zH ((uH hN).mop (uH hP) hm)
  have hzz := hm.size
  replace hM := zH ((uH hM).trans hm)
  replace hP := zH h2
  clear hm h2
  go_wp2_with fail
  refine (paTake_no (uH hP) (keyT [118, 97, 114]) (by rw [eqB_key]; exact h0)).mono ?_
  rintro e W3 ⟨rfl, h2, hm⟩
  replace hN := zH ((uH hN).mop (uH hP) hm)
  have hzz := hm.size
  replace hM := zH ((uH hM).trans hm)
  replace hP := zH h2
  clear hm h2
  go_wp2_with fail
  refine (paKey_any _ _).mono ?_
  rintro e W4 ⟨rfl, hb⟩
  have h2 := (uH hP).below hb
  have hm := mop_below (g := g) hb
  clear hb
  replace hN := zH ((uH hN).mop (uH hP) hm)
  have hzz := hm.size
  replace hM := zH ((uH hM).trans hm)
  replace hP := zH h2
  clear hm h2
  go_wp2_with fail
  refine (paTake_yes (uH hP) (keyT [99, 111, 110, 115, 116]) (by rw [eqB_key]; exact h1) (keyA_lt h1)).mono ?_
  rintro e W5 ⟨rfl, h2, hm⟩
  replace hN := zH ((uH hN).mop (uH hP) hm)
  have hzz := hm.size
  replace hM := zH ((uH hM).trans hm)
  replace hP := zH h2
  clear hm h2
  go_wp2_with fail
  have hC := uH hH _ (uH hP)
  rw [hr] at hC
  refine (hC).mono ?_
  rintro e W6 ⟨a1, m1, c1, rfl, hs, h2, hm⟩
  have hzs := hm.size
  have hs1 := zH (hs.mono (P' := fun x => gb < x ∧ x < W6.heap.size) (fun x hx => by have := (uH hN).lt; have e1 := hx.1; have e2 := hx.lt; exact ⟨by omega, by omega⟩))
  clear hs
  replace hN := zH ((uH hN).mop (uH hP) hm)
  have hzz := hm.size
  replace hM := zH ((uH hM).trans hm)
  replace hP := zH h2
  clear hm h2
  dsimp only at hs1
  obtain ⟨p0_hN, p1_hN, p2_hN⟩ := (uH hN).box
  have f0_hN := (uH hN).frozen 0
  have f1_hN := (uH hN).frozen 1
  have f2_hN := (uH hN).frozen 2
  have hF := zH (res_fin (k := nk) (t := nt) (a := a1) (m := m1) (c := c1) (f := nc) (B := gb) (w := w) (Nat.le_refl gb) (by omega) (uH hN) ((uH hs1).mono (fun x hx => by have e1 := hx.1; exact ⟨by omega, by omega⟩)) (uH hP) (uH hM))
  go_wp2
  obtain ⟨q1, q2, q3, q4⟩ := uH hF
  obtain ⟨u0, u1, u2⟩ := q1.box
  refine bodyPost_ret (v := .agg #[.int .i64 (nk), .int .i64 (nt), .slice (a1) (m1) (c1)]) (by simp [results, Tryz.results69, go_sem, u0, u1, u2]) rfl ?_
  exact ⟨_, _, _, rfl, (by first | exact q2 | (rw [hgb]; exact q2)), q3, q4⟩
set_option maxHeartbeats 4000000 in
set_option maxRecDepth 100000 in
theorem paDecl_type {g : Nat} {tv : Value} {L : List Tk} {i : Nat} {w : World} (h : PaW g tv L i 0 w) {R : PR Nd} (h0 : keyA L i [118, 97, 114] = false) (h1 : keyA L i [99, 111, 110, 115, 116] = false) (h2 : keyA L i [116, 121, 112, 101] = true) (hH : Hid (∀ (w : World), PaW g tv L (i + 1) 0 w → Calls Tryz.prog 90 #[.pointer (some ⟨g, 0, none⟩)] w fun e w' => ResN w.heap.size g tv L 0 w R e w')) (hne : R ≠ .out) :
  Calls Tryz.prog 69 #[.pointer (some ⟨g, 0, none⟩)] w fun e w' => ResN w.heap.size g tv L 0 w R e w' := by
 generalize hr : R = r at hne ⊢
 cases r with
 | out => exact absurd rfl hne
 | bad j =>
  have hP := zH (h.alloc (.cells #[.int .i64 0, .int .i64 0, .slice none 0 0] 24 (0, 0))).1
  have hM := zH (h.alloc (.cells #[.int .i64 0, .int .i64 0, .slice none 0 0] 24 (0, 0))).2
  have hN := zH (nblk_new w 0 0 none 0 0)
  obtain ⟨gb, hgb⟩ : ∃ gb, w.heap.size = gb := ⟨_, rfl⟩
  have hz : (w.alloc (.cells #[.int .i64 0, .int .i64 0, .slice none 0 0] 24 (0, 0))).heap.size = gb + 1 := by simp [hgb]
  have hgl : g < gb := by have := h.lt; omega
  rw [hgb] at hN
  obtain ⟨W1, hq_W1⟩ : ∃ W1, w.alloc (.cells #[.int .i64 0, .int .i64 0, .slice none 0 0] 24 (0, 0)) = W1 := ⟨_, rfl⟩
  rw [hq_W1] at hP hM hN hz
  replace hz := And.intro (Nat.le_of_eq hz) (Nat.le_of_eq hz.symm)
  replace h := zH h
  go_enter Tryz.func69, Tryz.ntmps69
  go_wp2_with fail
  clear hq_W1
  refine (paKey_any _ _).mono ?_
  rintro e W2 ⟨rfl, hb⟩
  have h2 := (uH hP).below hb
  have hm := mop_below (g := g) hb
  clear hb
  replace hN := zH ((uH hN).mop (uH hP) hm)
  have hzz := hm.size
  replace hM := zH ((uH hM).trans hm)
  replace hP := zH h2
  clear hm h2
  go_wp2_with fail
  refine (paTake_no (uH hP) (keyT [118, 97, 114]) (by rw [eqB_key]; exact h0)).mono ?_
  rintro e W3 ⟨rfl, h2, hm⟩
  replace hN := zH ((uH hN).mop (uH hP) hm)
  have hzz := hm.size
  replace hM := zH ((uH hM).trans hm)
  replace hP := zH h2
  clear hm h2
  go_wp2_with fail
  refine (paKey_any _ _).mono ?_
  rintro e W4 ⟨rfl, hb⟩
  have h2 := (uH hP).below hb
  have hm := mop_below (g := g) hb
  clear hb
  replace hN := zH ((uH hN).mop (uH hP) hm)
  have hzz := hm.size
  replace hM := zH ((uH hM).trans hm)
  replace hP := zH h2
  clear hm h2
  go_wp2_with fail
  refine (paTake_no (uH hP) (keyT [99, 111, 110, 115, 116]) (by rw [eqB_key]; exact h1)).mono ?_
  rintro e W5 ⟨rfl, h2, hm⟩
  replace hN := zH ((uH hN).mop (uH hP) hm)
  have hzz := hm.size
  replace hM := zH ((uH hM).trans hm)
  replace hP := zH h2
  clear hm h2
  go_wp2_with fail
  refine (paKey_any _ _).mono ?_
  rintro e W6 ⟨rfl, hb⟩
  have h2 := (uH hP).below hb
  have hm := mop_below (g := g) hb
  clear hb
  replace hN := zH ((uH hN).mop (uH hP) hm)
  have hzz := hm.size
  replace hM := zH ((uH hM).trans hm)
  replace hP := zH h2
  clear hm h2
  go_wp2_with fail
  refine (paTake_yes (uH hP) (keyT [116, 121, 112, 101]) (by rw [eqB_key]; exact h2) (keyA_lt h2)).mono ?_
  rintro e W7 ⟨rfl, h2, hm⟩
  replace hN := zH ((uH hN).mop (uH hP) hm)
  have hzz := hm.size
  replace hM := zH ((uH hM).trans hm)
  replace hP := zH h2
  clear hm h2
  go_wp2_with fail
  have hC := uH hH _ (uH hP)
  rw [hr] at hC
  refine (hC).mono ?_
  rintro e W8 hBad
  obtain rfl := hBad.1
  have hG := zH (hBad.pre (uH hM))
  clear hBad
  go_wp2
  exact ⟨rfl, uH hG⟩
 | ok n j =>
  obtain ⟨nk, nt, nc⟩ := n
  have hP := zH (h.alloc (.cells #[.int .i64 0, .int .i64 0, .slice none 0 0] 24 (0, 0))).1
  have hM := zH (h.alloc (.cells #[.int .i64 0, .int .i64 0, .slice none 0 0] 24 (0, 0))).2
  have hN := zH (nblk_new w 0 0 none 0 0)
  obtain ⟨gb, hgb⟩ : ∃ gb, w.heap.size = gb := ⟨_, rfl⟩
  have hz : (w.alloc (.cells #[.int .i64 0, .int .i64 0, .slice none 0 0] 24 (0, 0))).heap.size = gb + 1 := by simp [hgb]
  have hgl : g < gb := by have := h.lt; omega
  rw [hgb] at hN
  obtain ⟨W1, hq_W1⟩ : ∃ W1, w.alloc (.cells #[.int .i64 0, .int .i64 0, .slice none 0 0] 24 (0, 0)) = W1 := ⟨_, rfl⟩
  rw [hq_W1] at hP hM hN hz
  replace hz := And.intro (Nat.le_of_eq hz) (Nat.le_of_eq hz.symm)
  replace h := zH h
  go_enter Tryz.func69, Tryz.ntmps69
  go_wp2_with fail
  clear hq_W1
  refine (paKey_any _ _).mono ?_
  rintro e W2 ⟨rfl, hb⟩
  have h2 := (uH hP).below hb
  have hm := mop_below (g := g) hb
  clear hb
  replace hN := zH ((uH hN).mop (uH hP) hm)
  have hzz := hm.size
  replace hM := zH ((uH hM).trans hm)
  replace hP := zH h2
  clear hm h2
  go_wp2_with fail
  refine (paTake_no (uH hP) (keyT [118, 97, 114]) (by rw [eqB_key]; exact h0)).mono ?_
  rintro e W3 ⟨rfl, h2, hm⟩
  replace hN := zH ((uH hN).mop (uH hP) hm)
  have hzz := hm.size
  replace hM := zH ((uH hM).trans hm)
  replace hP := zH h2
  clear hm h2
  go_wp2_with fail
  refine (paKey_any _ _).mono ?_
  rintro e W4 ⟨rfl, hb⟩
  have h2 := (uH hP).below hb
  have hm := mop_below (g := g) hb
  clear hb
  replace hN := zH ((uH hN).mop (uH hP) hm)
  have hzz := hm.size
  replace hM := zH ((uH hM).trans hm)
  replace hP := zH h2
  clear hm h2
  go_wp2_with fail
  refine (paTake_no (uH hP) (keyT [99, 111, 110, 115, 116]) (by rw [eqB_key]; exact h1)).mono ?_
  rintro e W5 ⟨rfl, h2, hm⟩
  replace hN := zH ((uH hN).mop (uH hP) hm)
  have hzz := hm.size
  replace hM := zH ((uH hM).trans hm)
  replace hP := zH h2
  clear hm h2
  go_wp2_with fail
  refine (paKey_any _ _).mono ?_
  rintro e W6 ⟨rfl, hb⟩
  have h2 := (uH hP).below hb
  have hm := mop_below (g := g) hb
  clear hb
  replace hN := zH ((uH hN).mop (uH hP) hm)
  have hzz := hm.size
  replace hM := zH ((uH hM).trans hm)
  replace hP := zH h2
  clear hm h2
  go_wp2_with fail
  refine (paTake_yes (uH hP) (keyT [116, 121, 112, 101]) (by rw [eqB_key]; exact h2) (keyA_lt h2)).mono ?_
  rintro e W7 ⟨rfl, h2, hm⟩
  replace hN := zH ((uH hN).mop (uH hP) hm)
  have hzz := hm.size
  replace hM := zH ((uH hM).trans hm)
  replace hP := zH h2
  clear hm h2
  go_wp2_with fail
  have hC := uH hH _ (uH hP)
  rw [hr] at hC
  refine (hC).mono ?_
  rintro e W8 ⟨a1, m1, c1, rfl, hs, h2, hm⟩
  have hzs := hm.size
  have hs1 := zH (hs.mono (P' := fun x => gb < x ∧ x < W8.heap.size) (fun x hx => by have := (uH hN).lt; have e1 := hx.1; have e2 := hx.lt; exact ⟨by omega, by omega⟩))
  clear hs
  replace hN := zH ((uH hN).mop (uH hP) hm)
  have hzz := hm.size
  replace hM := zH ((uH hM).trans hm)
  replace hP := zH h2
  clear hm h2
  dsimp only at hs1
  obtain ⟨p0_hN, p1_hN, p2_hN⟩ := (uH hN).box
  have f0_hN := (uH hN).frozen 0
  have f1_hN := (uH hN).frozen 1
  have f2_hN := (uH hN).frozen 2
  have hF := zH (res_fin (k := nk) (t := nt) (a := a1) (m := m1) (c := c1) (f := nc) (B := gb) (w := w) (Nat.le_refl gb) (by omega) (uH hN) ((uH hs1).mono (fun x hx => by have e1 := hx.1; exact ⟨by omega, by omega⟩)) (uH hP) (uH hM))
  go_wp2
  obtain ⟨q1, q2, q3, q4⟩ := uH hF
  obtain ⟨u0, u1, u2⟩ := q1.box
  refine bodyPost_ret (v := .agg #[.int .i64 (nk), .int .i64 (nt), .slice (a1) (m1) (c1)]) (by simp [results, Tryz.results69, go_sem, u0, u1, u2]) rfl ?_
  exact ⟨_, _, _, rfl, (by first | exact q2 | (rw [hgb]; exact q2)), q3, q4⟩
set_option maxHeartbeats 4000000 in
set_option maxRecDepth 100000 in
theorem paDecl_func {g : Nat} {tv : Value} {L : List Tk} {i : Nat} {w : World} (h : PaW g tv L i 0 w) {R : PR Nd} (h0 : keyA L i [118, 97, 114] = false) (h1 : keyA L i [99, 111, 110, 115, 116] = false) (h2 : keyA L i [116, 121, 112, 101] = false) (h3 : keyA L i [102, 117, 110, 99] = true) (hH : Hid (∀ (w : World), PaW g tv L (i + 1) 0 w → Calls Tryz.prog 91 #[.pointer (some ⟨g, 0, none⟩)] w fun e w' => ResN w.heap.size g tv L 0 w R e w')) (hne : R ≠ .out) :
  Calls Tryz.prog 69 #[.pointer (some ⟨g, 0, none⟩)] w fun e w' => ResN w.heap.size g tv L 0 w R e w' := by
 generalize hr : R = r at hne ⊢
 cases r with
 | out => exact absurd rfl hne
 | bad j =>
  have hP := zH (h.alloc (.cells #[.int .i64 0, .int .i64 0, .slice none 0 0] 24 (0, 0))).1
  have hM := zH (h.alloc (.cells #[.int .i64 0, .int .i64 0, .slice none 0 0] 24 (0, 0))).2
  have hN := zH (nblk_new w 0 0 none 0 0)
  obtain ⟨gb, hgb⟩ : ∃ gb, w.heap.size = gb := ⟨_, rfl⟩
  have hz : (w.alloc (.cells #[.int .i64 0, .int .i64 0, .slice none 0 0] 24 (0, 0))).heap.size = gb + 1 := by simp [hgb]
  have hgl : g < gb := by have := h.lt; omega
  rw [hgb] at hN
  obtain ⟨W1, hq_W1⟩ : ∃ W1, w.alloc (.cells #[.int .i64 0, .int .i64 0, .slice none 0 0] 24 (0, 0)) = W1 := ⟨_, rfl⟩
  rw [hq_W1] at hP hM hN hz
  replace hz := And.intro (Nat.le_of_eq hz) (Nat.le_of_eq hz.symm)
  replace h := zH h
  go_enter Tryz.func69, Tryz.ntmps69
  go_wp2_with fail
  clear hq_W1
  refine (paKey_any _ _).mono ?_
  rintro e W2 ⟨rfl, hb⟩
  have h2 := (uH hP).below hb
  have hm := mop_below (g := g) hb
  clear hb
  replace hN := zH ((uH hN).mop (uH hP) hm)
  have hzz := hm.size
  replace hM := zH ((uH hM).trans hm)
  replace hP := zH h2
  clear hm h2
  go_wp2_with fail
  refine (paTake_no (uH hP) (keyT [118, 97, 114]) (by rw [eqB_key]; exact h0)).mono ?_
  rintro e W3 ⟨rfl, h2, hm⟩
  replace hN := zH ((uH hN).mop (uH hP) hm)
  have hzz := hm.size
  replace hM := zH ((uH hM).trans hm)
  replace hP := zH h2
  clear hm h2
  go_wp2_with fail
  refine (paKey_any _ _).mono ?_
  rintro e W4 ⟨rfl, hb⟩
  have h2 := (uH hP).below hb
  have hm := mop_below (g := g) hb
  clear hb
  replace hN := zH ((uH hN).mop (uH hP) hm)
  have hzz := hm.size
  replace hM := zH ((uH hM).trans hm)
  replace hP := zH h2
  clear hm h2
  go_wp2_with fail
  refine (paTake_no (uH hP) (keyT [99, 111, 110, 115, 116]) (by rw [eqB_key]; exact h1)).mono ?_
  rintro e W5 ⟨rfl, h2, hm⟩
  replace hN := zH ((uH hN).mop (uH hP) hm)
  have hzz := hm.size
  replace hM := zH ((uH hM).trans hm)
  replace hP := zH h2
  clear hm h2
  go_wp2_with fail
  refine (paKey_any _ _).mono ?_
  rintro e W6 ⟨rfl, hb⟩
  have h2 := (uH hP).below hb
  have hm := mop_below (g := g) hb
  clear hb
  replace hN := zH ((uH hN).mop (uH hP) hm)
  have hzz := hm.size
  replace hM := zH ((uH hM).trans hm)
  replace hP := zH h2
  clear hm h2
  go_wp2_with fail
  refine (paTake_no (uH hP) (keyT [116, 121, 112, 101]) (by rw [eqB_key]; exact h2)).mono ?_
  rintro e W7 ⟨rfl, h2, hm⟩
  replace hN := zH ((uH hN).mop (uH hP) hm)
  have hzz := hm.size
  replace hM := zH ((uH hM).trans hm)
  replace hP := zH h2
  clear hm h2
  go_wp2_with fail
  refine (paKey_any _ _).mono ?_
  rintro e W8 ⟨rfl, hb⟩
  have h2 := (uH hP).below hb
  have hm := mop_below (g := g) hb
  clear hb
  replace hN := zH ((uH hN).mop (uH hP) hm)
  have hzz := hm.size
  replace hM := zH ((uH hM).trans hm)
  replace hP := zH h2
  clear hm h2
  go_wp2_with fail
  refine (paWant_yes (uH hP) (keyT [102, 117, 110, 99]) (by rw [eqB_key]; exact h3) (keyA_lt h3)).mono ?_
  rintro e W9 ⟨rfl, h2, hm⟩
  replace hN := zH ((uH hN).mop (uH hP) hm)
  have hzz := hm.size
  replace hM := zH ((uH hM).trans hm)
  replace hP := zH h2
  clear hm h2
  go_wp2_with fail
  have hC := uH hH _ (uH hP)
  rw [hr] at hC
  refine (hC).mono ?_
  rintro e W10 hBad
  obtain rfl := hBad.1
  have hG := zH (hBad.pre (uH hM))
  clear hBad
  go_wp2
  exact ⟨rfl, uH hG⟩
 | ok n j =>
  obtain ⟨nk, nt, nc⟩ := n
  have hP := zH (h.alloc (.cells #[.int .i64 0, .int .i64 0, .slice none 0 0] 24 (0, 0))).1
  have hM := zH (h.alloc (.cells #[.int .i64 0, .int .i64 0, .slice none 0 0] 24 (0, 0))).2
  have hN := zH (nblk_new w 0 0 none 0 0)
  obtain ⟨gb, hgb⟩ : ∃ gb, w.heap.size = gb := ⟨_, rfl⟩
  have hz : (w.alloc (.cells #[.int .i64 0, .int .i64 0, .slice none 0 0] 24 (0, 0))).heap.size = gb + 1 := by simp [hgb]
  have hgl : g < gb := by have := h.lt; omega
  rw [hgb] at hN
  obtain ⟨W1, hq_W1⟩ : ∃ W1, w.alloc (.cells #[.int .i64 0, .int .i64 0, .slice none 0 0] 24 (0, 0)) = W1 := ⟨_, rfl⟩
  rw [hq_W1] at hP hM hN hz
  replace hz := And.intro (Nat.le_of_eq hz) (Nat.le_of_eq hz.symm)
  replace h := zH h
  go_enter Tryz.func69, Tryz.ntmps69
  go_wp2_with fail
  clear hq_W1
  refine (paKey_any _ _).mono ?_
  rintro e W2 ⟨rfl, hb⟩
  have h2 := (uH hP).below hb
  have hm := mop_below (g := g) hb
  clear hb
  replace hN := zH ((uH hN).mop (uH hP) hm)
  have hzz := hm.size
  replace hM := zH ((uH hM).trans hm)
  replace hP := zH h2
  clear hm h2
  go_wp2_with fail
  refine (paTake_no (uH hP) (keyT [118, 97, 114]) (by rw [eqB_key]; exact h0)).mono ?_
  rintro e W3 ⟨rfl, h2, hm⟩
  replace hN := zH ((uH hN).mop (uH hP) hm)
  have hzz := hm.size
  replace hM := zH ((uH hM).trans hm)
  replace hP := zH h2
  clear hm h2
  go_wp2_with fail
  refine (paKey_any _ _).mono ?_
  rintro e W4 ⟨rfl, hb⟩
  have h2 := (uH hP).below hb
  have hm := mop_below (g := g) hb
  clear hb
  replace hN := zH ((uH hN).mop (uH hP) hm)
  have hzz := hm.size
  replace hM := zH ((uH hM).trans hm)
  replace hP := zH h2
  clear hm h2
  go_wp2_with fail
  refine (paTake_no (uH hP) (keyT [99, 111, 110, 115, 116]) (by rw [eqB_key]; exact h1)).mono ?_
  rintro e W5 ⟨rfl, h2, hm⟩
  replace hN := zH ((uH hN).mop (uH hP) hm)
  have hzz := hm.size
  replace hM := zH ((uH hM).trans hm)
  replace hP := zH h2
  clear hm h2
  go_wp2_with fail
  refine (paKey_any _ _).mono ?_
  rintro e W6 ⟨rfl, hb⟩
  have h2 := (uH hP).below hb
  have hm := mop_below (g := g) hb
  clear hb
  replace hN := zH ((uH hN).mop (uH hP) hm)
  have hzz := hm.size
  replace hM := zH ((uH hM).trans hm)
  replace hP := zH h2
  clear hm h2
  go_wp2_with fail
  refine (paTake_no (uH hP) (keyT [116, 121, 112, 101]) (by rw [eqB_key]; exact h2)).mono ?_
  rintro e W7 ⟨rfl, h2, hm⟩
  replace hN := zH ((uH hN).mop (uH hP) hm)
  have hzz := hm.size
  replace hM := zH ((uH hM).trans hm)
  replace hP := zH h2
  clear hm h2
  go_wp2_with fail
  refine (paKey_any _ _).mono ?_
  rintro e W8 ⟨rfl, hb⟩
  have h2 := (uH hP).below hb
  have hm := mop_below (g := g) hb
  clear hb
  replace hN := zH ((uH hN).mop (uH hP) hm)
  have hzz := hm.size
  replace hM := zH ((uH hM).trans hm)
  replace hP := zH h2
  clear hm h2
  go_wp2_with fail
  refine (paWant_yes (uH hP) (keyT [102, 117, 110, 99]) (by rw [eqB_key]; exact h3) (keyA_lt h3)).mono ?_
  rintro e W9 ⟨rfl, h2, hm⟩
  replace hN := zH ((uH hN).mop (uH hP) hm)
  have hzz := hm.size
  replace hM := zH ((uH hM).trans hm)
  replace hP := zH h2
  clear hm h2
  go_wp2_with fail
  have hC := uH hH _ (uH hP)
  rw [hr] at hC
  refine (hC).mono ?_
  rintro e W10 ⟨a1, m1, c1, rfl, hs, h2, hm⟩
  have hzs := hm.size
  have hs1 := zH (hs.mono (P' := fun x => gb < x ∧ x < W10.heap.size) (fun x hx => by have := (uH hN).lt; have e1 := hx.1; have e2 := hx.lt; exact ⟨by omega, by omega⟩))
  clear hs
  replace hN := zH ((uH hN).mop (uH hP) hm)
  have hzz := hm.size
  replace hM := zH ((uH hM).trans hm)
  replace hP := zH h2
  clear hm h2
  dsimp only at hs1
  obtain ⟨p0_hN, p1_hN, p2_hN⟩ := (uH hN).box
  have f0_hN := (uH hN).frozen 0
  have f1_hN := (uH hN).frozen 1
  have f2_hN := (uH hN).frozen 2
  have hF := zH (res_fin (k := nk) (t := nt) (a := a1) (m := m1) (c := c1) (f := nc) (B := gb) (w := w) (Nat.le_refl gb) (by omega) (uH hN) ((uH hs1).mono (fun x hx => by have e1 := hx.1; exact ⟨by omega, by omega⟩)) (uH hP) (uH hM))
  go_wp2
  obtain ⟨q1, q2, q3, q4⟩ := uH hF
  obtain ⟨u0, u1, u2⟩ := q1.box
  refine bodyPost_ret (v := .agg #[.int .i64 (nk), .int .i64 (nt), .slice (a1) (m1) (c1)]) (by simp [results, Tryz.results69, go_sem, u0, u1, u2]) rfl ?_
  exact ⟨_, _, _, rfl, (by first | exact q2 | (rw [hgb]; exact q2)), q3, q4⟩
set_option maxHeartbeats 4000000 in
set_option maxRecDepth 100000 in
theorem paDecl_no {g : Nat} {tv : Value} {L : List Tk} {i : Nat} {w : World} (h : PaW g tv L i 0 w) (h0 : keyA L i [118, 97, 114] = false) (h1 : keyA L i [99, 111, 110, 115, 116] = false) (h2 : keyA L i [116, 121, 112, 101] = false) (h3 : keyA L i [102, 117, 110, 99] = false) : Calls Tryz.prog 69 #[.pointer (some ⟨g, 0, none⟩)] w fun e w' => Bad g tv L i w e w' := by
 have hP := zH (h.alloc (.cells #[.int .i64 0, .int .i64 0, .slice none 0 0] 24 (0, 0))).1
 have hM := zH (h.alloc (.cells #[.int .i64 0, .int .i64 0, .slice none 0 0] 24 (0, 0))).2
 have hN := zH (nblk_new w 0 0 none 0 0)
 obtain ⟨gb, hgb⟩ : ∃ gb, w.heap.size = gb := ⟨_, rfl⟩
 have hz : (w.alloc (.cells #[.int .i64 0, .int .i64 0, .slice none 0 0] 24 (0, 0))).heap.size = gb + 1 := by simp [hgb]
 have hgl : g < gb := by have := h.lt; omega
 rw [hgb] at hN
 obtain ⟨W1, hq_W1⟩ : ∃ W1, w.alloc (.cells #[.int .i64 0, .int .i64 0, .slice none 0 0] 24 (0, 0)) = W1 := ⟨_, rfl⟩
 rw [hq_W1] at hP hM hN hz
 replace hz := And.intro (Nat.le_of_eq hz) (Nat.le_of_eq hz.symm)
 replace h := zH h
 go_enter Tryz.func69, Tryz.ntmps69
 go_wp2_with fail
 clear hq_W1
 refine (paKey_any _ _).mono ?_
 rintro e W2 ⟨rfl, hb⟩
 have h2 := (uH hP).below hb
 have hm := mop_below (g := g) hb
 clear hb
 replace hN := zH ((uH hN).mop (uH hP) hm)
 have hzz := hm.size
 replace hM := zH ((uH hM).trans hm)
 replace hP := zH h2
 clear hm h2
 go_wp2_with fail
 refine (paTake_no (uH hP) (keyT [118, 97, 114]) (by rw [eqB_key]; exact h0)).mono ?_
 rintro e W3 ⟨rfl, h2, hm⟩
 replace hN := zH ((uH hN).mop (uH hP) hm)
 have hzz := hm.size
 replace hM := zH ((uH hM).trans hm)
 replace hP := zH h2
 clear hm h2
 go_wp2_with fail
 refine (paKey_any _ _).mono ?_
 rintro e W4 ⟨rfl, hb⟩
 have h2 := (uH hP).below hb
 have hm := mop_below (g := g) hb
 clear hb
 replace hN := zH ((uH hN).mop (uH hP) hm)
 have hzz := hm.size
 replace hM := zH ((uH hM).trans hm)
 replace hP := zH h2
 clear hm h2
 go_wp2_with fail
 refine (paTake_no (uH hP) (keyT [99, 111, 110, 115, 116]) (by rw [eqB_key]; exact h1)).mono ?_
 rintro e W5 ⟨rfl, h2, hm⟩
 replace hN := zH ((uH hN).mop (uH hP) hm)
 have hzz := hm.size
 replace hM := zH ((uH hM).trans hm)
 replace hP := zH h2
 clear hm h2
 go_wp2_with fail
 refine (paKey_any _ _).mono ?_
 rintro e W6 ⟨rfl, hb⟩
 have h2 := (uH hP).below hb
 have hm := mop_below (g := g) hb
 clear hb
 replace hN := zH ((uH hN).mop (uH hP) hm)
 have hzz := hm.size
 replace hM := zH ((uH hM).trans hm)
 replace hP := zH h2
 clear hm h2
 go_wp2_with fail
 refine (paTake_no (uH hP) (keyT [116, 121, 112, 101]) (by rw [eqB_key]; exact h2)).mono ?_
 rintro e W7 ⟨rfl, h2, hm⟩
 replace hN := zH ((uH hN).mop (uH hP) hm)
 have hzz := hm.size
 replace hM := zH ((uH hM).trans hm)
 replace hP := zH h2
 clear hm h2
 go_wp2_with fail
 refine (paKey_any _ _).mono ?_
 rintro e W8 ⟨rfl, hb⟩
 have h2 := (uH hP).below hb
 have hm := mop_below (g := g) hb
 clear hb
 replace hN := zH ((uH hN).mop (uH hP) hm)
 have hzz := hm.size
 replace hM := zH ((uH hM).trans hm)
 replace hP := zH h2
 clear hm h2
 go_wp2_with fail
 refine (paWant_no (uH hP) (keyT [102, 117, 110, 99]) (by rw [eqB_key]; exact h3)).mono ?_
 rintro e W9 hBad
 obtain rfl := hBad.1
 have hG := zH (hBad.pre (uH hM))
 clear hBad
 go_wp2
 exact ⟨rfl, uH hG⟩
theorem paDecl_any {g : Nat} {tv : Value} {L : List Tk} {i : Nat} {w : World} (h : PaW g tv L i 0 w) {f : Nat} (hf : f ≤ 900000) (hne : decA L f i ≠ .out) :
  Calls Tryz.prog 69 #[.pointer (some ⟨g, 0, none⟩)] w fun e w' => ResN w.heap.size g tv L 0 w (decA L f i) e w' := by
 have H := exA_all g tv L f hf
 unfold decA at hne ⊢
 cases h0 : keyA L i [118, 97, 114] with
 | true =>
  simp only [h0, if_true, Bool.false_eq_true, if_false] at hne ⊢
  exact paDecl_var h h0 (zH (fun w h => paVariable_any (g := g) (tv := tv) (L := L) (w := w) (i := i + 1) (d := 0) h H (by omega) hne)) hne
 | false =>
  cases h1 : keyA L i [99, 111, 110, 115, 116] with
  | true =>
   simp only [h0, h1, if_true, Bool.false_eq_true, if_false] at hne ⊢
   exact paDecl_const h h0 h1 (zH (fun w h => paConstant_any (g := g) (tv := tv) (L := L) (w := w) (i := i + 1) (d := 0) h H (by omega) hne)) hne
  | false =>
   cases h2 : keyA L i [116, 121, 112, 101] with
   | true =>
    simp only [h0, h1, h2, if_true, Bool.false_eq_true, if_false] at hne ⊢
    exact paDecl_type h h0 h1 h2 (zH (fun w h => paStructure_any (g := g) (tv := tv) (L := L) (w := w) (i := i + 1) (d := 0) h (by omega) (by omega) hne)) hne
   | false =>
    cases h3 : keyA L i [102, 117, 110, 99] with
    | true =>
     simp only [h0, h1, h2, h3, wantA, if_true, Bool.false_eq_true, if_false] at hne ⊢
     exact paDecl_func h h0 h1 h2 h3 (zH (fun w h => paFunction_any (g := g) (tv := tv) (L := L) (w := w) (i := i + 1) h (stA_all g tv L f hf) (by omega) hne)) hne
    | false =>
     simp only [h0, h1, h2, h3, wantA, Bool.false_eq_true, if_false] at hne ⊢
     exact paDecl_no h h0 h1 h2 h3
end Go.Proofs.YtiknnobgoamgcaaGreatDoor

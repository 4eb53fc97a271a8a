/-
  3 texts in one.
-/
import Derived.Test.YtiknnobgoamgcaaGreatDoorB04
import Derived.Test.YtiknnobgoamgcaaGreatDoorB02
/-
  The parser: operand, paren.
-/
namespace Go.Proofs.YtiknnobgoamgcaaGreatDoor
open Go.RowKit Go.Lib Go.Sort
set_option linter.unusedSimpArgs false
set_option linter.unusedVariables false
set_option maxHeartbeats 4000000 in
set_option maxRecDepth 100000 in
theorem paOperand_step {g : Nat} {tv : Value} {L : List Tk} {i d : Nat} {w : World} (h : PaW g tv L i d w) {f : Nat} (H : ExA g tv L f) (hd : d ≤ 40) (hne : opdA L (f + 1) i d ≠ .out) : Calls Tryz.prog 162 #[.pointer (some ⟨g, 0, none⟩)] w fun e w' => ResN w.heap.size g tv L d w (opdA L (f + 1) i d) e w' := by
 have hPk : Hid (∀ W, PaW g tv L i d W → Calls Tryz.prog 87 #[.pointer (some ⟨g, 0, none⟩)] W fun e w' => e = .returned (tkA L i).val ∧ Below W.heap.size W w') := zH (fun W hW => paPeek_any hW)
 unfold opdA at hne ⊢
 cases hk1 : knd L i 1 with
 | true =>
  have hq1 := kneq hk1
  simp only [hk1, if_true] at hne ⊢
  unfold Tk.val at hPk
  generalize tkA L i = tt at hPk hq1
  clear H hne
  have hP := zH (h.alloc (.cells #[.int .i64 0, .int .i64 0, .slice none 0 0] 24 (0, 0))).1
  have hM := zH (h.alloc (.cells #[.int .i64 0, .int .i64 0, .slice none 0 0] 24 (0, 0))).2
  have hN := zH (nblk_new w 0 0 none 0 0)
  obtain ⟨gb, hgb⟩ : ∃ gb, w.heap.size = gb := ⟨_, rfl⟩
  have hz : (w.alloc (.cells #[.int .i64 0, .int .i64 0, .slice none 0 0] 24 (0, 0))).heap.size = gb + 1 := by simp [hgb]
  have hgl : g < gb := by have := h.lt; omega
  rw [hgb] at hN
  obtain ⟨W1, hq_W1⟩ : ∃ W1, w.alloc (.cells #[.int .i64 0, .int .i64 0, .slice none 0 0] 24 (0, 0)) = W1 := ⟨_, rfl⟩
  rw [hq_W1] at hP hM hN hz
  replace hz := And.intro (Nat.le_of_eq hz) (Nat.le_of_eq hz.symm)
  replace h := zH h
  have hfl := run_field_tok0
  go_enter Tryz.func162, Tryz.ntmps162
  go_wp2_with fail
  clear hq_W1
  refine (uH hPk _ (uH hP)).mono ?_
  rintro e W2 ⟨rfl, hb⟩
  have h2 := (uH hP).below hb
  have hm := mop_below (g := g) hb
  clear hb
  replace hN := zH ((uH hN).mop (uH hP) hm)
  have hzz := hm.size
  replace hM := zH ((uH hM).trans hm)
  replace hP := zH h2
  clear hm h2
  go_wp2_with fail
  refine (paLeaf_yes (uH hP) 20 1 hk1 (by decide)).mono ?_
  rintro e W3 ⟨a1, m1, c1, rfl, hs, h2, hm⟩
  have hzs := hm.size
  have hs1 := zH (hs.mono (P' := fun x => gb < x ∧ x < W3.heap.size) (fun x hx => by have := (uH hN).lt; have e1 := hx.1; have e2 := hx.lt; exact ⟨by omega, by omega⟩))
  clear hs
  replace hN := zH ((uH hN).mop (uH hP) hm)
  have hzz := hm.size
  replace hM := zH ((uH hM).trans hm)
  replace hP := zH h2
  clear hm h2
  dsimp only at hs1 ⊢
  obtain rfl := sl_empty (uH hs1)
  obtain ⟨p0_hN, p1_hN, p2_hN⟩ := (uH hN).box
  have f0_hN := (uH hN).frozen 0
  have f1_hN := (uH hN).frozen 1
  have f2_hN := (uH hN).frozen 2
  have hF := zH (res_fin (k := 20) (t := i) (a := a1) (m := 0) (c := c1) (f := .nil) (B := gb) (w := w) (Nat.le_refl gb) (by omega) (uH hN) ((uH hs1).mono (fun x hx => by have e1 := hx.1; exact ⟨by omega, by omega⟩)) (uH hP) (uH hM))
  go_wp2
  obtain ⟨q1, q2, q3, q4⟩ := uH hF
  obtain ⟨u0, u1, u2⟩ := q1.box
  refine bodyPost_ret (v := .agg #[.int .i64 (20), .int .i64 (i), .slice (a1) (0) (c1)]) (by simp [results, Tryz.results162, go_sem, u0, u1, u2]) rfl ?_
  exact ⟨_, _, _, rfl, (by first | exact q2 | (rw [hgb]; exact q2)), q3, q4⟩
 | false =>
  have hq1 := kneq hk1
  cases hk2 : knd L i 2 with
  | true =>
   have hq2 := kneq hk2
   simp only [hk1, hk2, Bool.false_eq_true, if_false, if_true] at hne ⊢
   unfold Tk.val at hPk
   generalize tkA L i = tt at hPk hq1 hq2
   clear H hne
   have hP := zH (h.alloc (.cells #[.int .i64 0, .int .i64 0, .slice none 0 0] 24 (0, 0))).1
   have hM := zH (h.alloc (.cells #[.int .i64 0, .int .i64 0, .slice none 0 0] 24 (0, 0))).2
   have hN := zH (nblk_new w 0 0 none 0 0)
   obtain ⟨gb, hgb⟩ : ∃ gb, w.heap.size = gb := ⟨_, rfl⟩
   have hz : (w.alloc (.cells #[.int .i64 0, .int .i64 0, .slice none 0 0] 24 (0, 0))).heap.size = gb + 1 := by simp [hgb]
   have hgl : g < gb := by have := h.lt; omega
   rw [hgb] at hN
   obtain ⟨W1, hq_W1⟩ : ∃ W1, w.alloc (.cells #[.int .i64 0, .int .i64 0, .slice none 0 0] 24 (0, 0)) = W1 := ⟨_, rfl⟩
   rw [hq_W1] at hP hM hN hz
   replace hz := And.intro (Nat.le_of_eq hz) (Nat.le_of_eq hz.symm)
   replace h := zH h
   have hfl := run_field_tok0
   go_enter Tryz.func162, Tryz.ntmps162
   go_wp2_with fail
   clear hq_W1
   refine (uH hPk _ (uH hP)).mono ?_
   rintro e W2 ⟨rfl, hb⟩
   have h2 := (uH hP).below hb
   have hm := mop_below (g := g) hb
   clear hb
   replace hN := zH ((uH hN).mop (uH hP) hm)
   have hzz := hm.size
   replace hM := zH ((uH hM).trans hm)
   replace hP := zH h2
   clear hm h2
   go_wp2_with fail
   refine (paLeaf_yes (uH hP) 21 2 hk2 (by decide)).mono ?_
   rintro e W3 ⟨a1, m1, c1, rfl, hs, h2, hm⟩
   have hzs := hm.size
   have hs1 := zH (hs.mono (P' := fun x => gb < x ∧ x < W3.heap.size) (fun x hx => by have := (uH hN).lt; have e1 := hx.1; have e2 := hx.lt; exact ⟨by omega, by omega⟩))
   clear hs
   replace hN := zH ((uH hN).mop (uH hP) hm)
   have hzz := hm.size
   replace hM := zH ((uH hM).trans hm)
   replace hP := zH h2
   clear hm h2
   dsimp only at hs1 ⊢
   obtain rfl := sl_empty (uH hs1)
   obtain ⟨p0_hN, p1_hN, p2_hN⟩ := (uH hN).box
   have f0_hN := (uH hN).frozen 0
   have f1_hN := (uH hN).frozen 1
   have f2_hN := (uH hN).frozen 2
   have hF := zH (res_fin (k := 21) (t := i) (a := a1) (m := 0) (c := c1) (f := .nil) (B := gb) (w := w) (Nat.le_refl gb) (by omega) (uH hN) ((uH hs1).mono (fun x hx => by have e1 := hx.1; exact ⟨by omega, by omega⟩)) (uH hP) (uH hM))
   go_wp2
   obtain ⟨q1, q2, q3, q4⟩ := uH hF
   obtain ⟨u0, u1, u2⟩ := q1.box
   refine bodyPost_ret (v := .agg #[.int .i64 (21), .int .i64 (i), .slice (a1) (0) (c1)]) (by simp [results, Tryz.results162, go_sem, u0, u1, u2]) rfl ?_
   exact ⟨_, _, _, rfl, (by first | exact q2 | (rw [hgb]; exact q2)), q3, q4⟩
  | false =>
   have hq2 := kneq hk2
   cases hk3 : knd L i 3 with
   | true =>
    have hq3 := kneq hk3
    simp only [hk1, hk2, hk3, Bool.false_eq_true, if_false, if_true] at hne ⊢
    unfold Tk.val at hPk
    generalize tkA L i = tt at hPk hq1 hq2 hq3
    clear H hne
    have hP := zH (h.alloc (.cells #[.int .i64 0, .int .i64 0, .slice none 0 0] 24 (0, 0))).1
    have hM := zH (h.alloc (.cells #[.int .i64 0, .int .i64 0, .slice none 0 0] 24 (0, 0))).2
    have hN := zH (nblk_new w 0 0 none 0 0)
    obtain ⟨gb, hgb⟩ : ∃ gb, w.heap.size = gb := ⟨_, rfl⟩
    have hz : (w.alloc (.cells #[.int .i64 0, .int .i64 0, .slice none 0 0] 24 (0, 0))).heap.size = gb + 1 := by simp [hgb]
    have hgl : g < gb := by have := h.lt; omega
    rw [hgb] at hN
    obtain ⟨W1, hq_W1⟩ : ∃ W1, w.alloc (.cells #[.int .i64 0, .int .i64 0, .slice none 0 0] 24 (0, 0)) = W1 := ⟨_, rfl⟩
    rw [hq_W1] at hP hM hN hz
    replace hz := And.intro (Nat.le_of_eq hz) (Nat.le_of_eq hz.symm)
    replace h := zH h
    have hfl := run_field_tok0
    go_enter Tryz.func162, Tryz.ntmps162
    go_wp2_with fail
    clear hq_W1
    refine (uH hPk _ (uH hP)).mono ?_
    rintro e W2 ⟨rfl, hb⟩
    have h2 := (uH hP).below hb
    have hm := mop_below (g := g) hb
    clear hb
    replace hN := zH ((uH hN).mop (uH hP) hm)
    have hzz := hm.size
    replace hM := zH ((uH hM).trans hm)
    replace hP := zH h2
    clear hm h2
    go_wp2_with fail
    refine (paLeaf_yes (uH hP) 22 3 hk3 (by decide)).mono ?_
    rintro e W3 ⟨a1, m1, c1, rfl, hs, h2, hm⟩
    have hzs := hm.size
    have hs1 := zH (hs.mono (P' := fun x => gb < x ∧ x < W3.heap.size) (fun x hx => by have := (uH hN).lt; have e1 := hx.1; have e2 := hx.lt; exact ⟨by omega, by omega⟩))
    clear hs
    replace hN := zH ((uH hN).mop (uH hP) hm)
    have hzz := hm.size
    replace hM := zH ((uH hM).trans hm)
    replace hP := zH h2
    clear hm h2
    dsimp only at hs1 ⊢
    obtain rfl := sl_empty (uH hs1)
    obtain ⟨p0_hN, p1_hN, p2_hN⟩ := (uH hN).box
    have f0_hN := (uH hN).frozen 0
    have f1_hN := (uH hN).frozen 1
    have f2_hN := (uH hN).frozen 2
    have hF := zH (res_fin (k := 22) (t := i) (a := a1) (m := 0) (c := c1) (f := .nil) (B := gb) (w := w) (Nat.le_refl gb) (by omega) (uH hN) ((uH hs1).mono (fun x hx => by have e1 := hx.1; exact ⟨by omega, by omega⟩)) (uH hP) (uH hM))
    go_wp2
    obtain ⟨q1, q2, q3, q4⟩ := uH hF
    obtain ⟨u0, u1, u2⟩ := q1.box
    refine bodyPost_ret (v := .agg #[.int .i64 (22), .int .i64 (i), .slice (a1) (0) (c1)]) (by simp [results, Tryz.results162, go_sem, u0, u1, u2]) rfl ?_
    exact ⟨_, _, _, rfl, (by first | exact q2 | (rw [hgb]; exact q2)), q3, q4⟩
   | false =>
    have hq3 := kneq hk3
    simp only [hk1, hk2, hk3, Bool.false_eq_true, if_false] at hne ⊢
    have hH := zH (fun w h => H.par w i d h hd hne)
    unfold Tk.val at hPk
    generalize tkA L i = tt at hPk hq1 hq2 hq3
    have hfl := run_field_tok0
    clear H
    generalize hr : parA L f i d = r at hne ⊢
    cases r with
    | out => exact absurd rfl hne
    | bad j =>
     have hP := zH (h.alloc (.cells #[.int .i64 0, .int .i64 0, .slice none 0 0] 24 (0, 0))).1
     have hM := zH (h.alloc (.cells #[.int .i64 0, .int .i64 0, .slice none 0 0] 24 (0, 0))).2
     have hN := zH (nblk_new w 0 0 none 0 0)
     obtain ⟨gb, hgb⟩ : ∃ gb, w.heap.size = gb := ⟨_, rfl⟩
     have hz : (w.alloc (.cells #[.int .i64 0, .int .i64 0, .slice none 0 0] 24 (0, 0))).heap.size = gb + 1 := by simp [hgb]
     have hgl : g < gb := by have := h.lt; omega
     rw [hgb] at hN
     obtain ⟨W1, hq_W1⟩ : ∃ W1, w.alloc (.cells #[.int .i64 0, .int .i64 0, .slice none 0 0] 24 (0, 0)) = W1 := ⟨_, rfl⟩
     rw [hq_W1] at hP hM hN hz
     replace hz := And.intro (Nat.le_of_eq hz) (Nat.le_of_eq hz.symm)
     replace h := zH h
     go_enter Tryz.func162, Tryz.ntmps162
     go_wp2_with fail
     clear hq_W1
     refine (uH hPk _ (uH hP)).mono ?_
     rintro e W2 ⟨rfl, hb⟩
     have h2 := (uH hP).below hb
     have hm := mop_below (g := g) hb
     clear hb
     replace hN := zH ((uH hN).mop (uH hP) hm)
     have hzz := hm.size
     replace hM := zH ((uH hM).trans hm)
     replace hP := zH h2
     clear hm h2
     go_wp2_with fail
     have hC := uH hH _ (uH hP)
     rw [hr] at hC
     refine (hC).mono ?_
     rintro e W3 hBad
     obtain rfl := hBad.1
     have hG := zH (hBad.pre (uH hM))
     clear hBad
     go_wp2
     exact ⟨rfl, uH hG⟩
    | ok n j =>
     obtain ⟨nk, nt, nc⟩ := n
     have hP := zH (h.alloc (.cells #[.int .i64 0, .int .i64 0, .slice none 0 0] 24 (0, 0))).1
     have hM := zH (h.alloc (.cells #[.int .i64 0, .int .i64 0, .slice none 0 0] 24 (0, 0))).2
     have hN := zH (nblk_new w 0 0 none 0 0)
     obtain ⟨gb, hgb⟩ : ∃ gb, w.heap.size = gb := ⟨_, rfl⟩
     have hz : (w.alloc (.cells #[.int .i64 0, .int .i64 0, .slice none 0 0] 24 (0, 0))).heap.size = gb + 1 := by simp [hgb]
     have hgl : g < gb := by have := h.lt; omega
     rw [hgb] at hN
     obtain ⟨W1, hq_W1⟩ : ∃ W1, w.alloc (.cells #[.int .i64 0, .int .i64 0, .slice none 0 0] 24 (0, 0)) = W1 := ⟨_, rfl⟩
     rw [hq_W1] at hP hM hN hz
     replace hz := And.intro (Nat.le_of_eq hz) (Nat.le_of_eq hz.symm)
     replace h := zH h
     go_enter Tryz.func162, Tryz.ntmps162
     go_wp2_with fail
     clear hq_W1
     refine (uH hPk _ (uH hP)).mono ?_
     rintro e W2 ⟨rfl, hb⟩
     have h2 := (uH hP).below hb
     have hm := mop_below (g := g) hb
     clear hb
     replace hN := zH ((uH hN).mop (uH hP) hm)
     have hzz := hm.size
     replace hM := zH ((uH hM).trans hm)
     replace hP := zH h2
     clear hm h2
     go_wp2_with fail
     have hC := uH hH _ (uH hP)
     rw [hr] at hC
     refine (hC).mono ?_
     rintro e W3 ⟨a1, m1, c1, rfl, hs, h2, hm⟩
     have hzs := hm.size
     have hs1 := zH (hs.mono (P' := fun x => gb < x ∧ x < W3.heap.size) (fun x hx => by have := (uH hN).lt; have e1 := hx.1; have e2 := hx.lt; exact ⟨by omega, by omega⟩))
     clear hs
     replace hN := zH ((uH hN).mop (uH hP) hm)
     have hzz := hm.size
     replace hM := zH ((uH hM).trans hm)
     replace hP := zH h2
     clear hm h2
     dsimp only at hs1
     obtain ⟨p0_hN, p1_hN, p2_hN⟩ := (uH hN).box
     have f0_hN := (uH hN).frozen 0
     have f1_hN := (uH hN).frozen 1
     have f2_hN := (uH hN).frozen 2
     have hF := zH (res_fin (k := nk) (t := nt) (a := a1) (m := m1) (c := c1) (f := nc) (B := gb) (w := w) (Nat.le_refl gb) (by omega) (uH hN) ((uH hs1).mono (fun x hx => by have e1 := hx.1; exact ⟨by omega, by omega⟩)) (uH hP) (uH hM))
     go_wp2
     obtain ⟨q1, q2, q3, q4⟩ := uH hF
     obtain ⟨u0, u1, u2⟩ := q1.box
     refine bodyPost_ret (v := .agg #[.int .i64 (nk), .int .i64 (nt), .slice (a1) (m1) (c1)]) (by simp [results, Tryz.results162, go_sem, u0, u1, u2]) rfl ?_
     exact ⟨_, _, _, rfl, (by first | exact q2 | (rw [hgb]; exact q2)), q3, q4⟩
set_option maxHeartbeats 4000000 in
set_option maxRecDepth 100000 in
theorem paParen_step {g : Nat} {tv : Value} {L : List Tk} {i d : Nat} {w : World} (h : PaW g tv L i d w) {f : Nat} (H : ExA g tv L f) (hd : d ≤ 40) (hne : parA L (f + 1) i d ≠ .out) : Calls Tryz.prog 164 #[.pointer (some ⟨g, 0, none⟩)] w fun e w' => ResN w.heap.size g tv L d w (parA L (f + 1) i d) e w' := by
 unfold parA at hne ⊢
 by_cases hd40 : d = 40
 ·
  subst hd40
  simp only [if_true] at hne ⊢
  clear H
  have hP := zH (h.alloc (.cells #[.int .i64 0, .int .i64 0, .slice none 0 0] 24 (0, 0))).1
  have hM := zH (h.alloc (.cells #[.int .i64 0, .int .i64 0, .slice none 0 0] 24 (0, 0))).2
  have hN := zH (nblk_new w 0 0 none 0 0)
  obtain ⟨gb, hgb⟩ : ∃ gb, w.heap.size = gb := ⟨_, rfl⟩
  have hz : (w.alloc (.cells #[.int .i64 0, .int .i64 0, .slice none 0 0] 24 (0, 0))).heap.size = gb + 1 := by simp [hgb]
  have hgl : g < gb := by have := h.lt; omega
  rw [hgb] at hN
  obtain ⟨W1, hq_W1⟩ : ∃ W1, w.alloc (.cells #[.int .i64 0, .int .i64 0, .slice none 0 0] 24 (0, 0)) = W1 := ⟨_, rfl⟩
  rw [hq_W1] at hP hM hN hz
  replace hz := And.intro (Nat.le_of_eq hz) (Nat.le_of_eq hz.symm)
  replace h := zH h
  go_enter Tryz.func164, Tryz.ntmps164
  go_wp2_with fail
  clear hq_W1
  refine (paOp_any _ _).mono ?_
  rintro e W2 ⟨rfl, hb⟩
  have h2 := (uH hP).below hb
  have hm := mop_below (g := g) hb
  clear hb
  replace hN := zH ((uH hN).mop (uH hP) hm)
  have hzz := hm.size
  replace hM := zH ((uH hM).trans hm)
  replace hP := zH h2
  clear hm h2
  go_wp2_with fail
  refine (paOpen_deep (uH hP) (opT [40])).mono ?_
  rintro e W3 hBad
  obtain rfl := hBad.1
  have hG := zH (hBad.pre (uH hM))
  clear hBad
  go_wp2
  exact ⟨rfl, uH hG⟩
 ·
  simp only [hd40, if_false] at hne ⊢
  cases ho : opA L i [40] with
  | false =>
   simp only [ho, wantA, Bool.false_eq_true, if_false] at hne ⊢
   clear H
   have hP := zH (h.alloc (.cells #[.int .i64 0, .int .i64 0, .slice none 0 0] 24 (0, 0))).1
   have hM := zH (h.alloc (.cells #[.int .i64 0, .int .i64 0, .slice none 0 0] 24 (0, 0))).2
   have hN := zH (nblk_new w 0 0 none 0 0)
   obtain ⟨gb, hgb⟩ : ∃ gb, w.heap.size = gb := ⟨_, rfl⟩
   have hz : (w.alloc (.cells #[.int .i64 0, .int .i64 0, .slice none 0 0] 24 (0, 0))).heap.size = gb + 1 := by simp [hgb]
   have hgl : g < gb := by have := h.lt; omega
   rw [hgb] at hN
   obtain ⟨W1, hq_W1⟩ : ∃ W1, w.alloc (.cells #[.int .i64 0, .int .i64 0, .slice none 0 0] 24 (0, 0)) = W1 := ⟨_, rfl⟩
   rw [hq_W1] at hP hM hN hz
   replace hz := And.intro (Nat.le_of_eq hz) (Nat.le_of_eq hz.symm)
   replace h := zH h
   go_enter Tryz.func164, Tryz.ntmps164
   go_wp2_with fail
   clear hq_W1
   refine (paOp_any _ _).mono ?_
   rintro e W2 ⟨rfl, hb⟩
   have h2 := (uH hP).below hb
   have hm := mop_below (g := g) hb
   clear hb
   replace hN := zH ((uH hN).mop (uH hP) hm)
   have hzz := hm.size
   replace hM := zH ((uH hM).trans hm)
   replace hP := zH h2
   clear hm h2
   go_wp2_with fail
   refine (paOpen_no (uH hP) (by omega) (opT [40]) (by rw [eqB_op]; exact ho)).mono ?_
   rintro e W3 hBad
   obtain rfl := hBad.1
   have hG := zH (hBad.pre (uH hM))
   clear hBad
   go_wp2
   exact ⟨rfl, uH hG⟩
  | true =>
   simp only [ho, wantA, if_true] at hne ⊢
   have hne1 : absA L f 0 (i + 1) (d + 1) ≠ .out := fun e => hne (by rw [e]; rfl)
   have hH := zH (fun w h => paExpr_any (w := w) (i := i + 1) (d := d + 1) h H (by omega) hne1)
   clear H hne
   cases hr : absA L f 0 (i + 1) (d + 1) with
   | out => exact absurd hr hne1
   | bad j =>
    simp only [PR.bind]
    have hP := zH (h.alloc (.cells #[.int .i64 0, .int .i64 0, .slice none 0 0] 24 (0, 0))).1
    have hM := zH (h.alloc (.cells #[.int .i64 0, .int .i64 0, .slice none 0 0] 24 (0, 0))).2
    have hN := zH (nblk_new w 0 0 none 0 0)
    obtain ⟨gb, hgb⟩ : ∃ gb, w.heap.size = gb := ⟨_, rfl⟩
    have hz : (w.alloc (.cells #[.int .i64 0, .int .i64 0, .slice none 0 0] 24 (0, 0))).heap.size = gb + 1 := by simp [hgb]
    have hgl : g < gb := by have := h.lt; omega
    rw [hgb] at hN
    obtain ⟨W1, hq_W1⟩ : ∃ W1, w.alloc (.cells #[.int .i64 0, .int .i64 0, .slice none 0 0] 24 (0, 0)) = W1 := ⟨_, rfl⟩
    rw [hq_W1] at hP hM hN hz
    replace hz := And.intro (Nat.le_of_eq hz) (Nat.le_of_eq hz.symm)
    replace h := zH h
    go_enter Tryz.func164, Tryz.ntmps164
    go_wp2_with fail
    clear hq_W1
    refine (paOp_any _ _).mono ?_
    rintro e W2 ⟨rfl, hb⟩
    have h2 := (uH hP).below hb
    have hm := mop_below (g := g) hb
    clear hb
    replace hN := zH ((uH hN).mop (uH hP) hm)
    have hzz := hm.size
    replace hM := zH ((uH hM).trans hm)
    replace hP := zH h2
    clear hm h2
    go_wp2_with fail
    refine (paOpen_yes (uH hP) (by omega) (opT [40]) (by rw [eqB_op]; exact ho) (opA_lt ho)).mono ?_
    rintro e W3 ⟨rfl, h2, hm⟩
    replace hN := zH ((uH hN).mop (uH hP) hm)
    have hzz := hm.size
    replace hM := zH ((uH hM).trans hm)
    replace hP := zH h2
    clear hm h2
    obtain ⟨b1, hq_b1⟩ : ∃ x, W3.heap.size = x := ⟨_, rfl⟩
    have hB := zH (nblk_new W3 25 i none 0 0)
    have hm := mop_below (g := g) (below_alloc W3 (.cells #[.int .i64 25, .int .i64 i, .slice none 0 0] 24 (0, 0)))
    have h2 := (uH hP).below (below_alloc W3 (.cells #[.int .i64 25, .int .i64 i, .slice none 0 0] 24 (0, 0)))
    have hzs : (W3.alloc (.cells #[.int .i64 25, .int .i64 i, .slice none 0 0] 24 (0, 0))).heap.size = b1 + 1 := by simp [hq_b1]
    obtain ⟨W4, hq_W4⟩ : ∃ x, W3.alloc (.cells #[.int .i64 25, .int .i64 i, .slice none 0 0] 24 (0, 0)) = x := ⟨_, rfl⟩
    rw [hq_W4] at hB hm h2 hzs
    replace hzs := And.intro (Nat.le_of_eq hzs) (Nat.le_of_eq hzs.symm)
    rw [hq_b1] at hB
    replace hq_W4 := zH hq_W4
    replace hN := zH ((uH hN).mop (uH hP) hm)
    have hzz := hm.size
    replace hM := zH ((uH hM).trans hm)
    replace hP := zH h2
    clear hm h2
    go_wp2_with fail
    rw [uH hq_W4]
    clear hq_W4
    have hC := uH hH _ (uH hP)
    rw [hr] at hC
    refine (hC).mono ?_
    rintro e W5 hBad
    obtain rfl := hBad.1
    have hG := zH (hBad.pre (uH hM))
    clear hBad
    go_wp2
    exact ⟨rfl, uH hG⟩
   | ok n j =>
    obtain ⟨nk, nt, nc⟩ := n
    simp only [PR.bind, one]
    cases ho2 : opA L j [41] with
    | false =>
     simp only [Bool.false_eq_true, if_false]
     have hP := zH (h.alloc (.cells #[.int .i64 0, .int .i64 0, .slice none 0 0] 24 (0, 0))).1
     have hM := zH (h.alloc (.cells #[.int .i64 0, .int .i64 0, .slice none 0 0] 24 (0, 0))).2
     have hN := zH (nblk_new w 0 0 none 0 0)
     obtain ⟨gb, hgb⟩ : ∃ gb, w.heap.size = gb := ⟨_, rfl⟩
     have hz : (w.alloc (.cells #[.int .i64 0, .int .i64 0, .slice none 0 0] 24 (0, 0))).heap.size = gb + 1 := by simp [hgb]
     have hgl : g < gb := by have := h.lt; omega
     rw [hgb] at hN
     obtain ⟨W1, hq_W1⟩ : ∃ W1, w.alloc (.cells #[.int .i64 0, .int .i64 0, .slice none 0 0] 24 (0, 0)) = W1 := ⟨_, rfl⟩
     rw [hq_W1] at hP hM hN hz
     replace hz := And.intro (Nat.le_of_eq hz) (Nat.le_of_eq hz.symm)
     replace h := zH h
     go_enter Tryz.func164, Tryz.ntmps164
     go_wp2_with fail
     clear hq_W1
     refine (paOp_any _ _).mono ?_
     rintro e W2 ⟨rfl, hb⟩
     have h2 := (uH hP).below hb
     have hm := mop_below (g := g) hb
     clear hb
     replace hN := zH ((uH hN).mop (uH hP) hm)
     have hzz := hm.size
     replace hM := zH ((uH hM).trans hm)
     replace hP := zH h2
     clear hm h2
     go_wp2_with fail
     refine (paOpen_yes (uH hP) (by omega) (opT [40]) (by rw [eqB_op]; exact ho) (opA_lt ho)).mono ?_
     rintro e W3 ⟨rfl, h2, hm⟩
     replace hN := zH ((uH hN).mop (uH hP) hm)
     have hzz := hm.size
     replace hM := zH ((uH hM).trans hm)
     replace hP := zH h2
     clear hm h2
     obtain ⟨b1, hq_b1⟩ : ∃ x, W3.heap.size = x := ⟨_, rfl⟩
     have hB := zH (nblk_new W3 25 i none 0 0)
     have hm := mop_below (g := g) (below_alloc W3 (.cells #[.int .i64 25, .int .i64 i, .slice none 0 0] 24 (0, 0)))
     have h2 := (uH hP).below (below_alloc W3 (.cells #[.int .i64 25, .int .i64 i, .slice none 0 0] 24 (0, 0)))
     have hzs : (W3.alloc (.cells #[.int .i64 25, .int .i64 i, .slice none 0 0] 24 (0, 0))).heap.size = b1 + 1 := by simp [hq_b1]
     obtain ⟨W4, hq_W4⟩ : ∃ x, W3.alloc (.cells #[.int .i64 25, .int .i64 i, .slice none 0 0] 24 (0, 0)) = x := ⟨_, rfl⟩
     rw [hq_W4] at hB hm h2 hzs
     replace hzs := And.intro (Nat.le_of_eq hzs) (Nat.le_of_eq hzs.symm)
     rw [hq_b1] at hB
     replace hq_W4 := zH hq_W4
     replace hN := zH ((uH hN).mop (uH hP) hm)
     have hzz := hm.size
     replace hM := zH ((uH hM).trans hm)
     replace hP := zH h2
     clear hm h2
     go_wp2_with fail
     rw [uH hq_W4]
     clear hq_W4
     have hC := uH hH _ (uH hP)
     rw [hr] at hC
     refine (hC).mono ?_
     rintro e W5 ⟨a2, m2, c2, rfl, hs, h2, hm⟩
     have hzs := hm.size
     have hs2 := zH (hs.mono (P' := fun x => gb < x ∧ x < W5.heap.size ∧ x ≠ b1) (fun x hx => by have := (uH hN).lt; have := (uH hB).lt; have e1 := hx.1; have e2 := hx.lt; exact ⟨by omega, by omega, by omega⟩))
     clear hs
     replace hN := zH ((uH hN).mop (uH hP) hm)
     replace hB := zH ((uH hB).mop (uH hP) hm)
     have hzz := hm.size
     replace hM := zH ((uH hM).trans hm)
     replace hP := zH h2
     clear hm h2
     dsimp only at hs2
     obtain ⟨b3, hq_b3⟩ : ∃ x, W5.heap.size = x := ⟨_, rfl⟩
     have hzz : (W5.alloc (.cells #[.int .i64 nk, .int .i64 nt, .slice a2 m2 c2] 24 (0, 0))).heap.size = b3 + 1 := by simp [hq_b3]
     have hm := mop_below (g := g) (below_alloc W5 (.cells #[.int .i64 nk, .int .i64 nt, .slice a2 m2 c2] 24 (0, 0)))
     have h2 := (uH hP).below (below_alloc W5 (.cells #[.int .i64 nk, .int .i64 nt, .slice a2 m2 c2] 24 (0, 0)))
     have hs3 := lit1_sl (P := fun x => gb < x ∧ x < b3 + 1 ∧ x ≠ b1) W5 nk nt a2 m2 c2 nc ((uH hs2).mono (fun x hx => by have e1 := hx.1; have e2 := hx.lt; exact ⟨by omega, by omega, by omega⟩)) ⟨by omega, by omega, (by have := (uH hN).lt; have := (uH hB).lt; omega)⟩
     rw [hq_b3] at hs3
     obtain ⟨W6, hq_W6⟩ : ∃ x, W5.alloc (.cells #[.int .i64 nk, .int .i64 nt, .slice a2 m2 c2] 24 (0, 0)) = x := ⟨_, rfl⟩
     rw [hq_W6] at hs3 hm h2 hzz
     rw [← hzz] at hs3
     replace hzz := And.intro (Nat.le_of_eq hzz) (Nat.le_of_eq hzz.symm)
     replace hs3 := zH hs3
     replace hN := zH ((uH hN).mop (uH hP) hm)
     replace hB := zH ((uH hB).mop (uH hP) hm)
     have hzz := hm.size
     replace hM := zH ((uH hM).trans hm)
     replace hP := zH h2
     clear hm h2
     obtain ⟨p0_hB, p1_hB, p2_hB⟩ := (uH hB).box
     have f0_hB := (uH hB).frozen 0
     have f1_hB := (uH hB).frozen 1
     have f2_hB := (uH hB).frozen 2
     obtain ⟨h2, hM2, hB2, hh⟩ := kid_set (uH hP) (uH hM) (uH hB) (by omega) (some ⟨b3, 0, none⟩) 1 1
     have hzz : (W6.setCell ⟨b1, 2, none⟩ (.slice (some ⟨b3, 0, none⟩) 1 1)).heap.size = W6.heap.size := by simp
     obtain ⟨W7, hq_W7⟩ : ∃ x, W6.setCell ⟨b1, 2, none⟩ (.slice (some ⟨b3, 0, none⟩) 1 1) = x := ⟨_, rfl⟩
     rw [hq_W7] at h2 hM2 hB2 hh hzz
     replace hzz := And.intro (Nat.le_of_eq hzz) (Nat.le_of_eq hzz.symm)
     replace hN := zH ((uH hN).same (hh _ (by omega)))
     replace hs3 := zH ((uH hs3).keep (w' := W7) (fun x hx => hh x (by have e1 := hx.1; omega)))
     replace hB := zH hB2
     replace hM := zH hM2
     replace hP := zH h2
     clear hB2 hM2 h2 hh
     go_wp2_with fail
     clear hq_W6 hq_W7
     refine (paOp_any _ _).mono ?_
     rintro e W8 ⟨rfl, hb⟩
     have h2 := (uH hP).below hb
     have hm := mop_below (g := g) hb
     clear hb
     replace hN := zH ((uH hN).mop (uH hP) hm)
     replace hB := zH ((uH hB).mop (uH hP) hm)
     replace hs3 := zH ((uH hs3).mop (uH hP) hm)
     have hzz := hm.size
     replace hM := zH ((uH hM).trans hm)
     replace hP := zH h2
     clear hm h2
     go_wp2_with fail
     refine (paWant_no (uH hP) (opT [41]) (by rw [eqB_op]; exact ho2)).mono ?_
     rintro e W9 hBad
     obtain rfl := hBad.1
     have hG := zH (hBad.pre (uH hM))
     clear hBad
     go_wp2
     exact ⟨rfl, uH hG⟩
    | true =>
     simp only [if_true]
     have hP := zH (h.alloc (.cells #[.int .i64 0, .int .i64 0, .slice none 0 0] 24 (0, 0))).1
     have hM := zH (h.alloc (.cells #[.int .i64 0, .int .i64 0, .slice none 0 0] 24 (0, 0))).2
     have hN := zH (nblk_new w 0 0 none 0 0)
     obtain ⟨gb, hgb⟩ : ∃ gb, w.heap.size = gb := ⟨_, rfl⟩
     have hz : (w.alloc (.cells #[.int .i64 0, .int .i64 0, .slice none 0 0] 24 (0, 0))).heap.size = gb + 1 := by simp [hgb]
     have hgl : g < gb := by have := h.lt; omega
     rw [hgb] at hN
     obtain ⟨W1, hq_W1⟩ : ∃ W1, w.alloc (.cells #[.int .i64 0, .int .i64 0, .slice none 0 0] 24 (0, 0)) = W1 := ⟨_, rfl⟩
     rw [hq_W1] at hP hM hN hz
     replace hz := And.intro (Nat.le_of_eq hz) (Nat.le_of_eq hz.symm)
     replace h := zH h
     go_enter Tryz.func164, Tryz.ntmps164
     go_wp2_with fail
     clear hq_W1
     refine (paOp_any _ _).mono ?_
     rintro e W2 ⟨rfl, hb⟩
     have h2 := (uH hP).below hb
     have hm := mop_below (g := g) hb
     clear hb
     replace hN := zH ((uH hN).mop (uH hP) hm)
     have hzz := hm.size
     replace hM := zH ((uH hM).trans hm)
     replace hP := zH h2
     clear hm h2
     go_wp2_with fail
     refine (paOpen_yes (uH hP) (by omega) (opT [40]) (by rw [eqB_op]; exact ho) (opA_lt ho)).mono ?_
     rintro e W3 ⟨rfl, h2, hm⟩
     replace hN := zH ((uH hN).mop (uH hP) hm)
     have hzz := hm.size
     replace hM := zH ((uH hM).trans hm)
     replace hP := zH h2
     clear hm h2
     obtain ⟨b1, hq_b1⟩ : ∃ x, W3.heap.size = x := ⟨_, rfl⟩
     have hB := zH (nblk_new W3 25 i none 0 0)
     have hm := mop_below (g := g) (below_alloc W3 (.cells #[.int .i64 25, .int .i64 i, .slice none 0 0] 24 (0, 0)))
     have h2 := (uH hP).below (below_alloc W3 (.cells #[.int .i64 25, .int .i64 i, .slice none 0 0] 24 (0, 0)))
     have hzs : (W3.alloc (.cells #[.int .i64 25, .int .i64 i, .slice none 0 0] 24 (0, 0))).heap.size = b1 + 1 := by simp [hq_b1]
     obtain ⟨W4, hq_W4⟩ : ∃ x, W3.alloc (.cells #[.int .i64 25, .int .i64 i, .slice none 0 0] 24 (0, 0)) = x := ⟨_, rfl⟩
     rw [hq_W4] at hB hm h2 hzs
     replace hzs := And.intro (Nat.le_of_eq hzs) (Nat.le_of_eq hzs.symm)
     rw [hq_b1] at hB
     replace hq_W4 := zH hq_W4
     replace hN := zH ((uH hN).mop (uH hP) hm)
     have hzz := hm.size
     replace hM := zH ((uH hM).trans hm)
     replace hP := zH h2
     clear hm h2
     go_wp2_with fail
     rw [uH hq_W4]
     clear hq_W4
     have hC := uH hH _ (uH hP)
     rw [hr] at hC
     refine (hC).mono ?_
     rintro e W5 ⟨a2, m2, c2, rfl, hs, h2, hm⟩
     have hzs := hm.size
     have hs2 := zH (hs.mono (P' := fun x => gb < x ∧ x < W5.heap.size ∧ x ≠ b1) (fun x hx => by have := (uH hN).lt; have := (uH hB).lt; have e1 := hx.1; have e2 := hx.lt; exact ⟨by omega, by omega, by omega⟩))
     clear hs
     replace hN := zH ((uH hN).mop (uH hP) hm)
     replace hB := zH ((uH hB).mop (uH hP) hm)
     have hzz := hm.size
     replace hM := zH ((uH hM).trans hm)
     replace hP := zH h2
     clear hm h2
     dsimp only at hs2
     obtain ⟨b3, hq_b3⟩ : ∃ x, W5.heap.size = x := ⟨_, rfl⟩
     have hzz : (W5.alloc (.cells #[.int .i64 nk, .int .i64 nt, .slice a2 m2 c2] 24 (0, 0))).heap.size = b3 + 1 := by simp [hq_b3]
     have hm := mop_below (g := g) (below_alloc W5 (.cells #[.int .i64 nk, .int .i64 nt, .slice a2 m2 c2] 24 (0, 0)))
     have h2 := (uH hP).below (below_alloc W5 (.cells #[.int .i64 nk, .int .i64 nt, .slice a2 m2 c2] 24 (0, 0)))
     have hs3 := lit1_sl (P := fun x => gb < x ∧ x < b3 + 1 ∧ x ≠ b1) W5 nk nt a2 m2 c2 nc ((uH hs2).mono (fun x hx => by have e1 := hx.1; have e2 := hx.lt; exact ⟨by omega, by omega, by omega⟩)) ⟨by omega, by omega, (by have := (uH hN).lt; have := (uH hB).lt; omega)⟩
     rw [hq_b3] at hs3
     obtain ⟨W6, hq_W6⟩ : ∃ x, W5.alloc (.cells #[.int .i64 nk, .int .i64 nt, .slice a2 m2 c2] 24 (0, 0)) = x := ⟨_, rfl⟩
     rw [hq_W6] at hs3 hm h2 hzz
     rw [← hzz] at hs3
     replace hzz := And.intro (Nat.le_of_eq hzz) (Nat.le_of_eq hzz.symm)
     replace hs3 := zH hs3
     replace hN := zH ((uH hN).mop (uH hP) hm)
     replace hB := zH ((uH hB).mop (uH hP) hm)
     have hzz := hm.size
     replace hM := zH ((uH hM).trans hm)
     replace hP := zH h2
     clear hm h2
     obtain ⟨p0_hB, p1_hB, p2_hB⟩ := (uH hB).box
     have f0_hB := (uH hB).frozen 0
     have f1_hB := (uH hB).frozen 1
     have f2_hB := (uH hB).frozen 2
     obtain ⟨h2, hM2, hB2, hh⟩ := kid_set (uH hP) (uH hM) (uH hB) (by omega) (some ⟨b3, 0, none⟩) 1 1
     have hzz : (W6.setCell ⟨b1, 2, none⟩ (.slice (some ⟨b3, 0, none⟩) 1 1)).heap.size = W6.heap.size := by simp
     obtain ⟨W7, hq_W7⟩ : ∃ x, W6.setCell ⟨b1, 2, none⟩ (.slice (some ⟨b3, 0, none⟩) 1 1) = x := ⟨_, rfl⟩
     rw [hq_W7] at h2 hM2 hB2 hh hzz
     replace hzz := And.intro (Nat.le_of_eq hzz) (Nat.le_of_eq hzz.symm)
     replace hN := zH ((uH hN).same (hh _ (by omega)))
     replace hs3 := zH ((uH hs3).keep (w' := W7) (fun x hx => hh x (by have e1 := hx.1; omega)))
     replace hB := zH hB2
     replace hM := zH hM2
     replace hP := zH h2
     clear hB2 hM2 h2 hh
     go_wp2_with fail
     clear hq_W6 hq_W7
     refine (paOp_any _ _).mono ?_
     rintro e W8 ⟨rfl, hb⟩
     have h2 := (uH hP).below hb
     have hm := mop_below (g := g) hb
     clear hb
     replace hN := zH ((uH hN).mop (uH hP) hm)
     replace hB := zH ((uH hB).mop (uH hP) hm)
     replace hs3 := zH ((uH hs3).mop (uH hP) hm)
     have hzz := hm.size
     replace hM := zH ((uH hM).trans hm)
     replace hP := zH h2
     clear hm h2
     go_wp2_with fail
     refine (paWant_yes (uH hP) (opT [41]) (by rw [eqB_op]; exact ho2) (opA_lt ho2)).mono ?_
     rintro e W9 ⟨rfl, h2, hm⟩
     replace hN := zH ((uH hN).mop (uH hP) hm)
     replace hB := zH ((uH hB).mop (uH hP) hm)
     replace hs3 := zH ((uH hs3).mop (uH hP) hm)
     have hzz := hm.size
     replace hM := zH ((uH hM).trans hm)
     replace hP := zH h2
     clear hm h2
     go_wp2_with fail
     refine (paLeave_any (uH hP) (by omega)).mono ?_
     rintro e W10 ⟨rfl, h2, hm⟩
     replace hN := zH ((uH hN).mop (uH hP) hm)
     replace hB := zH ((uH hB).mop (uH hP) hm)
     replace hs3 := zH ((uH hs3).mop (uH hP) hm)
     have hzz := hm.size
     replace hM := zH ((uH hM).trans hm)
     replace hP := zH h2
     clear hm h2
     obtain ⟨p0_hB, p1_hB, p2_hB⟩ := (uH hB).box
     have f0_hB := (uH hB).frozen 0
     have f1_hB := (uH hB).frozen 1
     have f2_hB := (uH hB).frozen 2
     obtain ⟨p0_hN, p1_hN, p2_hN⟩ := (uH hN).box
     have f0_hN := (uH hN).frozen 0
     have f1_hN := (uH hN).frozen 1
     have f2_hN := (uH hN).frozen 2
     have hF := zH (res_fin (k := 25) (t := i) (a := some ⟨b3, 0, none⟩) (m := 1) (c := 1) (f := .cons nk nt nc .nil) (B := gb) (w := w) (Nat.le_refl gb) (by omega) (uH hN) ((uH hs3).mono (fun x hx => by have e1 := hx.1; exact ⟨by omega, by omega⟩)) (uH hP) (uH hM))
     go_wp2
     obtain ⟨q1, q2, q3, q4⟩ := uH hF
     obtain ⟨u0, u1, u2⟩ := q1.box
     refine bodyPost_ret (v := .agg #[.int .i64 (25), .int .i64 (i), .slice (some ⟨b3, 0, none⟩) (1) (1)]) (by simp [results, Tryz.results164, go_sem, u0, u1, u2]) rfl ?_
     exact ⟨_, _, _, rfl, (by first | exact q2 | (rw [hgb]; exact q2)), q3, q4⟩
end Go.Proofs.YtiknnobgoamgcaaGreatDoor
/-
  A list of trees in a slice of one's own, with what is told of where they lie; one more.
-/
namespace Go.Proofs.YtiknnobgoamgcaaGreatDoor
open Go.RowKit Go.Lib Go.Sort
set_option linter.unusedSimpArgs false
set_option linter.unusedVariables false
/-- A slice of one's own holds this forest; its trees lie in P, elsewhere. -/
def RowP (P : Nat → Prop) (w : World) (B : Nat) (v : Value) (f : F) : Prop := ∃ xs, OwnN w B v xs ∧ Reads (fun g => P g ∧ v.ownBlock ≠ some g ∧ g < w.heap.size) w xs f
section
variable {P : Nat → Prop} {w w' : World} {B : Nat} {v : Value} {f : F}
theorem RowP.lt (h : RowP P w B v f) (g : Nat) (hg : v.ownBlock = some g) : B ≤ g ∧ g < w.heap.size := by
 obtain ⟨xs, h1, _⟩ := h
 exact World.ownsRow.lt h1 g hg
/-- The own row's block is one of nodes. -/
theorem RowP.tag (h : RowP P w B v f) (g : Nat) (hg : v.ownBlock = some g) : ∃ cur, w.heap[g]? = some (Obj.cells cur 24 (0, 0)) := by
 obtain ⟨xs, h1, _⟩ := h
 rcases h1.2 with ⟨rfl, _⟩ | ⟨g', cap, cur, rfl, h2, h3, h4⟩
 ·
  cases hg
 ·
  obtain rfl : g' = g := by simpa [Value.ownBlock] using hg
  exact ⟨cur, h3⟩
theorem RowP.keep (h : RowP P w B v f) (hs : w.heap.size ≤ w'.heap.size) (hk : ∀ (g : Nat) (cur : Array Value), w.heap[g]? = some (Obj.cells cur 24 (0, 0)) → w'.heap[g]? = w.heap[g]?) : RowP P w' B v f := by
 have ht := h.tag
 obtain ⟨xs, h1, h2⟩ := h
 refine ⟨xs, rowN_kept h1 (fun g hg => ?_), (h2.keep (w' := w') (fun g hg => ?_)).mono (fun g hg => ⟨hg.1.1, hg.1.2.1, Nat.lt_of_lt_of_le hg.1.2.2 hs⟩)⟩
 ·
  obtain ⟨cur, hc⟩ := ht g hg
  exact hk g cur hc
 ·
  obtain ⟨_, cur, hc⟩ := hg
  exact hk g cur hc
theorem rowP_nil (P : Nat → Prop) (w : World) (B : Nat) : RowP P w B (.slice none 0 0) .nil := ⟨[], ownN_nil _ _, trivial⟩
theorem RowP.sl (h : RowP P w B v f) (hB : ∀ g, B ≤ g → P g) : ∃ a cap, v = .slice a f.len cap ∧ SlQ P w a f.len cap f := by
 obtain ⟨xs, h1, h2⟩ := h
 obtain ⟨a, cap, e, hs, _⟩ := OwnN.sl (P := P) h1 (h2.mono (fun g hg => hg.1.1)) hB
 rw [h2.len] at e hs
 exact ⟨a, cap, e, hs⟩
theorem RowP.slO (h : RowP P w B v f) (hO : ∀ g, v.ownBlock = some g → P g) : ∃ a cap, v = .slice a f.len cap ∧ SlQ P w a f.len cap f := by
 obtain ⟨xs, h1, h2⟩ := h
 have hl := h2.len
 rcases h1.2 with ⟨rfl, hz⟩ | ⟨g, cap, cur, rfl, hb, hg, hnc, hcm, _⟩
 ·
  rw [hl] at hz
  exact ⟨none, 0, by rw [hz], hl ▸ rfl, ⟨by omega, fun _ => rfl⟩, Nat.zero_le _, fun h0 => by omega⟩
 ·
  rw [hl] at hnc ⊢
  refine ⟨_, cap, rfl, rfl, ⟨hnc, fun h => by cases h⟩, hcm, fun h0 => ⟨g, 0, rfl, ⟨hO g rfl, cur, hg⟩, nd_of_cells (h2.mono (fun x hx => hx.1.1)) fun j u hj => ?_⟩⟩
  have hj' : j < xs.length * 3 := by rw [← nvC_len]; exact (List.getElem?_eq_some_iff.1 hj).1
  rw [Nat.zero_add, World.ownsRow.cellAt h1 j hj', hj]
theorem RowP.keep2 (h : RowP P w B v f) (hs : w.heap.size ≤ w'.heap.size) (hv : ∀ g, v.ownBlock = some g → w'.heap[g]? = w.heap[g]?) (hk : ∀ g, P g → g < w.heap.size → w'.heap[g]? = w.heap[g]?) : RowP P w' B v f := by
 obtain ⟨xs, h1, h2⟩ := h
 exact ⟨xs, rowN_kept h1 hv, (h2.keep (w' := w') (fun g hg => hk g hg.1.1 hg.1.2.2)).mono (fun g hg => ⟨hg.1.1, hg.1.2.1, Nat.lt_of_lt_of_le hg.1.2.2 hs⟩)⟩
theorem RowP.mono {P' : Nat → Prop} (h : RowP P w B v f) (hp : ∀ g, P g → g < w.heap.size → P' g) : RowP P' w B v f := by
 obtain ⟨xs, h1, h2⟩ := h
 exact ⟨xs, h1, h2.mono (fun g hg => ⟨hp g hg.1.1 hg.1.2.2, hg.1.2⟩)⟩
theorem RowP.base {B' : Nat} (h : RowP P w B v f) (hB : ∀ g, v.ownBlock = some g → B' ≤ g) : RowP P w B' v f := by
 obtain ⟨xs, h1, h2⟩ := h
 refine ⟨xs, ⟨h1.1, ?_⟩, h2⟩
 rcases h1.2 with h | ⟨g, cap, cur, e, hb, hg, h3⟩
 ·
  exact .inl h
 ·
  exact .inr ⟨g, cap, cur, e, hB g (by rw [e]; rfl), hg, h3⟩
theorem rowP_one (hB : B ≤ w.heap.size) {k t : Int} {a : Option Addr} {n cap : Nat} {c : F} (h : SlQ P w a n cap c) :
  RowP P (w.alloc (.cells #[.int .i64 k, .int .i64 t, .slice a n cap] 24 (0, 0))) B (.slice (some ⟨w.heap.size, 0, none⟩) 1 1) (.cons k t c .nil) := by
 refine ⟨[⟨k, t, a, n, cap⟩], ⟨by simp [nvC, NV.cells], .inr ⟨w.heap.size, 1, #[.int .i64 k, .int .i64 t, .slice a n cap], rfl, hB, heap_alloc_new w _, Nat.le_refl _, by unfold maxLen; omega, rfl, rfl⟩⟩, rfl, rfl, ?_, trivial⟩
 exact ((h.mono (P' := fun g => P g ∧ g < w.heap.size) (fun g hg => ⟨hg.1, hg.lt⟩)).below (below_alloc _ _)).mono (fun g hg => ⟨hg.1.1, fun e => by
  have e : w.heap.size = g := by simpa [Value.ownBlock] using e
  have := hg.1.2; omega, hg.lt⟩)
theorem own_appendP (hR : RowP P w B v f) (ty : TypeId) {a : Option Addr} {n cap : Nat} {f' : F} (hM : SlQ (fun g => P g ∧ v.ownBlock ≠ some g ∧ g < w.heap.size) w a n cap f')
  (hl : f.len + n ≤ 3000000) (hB : B ≤ w.heap.size) :
  ∃ v' w', (Builtin.append_ #[22, 22] ty #[v, .slice a n cap]).run Tryz.prog w = .ok v' w' ∧ RowP P w' B v' (f.app f') ∧ Below B w w' ∧ w.grownBy w' v.ownBlock ∧ (v'.ownBlock = v.ownBlock ∨ v'.ownBlock = some w.heap.size) := by
 obtain ⟨xs, h1, h2⟩ := hR
 obtain ⟨ys, hr, hh⟩ := hM.holds
 obtain ⟨v', w', hrun, hown, hg, hlies⟩ := run_append_nodesL w B ty v xs h1 a n cap ys hh hM.nn (by rw [h2.len]; exact hl) hB
 have hlt := hg.size
 refine ⟨v', w', hrun, ⟨xs ++ ys, hown, ?_⟩, ?_, hg, hlies⟩
 ·
  have k1 := h2.app hr
  have k2 := k1.keep (w' := w') (keep_grown hg (fun g hv hh => hh.1.2.1 hv))
  refine k2.mono (fun g hx => ⟨hx.1.1, fun e => ?_, by have := hx.1.2.2; omega⟩)
  rcases hlies with hh | hh
  ·
   exact hx.1.2.1 (hh ▸ e)
  ·
   rw [hh] at e
   have := hx.1.2.2
   injection e with e
   omega
 ·
  exact (Below.refl B w).grown hg hB (fun g hv => (World.ownsRow.lt h1 g hv).1)
theorem oper_append_rowP {o : Oper} {act : Act} {K : Act → World → Prop} {Q : Exit → Act → World → Prop} (s x : Operand)
  (ho : o.op = .call { callee := .builtin .append, args := #[s, x], argTypes := #[22, 22] })
  (hs : act.eval s = v) (hR : RowP P w B v f) {a : Option Addr} {n cap : Nat} {f' : F} (hx : act.eval x = .slice a n cap)
  (hM : SlQ (fun g => P g ∧ v.ownBlock ≠ some g ∧ g < w.heap.size) w a n cap f') (hl : f.len + n ≤ 3000000) (hB : B ≤ w.heap.size)
  (h : ∀ v' w', RowP P w' B v' (f.app f') → Below B w w' → w.grownBy w' v.ownBlock → (v'.ownBlock = v.ownBlock ∨ v'.ownBlock = some w.heap.size) → K (act.put o.dst v') w') : o.wp Tryz.prog act w K Q := by
 obtain ⟨v', w', hr, h2, h3, h4, h5⟩ := own_appendP hR o.type hM hl hB
 unfold Oper.wp execOp
 simp only [ho, resolve, invoke, builtin, Sem.run_bind, Sem.run_pure, Result.andThen_ok, List.map_toArray, List.map_cons, List.map_nil, hs, hx, hr]
 exact h v' w' h2 h3 h4 h5
theorem wpList_append_rowP {ops : Array Oper} {rest : List Oper} {o : Oper} {act : Act} {Q : Exit → Act → World → Prop} (hgd : o.guard = none) (s x : Operand)
  (ho : o.op = .call { callee := .builtin .append, args := #[s, x], argTypes := #[22, 22] })
  (hs : act.eval s = v) (hR : RowP P w B v f) {a : Option Addr} {n cap : Nat} {f' : F} (hx : act.eval x = .slice a n cap)
  (hM : SlQ (fun g => P g ∧ v.ownBlock ≠ some g ∧ g < w.heap.size) w a n cap f') (hl : f.len + n ≤ 3000000) (hB : B ≤ w.heap.size)
  (h : ∀ v' w', RowP P w' B v' (f.app f') → Below B w w' → w.grownBy w' v.ownBlock → (v'.ownBlock = v.ownBlock ∨ v'.ownBlock = some w.heap.size) → wpList Tryz.prog ops Q rest (act.put o.dst v') w') : wpList Tryz.prog ops Q (o :: rest) act w :=
 wpList_plain hgd fun K hK => oper_append_rowP s x ho hs hR hx hM hl hB (fun v' w' h1 h2 h3 h4 => hK _ _ (h v' w' h1 h2 h3 h4))
end
end Go.Proofs.YtiknnobgoamgcaaGreatDoor
/-
  The parser: a list of expressions.
-/
namespace Go.Proofs.YtiknnobgoamgcaaGreatDoor
open Go.RowKit Go.Lib Go.Sort
set_option linter.unusedSimpArgs false
set_option linter.unusedVariables false
theorem F.len_app : ∀ f h : F, (f.app h).len = f.len + h.len
 | .nil, h => by simp [F.app, F.len]
 | .cons k t c r, h => by simp only [F.app, F.len, F.len_app r h]; omega
theorem RowP.mop {P : Nat → Prop} {g : Nat} {tv : Value} {L : List Tk} {i d B : Nat} {w w' : World} {v : Value} {f : F} (hs : RowP P w B v f) (h : PaW g tv L i d w) (hm : MoP g w w') : RowP P w' B v f :=
 hs.keep hm.size (fun x cur hx => hm.block x (Array.getElem?_eq_some_iff.1 hx).1 (fun e => by
  subst e
  rw [h.st] at hx
  simp only [Option.some.injEq, Obj.cells.injEq] at hx
  exact absurd hx.2.1 (by decide)))
/-- What is written from the function's own blocks on leaves the parser. -/
theorem PaW.belowB {g : Nat} {tv : Value} {L : List Tk} {i d j d' : Nat} {w W W' : World} (h : PaW g tv L j d' W) (h0 : PaW g tv L i d w) (hb : Below w.heap.size W W') : PaW g tv L j d' W' := by
 refine ⟨(hb.block g h0.lt).trans h.st, ?_, h.ln, h.ne⟩
 rcases Nat.eq_zero_or_pos L.length with hl | hl
 ·
  obtain ⟨a0, c0, e0, h2, h3, _⟩ := h.tk
  exact ⟨a0, c0, e0, h2, h3, fun h1 => by omega⟩
 ·
  exact toks_keep h.tk hb.size (fun x hx => hb.block x (toks_lt h0.tk hl x hx))
theorem mop_belowB {g : Nat} {tv : Value} {L : List Tk} {i d : Nat} {w W W' : World} (h0 : PaW g tv L i d w) (hb : Below w.heap.size W W') (hz : w.heap.size ≤ W.heap.size) : MoP g w W → MoP g w W' := fun hM =>
 ⟨hb.os.trans hM.os, hb.tape.trans hM.tape, hb.output.trans hM.output, Nat.le_trans hM.size hb.size, fun x hx hc => (hb.block x hx).trans (hM.block x hx hc), fun _ h => .inl h⟩
theorem RowP.below {P : Nat → Prop} {B : Nat} {w w' : World} {v : Value} {f : F} (hs : RowP P w B v f) (hb : Below w.heap.size w w') : RowP P w' B v f :=
 hs.keep hb.size (fun x cur hx => hb.block x (Array.getElem?_eq_some_iff.1 hx).1)
set_option maxHeartbeats 4000000 in
set_option maxRecDepth 100000 in
theorem paList_step {g : Nat} {tv : Value} {L : List Tk} {i d : Nat} {w : World} (h : PaW g tv L i d w) {f : Nat} (HA : ∀ f', f' ≤ f → ExA g tv L f') (hd : d ≤ 40) (hf : f ≤ 1000000) (hne : lstA L (f + 1) i d ≠ .out) : Calls Tryz.prog 110 #[.pointer (some ⟨g, 0, none⟩), .func (.func 105) #[.pointer (some ⟨g, 0, none⟩)] #[]] w fun e w' => ResF w.heap.size g tv L d w (lstA L (f + 1) i d) e w' := by
 have HH := zH HA
 have h0 := zH h
 clear HA
 unfold lstA at hne ⊢
 cases ho : opA L i [41] with
 | true =>
  simp only [ho, if_true] at hne ⊢
  have hP := zH h
  have hM := zH (Moves.refl (fun x => x = g) w)
  go_enter Tryz.func110, Tryz.ntmps110
  go_wp2_with fail
  refine (paOp_any _ _).mono ?_
  rintro e W2 ⟨rfl, hb⟩
  have h2 := (uH hP).below hb
  have hm := mop_below (g := g) hb
  clear hb
  have hzz := hm.size
  replace hM := zH ((uH hM).trans hm)
  replace hP := zH h2
  clear hm h2
  go_wp2_with fail
  refine (paTake_yes (uH hP) (opT [41]) (by rw [eqB_op]; exact ho) (opA_lt ho)).mono ?_
  rintro e W3 ⟨rfl, h2, hm⟩
  have hzz := hm.size
  replace hM := zH ((uH hM).trans hm)
  replace hP := zH h2
  clear hm h2
  go_wp2
  go_ret
  exact ⟨none, 0, rfl, sl_nil _ none 0 (Nat.zero_le _) (fun _ => rfl), uH hP, uH hM⟩
 | false =>
  simp only [ho, Bool.false_eq_true, if_false] at hne ⊢
  have hne1 : absA L f 0 i d ≠ .out := fun e => hne (by rw [e]; rfl)
  have hH := zH (fun w h => paExpr_any (w := w) (i := i) (d := d) h (uH HH f (Nat.le_refl _)) hd hne1)
  cases hr : absA L f 0 i d with
  | out => exact absurd hr hne1
  | bad j =>
   simp only [PR.bind]
   have hP := zH h
   have hM := zH (Moves.refl (fun x => x = g) w)
   go_enter Tryz.func110, Tryz.ntmps110
   go_wp2_with fail
   refine (paOp_any _ _).mono ?_
   rintro e W2 ⟨rfl, hb⟩
   have h2 := (uH hP).below hb
   have hm := mop_below (g := g) hb
   clear hb
   have hzz := hm.size
   replace hM := zH ((uH hM).trans hm)
   replace hP := zH h2
   clear hm h2
   go_wp2_with fail
   refine (paTake_no (uH hP) (opT [41]) (by rw [eqB_op]; exact ho)).mono ?_
   rintro e W3 ⟨rfl, h2, hm⟩
   have hzz := hm.size
   replace hM := zH ((uH hM).trans hm)
   replace hP := zH h2
   clear hm h2
   go_wp2_with fail
   have hC := uH hH _ (uH hP)
   rw [hr] at hC
   refine (hC).mono ?_
   rintro e W4 hBad
   obtain rfl := hBad.1
   have hG := zH (hBad.pre (uH hM))
   clear hBad
   go_wp2
   exact ⟨rfl, uH hG⟩
  | ok n j0 =>
   obtain ⟨nk, nt, nc⟩ := n
   rw [hr] at hne
   simp only [PR.bind, one] at hne ⊢
   obtain ⟨R, hR⟩ : ∃ R, llsA L f (.cons nk nt nc .nil) j0 d = R := ⟨_, rfl⟩
   rw [hR] at hne ⊢
   have hP := zH h
   have hM := zH (Moves.refl (fun x => x = g) w)
   go_enter Tryz.func110, Tryz.ntmps110
   go_wp2_with fail
   refine (paOp_any _ _).mono ?_
   rintro e W2 ⟨rfl, hb⟩
   have h2 := (uH hP).below hb
   have hm := mop_below (g := g) hb
   clear hb
   have hzz := hm.size
   replace hM := zH ((uH hM).trans hm)
   replace hP := zH h2
   clear hm h2
   go_wp2_with fail
   refine (paTake_no (uH hP) (opT [41]) (by rw [eqB_op]; exact ho)).mono ?_
   rintro e W3 ⟨rfl, h2, hm⟩
   have hzz := hm.size
   replace hM := zH ((uH hM).trans hm)
   replace hP := zH h2
   clear hm h2
   go_wp2_with fail
   have hC := uH hH _ (uH hP)
   rw [hr] at hC
   refine (hC).mono ?_
   rintro e W9 ⟨a2, m2, c2, rfl, hs, h2, hm⟩
   dsimp only at hs
   replace hM := (uH hM).trans hm
   have hwl := hM.size
   have hsB : SlQ (fun x => w.heap.size ≤ x) W9 a2 m2 c2 nc := hs.mono (fun x hx => by have e1 := hx.1; omega)
   have hR0 := zH (rowP_one (B := w.heap.size) (k := nk) (t := nt) hwl hsB)
   have hP2 := zH (h2.below (below_alloc W9 (.cells #[.int .i64 nk, .int .i64 nt, .slice a2 m2 c2] 24 (0, 0))))
   have hM2 := zH (hM.trans (mop_below (g := g) (below_alloc W9 (.cells #[.int .i64 nk, .int .i64 nt, .slice a2 m2 c2] 24 (0, 0)))))
   clear hm h2 hC hs hsB hM hP
   obtain ⟨gl, hgl⟩ : ∃ x, W9.heap.size = x := ⟨_, rfl⟩
   obtain ⟨WA, hq_WA⟩ : ∃ x, W9.alloc (.cells #[.int .i64 nk, .int .i64 nt, .slice a2 m2 c2] 24 (0, 0)) = x := ⟨_, rfl⟩
   rw [hq_WA] at hR0 hP2 hM2
   rw [hgl] at hR0
   go_upto_region 4 with fail
   clear hq_WA
   go_loopg [5] f (fun gf s5 wx => ∃ (v5 : Value) (l : F) (j : Nat), v5 = s5 ∧ RowP (fun x => w.heap.size ≤ x) wx w.heap.size s5 l ∧ PaW g tv L j d wx ∧ MoP g w wx ∧ llsA L gf l j d = R ∧ l.len + gf ≤ f + 1 ∧ gf ≤ f)
   case atStart => exact ⟨_, _, _, rfl, uH hR0, uH hP2, uH hM2, hR, by simp only [F.len]; omega, Nat.le_refl _⟩
   case round =>
    obtain ⟨v5, l, j, rfl, hRw, hP, hM, hE, hlf, hgf⟩ := hrel
    cases gk with
    | zero =>
     unfold llsA at hE
     exact absurd hE.symm hne
    | succ g' =>
     unfold llsA at hE
     replace hRw := zH hRw
     replace hP := zH hP
     replace hM := zH hM
     clear hR hR0 hP2 hM2
     cases ho : opA L j [44] with
     | true =>
      simp only [ho, if_true] at hE
      have hne1 : absA L g' 0 (j + 1) d ≠ .out := fun e => hne (by rw [← hE, e]; rfl)
      have hH := zH (fun w h => paExpr_any (w := w) (i := j + 1) (d := d) h (uH HH g' (by omega)) hd hne1)
      cases hr : absA L g' 0 (j + 1) d with
      | out => exact absurd hr hne1
      | bad j2 =>
       rw [hr] at hE
       simp only [PR.bind] at hE
       subst hE
       go_wp2_with fail
       refine (paOp_any _ _).mono ?_
       rintro e W20 ⟨rfl, hb⟩
       have h2 := (uH hP).below hb
       have hm := mop_below (g := g) hb
       clear hb
       replace hRw := zH ((uH hRw).mop (uH hP) hm)
       have hzz := hm.size
       replace hM := zH ((uH hM).trans hm)
       replace hP := zH h2
       clear hm h2
       go_wp2_with fail
       refine (paTake_yes (uH hP) (opT [44]) (by rw [eqB_op]; exact ho) (opA_lt ho)).mono ?_
       rintro e W21 ⟨rfl, h2, hm⟩
       replace hRw := zH ((uH hRw).mop (uH hP) hm)
       have hzz := hm.size
       replace hM := zH ((uH hM).trans hm)
       replace hP := zH h2
       clear hm h2
       go_wp2_with fail
       have hC := uH hH _ (uH hP)
       rw [hr] at hC
       refine (hC).mono ?_
       rintro e W22 hBad
       obtain rfl := hBad.1
       have hG := zH (hBad.pre (uH hM))
       clear hBad
       go_wp2
       exact ⟨rfl, uH hG⟩
      | ok n j2 =>
       obtain ⟨nk, nt, nc⟩ := n
       rw [hr] at hE
       simp only [PR.bind, snoc, one] at hE
       go_wp2_with fail
       refine (paOp_any _ _).mono ?_
       rintro e W20 ⟨rfl, hb⟩
       have h2 := (uH hP).below hb
       have hm := mop_below (g := g) hb
       clear hb
       replace hRw := zH ((uH hRw).mop (uH hP) hm)
       have hzz := hm.size
       replace hM := zH ((uH hM).trans hm)
       replace hP := zH h2
       clear hm h2
       go_wp2_with fail
       refine (paTake_yes (uH hP) (opT [44]) (by rw [eqB_op]; exact ho) (opA_lt ho)).mono ?_
       rintro e W21 ⟨rfl, h2, hm⟩
       replace hRw := zH ((uH hRw).mop (uH hP) hm)
       have hzz := hm.size
       replace hM := zH ((uH hM).trans hm)
       replace hP := zH h2
       clear hm h2
       go_wp2_with fail
       have hC := uH hH _ (uH hP)
       rw [hr] at hC
       refine hC.mono ?_
       rintro e W30 ⟨a2, m2, c2, rfl, hs, h2, hm⟩
       dsimp only at hs
       have hRl := (uH hRw).lt
       have hRw2 := (uH hRw).mop (uH hP) hm
       have hwl := (uH hM).size
       replace hM := (uH hM).trans hm
       have hzs := hm.size
       have hz31 := hM.size
       have hs2 : SlQ (fun x => w.heap.size ≤ x) W30 a2 m2 c2 nc := hs.mono (fun x hx => by have e1 := hx.1; omega)
       have hL1 := lit1_sl (P := fun x => w.heap.size ≤ x) W30 nk nt a2 m2 c2 nc hs2 hz31
       have hL2 : SlQ (fun x => w.heap.size ≤ x ∧ v5.ownBlock ≠ some x ∧ x < (W30.alloc (.cells #[.int .i64 nk, .int .i64 nt, .slice a2 m2 c2] 24 (0, 0))).heap.size) (W30.alloc (.cells #[.int .i64 nk, .int .i64 nt, .slice a2 m2 c2] 24 (0, 0))) (some ⟨W30.heap.size, 0, none⟩) 1 1 (.cons nk nt nc .nil) :=
        (lit1_sl (P := fun x => w.heap.size ≤ x ∧ v5.ownBlock ≠ some x) W30 nk nt a2 m2 c2 nc (hs.mono (fun x hx => ⟨by have e1 := hx.1; omega, fun e => by have := hRl x e; have e1 := hx.1; omega⟩)) ⟨hz31, fun e => by have := hRl _ e; omega⟩).mono (fun x hx => ⟨hx.1.1, hx.1.2, hx.lt⟩)
       have hRw3 := hRw2.below (below_alloc W30 (.cells #[.int .i64 nk, .int .i64 nt, .slice a2 m2 c2] 24 (0, 0)))
       have hP3 := zH (h2.below (below_alloc W30 (.cells #[.int .i64 nk, .int .i64 nt, .slice a2 m2 c2] 24 (0, 0))))
       have hM3 := zH (hM.trans (mop_below (g := g) (below_alloc W30 (.cells #[.int .i64 nk, .int .i64 nt, .slice a2 m2 c2] 24 (0, 0)))))
       have hz32 : w.heap.size ≤ (W30.alloc (.cells #[.int .i64 nk, .int .i64 nt, .slice a2 m2 c2] 24 (0, 0))).heap.size := by simp; omega
       clear hL1 hs2 hs h2 hm hM hRw hRw2 hP
       obtain ⟨gl2, hgl2⟩ : ∃ x, W30.heap.size = x := ⟨_, rfl⟩
       obtain ⟨WA, hq_WA⟩ : ∃ x, W30.alloc (.cells #[.int .i64 nk, .int .i64 nt, .slice a2 m2 c2] 24 (0, 0)) = x := ⟨_, rfl⟩
       rw [hq_WA] at hL2 hRw3 hP3 hM3 hz32
       rw [hgl2] at hL2
       replace hL2 := zH hL2
       replace hRw3 := zH hRw3
       have hE' := zH hE
       clear hE
       go_wp2_with (at_builtin; refine wpList_append_rowP rfl (.tmp 15) (.tmp 18) rfl rfl (uH hRw3) rfl (uH hL2) (by omega) hz32 ?_)
       intro v4 W40 hR4 hb4 hg4 hl4
       have hP4 := zH ((uH hP3).belowB (uH h0) hb4)
       have hM4 := zH (mop_belowB (uH h0) hb4 hz32 (uH hM3))
       clear hb4 hg4 hl4 hL2 hRw3 hP3 hM3 hq_WA hgl2
       go_wp2
       go_roundg g'
       case measure => omega
       case rel => exact ⟨_, _, _, rfl, hR4, uH hP4, uH hM4, uH hE', by rw [F.len_app]; simp only [F.len]; omega, by omega⟩
     | false =>
      simp only [ho, Bool.false_eq_true, if_false, wantA] at hE
      cases ho2 : opA L j [41] with
      | false =>
       simp only [ho2, Bool.false_eq_true, if_false] at hE
       subst hE
       go_wp2_with fail
       refine (paOp_any _ _).mono ?_
       rintro e W20 ⟨rfl, hb⟩
       have h2 := (uH hP).below hb
       have hm := mop_below (g := g) hb
       clear hb
       replace hRw := zH ((uH hRw).mop (uH hP) hm)
       have hzz := hm.size
       replace hM := zH ((uH hM).trans hm)
       replace hP := zH h2
       clear hm h2
       go_wp2_with fail
       refine (paTake_no (uH hP) (opT [44]) (by rw [eqB_op]; exact ho)).mono ?_
       rintro e W21 ⟨rfl, h2, hm⟩
       replace hRw := zH ((uH hRw).mop (uH hP) hm)
       have hzz := hm.size
       replace hM := zH ((uH hM).trans hm)
       replace hP := zH h2
       clear hm h2
       go_wp2_with fail
       refine (paOp_any _ _).mono ?_
       rintro e W22 ⟨rfl, hb⟩
       have h2 := (uH hP).below hb
       have hm := mop_below (g := g) hb
       clear hb
       replace hRw := zH ((uH hRw).mop (uH hP) hm)
       have hzz := hm.size
       replace hM := zH ((uH hM).trans hm)
       replace hP := zH h2
       clear hm h2
       go_wp2_with fail
       refine (paWant_no (uH hP) (opT [41]) (by rw [eqB_op]; exact ho2)).mono ?_
       rintro e W23 hBad
       obtain rfl := hBad.1
       have hG := zH (hBad.pre (uH hM))
       clear hBad
       go_wp2
       exact ⟨rfl, uH hG⟩
      | true =>
       simp only [ho2, if_true] at hE
       subst hE
       go_wp2_with fail
       refine (paOp_any _ _).mono ?_
       rintro e W20 ⟨rfl, hb⟩
       have h2 := (uH hP).below hb
       have hm := mop_below (g := g) hb
       clear hb
       replace hRw := zH ((uH hRw).mop (uH hP) hm)
       have hzz := hm.size
       replace hM := zH ((uH hM).trans hm)
       replace hP := zH h2
       clear hm h2
       go_wp2_with fail
       refine (paTake_no (uH hP) (opT [44]) (by rw [eqB_op]; exact ho)).mono ?_
       rintro e W21 ⟨rfl, h2, hm⟩
       replace hRw := zH ((uH hRw).mop (uH hP) hm)
       have hzz := hm.size
       replace hM := zH ((uH hM).trans hm)
       replace hP := zH h2
       clear hm h2
       go_wp2_with fail
       refine (paOp_any _ _).mono ?_
       rintro e W22 ⟨rfl, hb⟩
       have h2 := (uH hP).below hb
       have hm := mop_below (g := g) hb
       clear hb
       replace hRw := zH ((uH hRw).mop (uH hP) hm)
       have hzz := hm.size
       replace hM := zH ((uH hM).trans hm)
       replace hP := zH h2
       clear hm h2
       go_wp2_with fail
       refine (paWant_yes (uH hP) (opT [41]) (by rw [eqB_op]; exact ho2) (opA_lt ho2)).mono ?_
       rintro e W23 ⟨rfl, h2, hm⟩
       replace hRw := zH ((uH hRw).mop (uH hP) hm)
       have hzz := hm.size
       replace hM := zH ((uH hM).trans hm)
       replace hP := zH h2
       clear hm h2
       obtain ⟨av, cv, rfl, hsl⟩ := (uH hRw).sl (fun _ h => h)
       replace hsl := zH hsl
       clear hRw
       go_wp2
       go_ret
       exact ⟨av, cv, rfl, uH hsl, uH hP, uH hM⟩
end Go.Proofs.YtiknnobgoamgcaaGreatDoor

/-
  2 texts in one.
-/
import Derived.Test.YtiknnobgoamgcaaGreatDoorB11
/-
  The parser: a var. A name and its type once more, with its kids told to be a row of its own.
-/
namespace Go.Proofs.YtiknnobgoamgcaaGreatDoor
open Go.RowKit Go.Lib Go.Sort
set_option linter.unusedSimpArgs false
set_option linter.unusedVariables false
set_option maxHeartbeats 4000000 in
set_option maxRecDepth 100000 in
theorem paTyped_row {g : Nat} {tv : Value} {L : List Tk} {i d : Nat} {w : World} (h : PaW g tv L i d w) (kind : Int) : Calls Tryz.prog 103 #[.pointer (some ⟨g, 0, none⟩), .int .i64 kind] w fun e w' => ResR w.heap.size g tv L d w (typedA L kind i) e w' := by
 have hx := paTyped_any h kind
 cases hr : typedA L kind i with
 | out => rw [hr] at hx; exact hx.mono (fun _ _ hq => False.elim hq)
 | bad j => rw [hr] at hx; exact hx
 | ok n j =>
  clear hx
  unfold typedA leafA at hr
  cases h1 : knd L i 1 with
  | false => simp [h1, PR.bind] at hr
  | true =>
   cases h3 : typA L (i + 1) with
   | out => simp [h1, h3, PR.bind] at hr
   | bad j => simp [h1, h3, PR.bind] at hr
   | ok n j =>
    simp only [h1, h3, PR.bind, if_true] at hr
    injection hr with e1 e2
    subst e1 e2
    dsimp only [one]
    have hP := zH (h.alloc (.cells #[.int .i64 0, .int .i64 0, .slice none 0 0] 24 (0, 0))).1
    have hM := zH (h.alloc (.cells #[.int .i64 0, .int .i64 0, .slice none 0 0] 24 (0, 0))).2
    have hN := zH (nblk_new w 0 0 none 0 0)
    obtain ⟨gb, hgb⟩ : ∃ gb, w.heap.size = gb := ⟨_, rfl⟩
    have hz : (w.alloc (.cells #[.int .i64 0, .int .i64 0, .slice none 0 0] 24 (0, 0))).heap.size = gb + 1 := by simp [hgb]
    have hgl : g < gb := by have := h.lt; omega
    rw [hgb] at hN
    obtain ⟨W1, hq_W1⟩ : ∃ W1, w.alloc (.cells #[.int .i64 0, .int .i64 0, .slice none 0 0] 24 (0, 0)) = W1 := ⟨_, rfl⟩
    rw [hq_W1] at hP hM hN hz
    replace hz := And.intro (Nat.le_of_eq hz) (Nat.le_of_eq hz.symm)
    replace h := zH h
    go_enter Tryz.func103, Tryz.ntmps103
    go_wp2_with fail
    clear hq_W1
    refine (paNamed_yes (uH hP) kind h1).mono ?_
    rintro e W2 ⟨a1, m1, c1, rfl, hs, h2, hm⟩
    have hzs := hm.size
    have hs1 := zH (hs.mono (P' := fun x => gb < x ∧ x < W2.heap.size) (fun x hx => by have := (uH hN).lt; have e1 := hx.1; have e2 := hx.lt; exact ⟨by omega, by omega⟩))
    clear hs
    replace hN := zH ((uH hN).mop (uH hP) hm)
    have hzz := hm.size
    replace hM := zH ((uH hM).trans hm)
    replace hP := zH h2
    clear hm h2
    dsimp only at hs1 ⊢
    obtain rfl := sl_empty (uH hs1)
    obtain ⟨b1, hq_b1⟩ : ∃ x, W2.heap.size = x := ⟨_, rfl⟩
    have hB := zH (nblk_new W2 kind i a1 0 c1)
    have hm := mop_below (g := g) (below_alloc W2 (.cells #[.int .i64 kind, .int .i64 i, .slice a1 0 c1] 24 (0, 0)))
    have h2 := (uH hP).below (below_alloc W2 (.cells #[.int .i64 kind, .int .i64 i, .slice a1 0 c1] 24 (0, 0)))
    have hzs : (W2.alloc (.cells #[.int .i64 kind, .int .i64 i, .slice a1 0 c1] 24 (0, 0))).heap.size = b1 + 1 := by simp [hq_b1]
    obtain ⟨W3, hq_W3⟩ : ∃ x, W2.alloc (.cells #[.int .i64 kind, .int .i64 i, .slice a1 0 c1] 24 (0, 0)) = x := ⟨_, rfl⟩
    rw [hq_W3] at hB hm h2 hzs
    replace hzs := And.intro (Nat.le_of_eq hzs) (Nat.le_of_eq hzs.symm)
    rw [hq_b1] at hB
    replace hq_W3 := zH hq_W3
    replace hN := zH ((uH hN).mop (uH hP) hm)
    replace hs1 := zH ((uH hs1).mop (uH hP) hm)
    have hzz := hm.size
    replace hM := zH ((uH hM).trans hm)
    replace hP := zH h2
    clear hm h2
    go_wp2_with fail
    rw [uH hq_W3]
    clear hq_W3
    have hC := paTypeName_any (uH hP)
    rw [h3] at hC
    refine (hC).mono ?_
    rintro e W4 ⟨a2, m2, c2, rfl, hs, h2, hm⟩
    have hzs := hm.size
    have hs2 := zH (hs.mono (P' := fun x => gb < x ∧ x < W4.heap.size ∧ x ≠ b1) (fun x hx => by have := (uH hN).lt; have := (uH hB).lt; have e1 := hx.1; have e2 := hx.lt; exact ⟨by omega, by omega, by omega⟩))
    clear hs
    replace hN := zH ((uH hN).mop (uH hP) hm)
    replace hB := zH ((uH hB).mop (uH hP) hm)
    replace hs1 := zH ((uH hs1).mop (uH hP) hm)
    have hzz := hm.size
    replace hM := zH ((uH hM).trans hm)
    replace hP := zH h2
    clear hm h2
    obtain ⟨nk, nt, nc⟩ := n
    dsimp only at hs2 ⊢
    have hRf : Hid (∀ b W', W4.heap.size = b → W4.alloc (.cells #[.int .i64 nk, .int .i64 nt, .slice a2 m2 c2] 24 (0, 0)) = W' → RowP (fun x => gb < x ∧ x ≠ b1) W' (gb + 1) (.slice (some ⟨b, 0, none⟩) 1 1) (.cons nk nt nc .nil)) := zH (fun b W' hb hW => by
     subst hb hW
     exact rowP_one (by omega) ((uH hs2).mono (fun x hx => by have e1 := hx.1; exact ⟨by omega, by omega⟩)))
    have hbl := (uH hB).lt
    obtain ⟨b3, hq_b3⟩ : ∃ x, W4.heap.size = x := ⟨_, rfl⟩
    have hzz : (W4.alloc (.cells #[.int .i64 nk, .int .i64 nt, .slice a2 m2 c2] 24 (0, 0))).heap.size = b3 + 1 := by simp [hq_b3]
    have hm := mop_below (g := g) (below_alloc W4 (.cells #[.int .i64 nk, .int .i64 nt, .slice a2 m2 c2] 24 (0, 0)))
    have h2 := (uH hP).below (below_alloc W4 (.cells #[.int .i64 nk, .int .i64 nt, .slice a2 m2 c2] 24 (0, 0)))
    have hs3 := lit1_sl (P := fun x => gb < x ∧ x < b3 + 1 ∧ x ≠ b1) W4 nk nt a2 m2 c2 nc ((uH hs2).mono (fun x hx => by have e1 := hx.1; have e2 := hx.lt; exact ⟨by omega, by omega, by omega⟩)) ⟨by omega, by omega, (by have := (uH hN).lt; have := (uH hB).lt; omega)⟩
    rw [hq_b3] at hs3
    obtain ⟨W5, hq_W5⟩ : ∃ x, W4.alloc (.cells #[.int .i64 nk, .int .i64 nt, .slice a2 m2 c2] 24 (0, 0)) = x := ⟨_, rfl⟩
    rw [hq_W5] at hs3 hm h2 hzz
    rw [← hzz] at hs3
    replace hzz := And.intro (Nat.le_of_eq hzz) (Nat.le_of_eq hzz.symm)
    replace hs3 := zH hs3
    replace hN := zH ((uH hN).mop (uH hP) hm)
    replace hB := zH ((uH hB).mop (uH hP) hm)
    replace hs1 := zH ((uH hs1).mop (uH hP) hm)
    have hzz := hm.size
    replace hM := zH ((uH hM).trans hm)
    replace hP := zH h2
    clear hm h2
    have hR := zH (uH hRf b3 W5 hq_b3 hq_W5)
    have hRo : Hid (∀ y, (Value.slice (some ⟨b3, 0, none⟩) 1 1).ownBlock = some y → y ≠ b1) := zH (fun y hy => by
     have e : b3 = y := by simpa [Value.ownBlock] using hy
     omega)
    clear hRf
    obtain ⟨p0_hB, p1_hB, p2_hB⟩ := (uH hB).box
    have f0_hB := (uH hB).frozen 0
    have f1_hB := (uH hB).frozen 1
    have f2_hB := (uH hB).frozen 2
    obtain ⟨h2, hM2, hB2, hh⟩ := kid_set (uH hP) (uH hM) (uH hB) (by omega) (some ⟨b3, 0, none⟩) 1 1
    have hzz : (W5.setCell ⟨b1, 2, none⟩ (.slice (some ⟨b3, 0, none⟩) 1 1)).heap.size = W5.heap.size := by simp
    obtain ⟨W6, hq_W6⟩ : ∃ x, W5.setCell ⟨b1, 2, none⟩ (.slice (some ⟨b3, 0, none⟩) 1 1) = x := ⟨_, rfl⟩
    rw [hq_W6] at h2 hM2 hB2 hh hzz
    replace hzz := And.intro (Nat.le_of_eq hzz) (Nat.le_of_eq hzz.symm)
    replace hR := zH ((uH hR).keep2 (w' := W6) (by omega) (fun y hy => hh y (uH hRo y hy)) (fun y hy _ => hh y hy.2))
    replace hN := zH ((uH hN).same (hh _ (by omega)))
    replace hs1 := zH ((uH hs1).keep (w' := W6) (fun x hx => hh x (by have e1 := hx.1; omega)))
    replace hs3 := zH ((uH hs3).keep (w' := W6) (fun x hx => hh x (by have e1 := hx.1; omega)))
    replace hB := zH hB2
    replace hM := zH hM2
    replace hP := zH h2
    clear hB2 hM2 h2 hh
    obtain ⟨p0_hB, p1_hB, p2_hB⟩ := (uH hB).box
    have f0_hB := (uH hB).frozen 0
    have f1_hB := (uH hB).frozen 1
    have f2_hB := (uH hB).frozen 2
    obtain ⟨p0_hN, p1_hN, p2_hN⟩ := (uH hN).box
    have f0_hN := (uH hN).frozen 0
    have f1_hN := (uH hN).frozen 1
    have f2_hN := (uH hN).frozen 2
    have hF := zH (res_finR (k := kind) (t := i) (w := w) (gb := gb) (by omega) (uH hN) (uH hR) (fun x hx => hx.1) (uH hP) (uH hM))
    go_wp2
    obtain ⟨q1, q2, q3, q4⟩ := uH hF
    obtain ⟨u0, u1, u2⟩ := q1.box
    refine bodyPost_ret (v := .agg #[.int .i64 (kind), .int .i64 (i), .slice (some ⟨b3, 0, none⟩) (1) (1)]) (by simp [results, Tryz.results103, go_sem, u0, u1, u2]) rfl ?_
    exact ⟨_, _, _, rfl, (by first | exact q2 | (rw [hgb]; exact q2) | exact (q2.mono (fun y hy _ => by omega)).base (fun y hy => by have := q2.lt y hy; omega)), q3, q4⟩
theorem typedA_shape {L : List Tk} {kind : Int} {i j : Nat} {n : Nd} (hr : typedA L kind i = .ok n j) : n.k = kind ∧ n.c.len = 1 := by
 unfold typedA leafA at hr
 cases h1 : knd L i 1 with
 | false => simp [h1, PR.bind] at hr
 | true =>
  cases h3 : typA L (i + 1) with
  | out => simp [h1, h3, PR.bind] at hr
  | bad j => simp [h1, h3, PR.bind] at hr
  | ok n j =>
   simp only [h1, h3, PR.bind, if_true] at hr
   injection hr with e1 e2
   subst e1 e2
   exact ⟨rfl, rfl⟩
set_option maxHeartbeats 4000000 in
set_option maxRecDepth 100000 in
theorem paVariable_any {g : Nat} {tv : Value} {L : List Tk} {i d : Nat} {w : World} (h : PaW g tv L i d w) {f : Nat} (H : ExA g tv L f) (hd : d ≤ 40) (hne : varA L f i d ≠ .out) : Calls Tryz.prog 88 #[.pointer (some ⟨g, 0, none⟩)] w fun e w' => ResN w.heap.size g tv L d w (varA L f i d) e w' := by
 unfold varA at hne ⊢
 cases hr : typedA L 4 i with
 | out => rw [hr] at hne; exact absurd rfl hne
 | bad j =>
  simp only [PR.bind]
  clear H hne
  have hP := zH (h.alloc (.cells #[.int .i64 0, .int .i64 0, .slice none 0 0] 24 (0, 0))).1
  have hM := zH (h.alloc (.cells #[.int .i64 0, .int .i64 0, .slice none 0 0] 24 (0, 0))).2
  have hN := zH (nblk_new w 0 0 none 0 0)
  obtain ⟨gb, hgb⟩ : ∃ gb, w.heap.size = gb := ⟨_, rfl⟩
  have hz : (w.alloc (.cells #[.int .i64 0, .int .i64 0, .slice none 0 0] 24 (0, 0))).heap.size = gb + 1 := by simp [hgb]
  have hgl : g < gb := by have := h.lt; omega
  rw [hgb] at hN
  obtain ⟨W1, hq_W1⟩ : ∃ W1, w.alloc (.cells #[.int .i64 0, .int .i64 0, .slice none 0 0] 24 (0, 0)) = W1 := ⟨_, rfl⟩
  rw [hq_W1] at hP hM hN hz
  replace hz := And.intro (Nat.le_of_eq hz) (Nat.le_of_eq hz.symm)
  replace h := zH h
  go_enter Tryz.func88, Tryz.ntmps88
  go_wp2_with fail
  clear hq_W1
  have hC := paTyped_row (uH hP) 4
  rw [hr] at hC
  refine (hC).mono ?_
  rintro e W2 hBad
  obtain rfl := hBad.1
  have hG := zH (hBad.pre (uH hM))
  clear hBad
  go_wp2
  exact ⟨rfl, uH hG⟩
 | ok n j0 =>
  obtain ⟨hk4, hln⟩ := typedA_shape hr
  obtain ⟨nk, nt, nc⟩ := n
  dsimp only at hk4 hln
  subst hk4
  have hnl := zH hln
  clear hln
  rw [hr] at hne
  simp only [PR.bind] at hne ⊢
  cases ho : opA L j0 [61] with
  | false =>
   simp only [Bool.false_eq_true, if_false]
   clear H hne
   have hP := zH (h.alloc (.cells #[.int .i64 0, .int .i64 0, .slice none 0 0] 24 (0, 0))).1
   have hM := zH (h.alloc (.cells #[.int .i64 0, .int .i64 0, .slice none 0 0] 24 (0, 0))).2
   have hN := zH (nblk_new w 0 0 none 0 0)
   obtain ⟨gb, hgb⟩ : ∃ gb, w.heap.size = gb := ⟨_, rfl⟩
   have hz : (w.alloc (.cells #[.int .i64 0, .int .i64 0, .slice none 0 0] 24 (0, 0))).heap.size = gb + 1 := by simp [hgb]
   have hgl : g < gb := by have := h.lt; omega
   rw [hgb] at hN
   obtain ⟨W1, hq_W1⟩ : ∃ W1, w.alloc (.cells #[.int .i64 0, .int .i64 0, .slice none 0 0] 24 (0, 0)) = W1 := ⟨_, rfl⟩
   rw [hq_W1] at hP hM hN hz
   replace hz := And.intro (Nat.le_of_eq hz) (Nat.le_of_eq hz.symm)
   replace h := zH h
   go_enter Tryz.func88, Tryz.ntmps88
   go_wp2_with fail
   clear hq_W1
   have hC := paTyped_row (uH hP) 4
   rw [hr] at hC
   refine (hC).mono ?_
   rintro e W2 ⟨a1, m1, c1, rfl, hs, h2, hm⟩
   dsimp only at hs
   have hzs := hm.size
   have hbx := hs.boxed (gb := gb) (b := W2.heap.size) (by omega) (Nat.le_refl _)
   clear hs
   have hR := zH hbx.1
   have hRo := zH hbx.2
   clear hbx
   replace hN := zH ((uH hN).mop (uH hP) hm)
   have hzz := hm.size
   replace hM := zH ((uH hM).trans hm)
   replace hP := zH h2
   clear hm h2
   obtain ⟨b1, hq_b1⟩ : ∃ x, W2.heap.size = x := ⟨_, rfl⟩
   have hB := zH (nblk_new W2 4 nt a1 m1 c1)
   have hm := mop_below (g := g) (below_alloc W2 (.cells #[.int .i64 4, .int .i64 nt, .slice a1 m1 c1] 24 (0, 0)))
   have h2 := (uH hP).below (below_alloc W2 (.cells #[.int .i64 4, .int .i64 nt, .slice a1 m1 c1] 24 (0, 0)))
   have hzs : (W2.alloc (.cells #[.int .i64 4, .int .i64 nt, .slice a1 m1 c1] 24 (0, 0))).heap.size = b1 + 1 := by simp [hq_b1]
   obtain ⟨W3, hq_W3⟩ : ∃ x, W2.alloc (.cells #[.int .i64 4, .int .i64 nt, .slice a1 m1 c1] 24 (0, 0)) = x := ⟨_, rfl⟩
   rw [hq_W3] at hB hm h2 hzs
   replace hzs := And.intro (Nat.le_of_eq hzs) (Nat.le_of_eq hzs.symm)
   rw [hq_b1] at hB
   replace hq_W3 := zH hq_W3
   replace hN := zH ((uH hN).mop (uH hP) hm)
   replace hR := zH ((uH hR).mop (uH hP) hm)
   have hzz := hm.size
   replace hM := zH ((uH hM).trans hm)
   replace hP := zH h2
   clear hm h2
   rw [hq_b1] at hR hRo
   go_wp2_with fail
   rw [uH hq_W3]
   clear hq_W3
   refine (paOp_any _ _).mono ?_
   rintro e W4 ⟨rfl, hb⟩
   have h2 := (uH hP).below hb
   have hm := mop_below (g := g) hb
   clear hb
   replace hN := zH ((uH hN).mop (uH hP) hm)
   replace hB := zH ((uH hB).mop (uH hP) hm)
   replace hR := zH ((uH hR).mop (uH hP) hm)
   have hzz := hm.size
   replace hM := zH ((uH hM).trans hm)
   replace hP := zH h2
   clear hm h2
   go_wp2_with fail
   refine (paTake_no (uH hP) (opT [61]) (by rw [eqB_op]; exact ho)).mono ?_
   rintro e W5 ⟨rfl, h2, hm⟩
   replace hN := zH ((uH hN).mop (uH hP) hm)
   replace hB := zH ((uH hB).mop (uH hP) hm)
   replace hR := zH ((uH hR).mop (uH hP) hm)
   have hzz := hm.size
   replace hM := zH ((uH hM).trans hm)
   replace hP := zH h2
   clear hm h2
   obtain ⟨p0_hB, p1_hB, p2_hB⟩ := (uH hB).box
   have f0_hB := (uH hB).frozen 0
   have f1_hB := (uH hB).frozen 1
   have f2_hB := (uH hB).frozen 2
   obtain ⟨p0_hN, p1_hN, p2_hN⟩ := (uH hN).box
   have f0_hN := (uH hN).frozen 0
   have f1_hN := (uH hN).frozen 1
   have f2_hN := (uH hN).frozen 2
   have hF := zH (res_finR (k := 4) (t := nt) (w := w) (gb := gb) (by omega) (uH hN) (uH hR) (fun x hx => hx.1) (uH hP) (uH hM))
   go_wp2
   obtain ⟨q1, q2, q3, q4⟩ := uH hF
   obtain ⟨u0, u1, u2⟩ := q1.box
   refine bodyPost_ret (v := .agg #[.int .i64 (4), .int .i64 (nt), .slice (a1) (m1) (c1)]) (by simp [results, Tryz.results88, go_sem, u0, u1, u2]) rfl ?_
   exact ResR.n (r := .ok ⟨4, nt, nc⟩ j0) ⟨_, _, _, rfl, (by first | exact q2 | (rw [hgb]; exact q2) | exact (q2.mono (fun y hy _ => by omega)).base (fun y hy => by have := q2.lt y hy; omega)), q3, q4⟩
  | true =>
   simp only [ho, if_true] at hne ⊢
   have hne2 : absA L f 0 (j0 + 1) d ≠ .out := fun e => hne (by rw [e])
   have hHo := zH (fun w h => paExpr_any (w := w) (i := j0 + 1) (d := d) h H hd hne2)
   clear H hne
   cases hro : absA L f 0 (j0 + 1) d with
   | out => exact absurd hro hne2
   | bad j2 =>
    rw [hro] at hHo
    dsimp only
    have hP := zH (h.alloc (.cells #[.int .i64 0, .int .i64 0, .slice none 0 0] 24 (0, 0))).1
    have hM := zH (h.alloc (.cells #[.int .i64 0, .int .i64 0, .slice none 0 0] 24 (0, 0))).2
    have hN := zH (nblk_new w 0 0 none 0 0)
    obtain ⟨gb, hgb⟩ : ∃ gb, w.heap.size = gb := ⟨_, rfl⟩
    have hz : (w.alloc (.cells #[.int .i64 0, .int .i64 0, .slice none 0 0] 24 (0, 0))).heap.size = gb + 1 := by simp [hgb]
    have hgl : g < gb := by have := h.lt; omega
    rw [hgb] at hN
    obtain ⟨W1, hq_W1⟩ : ∃ W1, w.alloc (.cells #[.int .i64 0, .int .i64 0, .slice none 0 0] 24 (0, 0)) = W1 := ⟨_, rfl⟩
    rw [hq_W1] at hP hM hN hz
    replace hz := And.intro (Nat.le_of_eq hz) (Nat.le_of_eq hz.symm)
    replace h := zH h
    go_enter Tryz.func88, Tryz.ntmps88
    go_wp2_with fail
    clear hq_W1
    have hC := paTyped_row (uH hP) 4
    rw [hr] at hC
    refine (hC).mono ?_
    rintro e W2 ⟨a1, m1, c1, rfl, hs, h2, hm⟩
    dsimp only at hs
    have hzs := hm.size
    have hbx := hs.boxed (gb := gb) (b := W2.heap.size) (by omega) (Nat.le_refl _)
    clear hs
    have hR := zH hbx.1
    have hRo := zH hbx.2
    clear hbx
    replace hN := zH ((uH hN).mop (uH hP) hm)
    have hzz := hm.size
    replace hM := zH ((uH hM).trans hm)
    replace hP := zH h2
    clear hm h2
    obtain ⟨b1, hq_b1⟩ : ∃ x, W2.heap.size = x := ⟨_, rfl⟩
    have hB := zH (nblk_new W2 4 nt a1 m1 c1)
    have hm := mop_below (g := g) (below_alloc W2 (.cells #[.int .i64 4, .int .i64 nt, .slice a1 m1 c1] 24 (0, 0)))
    have h2 := (uH hP).below (below_alloc W2 (.cells #[.int .i64 4, .int .i64 nt, .slice a1 m1 c1] 24 (0, 0)))
    have hzs : (W2.alloc (.cells #[.int .i64 4, .int .i64 nt, .slice a1 m1 c1] 24 (0, 0))).heap.size = b1 + 1 := by simp [hq_b1]
    obtain ⟨W3, hq_W3⟩ : ∃ x, W2.alloc (.cells #[.int .i64 4, .int .i64 nt, .slice a1 m1 c1] 24 (0, 0)) = x := ⟨_, rfl⟩
    rw [hq_W3] at hB hm h2 hzs
    replace hzs := And.intro (Nat.le_of_eq hzs) (Nat.le_of_eq hzs.symm)
    rw [hq_b1] at hB
    replace hq_W3 := zH hq_W3
    replace hN := zH ((uH hN).mop (uH hP) hm)
    replace hR := zH ((uH hR).mop (uH hP) hm)
    have hzz := hm.size
    replace hM := zH ((uH hM).trans hm)
    replace hP := zH h2
    clear hm h2
    rw [hq_b1] at hR hRo
    go_wp2_with fail
    rw [uH hq_W3]
    clear hq_W3
    refine (paOp_any _ _).mono ?_
    rintro e W4 ⟨rfl, hb⟩
    have h2 := (uH hP).below hb
    have hm := mop_below (g := g) hb
    clear hb
    replace hN := zH ((uH hN).mop (uH hP) hm)
    replace hB := zH ((uH hB).mop (uH hP) hm)
    replace hR := zH ((uH hR).mop (uH hP) hm)
    have hzz := hm.size
    replace hM := zH ((uH hM).trans hm)
    replace hP := zH h2
    clear hm h2
    go_wp2_with fail
    refine (paTake_yes (uH hP) (opT [61]) (by rw [eqB_op]; exact ho) (opA_lt ho)).mono ?_
    rintro e W5 ⟨rfl, h2, hm⟩
    replace hN := zH ((uH hN).mop (uH hP) hm)
    replace hB := zH ((uH hB).mop (uH hP) hm)
    replace hR := zH ((uH hR).mop (uH hP) hm)
    have hzz := hm.size
    replace hM := zH ((uH hM).trans hm)
    replace hP := zH h2
    clear hm h2
    go_upto_region 3 with fail
    have hb : Below W5.heap.size W5 (World.drew W5) := (Below.refl _ _).drew
    have h2 := (uH hP).below hb
    have hm := mop_below (g := g) hb
    clear hb
    obtain ⟨WD, hq_WD⟩ : ∃ x, World.drew W5 = x := ⟨_, rfl⟩
    rw [hq_WD] at h2 hm
    replace hN := zH ((uH hN).mop (uH hP) hm)
    replace hB := zH ((uH hB).mop (uH hP) hm)
    replace hR := zH ((uH hR).mop (uH hP) hm)
    have hzz := hm.size
    replace hM := zH ((uH hM).trans hm)
    replace hP := zH h2
    clear hm h2
    have hS : NBlk WD b1 4 nt a1 m1 c1 := uH hB
    refine wp_region_D (fun w' => NBlk w' b1 4 nt a1 m1 c1) (fun j => [7].contains j) (by kernel_rfl) ?_
    rw [hq_WD]
    clear hq_WD
    have hbl := (uH hB).lt
    have hRl := (uH hR).lt
    refine wpAnyD_takeC (i := 0) (v := .pointer (some ⟨b1, 2, none⟩)) [7] (fun _ => rfl) rfl (by kernel_rfl) 3 (by kernel_rfl) rfl (by kernel_rfl) (by kernel_rfl) (by kernel_rfl) (fun _ _ _ h => h) (Or.inl ⟨by kernel_rfl, ?_⟩) hS ?_
    ·
     intro w hSw
     go_simp
    try simp only [List.getElem_toArray, List.getElem_cons_succ, List.getElem_cons_zero, Act.put, List.setIfInBounds_toArray, List.set_cons_zero, List.set_cons_succ]
    refine wpAnyD_takeC (i := 1) (v := .slice a1 m1 c1) [7] (fun _ => rfl) rfl (by kernel_rfl) 3 (by kernel_rfl) rfl (by kernel_rfl) (by kernel_rfl) (by kernel_rfl) (fun _ _ _ h => h) (Or.inl ⟨by kernel_rfl, ?_⟩) hS ?_
    ·
     intro w hSw
     obtain ⟨e0, e1, e2⟩ := hSw.box
     go_simp
    try simp only [List.getElem_toArray, List.getElem_cons_succ, List.getElem_cons_zero, Act.put, List.setIfInBounds_toArray, List.set_cons_zero, List.set_cons_succ]
    refine wpAnyD_takeC (i := 2) (v := .pointer (some ⟨g, 0, none⟩)) [7] (fun _ => rfl) rfl (by kernel_rfl) 3 (by kernel_rfl) rfl (by kernel_rfl) (by kernel_rfl) (by kernel_rfl) (fun _ _ _ h => h) (Or.inl ⟨by kernel_rfl, ?_⟩) hS ?_
    ·
     intro w hSw
     go_simp
    try simp only [List.getElem_toArray, List.getElem_cons_succ, List.getElem_cons_zero, Act.put, List.setIfInBounds_toArray, List.set_cons_zero, List.set_cons_succ]
    refine wpAnyD_one (i := 3) rfl (by kernel_rfl) (fun K' hK_ => ?_)
    rw [if_pos (by kernel_rfl)]
    refine oper_callR (run_call1 cf_paExpr) ?_
    refine (uH hHo _ (uH hP)).mono ?_
    rintro e W6 hBad
    obtain rfl := hBad.1
    have hG := zH (hBad.pre (uH hM))
    clear hBad
    go_wp2
    exact ⟨rfl, uH hG⟩
   | ok n2 j2 =>
    obtain ⟨ok, ot, oc⟩ := n2
    rw [hro] at hHo
    simp only [snoc, one]
    have hP := zH (h.alloc (.cells #[.int .i64 0, .int .i64 0, .slice none 0 0] 24 (0, 0))).1
    have hM := zH (h.alloc (.cells #[.int .i64 0, .int .i64 0, .slice none 0 0] 24 (0, 0))).2
    have hN := zH (nblk_new w 0 0 none 0 0)
    obtain ⟨gb, hgb⟩ : ∃ gb, w.heap.size = gb := ⟨_, rfl⟩
    have hz : (w.alloc (.cells #[.int .i64 0, .int .i64 0, .slice none 0 0] 24 (0, 0))).heap.size = gb + 1 := by simp [hgb]
    have hgl : g < gb := by have := h.lt; omega
    rw [hgb] at hN
    obtain ⟨W1, hq_W1⟩ : ∃ W1, w.alloc (.cells #[.int .i64 0, .int .i64 0, .slice none 0 0] 24 (0, 0)) = W1 := ⟨_, rfl⟩
    rw [hq_W1] at hP hM hN hz
    replace hz := And.intro (Nat.le_of_eq hz) (Nat.le_of_eq hz.symm)
    replace h := zH h
    go_enter Tryz.func88, Tryz.ntmps88
    go_wp2_with fail
    clear hq_W1
    have hC := paTyped_row (uH hP) 4
    rw [hr] at hC
    refine (hC).mono ?_
    rintro e W2 ⟨a1, m1, c1, rfl, hs, h2, hm⟩
    dsimp only at hs
    have hzs := hm.size
    have hbx := hs.boxed (gb := gb) (b := W2.heap.size) (by omega) (Nat.le_refl _)
    clear hs
    have hR := zH hbx.1
    have hRo := zH hbx.2
    clear hbx
    replace hN := zH ((uH hN).mop (uH hP) hm)
    have hzz := hm.size
    replace hM := zH ((uH hM).trans hm)
    replace hP := zH h2
    clear hm h2
    obtain ⟨b1, hq_b1⟩ : ∃ x, W2.heap.size = x := ⟨_, rfl⟩
    have hB := zH (nblk_new W2 4 nt a1 m1 c1)
    have hm := mop_below (g := g) (below_alloc W2 (.cells #[.int .i64 4, .int .i64 nt, .slice a1 m1 c1] 24 (0, 0)))
    have h2 := (uH hP).below (below_alloc W2 (.cells #[.int .i64 4, .int .i64 nt, .slice a1 m1 c1] 24 (0, 0)))
    have hzs : (W2.alloc (.cells #[.int .i64 4, .int .i64 nt, .slice a1 m1 c1] 24 (0, 0))).heap.size = b1 + 1 := by simp [hq_b1]
    obtain ⟨W3, hq_W3⟩ : ∃ x, W2.alloc (.cells #[.int .i64 4, .int .i64 nt, .slice a1 m1 c1] 24 (0, 0)) = x := ⟨_, rfl⟩
    rw [hq_W3] at hB hm h2 hzs
    replace hzs := And.intro (Nat.le_of_eq hzs) (Nat.le_of_eq hzs.symm)
    rw [hq_b1] at hB
    replace hq_W3 := zH hq_W3
    replace hN := zH ((uH hN).mop (uH hP) hm)
    replace hR := zH ((uH hR).mop (uH hP) hm)
    have hzz := hm.size
    replace hM := zH ((uH hM).trans hm)
    replace hP := zH h2
    clear hm h2
    rw [hq_b1] at hR hRo
    go_wp2_with fail
    rw [uH hq_W3]
    clear hq_W3
    refine (paOp_any _ _).mono ?_
    rintro e W4 ⟨rfl, hb⟩
    have h2 := (uH hP).below hb
    have hm := mop_below (g := g) hb
    clear hb
    replace hN := zH ((uH hN).mop (uH hP) hm)
    replace hB := zH ((uH hB).mop (uH hP) hm)
    replace hR := zH ((uH hR).mop (uH hP) hm)
    have hzz := hm.size
    replace hM := zH ((uH hM).trans hm)
    replace hP := zH h2
    clear hm h2
    go_wp2_with fail
    refine (paTake_yes (uH hP) (opT [61]) (by rw [eqB_op]; exact ho) (opA_lt ho)).mono ?_
    rintro e W5 ⟨rfl, h2, hm⟩
    replace hN := zH ((uH hN).mop (uH hP) hm)
    replace hB := zH ((uH hB).mop (uH hP) hm)
    replace hR := zH ((uH hR).mop (uH hP) hm)
    have hzz := hm.size
    replace hM := zH ((uH hM).trans hm)
    replace hP := zH h2
    clear hm h2
    go_upto_region 3 with fail
    have hb : Below W5.heap.size W5 (World.drew W5) := (Below.refl _ _).drew
    have h2 := (uH hP).below hb
    have hm := mop_below (g := g) hb
    clear hb
    obtain ⟨WD, hq_WD⟩ : ∃ x, World.drew W5 = x := ⟨_, rfl⟩
    rw [hq_WD] at h2 hm
    replace hN := zH ((uH hN).mop (uH hP) hm)
    replace hB := zH ((uH hB).mop (uH hP) hm)
    replace hR := zH ((uH hR).mop (uH hP) hm)
    have hzz := hm.size
    replace hM := zH ((uH hM).trans hm)
    replace hP := zH h2
    clear hm h2
    have hS : NBlk WD b1 4 nt a1 m1 c1 := uH hB
    refine wp_region_D (fun w' => NBlk w' b1 4 nt a1 m1 c1) (fun j => [7].contains j) (by kernel_rfl) ?_
    rw [hq_WD]
    clear hq_WD
    have hbl := (uH hB).lt
    have hRl := (uH hR).lt
    refine wpAnyD_takeC (i := 0) (v := .pointer (some ⟨b1, 2, none⟩)) [7] (fun _ => rfl) rfl (by kernel_rfl) 3 (by kernel_rfl) rfl (by kernel_rfl) (by kernel_rfl) (by kernel_rfl) (fun _ _ _ h => h) (Or.inl ⟨by kernel_rfl, ?_⟩) hS ?_
    ·
     intro w hSw
     go_simp
    try simp only [List.getElem_toArray, List.getElem_cons_succ, List.getElem_cons_zero, Act.put, List.setIfInBounds_toArray, List.set_cons_zero, List.set_cons_succ]
    refine wpAnyD_takeC (i := 1) (v := .slice a1 m1 c1) [7] (fun _ => rfl) rfl (by kernel_rfl) 3 (by kernel_rfl) rfl (by kernel_rfl) (by kernel_rfl) (by kernel_rfl) (fun _ _ _ h => h) (Or.inl ⟨by kernel_rfl, ?_⟩) hS ?_
    ·
     intro w hSw
     obtain ⟨e0, e1, e2⟩ := hSw.box
     go_simp
    try simp only [List.getElem_toArray, List.getElem_cons_succ, List.getElem_cons_zero, Act.put, List.setIfInBounds_toArray, List.set_cons_zero, List.set_cons_succ]
    refine wpAnyD_takeC (i := 2) (v := .pointer (some ⟨g, 0, none⟩)) [7] (fun _ => rfl) rfl (by kernel_rfl) 3 (by kernel_rfl) rfl (by kernel_rfl) (by kernel_rfl) (by kernel_rfl) (fun _ _ _ h => h) (Or.inl ⟨by kernel_rfl, ?_⟩) hS ?_
    ·
     intro w hSw
     go_simp
    try simp only [List.getElem_toArray, List.getElem_cons_succ, List.getElem_cons_zero, Act.put, List.setIfInBounds_toArray, List.set_cons_zero, List.set_cons_succ]
    refine wpAnyD_one (i := 3) rfl (by kernel_rfl) (fun K' hK_ => ?_)
    rw [if_pos (by kernel_rfl)]
    refine oper_callR (run_call1 cf_paExpr) ?_
    refine (uH hHo _ (uH hP)).mono ?_
    rintro e W6 ⟨a2, m2, c2, rfl, hs, h2, hm⟩
    dsimp only at hs
    have hzs := hm.size
    have hs2 := zH (hs.mono (P' := fun x => (gb < x ∧ x ≠ b1) ∧ (Value.slice a1 m1 c1).ownBlock ≠ some x) (fun x hx => by have e1 := hx.1; exact ⟨⟨by omega, by omega⟩, fun e => by have := hRl x e; omega⟩))
    clear hs
    replace hN := zH ((uH hN).mop (uH hP) hm)
    replace hB := zH ((uH hB).mop (uH hP) hm)
    replace hR := zH ((uH hR).mop (uH hP) hm)
    have hzz := hm.size
    replace hM := zH ((uH hM).trans hm)
    replace hP := zH h2
    clear hm h2
    have hSW6 : NBlk W6 b1 4 nt a1 m1 c1 := uH hB
    refine hK_ _ _ (fun _ => hSW6) ?_
    clear hK_ K' hS
    have hS := hSW6
    try simp only [List.getElem_toArray, List.getElem_cons_succ, List.getElem_cons_zero, Act.put, List.setIfInBounds_toArray, List.set_cons_zero, List.set_cons_succ]
    refine wpAnyD_one (i := 4) rfl (by kernel_rfl) (fun K' hK_ => ?_)
    rw [if_pos (by kernel_rfl)]
    refine oper_of_run (run_build_one W6 _ _ _ _ _ _ _ ok ot a2 m2 c2 rfl) ?_
    have hbl2 := (uH hB).lt
    have hL := (lit1_sl (P := fun x => (gb < x ∧ x ≠ b1) ∧ (Value.slice a1 m1 c1).ownBlock ≠ some x) W6 ok ot a2 m2 c2 oc (uH hs2) ⟨⟨by omega, by omega⟩, fun e => by have := hRl _ e; omega⟩).mono (P' := fun x => (gb < x ∧ x ≠ b1) ∧ (Value.slice a1 m1 c1).ownBlock ≠ some x ∧ x < (W6.alloc (.cells #[.int .i64 ok, .int .i64 ot, .slice a2 m2 c2] 24 (0, 0))).heap.size) (fun x hx => ⟨hx.1.1, hx.1.2, hx.lt⟩)
    have hm := mop_below (g := g) (below_alloc W6 (.cells #[.int .i64 ok, .int .i64 ot, .slice a2 m2 c2] 24 (0, 0)))
    have h2 := (uH hP).below (below_alloc W6 (.cells #[.int .i64 ok, .int .i64 ot, .slice a2 m2 c2] 24 (0, 0)))
    obtain ⟨gl, hgl2⟩ : ∃ x, W6.heap.size = x := ⟨_, rfl⟩
    have hzz : (W6.alloc (.cells #[.int .i64 ok, .int .i64 ot, .slice a2 m2 c2] 24 (0, 0))).heap.size = gl + 1 := by simp [hgl2]
    obtain ⟨W7, hq_W7⟩ : ∃ x, W6.alloc (.cells #[.int .i64 ok, .int .i64 ot, .slice a2 m2 c2] 24 (0, 0)) = x := ⟨_, rfl⟩
    rw [hq_W7] at hL hm h2 hzz
    rw [hgl2] at hL
    replace hzz := And.intro (Nat.le_of_eq hzz) (Nat.le_of_eq hzz.symm)
    rw [hq_W7, hgl2]
    clear hq_W7 hs2
    replace hL := zH hL
    replace hN := zH ((uH hN).mop (uH hP) hm)
    replace hB := zH ((uH hB).mop (uH hP) hm)
    replace hR := zH ((uH hR).mop (uH hP) hm)
    have hzz := hm.size
    replace hM := zH ((uH hM).trans hm)
    replace hP := zH h2
    clear hm h2
    have hSW7 : NBlk W7 b1 4 nt a1 m1 c1 := uH hB
    refine hK_ _ _ (fun _ => hSW7) ?_
    clear hK_ K' hS
    have hS := hSW7
    try simp only [List.getElem_toArray, List.getElem_cons_succ, List.getElem_cons_zero, Act.put, List.setIfInBounds_toArray, List.set_cons_zero, List.set_cons_succ]
    refine wpAnyD_one (i := 5) rfl (by kernel_rfl) (fun K' hK_ => ?_)
    rw [if_pos (by kernel_rfl)]
    refine oper_append_rowP (.tmp 10) (.tmp 13) rfl rfl (uH hR) rfl (uH hL) (by have := uH hnl; omega) (by omega) ?_
    intro v4 W8 hR4 hb4 hg4 hl4
    have hzg := hg4.size
    have hbl3 := (uH hB).lt
    have hbm := hb4.mono (show w.heap.size ≤ gb + 1 by omega)
    have h2 := (uH hP).belowB (uH h) hbm
    have hM4 := mop_belowB (uH h) hbm (by omega) (uH hM)
    replace hN := zH ((uH hN).same (hb4.block _ (by omega)))
    replace hB := zH ((uH hB).same (hg4.block _ hbl3 (fun e => uH hRo _ e.symm rfl)))
    replace hP := zH h2
    replace hM := zH hM4
    have hRo4 : Hid (∀ y, v4.ownBlock = some y → y ≠ b1) := zH (fun y hy => by
     rcases hl4 with e | e
     ·
      exact uH hRo y (e ▸ hy)
     ·
      rw [e] at hy
      injection hy with hy
      omega)
    replace hRo := hRo4
    obtain ⟨a5, c5, rfl, _⟩ := hR4.slO (fun y hy => ⟨by have := hR4.lt y hy; omega, uH hRo y hy⟩)
    replace hR := zH hR4
    clear hR4 hb4 hg4 hl4 hbm h2 hM4 hL hRo4
    have hSW8 : NBlk W8 b1 4 nt a1 m1 c1 := uH hB
    refine hK_ _ _ (fun _ => hSW8) ?_
    clear hK_ K' hS
    have hS := hSW8
    try simp only [List.getElem_toArray, List.getElem_cons_succ, List.getElem_cons_zero, Act.put, List.setIfInBounds_toArray, List.set_cons_zero, List.set_cons_succ]
    refine wpAnyD_one (i := 6) rfl (by kernel_rfl) (fun K' hK_ => ?_)
    rw [if_pos (by kernel_rfl)]
    refine oper_of_run (v := .pointer (some ⟨b1, 2, none⟩)) (w' := W8) (by clear hK_; go_simp) ?_
    refine hK_ _ _ (fun _ => hS) ?_
    clear hK_ K'
    try simp only [List.getElem_toArray, List.getElem_cons_succ, List.getElem_cons_zero, Act.put, List.setIfInBounds_toArray, List.set_cons_zero, List.set_cons_succ]
    refine wpAnyD_one (i := 7) rfl (by kernel_rfl) (fun K' hK_ => ?_)
    rw [if_pos (by kernel_rfl)]
    refine oper_skip (run_store_kids W8 _ _ _ _ _ _ _ _ b1 4 nt a1 a5 m1 c1 (F.app nc (.cons ok ot oc .nil)).len c5 (uH hB) rfl rfl) ?_
    obtain ⟨h2, hM2, hB2, hh⟩ := kid_set (uH hP) (uH hM) (uH hB) (by omega) a5 (F.app nc (.cons ok ot oc .nil)).len c5
    have hzz : (W8.setCell ⟨b1, 2, none⟩ (.slice a5 (F.app nc (.cons ok ot oc .nil)).len c5)).heap.size = W8.heap.size := by simp
    obtain ⟨W9, hq_W9⟩ : ∃ x, W8.setCell ⟨b1, 2, none⟩ (.slice a5 (F.app nc (.cons ok ot oc .nil)).len c5) = x := ⟨_, rfl⟩
    rw [hq_W9] at h2 hM2 hB2 hh hzz
    replace hzz := And.intro (Nat.le_of_eq hzz) (Nat.le_of_eq hzz.symm)
    replace hR := zH ((uH hR).keep2 (w' := W9) (by omega) (fun y hy => hh y (uH hRo y hy)) (fun y hy _ => hh y hy.2))
    replace hN := zH ((uH hN).same (hh _ (by omega)))
    replace hB := zH hB2
    replace hM := zH hM2
    replace hP := zH h2
    clear hB2 hM2 h2 hh
    rw [hq_W9]
    clear hq_W9
    refine hK_ _ _ (fun h => by cases h) ?_
    clear hK_ K'
    try simp only [List.getElem_toArray, List.getElem_cons_succ, List.getElem_cons_zero, Act.put, List.setIfInBounds_toArray, List.set_cons_zero, List.set_cons_succ]
    clear hS
    refine wpAnyD_done (by kernel_rfl) ?_ _
    obtain ⟨p0_hB, p1_hB, p2_hB⟩ := (uH hB).box
    have f0_hB := (uH hB).frozen 0
    have f1_hB := (uH hB).frozen 1
    have f2_hB := (uH hB).frozen 2
    obtain ⟨p0_hN, p1_hN, p2_hN⟩ := (uH hN).box
    have f0_hN := (uH hN).frozen 0
    have f1_hN := (uH hN).frozen 1
    have f2_hN := (uH hN).frozen 2
    have hF := zH (res_finR (k := 4) (t := nt) (w := w) (gb := gb) (by omega) (uH hN) (uH hR) (fun x hx => hx.1) (uH hP) (uH hM))
    go_wp2
    obtain ⟨q1, q2, q3, q4⟩ := uH hF
    obtain ⟨u0, u1, u2⟩ := q1.box
    refine bodyPost_ret (v := .agg #[.int .i64 (4), .int .i64 (nt), .slice (a5) ((F.app nc (.cons ok ot oc .nil)).len) (c5)]) (by simp [results, Tryz.results88, go_sem, u0, u1, u2]) rfl ?_
    exact ResR.n (r := .ok ⟨4, nt, F.app nc (.cons ok ot oc .nil)⟩ j2) ⟨_, _, _, rfl, (by first | exact q2 | (rw [hgb]; exact q2) | exact (q2.mono (fun y hy _ => by omega)).base (fun y hy => by have := q2.lt y hy; omega)), q3, q4⟩
end Go.Proofs.YtiknnobgoamgcaaGreatDoor
/-
  The parser: a field, a param; braces of fields.
-/
namespace Go.Proofs.YtiknnobgoamgcaaGreatDoor
open Go.RowKit Go.Lib Go.Sort
set_option linter.unusedSimpArgs false
set_option linter.unusedVariables false
theorem typedA_some (L : List Tk) (kind : Int) (i : Nat) : typedA L kind i ≠ .out := by
 unfold typedA leafA
 cases h1 : knd L i 1 with
 | false => simp [PR.bind]
 | true =>
  unfold typA leafA
  cases h2 : knd L (i + 1) 1 with
  | false => simp [PR.bind, h2]
  | true =>
   cases h3 : opA L (i + 1 + 1) [46] with
   | false => simp [PR.bind, h2, h3]
   | true => cases h4 : knd L (i + 1 + 1 + 1) 1 <;> simp [PR.bind, h2, h3, h4]
set_option maxHeartbeats 4000000 in
set_option maxRecDepth 100000 in
theorem paField_any {g : Nat} {tv : Value} {L : List Tk} {i d : Nat} {w : World} (h : PaW g tv L i d w) : Calls Tryz.prog 108 #[.pointer (some ⟨g, 0, none⟩)] w fun e w' => ResN w.heap.size g tv L d w (typedA L 7 i) e w' := by
 have hne : typedA L 7 i ≠ .out := typedA_some L 7 i
 generalize hr : typedA L 7 i = r at hne ⊢
 cases r with
 | out => exact absurd rfl hne
 | bad j =>
  have hP := zH (h.alloc (.cells #[.int .i64 0, .int .i64 0, .slice none 0 0] 24 (0, 0))).1
  have hM := zH (h.alloc (.cells #[.int .i64 0, .int .i64 0, .slice none 0 0] 24 (0, 0))).2
  have hN := zH (nblk_new w 0 0 none 0 0)
  obtain ⟨gb, hgb⟩ : ∃ gb, w.heap.size = gb := ⟨_, rfl⟩
  have hz : (w.alloc (.cells #[.int .i64 0, .int .i64 0, .slice none 0 0] 24 (0, 0))).heap.size = gb + 1 := by simp [hgb]
  have hgl : g < gb := by have := h.lt; omega
  rw [hgb] at hN
  obtain ⟨W1, hq_W1⟩ : ∃ W1, w.alloc (.cells #[.int .i64 0, .int .i64 0, .slice none 0 0] 24 (0, 0)) = W1 := ⟨_, rfl⟩
  rw [hq_W1] at hP hM hN hz
  replace hz := And.intro (Nat.le_of_eq hz) (Nat.le_of_eq hz.symm)
  replace h := zH h
  go_enter Tryz.func108, Tryz.ntmps108
  go_wp2_with fail
  clear hq_W1
  have hC := paTyped_any (uH hP) 7
  rw [hr] at hC
  refine (hC).mono ?_
  rintro e W2 hBad
  obtain rfl := hBad.1
  have hG := zH (hBad.pre (uH hM))
  clear hBad
  go_wp2
  exact ⟨rfl, uH hG⟩
 | ok n j =>
  obtain ⟨nk, nt, nc⟩ := n
  have hP := zH (h.alloc (.cells #[.int .i64 0, .int .i64 0, .slice none 0 0] 24 (0, 0))).1
  have hM := zH (h.alloc (.cells #[.int .i64 0, .int .i64 0, .slice none 0 0] 24 (0, 0))).2
  have hN := zH (nblk_new w 0 0 none 0 0)
  obtain ⟨gb, hgb⟩ : ∃ gb, w.heap.size = gb := ⟨_, rfl⟩
  have hz : (w.alloc (.cells #[.int .i64 0, .int .i64 0, .slice none 0 0] 24 (0, 0))).heap.size = gb + 1 := by simp [hgb]
  have hgl : g < gb := by have := h.lt; omega
  rw [hgb] at hN
  obtain ⟨W1, hq_W1⟩ : ∃ W1, w.alloc (.cells #[.int .i64 0, .int .i64 0, .slice none 0 0] 24 (0, 0)) = W1 := ⟨_, rfl⟩
  rw [hq_W1] at hP hM hN hz
  replace hz := And.intro (Nat.le_of_eq hz) (Nat.le_of_eq hz.symm)
  replace h := zH h
  go_enter Tryz.func108, Tryz.ntmps108
  go_wp2_with fail
  clear hq_W1
  have hC := paTyped_any (uH hP) 7
  rw [hr] at hC
  refine (hC).mono ?_
  rintro e W2 ⟨a1, m1, c1, rfl, hs, h2, hm⟩
  have hzs := hm.size
  have hs1 := zH (hs.mono (P' := fun x => gb < x ∧ x < W2.heap.size) (fun x hx => by have := (uH hN).lt; have e1 := hx.1; have e2 := hx.lt; exact ⟨by omega, by omega⟩))
  clear hs
  replace hN := zH ((uH hN).mop (uH hP) hm)
  have hzz := hm.size
  replace hM := zH ((uH hM).trans hm)
  replace hP := zH h2
  clear hm h2
  dsimp only at hs1
  obtain ⟨p0_hN, p1_hN, p2_hN⟩ := (uH hN).box
  have f0_hN := (uH hN).frozen 0
  have f1_hN := (uH hN).frozen 1
  have f2_hN := (uH hN).frozen 2
  have hF := zH (res_fin (k := nk) (t := nt) (a := a1) (m := m1) (c := c1) (f := nc) (B := gb) (w := w) (Nat.le_refl gb) (by omega) (uH hN) ((uH hs1).mono (fun x hx => by have e1 := hx.1; exact ⟨by omega, by omega⟩)) (uH hP) (uH hM))
  go_wp2
  obtain ⟨q1, q2, q3, q4⟩ := uH hF
  obtain ⟨u0, u1, u2⟩ := q1.box
  refine bodyPost_ret (v := .agg #[.int .i64 (nk), .int .i64 (nt), .slice (a1) (m1) (c1)]) (by simp [results, Tryz.results108, go_sem, u0, u1, u2]) rfl ?_
  exact ⟨_, _, _, rfl, (by first | exact q2 | (rw [hgb]; exact q2)), q3, q4⟩
set_option maxHeartbeats 4000000 in
set_option maxRecDepth 100000 in
theorem paParam_any {g : Nat} {tv : Value} {L : List Tk} {i d : Nat} {w : World} (h : PaW g tv L i d w) : Calls Tryz.prog 111 #[.pointer (some ⟨g, 0, none⟩)] w fun e w' => ResN w.heap.size g tv L d w (typedA L 9 i) e w' := by
 have hne : typedA L 9 i ≠ .out := typedA_some L 9 i
 generalize hr : typedA L 9 i = r at hne ⊢
 cases r with
 | out => exact absurd rfl hne
 | bad j =>
  have hP := zH (h.alloc (.cells #[.int .i64 0, .int .i64 0, .slice none 0 0] 24 (0, 0))).1
  have hM := zH (h.alloc (.cells #[.int .i64 0, .int .i64 0, .slice none 0 0] 24 (0, 0))).2
  have hN := zH (nblk_new w 0 0 none 0 0)
  obtain ⟨gb, hgb⟩ : ∃ gb, w.heap.size = gb := ⟨_, rfl⟩
  have hz : (w.alloc (.cells #[.int .i64 0, .int .i64 0, .slice none 0 0] 24 (0, 0))).heap.size = gb + 1 := by simp [hgb]
  have hgl : g < gb := by have := h.lt; omega
  rw [hgb] at hN
  obtain ⟨W1, hq_W1⟩ : ∃ W1, w.alloc (.cells #[.int .i64 0, .int .i64 0, .slice none 0 0] 24 (0, 0)) = W1 := ⟨_, rfl⟩
  rw [hq_W1] at hP hM hN hz
  replace hz := And.intro (Nat.le_of_eq hz) (Nat.le_of_eq hz.symm)
  replace h := zH h
  go_enter Tryz.func111, Tryz.ntmps111
  go_wp2_with fail
  clear hq_W1
  have hC := paTyped_any (uH hP) 9
  rw [hr] at hC
  refine (hC).mono ?_
  rintro e W2 hBad
  obtain rfl := hBad.1
  have hG := zH (hBad.pre (uH hM))
  clear hBad
  go_wp2
  exact ⟨rfl, uH hG⟩
 | ok n j =>
  obtain ⟨nk, nt, nc⟩ := n
  have hP := zH (h.alloc (.cells #[.int .i64 0, .int .i64 0, .slice none 0 0] 24 (0, 0))).1
  have hM := zH (h.alloc (.cells #[.int .i64 0, .int .i64 0, .slice none 0 0] 24 (0, 0))).2
  have hN := zH (nblk_new w 0 0 none 0 0)
  obtain ⟨gb, hgb⟩ : ∃ gb, w.heap.size = gb := ⟨_, rfl⟩
  have hz : (w.alloc (.cells #[.int .i64 0, .int .i64 0, .slice none 0 0] 24 (0, 0))).heap.size = gb + 1 := by simp [hgb]
  have hgl : g < gb := by have := h.lt; omega
  rw [hgb] at hN
  obtain ⟨W1, hq_W1⟩ : ∃ W1, w.alloc (.cells #[.int .i64 0, .int .i64 0, .slice none 0 0] 24 (0, 0)) = W1 := ⟨_, rfl⟩
  rw [hq_W1] at hP hM hN hz
  replace hz := And.intro (Nat.le_of_eq hz) (Nat.le_of_eq hz.symm)
  replace h := zH h
  go_enter Tryz.func111, Tryz.ntmps111
  go_wp2_with fail
  clear hq_W1
  have hC := paTyped_any (uH hP) 9
  rw [hr] at hC
  refine (hC).mono ?_
  rintro e W2 ⟨a1, m1, c1, rfl, hs, h2, hm⟩
  have hzs := hm.size
  have hs1 := zH (hs.mono (P' := fun x => gb < x ∧ x < W2.heap.size) (fun x hx => by have := (uH hN).lt; have e1 := hx.1; have e2 := hx.lt; exact ⟨by omega, by omega⟩))
  clear hs
  replace hN := zH ((uH hN).mop (uH hP) hm)
  have hzz := hm.size
  replace hM := zH ((uH hM).trans hm)
  replace hP := zH h2
  clear hm h2
  dsimp only at hs1
  obtain ⟨p0_hN, p1_hN, p2_hN⟩ := (uH hN).box
  have f0_hN := (uH hN).frozen 0
  have f1_hN := (uH hN).frozen 1
  have f2_hN := (uH hN).frozen 2
  have hF := zH (res_fin (k := nk) (t := nt) (a := a1) (m := m1) (c := c1) (f := nc) (B := gb) (w := w) (Nat.le_refl gb) (by omega) (uH hN) ((uH hs1).mono (fun x hx => by have e1 := hx.1; exact ⟨by omega, by omega⟩)) (uH hP) (uH hM))
  go_wp2
  obtain ⟨q1, q2, q3, q4⟩ := uH hF
  obtain ⟨u0, u1, u2⟩ := q1.box
  refine bodyPost_ret (v := .agg #[.int .i64 (nk), .int .i64 (nt), .slice (a1) (m1) (c1)]) (by simp [results, Tryz.results111, go_sem, u0, u1, u2]) rfl ?_
  exact ⟨_, _, _, rfl, (by first | exact q2 | (rw [hgb]; exact q2)), q3, q4⟩
set_option maxHeartbeats 4000000 in
set_option maxRecDepth 100000 in
theorem paBraces_fields {g : Nat} {tv : Value} {L : List Tk} {i d : Nat} {w : World} (h : PaW g tv L i d w) {f : Nat} (HA : ∀ (w : World) (i : Nat), PaW g tv L i d w → Calls Tryz.prog 108 #[.pointer (some ⟨g, 0, none⟩)] w fun e w' => ResN w.heap.size g tv L d w (typedA L 7 i) e w') (hf : f ≤ 1000000) (hne : fldA L f .nil (skN L i) ≠ .out) :
  Calls Tryz.prog 107 #[.pointer (some ⟨g, 0, none⟩), .func (.func 108) #[.pointer (some ⟨g, 0, none⟩)] #[]] w fun e w' => ResF w.heap.size g tv L d w (fldA L f .nil (skN L i)) e w' := by
 have HH := zH HA
 have h0 := zH h
 clear HA
 obtain ⟨R, hR⟩ : ∃ R, fldA L f .nil (skN L i) = R := ⟨_, rfl⟩
 rw [hR] at hne ⊢
 have hP := zH h
 have hM := zH (Moves.refl (fun x => x = g) w)
 go_enter Tryz.func107, Tryz.ntmps107
 go_wp2_with fail
 refine (paSkip_any (uH hP)).mono ?_
 rintro e W2 ⟨rfl, h2, hm⟩
 have hzz := hm.size
 replace hM := zH ((uH hM).trans hm)
 replace hP := zH h2
 clear hm h2
 go_upto_region 3 with fail
 go_loopg [5] f (fun gf s5 wx => ∃ (v5 : Value) (l : F) (j : Nat), v5 = s5 ∧ RowP (fun x => w.heap.size ≤ x) wx w.heap.size s5 l ∧ PaW g tv L j d wx ∧ MoP g w wx ∧ fldA L gf l j = R ∧ l.len + gf ≤ f ∧ gf ≤ f)
 case atStart => exact ⟨_, _, _, rfl, rowP_nil _ _ _, uH hP, uH hM, hR, by simp only [F.len]; omega, Nat.le_refl _⟩
 case round =>
  obtain ⟨v5, l, j, rfl, hRw, hP, hM, hE, hlf, hgf⟩ := hrel
  cases gk with
  | zero =>
   unfold fldA at hE
   exact absurd hE.symm hne
  | succ g' =>
   unfold fldA at hE
   replace hRw := zH hRw
   replace hP := zH hP
   replace hM := zH hM
   clear hR
   cases ho : opA L j [125] with
   | true =>
    simp only [ho, if_true] at hE
    subst hE
    go_wp2_with fail
    refine (paOp_any _ _).mono ?_
    rintro e W20 ⟨rfl, hb⟩
    have h2 := (uH hP).below hb
    have hm := mop_below (g := g) hb
    clear hb
    replace hRw := zH ((uH hRw).mop (uH hP) hm)
    have hzz := hm.size
    replace hM := zH ((uH hM).trans hm)
    replace hP := zH h2
    clear hm h2
    go_wp2_with fail
    have hK := paIs_any (uH hP) (opT [125])
    rw [eqB_op, ho] at hK
    refine (hK).mono ?_
    rintro e W21 ⟨rfl, hb⟩
    have h2 := (uH hP).below hb
    have hm := mop_below (g := g) hb
    clear hb
    replace hRw := zH ((uH hRw).mop (uH hP) hm)
    have hzz := hm.size
    replace hM := zH ((uH hM).trans hm)
    replace hP := zH h2
    clear hm h2
    go_wp2_with fail
    refine (paOp_any _ _).mono ?_
    rintro e W22 ⟨rfl, hb⟩
    have h2 := (uH hP).below hb
    have hm := mop_below (g := g) hb
    clear hb
    replace hRw := zH ((uH hRw).mop (uH hP) hm)
    have hzz := hm.size
    replace hM := zH ((uH hM).trans hm)
    replace hP := zH h2
    clear hm h2
    go_wp2_with fail
    refine (paWant_yes (uH hP) (opT [125]) (by rw [eqB_op]; exact ho) (opA_lt ho)).mono ?_
    rintro e W23 ⟨rfl, h2, hm⟩
    replace hRw := zH ((uH hRw).mop (uH hP) hm)
    have hzz := hm.size
    replace hM := zH ((uH hM).trans hm)
    replace hP := zH h2
    clear hm h2
    obtain ⟨av, cv, rfl, hsl⟩ := (uH hRw).sl (fun _ h => h)
    replace hsl := zH hsl
    clear hRw
    go_wp2
    go_ret
    exact ⟨av, cv, rfl, uH hsl, uH hP, uH hM⟩
   | false =>
    simp only [ho, Bool.false_eq_true, if_false] at hE
    have hne1 : typedA L 7 j ≠ .out := fun e => hne (by rw [← hE, e]; rfl)
    have hH := zH (fun w h => uH HH w j h)
    cases hr : typedA L 7 j with
    | out => exact absurd hr hne1
    | bad j2 =>
     rw [hr] at hE hH
     simp only [PR.bind] at hE
     subst hE
     go_wp2_with fail
     refine (paOp_any _ _).mono ?_
     rintro e W20 ⟨rfl, hb⟩
     have h2 := (uH hP).below hb
     have hm := mop_below (g := g) hb
     clear hb
     replace hRw := zH ((uH hRw).mop (uH hP) hm)
     have hzz := hm.size
     replace hM := zH ((uH hM).trans hm)
     replace hP := zH h2
     clear hm h2
     go_wp2_with fail
     have hK := paIs_any (uH hP) (opT [125])
     rw [eqB_op, ho] at hK
     refine (hK).mono ?_
     rintro e W21 ⟨rfl, hb⟩
     have h2 := (uH hP).below hb
     have hm := mop_below (g := g) hb
     clear hb
     replace hRw := zH ((uH hRw).mop (uH hP) hm)
     have hzz := hm.size
     replace hM := zH ((uH hM).trans hm)
     replace hP := zH h2
     clear hm h2
     go_wp2_with fail
     refine (uH hH _ (uH hP)).mono ?_
     rintro e W22 hBad
     obtain rfl := hBad.1
     have hG := zH (hBad.pre (uH hM))
     clear hBad
     go_wp2
     exact ⟨rfl, uH hG⟩
    | ok n j2 =>
     obtain ⟨nk, nt, nc⟩ := n
     rw [hr] at hE hH
     simp only [PR.bind, snoc, one] at hE
     cases ho2 : opA L j2 [125] with
     | true =>
      simp only [ho2, if_true] at hE
      go_wp2_with fail
      refine (paOp_any _ _).mono ?_
      rintro e W20 ⟨rfl, hb⟩
      have h2 := (uH hP).below hb
      have hm := mop_below (g := g) hb
      clear hb
      replace hRw := zH ((uH hRw).mop (uH hP) hm)
      have hzz := hm.size
      replace hM := zH ((uH hM).trans hm)
      replace hP := zH h2
      clear hm h2
      go_wp2_with fail
      have hK := paIs_any (uH hP) (opT [125])
      rw [eqB_op, ho] at hK
      refine (hK).mono ?_
      rintro e W21 ⟨rfl, hb⟩
      have h2 := (uH hP).below hb
      have hm := mop_below (g := g) hb
      clear hb
      replace hRw := zH ((uH hRw).mop (uH hP) hm)
      have hzz := hm.size
      replace hM := zH ((uH hM).trans hm)
      replace hP := zH h2
      clear hm h2
      go_wp2_with fail
      refine (uH hH _ (uH hP)).mono ?_
      rintro e W30 ⟨a2, m2, c2, rfl, hs, h2, hm⟩
      dsimp only at hs
      have hRl := (uH hRw).lt
      have hRw2 := (uH hRw).mop (uH hP) hm
      have hwl := (uH hM).size
      replace hM := (uH hM).trans hm
      have hzs := hm.size
      have hz31 := hM.size
      have hL2 : SlQ (fun x => w.heap.size ≤ x ∧ v5.ownBlock ≠ some x ∧ x < (W30.alloc (.cells #[.int .i64 nk, .int .i64 nt, .slice a2 m2 c2] 24 (0, 0))).heap.size) (W30.alloc (.cells #[.int .i64 nk, .int .i64 nt, .slice a2 m2 c2] 24 (0, 0))) (some ⟨W30.heap.size, 0, none⟩) 1 1 (.cons nk nt nc .nil) :=
       (lit1_sl (P := fun x => w.heap.size ≤ x ∧ v5.ownBlock ≠ some x) W30 nk nt a2 m2 c2 nc (hs.mono (fun x hx => ⟨by have e1 := hx.1; omega, fun e => by have := hRl x e; have e1 := hx.1; omega⟩)) ⟨hz31, fun e => by have := hRl _ e; omega⟩).mono (fun x hx => ⟨hx.1.1, hx.1.2, hx.lt⟩)
      have hRw3 := hRw2.below (below_alloc W30 (.cells #[.int .i64 nk, .int .i64 nt, .slice a2 m2 c2] 24 (0, 0)))
      have hP3 := zH (h2.below (below_alloc W30 (.cells #[.int .i64 nk, .int .i64 nt, .slice a2 m2 c2] 24 (0, 0))))
      have hM3 := zH (hM.trans (mop_below (g := g) (below_alloc W30 (.cells #[.int .i64 nk, .int .i64 nt, .slice a2 m2 c2] 24 (0, 0)))))
      have hz32 : w.heap.size ≤ (W30.alloc (.cells #[.int .i64 nk, .int .i64 nt, .slice a2 m2 c2] 24 (0, 0))).heap.size := by simp; omega
      clear hs h2 hm hM hRw hRw2 hP
      obtain ⟨gl2, hgl2⟩ : ∃ x, W30.heap.size = x := ⟨_, rfl⟩
      obtain ⟨WA, hq_WA⟩ : ∃ x, W30.alloc (.cells #[.int .i64 nk, .int .i64 nt, .slice a2 m2 c2] 24 (0, 0)) = x := ⟨_, rfl⟩
      rw [hq_WA] at hL2 hRw3 hP3 hM3 hz32
      rw [hgl2] at hL2
      replace hL2 := zH hL2
      replace hRw3 := zH hRw3
      have hE' := zH hE
      go_wp2_with (at_builtin; refine wpList_append_rowP rfl (.tmp 12) (.tmp 15) rfl rfl (uH hRw3) rfl (uH hL2) (by omega) hz32 ?_)
      intro v4 W40 hR4 hb4 hg4 hl4
      have hP := zH ((uH hP3).belowB (uH h0) hb4)
      have hM := zH (mop_belowB (uH h0) hb4 hz32 (uH hM3))
      have hRw := zH hR4
      clear hb4 hg4 hl4 hL2 hRw3 hP3 hM3 hq_WA hgl2 hR4
      go_wp2_with fail
      refine (paOp_any _ _).mono ?_
      rintro e W41 ⟨rfl, hb⟩
      have h2 := (uH hP).below hb
      have hm := mop_below (g := g) hb
      clear hb
      replace hRw := zH ((uH hRw).mop (uH hP) hm)
      have hzz := hm.size
      replace hM := zH ((uH hM).trans hm)
      replace hP := zH h2
      clear hm h2
      go_wp2_with fail
      have hK := paIs_any (uH hP) (opT [125])
      rw [eqB_op, ho2] at hK
      refine (hK).mono ?_
      rintro e W42 ⟨rfl, hb⟩
      have h2 := (uH hP).below hb
      have hm := mop_below (g := g) hb
      clear hb
      replace hRw := zH ((uH hRw).mop (uH hP) hm)
      have hzz := hm.size
      replace hM := zH ((uH hM).trans hm)
      replace hP := zH h2
      clear hm h2
      go_wp2_with fail
      refine (paSkip_any (uH hP)).mono ?_
      rintro e W43 ⟨rfl, h2, hm⟩
      replace hRw := zH ((uH hRw).mop (uH hP) hm)
      have hzz := hm.size
      replace hM := zH ((uH hM).trans hm)
      replace hP := zH h2
      clear hm h2
      have hX := zH (And.intro (uH hRw) (And.intro (uH hP) (uH hM)))
      clear hE
      go_wp2
      go_roundg g'
      case measure => omega
      case rel => exact ⟨_, _, _, rfl, (uH hX).1, (uH hX).2.1, (uH hX).2.2, uH hE', by rw [F.len_app]; simp only [F.len]; omega, by omega⟩
     | false =>
      simp only [ho2, Bool.false_eq_true, if_false, wantA] at hE
      cases hk2 : knd L j2 6 with
      | false =>
       simp only [hk2, Bool.false_eq_true, if_false] at hE
       subst hE
       go_wp2_with fail
       refine (paOp_any _ _).mono ?_
       rintro e W20 ⟨rfl, hb⟩
       have h2 := (uH hP).below hb
       have hm := mop_below (g := g) hb
       clear hb
       replace hRw := zH ((uH hRw).mop (uH hP) hm)
       have hzz := hm.size
       replace hM := zH ((uH hM).trans hm)
       replace hP := zH h2
       clear hm h2
       go_wp2_with fail
       have hK := paIs_any (uH hP) (opT [125])
       rw [eqB_op, ho] at hK
       refine (hK).mono ?_
       rintro e W21 ⟨rfl, hb⟩
       have h2 := (uH hP).below hb
       have hm := mop_below (g := g) hb
       clear hb
       replace hRw := zH ((uH hRw).mop (uH hP) hm)
       have hzz := hm.size
       replace hM := zH ((uH hM).trans hm)
       replace hP := zH h2
       clear hm h2
       go_wp2_with fail
       refine (uH hH _ (uH hP)).mono ?_
       rintro e W30 ⟨a2, m2, c2, rfl, hs, h2, hm⟩
       dsimp only at hs
       have hRl := (uH hRw).lt
       have hRw2 := (uH hRw).mop (uH hP) hm
       have hwl := (uH hM).size
       replace hM := (uH hM).trans hm
       have hzs := hm.size
       have hz31 := hM.size
       have hL2 : SlQ (fun x => w.heap.size ≤ x ∧ v5.ownBlock ≠ some x ∧ x < (W30.alloc (.cells #[.int .i64 nk, .int .i64 nt, .slice a2 m2 c2] 24 (0, 0))).heap.size) (W30.alloc (.cells #[.int .i64 nk, .int .i64 nt, .slice a2 m2 c2] 24 (0, 0))) (some ⟨W30.heap.size, 0, none⟩) 1 1 (.cons nk nt nc .nil) :=
        (lit1_sl (P := fun x => w.heap.size ≤ x ∧ v5.ownBlock ≠ some x) W30 nk nt a2 m2 c2 nc (hs.mono (fun x hx => ⟨by have e1 := hx.1; omega, fun e => by have := hRl x e; have e1 := hx.1; omega⟩)) ⟨hz31, fun e => by have := hRl _ e; omega⟩).mono (fun x hx => ⟨hx.1.1, hx.1.2, hx.lt⟩)
       have hRw3 := hRw2.below (below_alloc W30 (.cells #[.int .i64 nk, .int .i64 nt, .slice a2 m2 c2] 24 (0, 0)))
       have hP3 := zH (h2.below (below_alloc W30 (.cells #[.int .i64 nk, .int .i64 nt, .slice a2 m2 c2] 24 (0, 0))))
       have hM3 := zH (hM.trans (mop_below (g := g) (below_alloc W30 (.cells #[.int .i64 nk, .int .i64 nt, .slice a2 m2 c2] 24 (0, 0)))))
       have hz32 : w.heap.size ≤ (W30.alloc (.cells #[.int .i64 nk, .int .i64 nt, .slice a2 m2 c2] 24 (0, 0))).heap.size := by simp; omega
       clear hs h2 hm hM hRw hRw2 hP
       obtain ⟨gl2, hgl2⟩ : ∃ x, W30.heap.size = x := ⟨_, rfl⟩
       obtain ⟨WA, hq_WA⟩ : ∃ x, W30.alloc (.cells #[.int .i64 nk, .int .i64 nt, .slice a2 m2 c2] 24 (0, 0)) = x := ⟨_, rfl⟩
       rw [hq_WA] at hL2 hRw3 hP3 hM3 hz32
       rw [hgl2] at hL2
       replace hL2 := zH hL2
       replace hRw3 := zH hRw3
       go_wp2_with (at_builtin; refine wpList_append_rowP rfl (.tmp 12) (.tmp 15) rfl rfl (uH hRw3) rfl (uH hL2) (by omega) hz32 ?_)
       intro v4 W40 hR4 hb4 hg4 hl4
       have hP := zH ((uH hP3).belowB (uH h0) hb4)
       have hM := zH (mop_belowB (uH h0) hb4 hz32 (uH hM3))
       have hRw := zH hR4
       clear hb4 hg4 hl4 hL2 hRw3 hP3 hM3 hq_WA hgl2 hR4
       go_wp2_with fail
       refine (paOp_any _ _).mono ?_
       rintro e W41 ⟨rfl, hb⟩
       have h2 := (uH hP).below hb
       have hm := mop_below (g := g) hb
       clear hb
       replace hRw := zH ((uH hRw).mop (uH hP) hm)
       have hzz := hm.size
       replace hM := zH ((uH hM).trans hm)
       replace hP := zH h2
       clear hm h2
       go_wp2_with fail
       have hK := paIs_any (uH hP) (opT [125])
       rw [eqB_op, ho2] at hK
       refine (hK).mono ?_
       rintro e W42 ⟨rfl, hb⟩
       have h2 := (uH hP).below hb
       have hm := mop_below (g := g) hb
       clear hb
       replace hRw := zH ((uH hRw).mop (uH hP) hm)
       have hzz := hm.size
       replace hM := zH ((uH hM).trans hm)
       replace hP := zH h2
       clear hm h2
       go_wp2_with fail
       refine (paWantKind_no (uH hP) 6 hk2).mono ?_
       rintro e W43 hBad
       obtain rfl := hBad.1
       have hG := zH (hBad.pre (uH hM))
       clear hBad
       go_wp2
       exact ⟨rfl, uH hG⟩
      | true =>
       simp only [hk2, if_true] at hE
       go_wp2_with fail
       refine (paOp_any _ _).mono ?_
       rintro e W20 ⟨rfl, hb⟩
       have h2 := (uH hP).below hb
       have hm := mop_below (g := g) hb
       clear hb
       replace hRw := zH ((uH hRw).mop (uH hP) hm)
       have hzz := hm.size
       replace hM := zH ((uH hM).trans hm)
       replace hP := zH h2
       clear hm h2
       go_wp2_with fail
       have hK := paIs_any (uH hP) (opT [125])
       rw [eqB_op, ho] at hK
       refine (hK).mono ?_
       rintro e W21 ⟨rfl, hb⟩
       have h2 := (uH hP).below hb
       have hm := mop_below (g := g) hb
       clear hb
       replace hRw := zH ((uH hRw).mop (uH hP) hm)
       have hzz := hm.size
       replace hM := zH ((uH hM).trans hm)
       replace hP := zH h2
       clear hm h2
       go_wp2_with fail
       refine (uH hH _ (uH hP)).mono ?_
       rintro e W30 ⟨a2, m2, c2, rfl, hs, h2, hm⟩
       dsimp only at hs
       have hRl := (uH hRw).lt
       have hRw2 := (uH hRw).mop (uH hP) hm
       have hwl := (uH hM).size
       replace hM := (uH hM).trans hm
       have hzs := hm.size
       have hz31 := hM.size
       have hL2 : SlQ (fun x => w.heap.size ≤ x ∧ v5.ownBlock ≠ some x ∧ x < (W30.alloc (.cells #[.int .i64 nk, .int .i64 nt, .slice a2 m2 c2] 24 (0, 0))).heap.size) (W30.alloc (.cells #[.int .i64 nk, .int .i64 nt, .slice a2 m2 c2] 24 (0, 0))) (some ⟨W30.heap.size, 0, none⟩) 1 1 (.cons nk nt nc .nil) :=
        (lit1_sl (P := fun x => w.heap.size ≤ x ∧ v5.ownBlock ≠ some x) W30 nk nt a2 m2 c2 nc (hs.mono (fun x hx => ⟨by have e1 := hx.1; omega, fun e => by have := hRl x e; have e1 := hx.1; omega⟩)) ⟨hz31, fun e => by have := hRl _ e; omega⟩).mono (fun x hx => ⟨hx.1.1, hx.1.2, hx.lt⟩)
       have hRw3 := hRw2.below (below_alloc W30 (.cells #[.int .i64 nk, .int .i64 nt, .slice a2 m2 c2] 24 (0, 0)))
       have hP3 := zH (h2.below (below_alloc W30 (.cells #[.int .i64 nk, .int .i64 nt, .slice a2 m2 c2] 24 (0, 0))))
       have hM3 := zH (hM.trans (mop_below (g := g) (below_alloc W30 (.cells #[.int .i64 nk, .int .i64 nt, .slice a2 m2 c2] 24 (0, 0)))))
       have hz32 : w.heap.size ≤ (W30.alloc (.cells #[.int .i64 nk, .int .i64 nt, .slice a2 m2 c2] 24 (0, 0))).heap.size := by simp; omega
       clear hs h2 hm hM hRw hRw2 hP
       obtain ⟨gl2, hgl2⟩ : ∃ x, W30.heap.size = x := ⟨_, rfl⟩
       obtain ⟨WA, hq_WA⟩ : ∃ x, W30.alloc (.cells #[.int .i64 nk, .int .i64 nt, .slice a2 m2 c2] 24 (0, 0)) = x := ⟨_, rfl⟩
       rw [hq_WA] at hL2 hRw3 hP3 hM3 hz32
       rw [hgl2] at hL2
       replace hL2 := zH hL2
       replace hRw3 := zH hRw3
       have hE' := zH hE
       go_wp2_with (at_builtin; refine wpList_append_rowP rfl (.tmp 12) (.tmp 15) rfl rfl (uH hRw3) rfl (uH hL2) (by omega) hz32 ?_)
       intro v4 W40 hR4 hb4 hg4 hl4
       have hP := zH ((uH hP3).belowB (uH h0) hb4)
       have hM := zH (mop_belowB (uH h0) hb4 hz32 (uH hM3))
       have hRw := zH hR4
       clear hb4 hg4 hl4 hL2 hRw3 hP3 hM3 hq_WA hgl2 hR4
       go_wp2_with fail
       refine (paOp_any _ _).mono ?_
       rintro e W41 ⟨rfl, hb⟩
       have h2 := (uH hP).below hb
       have hm := mop_below (g := g) hb
       clear hb
       replace hRw := zH ((uH hRw).mop (uH hP) hm)
       have hzz := hm.size
       replace hM := zH ((uH hM).trans hm)
       replace hP := zH h2
       clear hm h2
       go_wp2_with fail
       have hK := paIs_any (uH hP) (opT [125])
       rw [eqB_op, ho2] at hK
       refine (hK).mono ?_
       rintro e W42 ⟨rfl, hb⟩
       have h2 := (uH hP).below hb
       have hm := mop_below (g := g) hb
       clear hb
       replace hRw := zH ((uH hRw).mop (uH hP) hm)
       have hzz := hm.size
       replace hM := zH ((uH hM).trans hm)
       replace hP := zH h2
       clear hm h2
       go_wp2_with fail
       refine (paWantKind_yes (uH hP) 6 hk2 (by decide)).mono ?_
       rintro e W43 ⟨rfl, h2, hm⟩
       replace hRw := zH ((uH hRw).mop (uH hP) hm)
       have hzz := hm.size
       replace hM := zH ((uH hM).trans hm)
       replace hP := zH h2
       clear hm h2
       go_wp2_with fail
       refine (paSkip_any (uH hP)).mono ?_
       rintro e W44 ⟨rfl, h2, hm⟩
       replace hRw := zH ((uH hRw).mop (uH hP) hm)
       have hzz := hm.size
       replace hM := zH ((uH hM).trans hm)
       replace hP := zH h2
       clear hm h2
       have hX := zH (And.intro (uH hRw) (And.intro (uH hP) (uH hM)))
       clear hE
       go_wp2
       go_roundg g'
       case measure => omega
       case rel => exact ⟨_, _, _, rfl, (uH hX).1, (uH hX).2.1, (uH hX).2.2, uH hE', by rw [F.len_app]; simp only [F.len]; omega, by omega⟩
end Go.Proofs.YtiknnobgoamgcaaGreatDoor

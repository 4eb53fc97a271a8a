/-
  1 texts in one.
-/
import Derived.Test.YtiknnobgoamgcaaGreatDoorB09
/-
  The parser: if with its else; for.
-/
namespace Go.Proofs.YtiknnobgoamgcaaGreatDoor
open Go.RowKit Go.Lib Go.Sort
set_option linter.unusedSimpArgs false
set_option linter.unusedVariables false
theorem cf_paOtherwise (us : Array Value) (W : World) : Sem.run Tryz.prog (callFunc 157 us) W = .ok (.enter 157 us) W := by kernel_rfl
theorem guaA_kind {L : List Tk} {f : Nat} {kind : Int} {x : List UInt8} {i d j : Nat} {n : Nd} (h : guaA L f kind x i d = .ok n j) : n.k = kind := by
 cases f with
 | zero => unfold guaA at h; cases h
 | succ f =>
  unfold guaA wantA at h
  split at h
  ·
   cases h1 : absA L f 0 (i + 1) d with
   | out => rw [h1] at h; cases h
   | bad j => rw [h1] at h; cases h
   | ok e k =>
    rw [h1] at h
    simp only [PR.bind] at h
    cases h2 : blkA L f k d with
    | out => rw [h2] at h; cases h
    | bad j => rw [h2] at h; cases h
    | ok b l =>
     rw [h2] at h
     injection h with h3 h4
     rw [← h3]
  ·
   cases h
theorem keyT_if : (Tk.val ⟨5, ⟨#[105, 102]⟩, 0, 0, false⟩) = (keyT kIf).val := rfl
theorem keyT_for : (Tk.val ⟨5, ⟨#[102, 111, 114]⟩, 0, 0, false⟩) = (keyT kFor).val := rfl
/-- A row that a call answered, behind a box made after it. -/
theorem RowP.boxed {w : World} {B gb b : Nat} {v : Value} {f : F} (h : RowP (fun x => B ≤ x) w B v f) (hB : gb < B) (hb : w.heap.size ≤ b) : RowP (fun x => gb < x ∧ x ≠ b) w (gb + 1) v f ∧ ∀ y, v.ownBlock = some y → y ≠ b :=
 ⟨(h.mono (fun x hx hl => ⟨by omega, by omega⟩)).base (fun y hy => by have := h.lt y hy; omega), fun y hy => by have := h.lt y hy; omega⟩
theorem guaA_len {L : List Tk} {f : Nat} {kind : Int} {x : List UInt8} {i d j : Nat} {n : Nd} (h : guaA L f kind x i d = .ok n j) : n.c.len = 2 := by
 cases f with
 | zero => unfold guaA at h; cases h
 | succ f =>
  unfold guaA wantA at h
  split at h
  ·
   cases h1 : absA L f 0 (i + 1) d with
   | out => rw [h1] at h; cases h
   | bad j => rw [h1] at h; cases h
   | ok e k =>
    rw [h1] at h
    simp only [PR.bind] at h
    cases h2 : blkA L f k d with
    | out => rw [h2] at h; cases h
    | bad j => rw [h2] at h; cases h
    | ok b l =>
     rw [h2] at h
     injection h with h3 h4
     rw [← h3]
     rfl
  ·
   cases h
set_option maxHeartbeats 4000000 in
set_option maxRecDepth 100000 in
theorem paChoice_step {g : Nat} {tv : Value} {L : List Tk} {i d : Nat} {w : World} (h : PaW g tv L i d w) {f : Nat} (HG : ∀ (w : World) (i d : Nat), PaW g tv L i d w → d ≤ 40 → guaA L f 14 kIf i d ≠ .out → Calls Tryz.prog 156 #[.pointer (some ⟨g, 0, none⟩), .int .i64 14, (keyT kIf).val] w fun e w' => ResR w.heap.size g tv L d w (guaA L f 14 kIf i d) e w') (HO : ∀ (w : World) (i : Nat), PaW g tv L i d w → othA L f i d ≠ .out → Calls Tryz.prog 157 #[.pointer (some ⟨g, 0, none⟩)] w fun e w' => ResN w.heap.size g tv L d w (othA L f i d) e w') (hd : d ≤ 40) (hne : choA L (f + 1) i d ≠ .out) :
  Calls Tryz.prog 139 #[.pointer (some ⟨g, 0, none⟩)] w fun e w' => ResN w.heap.size g tv L d w (choA L (f + 1) i d) e w' := by
 unfold choA at hne ⊢
 have hne1 : guaA L f 14 kIf i d ≠ .out := fun e => hne (by rw [e]; rfl)
 have hH := zH (fun w h => HG w i d h hd hne1)
 clear HG
 cases hr : guaA L f 14 kIf i d with
 | out => exact absurd hr hne1
 | bad j =>
  simp only [PR.bind]
  clear HO
  have hP := zH (h.alloc (.cells #[.int .i64 0, .int .i64 0, .slice none 0 0] 24 (0, 0))).1
  have hM := zH (h.alloc (.cells #[.int .i64 0, .int .i64 0, .slice none 0 0] 24 (0, 0))).2
  have hN := zH (nblk_new w 0 0 none 0 0)
  obtain ⟨gb, hgb⟩ : ∃ gb, w.heap.size = gb := ⟨_, rfl⟩
  have hz : (w.alloc (.cells #[.int .i64 0, .int .i64 0, .slice none 0 0] 24 (0, 0))).heap.size = gb + 1 := by simp [hgb]
  have hgl : g < gb := by have := h.lt; omega
  rw [hgb] at hN
  obtain ⟨W1, hq_W1⟩ : ∃ W1, w.alloc (.cells #[.int .i64 0, .int .i64 0, .slice none 0 0] 24 (0, 0)) = W1 := ⟨_, rfl⟩
  rw [hq_W1] at hP hM hN hz
  replace hz := And.intro (Nat.le_of_eq hz) (Nat.le_of_eq hz.symm)
  replace h := zH h
  go_enter Tryz.func139, Tryz.ntmps139
  go_wp2_with fail
  clear hq_W1
  refine (paKey_any _ _).mono ?_
  rintro e W2 ⟨rfl, hb⟩
  have h2 := (uH hP).below hb
  have hm := mop_below (g := g) hb
  clear hb
  replace hN := zH ((uH hN).mop (uH hP) hm)
  have hzz := hm.size
  replace hM := zH ((uH hM).trans hm)
  replace hP := zH h2
  clear hm h2
  go_wp2_with fail
  have hC := uH hH _ (uH hP)
  rw [hr] at hC
  refine (hC).mono ?_
  rintro e W3 hBad
  obtain rfl := hBad.1
  have hG := zH (hBad.pre (uH hM))
  clear hBad
  go_wp2
  exact ⟨rfl, uH hG⟩
 | ok n j0 =>
  have hk14 := guaA_kind hr
  have hln := guaA_len hr
  obtain ⟨nk, nt, nc⟩ := n
  dsimp only at hk14 hln
  subst hk14
  have hnl := zH hln
  clear hln
  rw [hr] at hne
  simp only [PR.bind] at hne ⊢
  cases ho : keyA L j0 [101, 108, 115, 101] with
  | false =>
   simp only [ho, Bool.false_eq_true, if_false] at hne ⊢
   clear HO
   have hP := zH (h.alloc (.cells #[.int .i64 0, .int .i64 0, .slice none 0 0] 24 (0, 0))).1
   have hM := zH (h.alloc (.cells #[.int .i64 0, .int .i64 0, .slice none 0 0] 24 (0, 0))).2
   have hN := zH (nblk_new w 0 0 none 0 0)
   obtain ⟨gb, hgb⟩ : ∃ gb, w.heap.size = gb := ⟨_, rfl⟩
   have hz : (w.alloc (.cells #[.int .i64 0, .int .i64 0, .slice none 0 0] 24 (0, 0))).heap.size = gb + 1 := by simp [hgb]
   have hgl : g < gb := by have := h.lt; omega
   rw [hgb] at hN
   obtain ⟨W1, hq_W1⟩ : ∃ W1, w.alloc (.cells #[.int .i64 0, .int .i64 0, .slice none 0 0] 24 (0, 0)) = W1 := ⟨_, rfl⟩
   rw [hq_W1] at hP hM hN hz
   replace hz := And.intro (Nat.le_of_eq hz) (Nat.le_of_eq hz.symm)
   replace h := zH h
   go_enter Tryz.func139, Tryz.ntmps139
   go_wp2_with fail
   clear hq_W1
   refine (paKey_any _ _).mono ?_
   rintro e W2 ⟨rfl, hb⟩
   have h2 := (uH hP).below hb
   have hm := mop_below (g := g) hb
   clear hb
   replace hN := zH ((uH hN).mop (uH hP) hm)
   have hzz := hm.size
   replace hM := zH ((uH hM).trans hm)
   replace hP := zH h2
   clear hm h2
   go_wp2_with fail
   have hC := uH hH _ (uH hP)
   rw [hr] at hC
   refine (hC).mono ?_
   rintro e W3 ⟨a1, m1, c1, rfl, hs, h2, hm⟩
   dsimp only at hs
   have hzs := hm.size
   have hbx := hs.boxed (gb := gb) (b := W3.heap.size) (by omega) (Nat.le_refl _)
   clear hs
   have hR := zH hbx.1
   have hRo := zH hbx.2
   clear hbx
   replace hN := zH ((uH hN).mop (uH hP) hm)
   have hzz := hm.size
   replace hM := zH ((uH hM).trans hm)
   replace hP := zH h2
   clear hm h2
   obtain ⟨b1, hq_b1⟩ : ∃ x, W3.heap.size = x := ⟨_, rfl⟩
   have hB := zH (nblk_new W3 14 nt a1 m1 c1)
   have hm := mop_below (g := g) (below_alloc W3 (.cells #[.int .i64 14, .int .i64 nt, .slice a1 m1 c1] 24 (0, 0)))
   have h2 := (uH hP).below (below_alloc W3 (.cells #[.int .i64 14, .int .i64 nt, .slice a1 m1 c1] 24 (0, 0)))
   have hzs : (W3.alloc (.cells #[.int .i64 14, .int .i64 nt, .slice a1 m1 c1] 24 (0, 0))).heap.size = b1 + 1 := by simp [hq_b1]
   obtain ⟨W4, hq_W4⟩ : ∃ x, W3.alloc (.cells #[.int .i64 14, .int .i64 nt, .slice a1 m1 c1] 24 (0, 0)) = x := ⟨_, rfl⟩
   rw [hq_W4] at hB hm h2 hzs
   replace hzs := And.intro (Nat.le_of_eq hzs) (Nat.le_of_eq hzs.symm)
   rw [hq_b1] at hB
   replace hq_W4 := zH hq_W4
   replace hN := zH ((uH hN).mop (uH hP) hm)
   replace hR := zH ((uH hR).mop (uH hP) hm)
   have hzz := hm.size
   replace hM := zH ((uH hM).trans hm)
   replace hP := zH h2
   clear hm h2
   rw [hq_b1] at hR hRo
   go_wp2_with fail
   rw [uH hq_W4]
   clear hq_W4
   refine (paKey_any _ _).mono ?_
   rintro e W5 ⟨rfl, hb⟩
   have h2 := (uH hP).below hb
   have hm := mop_below (g := g) hb
   clear hb
   replace hN := zH ((uH hN).mop (uH hP) hm)
   replace hB := zH ((uH hB).mop (uH hP) hm)
   replace hR := zH ((uH hR).mop (uH hP) hm)
   have hzz := hm.size
   replace hM := zH ((uH hM).trans hm)
   replace hP := zH h2
   clear hm h2
   go_wp2_with fail
   refine (paTake_no (uH hP) (keyT [101, 108, 115, 101]) (by rw [eqB_key]; exact ho)).mono ?_
   rintro e W6 ⟨rfl, h2, hm⟩
   replace hN := zH ((uH hN).mop (uH hP) hm)
   replace hB := zH ((uH hB).mop (uH hP) hm)
   replace hR := zH ((uH hR).mop (uH hP) hm)
   have hzz := hm.size
   replace hM := zH ((uH hM).trans hm)
   replace hP := zH h2
   clear hm h2
   obtain ⟨p0_hB, p1_hB, p2_hB⟩ := (uH hB).box
   have f0_hB := (uH hB).frozen 0
   have f1_hB := (uH hB).frozen 1
   have f2_hB := (uH hB).frozen 2
   obtain ⟨p0_hN, p1_hN, p2_hN⟩ := (uH hN).box
   have f0_hN := (uH hN).frozen 0
   have f1_hN := (uH hN).frozen 1
   have f2_hN := (uH hN).frozen 2
   have hF := zH (res_finR (k := 14) (t := nt) (w := w) (gb := gb) (by omega) (uH hN) (uH hR) (fun x hx => hx.1) (uH hP) (uH hM))
   go_wp2
   obtain ⟨q1, q2, q3, q4⟩ := uH hF
   obtain ⟨u0, u1, u2⟩ := q1.box
   refine bodyPost_ret (v := .agg #[.int .i64 (14), .int .i64 (nt), .slice (a1) (m1) (c1)]) (by simp [results, Tryz.results139, go_sem, u0, u1, u2]) rfl ?_
   exact ResR.n (r := .ok ⟨14, nt, nc⟩ j0) ⟨_, _, _, rfl, (by first | exact q2 | (rw [hgb]; exact q2) | exact (q2.mono (fun y hy _ => by omega)).base (fun y hy => by have := q2.lt y hy; omega)), q3, q4⟩
  | true =>
   simp only [ho, if_true] at hne ⊢
   have hne2 : othA L f (j0 + 1) d ≠ .out := fun e => hne (by rw [e])
   have hHo := zH (fun w h => HO w (j0 + 1) h hne2)
   clear HO hne
   cases hro : othA L f (j0 + 1) d with
   | out => exact absurd hro hne2
   | bad j2 =>
    rw [hro] at hHo
    dsimp only
    have hP := zH (h.alloc (.cells #[.int .i64 0, .int .i64 0, .slice none 0 0] 24 (0, 0))).1
    have hM := zH (h.alloc (.cells #[.int .i64 0, .int .i64 0, .slice none 0 0] 24 (0, 0))).2
    have hN := zH (nblk_new w 0 0 none 0 0)
    obtain ⟨gb, hgb⟩ : ∃ gb, w.heap.size = gb := ⟨_, rfl⟩
    have hz : (w.alloc (.cells #[.int .i64 0, .int .i64 0, .slice none 0 0] 24 (0, 0))).heap.size = gb + 1 := by simp [hgb]
    have hgl : g < gb := by have := h.lt; omega
    rw [hgb] at hN
    obtain ⟨W1, hq_W1⟩ : ∃ W1, w.alloc (.cells #[.int .i64 0, .int .i64 0, .slice none 0 0] 24 (0, 0)) = W1 := ⟨_, rfl⟩
    rw [hq_W1] at hP hM hN hz
    replace hz := And.intro (Nat.le_of_eq hz) (Nat.le_of_eq hz.symm)
    replace h := zH h
    go_enter Tryz.func139, Tryz.ntmps139
    go_wp2_with fail
    clear hq_W1
    refine (paKey_any _ _).mono ?_
    rintro e W2 ⟨rfl, hb⟩
    have h2 := (uH hP).below hb
    have hm := mop_below (g := g) hb
    clear hb
    replace hN := zH ((uH hN).mop (uH hP) hm)
    have hzz := hm.size
    replace hM := zH ((uH hM).trans hm)
    replace hP := zH h2
    clear hm h2
    go_wp2_with fail
    have hC := uH hH _ (uH hP)
    rw [hr] at hC
    refine (hC).mono ?_
    rintro e W3 ⟨a1, m1, c1, rfl, hs, h2, hm⟩
    dsimp only at hs
    have hzs := hm.size
    have hbx := hs.boxed (gb := gb) (b := W3.heap.size) (by omega) (Nat.le_refl _)
    clear hs
    have hR := zH hbx.1
    have hRo := zH hbx.2
    clear hbx
    replace hN := zH ((uH hN).mop (uH hP) hm)
    have hzz := hm.size
    replace hM := zH ((uH hM).trans hm)
    replace hP := zH h2
    clear hm h2
    obtain ⟨b1, hq_b1⟩ : ∃ x, W3.heap.size = x := ⟨_, rfl⟩
    have hB := zH (nblk_new W3 14 nt a1 m1 c1)
    have hm := mop_below (g := g) (below_alloc W3 (.cells #[.int .i64 14, .int .i64 nt, .slice a1 m1 c1] 24 (0, 0)))
    have h2 := (uH hP).below (below_alloc W3 (.cells #[.int .i64 14, .int .i64 nt, .slice a1 m1 c1] 24 (0, 0)))
    have hzs : (W3.alloc (.cells #[.int .i64 14, .int .i64 nt, .slice a1 m1 c1] 24 (0, 0))).heap.size = b1 + 1 := by simp [hq_b1]
    obtain ⟨W4, hq_W4⟩ : ∃ x, W3.alloc (.cells #[.int .i64 14, .int .i64 nt, .slice a1 m1 c1] 24 (0, 0)) = x := ⟨_, rfl⟩
    rw [hq_W4] at hB hm h2 hzs
    replace hzs := And.intro (Nat.le_of_eq hzs) (Nat.le_of_eq hzs.symm)
    rw [hq_b1] at hB
    replace hq_W4 := zH hq_W4
    replace hN := zH ((uH hN).mop (uH hP) hm)
    replace hR := zH ((uH hR).mop (uH hP) hm)
    have hzz := hm.size
    replace hM := zH ((uH hM).trans hm)
    replace hP := zH h2
    clear hm h2
    rw [hq_b1] at hR hRo
    go_wp2_with fail
    rw [uH hq_W4]
    clear hq_W4
    refine (paKey_any _ _).mono ?_
    rintro e W5 ⟨rfl, hb⟩
    have h2 := (uH hP).below hb
    have hm := mop_below (g := g) hb
    clear hb
    replace hN := zH ((uH hN).mop (uH hP) hm)
    replace hB := zH ((uH hB).mop (uH hP) hm)
    replace hR := zH ((uH hR).mop (uH hP) hm)
    have hzz := hm.size
    replace hM := zH ((uH hM).trans hm)
    replace hP := zH h2
    clear hm h2
    go_wp2_with fail
    refine (paTake_yes (uH hP) (keyT [101, 108, 115, 101]) (by rw [eqB_key]; exact ho) (keyA_lt ho)).mono ?_
    rintro e W6 ⟨rfl, h2, hm⟩
    replace hN := zH ((uH hN).mop (uH hP) hm)
    replace hB := zH ((uH hB).mop (uH hP) hm)
    replace hR := zH ((uH hR).mop (uH hP) hm)
    have hzz := hm.size
    replace hM := zH ((uH hM).trans hm)
    replace hP := zH h2
    clear hm h2
    go_upto_region 3 with fail
    have hb : Below W6.heap.size W6 (World.drew W6) := (Below.refl _ _).drew
    have h2 := (uH hP).below hb
    have hm := mop_below (g := g) hb
    clear hb
    obtain ⟨WD, hq_WD⟩ : ∃ x, World.drew W6 = x := ⟨_, rfl⟩
    rw [hq_WD] at h2 hm
    replace hN := zH ((uH hN).mop (uH hP) hm)
    replace hB := zH ((uH hB).mop (uH hP) hm)
    replace hR := zH ((uH hR).mop (uH hP) hm)
    have hzz := hm.size
    replace hM := zH ((uH hM).trans hm)
    replace hP := zH h2
    clear hm h2
    have hS : NBlk WD b1 14 nt a1 m1 c1 := uH hB
    refine wp_region_D (fun w' => NBlk w' b1 14 nt a1 m1 c1) (fun j => [7].contains j) (by kernel_rfl) ?_
    rw [hq_WD]
    clear hq_WD
    have hbl := (uH hB).lt
    have hRl := (uH hR).lt
    refine wpAnyD_takeC (i := 0) (v := .pointer (some ⟨b1, 2, none⟩)) [7] (fun _ => rfl) rfl (by kernel_rfl) 3 (by kernel_rfl) rfl (by kernel_rfl) (by kernel_rfl) (by kernel_rfl) (fun _ _ _ h => h) (Or.inl ⟨by kernel_rfl, ?_⟩) hS ?_
    ·
     intro w hSw
     go_simp
    try simp only [List.getElem_toArray, List.getElem_cons_succ, List.getElem_cons_zero, Act.put, List.setIfInBounds_toArray, List.set_cons_zero, List.set_cons_succ]
    refine wpAnyD_takeC (i := 1) (v := .slice a1 m1 c1) [7] (fun _ => rfl) rfl (by kernel_rfl) 3 (by kernel_rfl) rfl (by kernel_rfl) (by kernel_rfl) (by kernel_rfl) (fun _ _ _ h => h) (Or.inl ⟨by kernel_rfl, ?_⟩) hS ?_
    ·
     intro w hSw
     obtain ⟨e0, e1, e2⟩ := hSw.box
     go_simp
    try simp only [List.getElem_toArray, List.getElem_cons_succ, List.getElem_cons_zero, Act.put, List.setIfInBounds_toArray, List.set_cons_zero, List.set_cons_succ]
    refine wpAnyD_takeC (i := 2) (v := .pointer (some ⟨g, 0, none⟩)) [7] (fun _ => rfl) rfl (by kernel_rfl) 3 (by kernel_rfl) rfl (by kernel_rfl) (by kernel_rfl) (by kernel_rfl) (fun _ _ _ h => h) (Or.inl ⟨by kernel_rfl, ?_⟩) hS ?_
    ·
     intro w hSw
     go_simp
    try simp only [List.getElem_toArray, List.getElem_cons_succ, List.getElem_cons_zero, Act.put, List.setIfInBounds_toArray, List.set_cons_zero, List.set_cons_succ]
    refine wpAnyD_one (i := 3) rfl (by kernel_rfl) (fun K' hK_ => ?_)
    rw [if_pos (by kernel_rfl)]
    refine oper_callR (run_call1 cf_paOtherwise) ?_
    refine (uH hHo _ (uH hP)).mono ?_
    rintro e W7 hBad
    obtain rfl := hBad.1
    have hG := zH (hBad.pre (uH hM))
    clear hBad
    go_wp2
    exact ⟨rfl, uH hG⟩
   | ok n2 j2 =>
    obtain ⟨ok, ot, oc⟩ := n2
    rw [hro] at hHo
    simp only [snoc, one]
    have hP := zH (h.alloc (.cells #[.int .i64 0, .int .i64 0, .slice none 0 0] 24 (0, 0))).1
    have hM := zH (h.alloc (.cells #[.int .i64 0, .int .i64 0, .slice none 0 0] 24 (0, 0))).2
    have hN := zH (nblk_new w 0 0 none 0 0)
    obtain ⟨gb, hgb⟩ : ∃ gb, w.heap.size = gb := ⟨_, rfl⟩
    have hz : (w.alloc (.cells #[.int .i64 0, .int .i64 0, .slice none 0 0] 24 (0, 0))).heap.size = gb + 1 := by simp [hgb]
    have hgl : g < gb := by have := h.lt; omega
    rw [hgb] at hN
    obtain ⟨W1, hq_W1⟩ : ∃ W1, w.alloc (.cells #[.int .i64 0, .int .i64 0, .slice none 0 0] 24 (0, 0)) = W1 := ⟨_, rfl⟩
    rw [hq_W1] at hP hM hN hz
    replace hz := And.intro (Nat.le_of_eq hz) (Nat.le_of_eq hz.symm)
    replace h := zH h
    go_enter Tryz.func139, Tryz.ntmps139
    go_wp2_with fail
    clear hq_W1
    refine (paKey_any _ _).mono ?_
    rintro e W2 ⟨rfl, hb⟩
    have h2 := (uH hP).below hb
    have hm := mop_below (g := g) hb
    clear hb
    replace hN := zH ((uH hN).mop (uH hP) hm)
    have hzz := hm.size
    replace hM := zH ((uH hM).trans hm)
    replace hP := zH h2
    clear hm h2
    go_wp2_with fail
    have hC := uH hH _ (uH hP)
    rw [hr] at hC
    refine (hC).mono ?_
    rintro e W3 ⟨a1, m1, c1, rfl, hs, h2, hm⟩
    dsimp only at hs
    have hzs := hm.size
    have hbx := hs.boxed (gb := gb) (b := W3.heap.size) (by omega) (Nat.le_refl _)
    clear hs
    have hR := zH hbx.1
    have hRo := zH hbx.2
    clear hbx
    replace hN := zH ((uH hN).mop (uH hP) hm)
    have hzz := hm.size
    replace hM := zH ((uH hM).trans hm)
    replace hP := zH h2
    clear hm h2
    obtain ⟨b1, hq_b1⟩ : ∃ x, W3.heap.size = x := ⟨_, rfl⟩
    have hB := zH (nblk_new W3 14 nt a1 m1 c1)
    have hm := mop_below (g := g) (below_alloc W3 (.cells #[.int .i64 14, .int .i64 nt, .slice a1 m1 c1] 24 (0, 0)))
    have h2 := (uH hP).below (below_alloc W3 (.cells #[.int .i64 14, .int .i64 nt, .slice a1 m1 c1] 24 (0, 0)))
    have hzs : (W3.alloc (.cells #[.int .i64 14, .int .i64 nt, .slice a1 m1 c1] 24 (0, 0))).heap.size = b1 + 1 := by simp [hq_b1]
    obtain ⟨W4, hq_W4⟩ : ∃ x, W3.alloc (.cells #[.int .i64 14, .int .i64 nt, .slice a1 m1 c1] 24 (0, 0)) = x := ⟨_, rfl⟩
    rw [hq_W4] at hB hm h2 hzs
    replace hzs := And.intro (Nat.le_of_eq hzs) (Nat.le_of_eq hzs.symm)
    rw [hq_b1] at hB
    replace hq_W4 := zH hq_W4
    replace hN := zH ((uH hN).mop (uH hP) hm)
    replace hR := zH ((uH hR).mop (uH hP) hm)
    have hzz := hm.size
    replace hM := zH ((uH hM).trans hm)
    replace hP := zH h2
    clear hm h2
    rw [hq_b1] at hR hRo
    go_wp2_with fail
    rw [uH hq_W4]
    clear hq_W4
    refine (paKey_any _ _).mono ?_
    rintro e W5 ⟨rfl, hb⟩
    have h2 := (uH hP).below hb
    have hm := mop_below (g := g) hb
    clear hb
    replace hN := zH ((uH hN).mop (uH hP) hm)
    replace hB := zH ((uH hB).mop (uH hP) hm)
    replace hR := zH ((uH hR).mop (uH hP) hm)
    have hzz := hm.size
    replace hM := zH ((uH hM).trans hm)
    replace hP := zH h2
    clear hm h2
    go_wp2_with fail
    refine (paTake_yes (uH hP) (keyT [101, 108, 115, 101]) (by rw [eqB_key]; exact ho) (keyA_lt ho)).mono ?_
    rintro e W6 ⟨rfl, h2, hm⟩
    replace hN := zH ((uH hN).mop (uH hP) hm)
    replace hB := zH ((uH hB).mop (uH hP) hm)
    replace hR := zH ((uH hR).mop (uH hP) hm)
    have hzz := hm.size
    replace hM := zH ((uH hM).trans hm)
    replace hP := zH h2
    clear hm h2
    go_upto_region 3 with fail
    have hb : Below W6.heap.size W6 (World.drew W6) := (Below.refl _ _).drew
    have h2 := (uH hP).below hb
    have hm := mop_below (g := g) hb
    clear hb
    obtain ⟨WD, hq_WD⟩ : ∃ x, World.drew W6 = x := ⟨_, rfl⟩
    rw [hq_WD] at h2 hm
    replace hN := zH ((uH hN).mop (uH hP) hm)
    replace hB := zH ((uH hB).mop (uH hP) hm)
    replace hR := zH ((uH hR).mop (uH hP) hm)
    have hzz := hm.size
    replace hM := zH ((uH hM).trans hm)
    replace hP := zH h2
    clear hm h2
    have hS : NBlk WD b1 14 nt a1 m1 c1 := uH hB
    refine wp_region_D (fun w' => NBlk w' b1 14 nt a1 m1 c1) (fun j => [7].contains j) (by kernel_rfl) ?_
    rw [hq_WD]
    clear hq_WD
    have hbl := (uH hB).lt
    have hRl := (uH hR).lt
    refine wpAnyD_takeC (i := 0) (v := .pointer (some ⟨b1, 2, none⟩)) [7] (fun _ => rfl) rfl (by kernel_rfl) 3 (by kernel_rfl) rfl (by kernel_rfl) (by kernel_rfl) (by kernel_rfl) (fun _ _ _ h => h) (Or.inl ⟨by kernel_rfl, ?_⟩) hS ?_
    ·
     intro w hSw
     go_simp
    try simp only [List.getElem_toArray, List.getElem_cons_succ, List.getElem_cons_zero, Act.put, List.setIfInBounds_toArray, List.set_cons_zero, List.set_cons_succ]
    refine wpAnyD_takeC (i := 1) (v := .slice a1 m1 c1) [7] (fun _ => rfl) rfl (by kernel_rfl) 3 (by kernel_rfl) rfl (by kernel_rfl) (by kernel_rfl) (by kernel_rfl) (fun _ _ _ h => h) (Or.inl ⟨by kernel_rfl, ?_⟩) hS ?_
    ·
     intro w hSw
     obtain ⟨e0, e1, e2⟩ := hSw.box
     go_simp
    try simp only [List.getElem_toArray, List.getElem_cons_succ, List.getElem_cons_zero, Act.put, List.setIfInBounds_toArray, List.set_cons_zero, List.set_cons_succ]
    refine wpAnyD_takeC (i := 2) (v := .pointer (some ⟨g, 0, none⟩)) [7] (fun _ => rfl) rfl (by kernel_rfl) 3 (by kernel_rfl) rfl (by kernel_rfl) (by kernel_rfl) (by kernel_rfl) (fun _ _ _ h => h) (Or.inl ⟨by kernel_rfl, ?_⟩) hS ?_
    ·
     intro w hSw
     go_simp
    try simp only [List.getElem_toArray, List.getElem_cons_succ, List.getElem_cons_zero, Act.put, List.setIfInBounds_toArray, List.set_cons_zero, List.set_cons_succ]
    refine wpAnyD_one (i := 3) rfl (by kernel_rfl) (fun K' hK_ => ?_)
    rw [if_pos (by kernel_rfl)]
    refine oper_callR (run_call1 cf_paOtherwise) ?_
    refine (uH hHo _ (uH hP)).mono ?_
    rintro e W7 ⟨a2, m2, c2, rfl, hs, h2, hm⟩
    dsimp only at hs
    have hzs := hm.size
    have hs2 := zH (hs.mono (P' := fun x => (gb < x ∧ x ≠ b1) ∧ (Value.slice a1 m1 c1).ownBlock ≠ some x) (fun x hx => by have e1 := hx.1; exact ⟨⟨by omega, by omega⟩, fun e => by have := hRl x e; omega⟩))
    clear hs
    replace hN := zH ((uH hN).mop (uH hP) hm)
    replace hB := zH ((uH hB).mop (uH hP) hm)
    replace hR := zH ((uH hR).mop (uH hP) hm)
    have hzz := hm.size
    replace hM := zH ((uH hM).trans hm)
    replace hP := zH h2
    clear hm h2
    have hSW7 : NBlk W7 b1 14 nt a1 m1 c1 := uH hB
    refine hK_ _ _ (fun _ => hSW7) ?_
    clear hK_ K' hS
    have hS := hSW7
    try simp only [List.getElem_toArray, List.getElem_cons_succ, List.getElem_cons_zero, Act.put, List.setIfInBounds_toArray, List.set_cons_zero, List.set_cons_succ]
    refine wpAnyD_one (i := 4) rfl (by kernel_rfl) (fun K' hK_ => ?_)
    rw [if_pos (by kernel_rfl)]
    refine oper_of_run (run_build_one W7 _ _ _ _ _ _ _ ok ot a2 m2 c2 rfl) ?_
    have hbl2 := (uH hB).lt
    have hL := (lit1_sl (P := fun x => (gb < x ∧ x ≠ b1) ∧ (Value.slice a1 m1 c1).ownBlock ≠ some x) W7 ok ot a2 m2 c2 oc (uH hs2) ⟨⟨by omega, by omega⟩, fun e => by have := hRl _ e; omega⟩).mono (P' := fun x => (gb < x ∧ x ≠ b1) ∧ (Value.slice a1 m1 c1).ownBlock ≠ some x ∧ x < (W7.alloc (.cells #[.int .i64 ok, .int .i64 ot, .slice a2 m2 c2] 24 (0, 0))).heap.size) (fun x hx => ⟨hx.1.1, hx.1.2, hx.lt⟩)
    have hm := mop_below (g := g) (below_alloc W7 (.cells #[.int .i64 ok, .int .i64 ot, .slice a2 m2 c2] 24 (0, 0)))
    have h2 := (uH hP).below (below_alloc W7 (.cells #[.int .i64 ok, .int .i64 ot, .slice a2 m2 c2] 24 (0, 0)))
    obtain ⟨gl, hgl2⟩ : ∃ x, W7.heap.size = x := ⟨_, rfl⟩
    have hzz : (W7.alloc (.cells #[.int .i64 ok, .int .i64 ot, .slice a2 m2 c2] 24 (0, 0))).heap.size = gl + 1 := by simp [hgl2]
    obtain ⟨W8, hq_W8⟩ : ∃ x, W7.alloc (.cells #[.int .i64 ok, .int .i64 ot, .slice a2 m2 c2] 24 (0, 0)) = x := ⟨_, rfl⟩
    rw [hq_W8] at hL hm h2 hzz
    rw [hgl2] at hL
    replace hzz := And.intro (Nat.le_of_eq hzz) (Nat.le_of_eq hzz.symm)
    rw [hq_W8, hgl2]
    clear hq_W8 hs2
    replace hL := zH hL
    replace hN := zH ((uH hN).mop (uH hP) hm)
    replace hB := zH ((uH hB).mop (uH hP) hm)
    replace hR := zH ((uH hR).mop (uH hP) hm)
    have hzz := hm.size
    replace hM := zH ((uH hM).trans hm)
    replace hP := zH h2
    clear hm h2
    have hSW8 : NBlk W8 b1 14 nt a1 m1 c1 := uH hB
    refine hK_ _ _ (fun _ => hSW8) ?_
    clear hK_ K' hS
    have hS := hSW8
    try simp only [List.getElem_toArray, List.getElem_cons_succ, List.getElem_cons_zero, Act.put, List.setIfInBounds_toArray, List.set_cons_zero, List.set_cons_succ]
    refine wpAnyD_one (i := 5) rfl (by kernel_rfl) (fun K' hK_ => ?_)
    rw [if_pos (by kernel_rfl)]
    refine oper_append_rowP (.tmp 11) (.tmp 14) rfl rfl (uH hR) rfl (uH hL) (by have := uH hnl; omega) (by omega) ?_
    intro v4 W9 hR4 hb4 hg4 hl4
    have hzg := hg4.size
    have hbl3 := (uH hB).lt
    have hbm := hb4.mono (show w.heap.size ≤ gb + 1 by omega)
    have h2 := (uH hP).belowB (uH h) hbm
    have hM4 := mop_belowB (uH h) hbm (by omega) (uH hM)
    replace hN := zH ((uH hN).same (hb4.block _ (by omega)))
    replace hB := zH ((uH hB).same (hg4.block _ hbl3 (fun e => uH hRo _ e.symm rfl)))
    replace hP := zH h2
    replace hM := zH hM4
    have hRo4 : Hid (∀ y, v4.ownBlock = some y → y ≠ b1) := zH (fun y hy => by
     rcases hl4 with e | e
     ·
      exact uH hRo y (e ▸ hy)
     ·
      rw [e] at hy
      injection hy with hy
      omega)
    replace hRo := hRo4
    obtain ⟨a5, c5, rfl, _⟩ := hR4.slO (fun y hy => ⟨by have := hR4.lt y hy; omega, uH hRo y hy⟩)
    replace hR := zH hR4
    clear hR4 hb4 hg4 hl4 hbm h2 hM4 hL hRo4
    have hSW9 : NBlk W9 b1 14 nt a1 m1 c1 := uH hB
    refine hK_ _ _ (fun _ => hSW9) ?_
    clear hK_ K' hS
    have hS := hSW9
    try simp only [List.getElem_toArray, List.getElem_cons_succ, List.getElem_cons_zero, Act.put, List.setIfInBounds_toArray, List.set_cons_zero, List.set_cons_succ]
    refine wpAnyD_one (i := 6) rfl (by kernel_rfl) (fun K' hK_ => ?_)
    rw [if_pos (by kernel_rfl)]
    refine oper_of_run (v := .pointer (some ⟨b1, 2, none⟩)) (w' := W9) (by clear hK_; go_simp) ?_
    refine hK_ _ _ (fun _ => hS) ?_
    clear hK_ K'
    try simp only [List.getElem_toArray, List.getElem_cons_succ, List.getElem_cons_zero, Act.put, List.setIfInBounds_toArray, List.set_cons_zero, List.set_cons_succ]
    refine wpAnyD_one (i := 7) rfl (by kernel_rfl) (fun K' hK_ => ?_)
    rw [if_pos (by kernel_rfl)]
    refine oper_skip (run_store_kids W9 _ _ _ _ _ _ _ _ b1 14 nt a1 a5 m1 c1 (F.app nc (.cons ok ot oc .nil)).len c5 (uH hB) rfl rfl) ?_
    obtain ⟨h2, hM2, hB2, hh⟩ := kid_set (uH hP) (uH hM) (uH hB) (by omega) a5 (F.app nc (.cons ok ot oc .nil)).len c5
    have hzz : (W9.setCell ⟨b1, 2, none⟩ (.slice a5 (F.app nc (.cons ok ot oc .nil)).len c5)).heap.size = W9.heap.size := by simp
    obtain ⟨W10, hq_W10⟩ : ∃ x, W9.setCell ⟨b1, 2, none⟩ (.slice a5 (F.app nc (.cons ok ot oc .nil)).len c5) = x := ⟨_, rfl⟩
    rw [hq_W10] at h2 hM2 hB2 hh hzz
    replace hzz := And.intro (Nat.le_of_eq hzz) (Nat.le_of_eq hzz.symm)
    replace hR := zH ((uH hR).keep2 (w' := W10) (by omega) (fun y hy => hh y (uH hRo y hy)) (fun y hy _ => hh y hy.2))
    replace hN := zH ((uH hN).same (hh _ (by omega)))
    replace hB := zH hB2
    replace hM := zH hM2
    replace hP := zH h2
    clear hB2 hM2 h2 hh
    rw [hq_W10]
    clear hq_W10
    refine hK_ _ _ (fun h => by cases h) ?_
    clear hK_ K'
    try simp only [List.getElem_toArray, List.getElem_cons_succ, List.getElem_cons_zero, Act.put, List.setIfInBounds_toArray, List.set_cons_zero, List.set_cons_succ]
    clear hS
    refine wpAnyD_done (by kernel_rfl) ?_ _
    obtain ⟨p0_hB, p1_hB, p2_hB⟩ := (uH hB).box
    have f0_hB := (uH hB).frozen 0
    have f1_hB := (uH hB).frozen 1
    have f2_hB := (uH hB).frozen 2
    obtain ⟨p0_hN, p1_hN, p2_hN⟩ := (uH hN).box
    have f0_hN := (uH hN).frozen 0
    have f1_hN := (uH hN).frozen 1
    have f2_hN := (uH hN).frozen 2
    have hF := zH (res_finR (k := 14) (t := nt) (w := w) (gb := gb) (by omega) (uH hN) (uH hR) (fun x hx => hx.1) (uH hP) (uH hM))
    go_wp2
    obtain ⟨q1, q2, q3, q4⟩ := uH hF
    obtain ⟨u0, u1, u2⟩ := q1.box
    refine bodyPost_ret (v := .agg #[.int .i64 (14), .int .i64 (nt), .slice (a5) ((F.app nc (.cons ok ot oc .nil)).len) (c5)]) (by simp [results, Tryz.results139, go_sem, u0, u1, u2]) rfl ?_
    exact ResR.n (r := .ok ⟨14, nt, F.app nc (.cons ok ot oc .nil)⟩ j2) ⟨_, _, _, rfl, (by first | exact q2 | (rw [hgb]; exact q2) | exact (q2.mono (fun y hy _ => by omega)).base (fun y hy => by have := q2.lt y hy; omega)), q3, q4⟩
set_option maxHeartbeats 4000000 in
set_option maxRecDepth 100000 in
theorem paOtherwise_step {g : Nat} {tv : Value} {L : List Tk} {i d : Nat} {w : World} (h : PaW g tv L i d w) {f : Nat} (HC : ∀ (w : World) (i d : Nat), PaW g tv L i d w → d ≤ 40 → choA L f i d ≠ .out → Calls Tryz.prog 139 #[.pointer (some ⟨g, 0, none⟩)] w fun e w' => ResN w.heap.size g tv L d w (choA L f i d) e w') (HB : ∀ (w : World) (i : Nat), PaW g tv L i d w → blkA L f i d ≠ .out → Calls Tryz.prog 113 #[.pointer (some ⟨g, 0, none⟩)] w fun e w' => ResN w.heap.size g tv L d w (blkA L f i d) e w') (hd : d ≤ 40) (hne : othA L (f + 1) i d ≠ .out) :
  Calls Tryz.prog 157 #[.pointer (some ⟨g, 0, none⟩)] w fun e w' => ResN w.heap.size g tv L d w (othA L (f + 1) i d) e w' := by
 unfold othA at hne ⊢
 cases hk : keyA L i kIf with
 | false =>
  have hki := zH hk
  simp only [hk, Bool.false_eq_true, if_false] at hne ⊢
  have hH := zH (fun w h => HB w i h hne)
  clear HB HC hk
  generalize hr : blkA L f i d = r at hne ⊢
  cases r with
  | out => exact absurd rfl hne
  | bad j =>
   have hP := zH (h.alloc (.cells #[.int .i64 0, .int .i64 0, .slice none 0 0] 24 (0, 0))).1
   have hM := zH (h.alloc (.cells #[.int .i64 0, .int .i64 0, .slice none 0 0] 24 (0, 0))).2
   have hN := zH (nblk_new w 0 0 none 0 0)
   obtain ⟨gb, hgb⟩ : ∃ gb, w.heap.size = gb := ⟨_, rfl⟩
   have hz : (w.alloc (.cells #[.int .i64 0, .int .i64 0, .slice none 0 0] 24 (0, 0))).heap.size = gb + 1 := by simp [hgb]
   have hgl : g < gb := by have := h.lt; omega
   rw [hgb] at hN
   obtain ⟨W1, hq_W1⟩ : ∃ W1, w.alloc (.cells #[.int .i64 0, .int .i64 0, .slice none 0 0] 24 (0, 0)) = W1 := ⟨_, rfl⟩
   rw [hq_W1] at hP hM hN hz
   replace hz := And.intro (Nat.le_of_eq hz) (Nat.le_of_eq hz.symm)
   replace h := zH h
   go_enter Tryz.func157, Tryz.ntmps157
   go_wp2_with fail
   clear hq_W1
   refine (paKey_any _ _).mono ?_
   rintro e W2 ⟨rfl, hb⟩
   have h2 := (uH hP).below hb
   have hm := mop_below (g := g) hb
   clear hb
   replace hN := zH ((uH hN).mop (uH hP) hm)
   have hzz := hm.size
   replace hM := zH ((uH hM).trans hm)
   replace hP := zH h2
   clear hm h2
   go_wp2_with fail
   have hK := paIs_any (uH hP) (keyT kIf)
   rw [eqB_key, uH hki] at hK
   refine (hK).mono ?_
   rintro e W3 ⟨rfl, hb⟩
   have h2 := (uH hP).below hb
   have hm := mop_below (g := g) hb
   clear hb
   replace hN := zH ((uH hN).mop (uH hP) hm)
   have hzz := hm.size
   replace hM := zH ((uH hM).trans hm)
   replace hP := zH h2
   clear hm h2
   go_wp2_with fail
   have hC := uH hH _ (uH hP)
   rw [hr] at hC
   refine (hC).mono ?_
   rintro e W4 hBad
   obtain rfl := hBad.1
   have hG := zH (hBad.pre (uH hM))
   clear hBad
   go_wp2
   exact ⟨rfl, uH hG⟩
  | ok n j =>
   obtain ⟨nk, nt, nc⟩ := n
   have hP := zH (h.alloc (.cells #[.int .i64 0, .int .i64 0, .slice none 0 0] 24 (0, 0))).1
   have hM := zH (h.alloc (.cells #[.int .i64 0, .int .i64 0, .slice none 0 0] 24 (0, 0))).2
   have hN := zH (nblk_new w 0 0 none 0 0)
   obtain ⟨gb, hgb⟩ : ∃ gb, w.heap.size = gb := ⟨_, rfl⟩
   have hz : (w.alloc (.cells #[.int .i64 0, .int .i64 0, .slice none 0 0] 24 (0, 0))).heap.size = gb + 1 := by simp [hgb]
   have hgl : g < gb := by have := h.lt; omega
   rw [hgb] at hN
   obtain ⟨W1, hq_W1⟩ : ∃ W1, w.alloc (.cells #[.int .i64 0, .int .i64 0, .slice none 0 0] 24 (0, 0)) = W1 := ⟨_, rfl⟩
   rw [hq_W1] at hP hM hN hz
   replace hz := And.intro (Nat.le_of_eq hz) (Nat.le_of_eq hz.symm)
   replace h := zH h
   go_enter Tryz.func157, Tryz.ntmps157
   go_wp2_with fail
   clear hq_W1
   refine (paKey_any _ _).mono ?_
   rintro e W2 ⟨rfl, hb⟩
   have h2 := (uH hP).below hb
   have hm := mop_below (g := g) hb
   clear hb
   replace hN := zH ((uH hN).mop (uH hP) hm)
   have hzz := hm.size
   replace hM := zH ((uH hM).trans hm)
   replace hP := zH h2
   clear hm h2
   go_wp2_with fail
   have hK := paIs_any (uH hP) (keyT kIf)
   rw [eqB_key, uH hki] at hK
   refine (hK).mono ?_
   rintro e W3 ⟨rfl, hb⟩
   have h2 := (uH hP).below hb
   have hm := mop_below (g := g) hb
   clear hb
   replace hN := zH ((uH hN).mop (uH hP) hm)
   have hzz := hm.size
   replace hM := zH ((uH hM).trans hm)
   replace hP := zH h2
   clear hm h2
   go_wp2_with fail
   have hC := uH hH _ (uH hP)
   rw [hr] at hC
   refine (hC).mono ?_
   rintro e W4 ⟨a1, m1, c1, rfl, hs, h2, hm⟩
   have hzs := hm.size
   have hs1 := zH (hs.mono (P' := fun x => gb < x ∧ x < W4.heap.size) (fun x hx => by have := (uH hN).lt; have e1 := hx.1; have e2 := hx.lt; exact ⟨by omega, by omega⟩))
   clear hs
   replace hN := zH ((uH hN).mop (uH hP) hm)
   have hzz := hm.size
   replace hM := zH ((uH hM).trans hm)
   replace hP := zH h2
   clear hm h2
   dsimp only at hs1
   obtain ⟨p0_hN, p1_hN, p2_hN⟩ := (uH hN).box
   have f0_hN := (uH hN).frozen 0
   have f1_hN := (uH hN).frozen 1
   have f2_hN := (uH hN).frozen 2
   have hF := zH (res_fin (k := nk) (t := nt) (a := a1) (m := m1) (c := c1) (f := nc) (B := gb) (w := w) (Nat.le_refl gb) (by omega) (uH hN) ((uH hs1).mono (fun x hx => by have e1 := hx.1; exact ⟨by omega, by omega⟩)) (uH hP) (uH hM))
   go_wp2
   obtain ⟨q1, q2, q3, q4⟩ := uH hF
   obtain ⟨u0, u1, u2⟩ := q1.box
   refine bodyPost_ret (v := .agg #[.int .i64 (nk), .int .i64 (nt), .slice (a1) (m1) (c1)]) (by simp [results, Tryz.results157, go_sem, u0, u1, u2]) rfl ?_
   exact ⟨_, _, _, rfl, (by first | exact q2 | (rw [hgb]; exact q2)), q3, q4⟩
 | true =>
  have hki := zH hk
  simp only [hk, if_true] at hne ⊢
  clear hk HB
  by_cases hd40 : d = 40
  ·
   subst hd40
   simp only [if_true] at hne ⊢
   clear HC
   have hP := zH (h.alloc (.cells #[.int .i64 0, .int .i64 0, .slice none 0 0] 24 (0, 0))).1
   have hM := zH (h.alloc (.cells #[.int .i64 0, .int .i64 0, .slice none 0 0] 24 (0, 0))).2
   have hN := zH (nblk_new w 0 0 none 0 0)
   obtain ⟨gb, hgb⟩ : ∃ gb, w.heap.size = gb := ⟨_, rfl⟩
   have hz : (w.alloc (.cells #[.int .i64 0, .int .i64 0, .slice none 0 0] 24 (0, 0))).heap.size = gb + 1 := by simp [hgb]
   have hgl : g < gb := by have := h.lt; omega
   rw [hgb] at hN
   obtain ⟨W1, hq_W1⟩ : ∃ W1, w.alloc (.cells #[.int .i64 0, .int .i64 0, .slice none 0 0] 24 (0, 0)) = W1 := ⟨_, rfl⟩
   rw [hq_W1] at hP hM hN hz
   replace hz := And.intro (Nat.le_of_eq hz) (Nat.le_of_eq hz.symm)
   replace h := zH h
   go_enter Tryz.func157, Tryz.ntmps157
   go_wp2_with fail
   clear hq_W1
   refine (paKey_any _ _).mono ?_
   rintro e W2 ⟨rfl, hb⟩
   have h2 := (uH hP).below hb
   have hm := mop_below (g := g) hb
   clear hb
   replace hN := zH ((uH hN).mop (uH hP) hm)
   have hzz := hm.size
   replace hM := zH ((uH hM).trans hm)
   replace hP := zH h2
   clear hm h2
   go_wp2_with fail
   have hK := paIs_any (uH hP) (keyT kIf)
   rw [eqB_key, uH hki] at hK
   refine (hK).mono ?_
   rintro e W3 ⟨rfl, hb⟩
   have h2 := (uH hP).below hb
   have hm := mop_below (g := g) hb
   clear hb
   replace hN := zH ((uH hN).mop (uH hP) hm)
   have hzz := hm.size
   replace hM := zH ((uH hM).trans hm)
   replace hP := zH h2
   clear hm h2
   go_wp2_with fail
   refine (paEnter_bad (uH hP)).mono ?_
   rintro e W4 ⟨rfl, rfl⟩
   go_wp2
   exact ⟨rfl, rfl, ⟨40, uH hP⟩, uH hM⟩
  ·
   simp only [hd40, if_false] at hne ⊢
   have hH := zH (fun w h => HC w i (d + 1) h (by omega) hne)
   clear HC
   cases hr : choA L f i (d + 1) with
   | out => exact absurd hr hne
   | bad j =>
    have hP := zH (h.alloc (.cells #[.int .i64 0, .int .i64 0, .slice none 0 0] 24 (0, 0))).1
    have hM := zH (h.alloc (.cells #[.int .i64 0, .int .i64 0, .slice none 0 0] 24 (0, 0))).2
    have hN := zH (nblk_new w 0 0 none 0 0)
    obtain ⟨gb, hgb⟩ : ∃ gb, w.heap.size = gb := ⟨_, rfl⟩
    have hz : (w.alloc (.cells #[.int .i64 0, .int .i64 0, .slice none 0 0] 24 (0, 0))).heap.size = gb + 1 := by simp [hgb]
    have hgl : g < gb := by have := h.lt; omega
    rw [hgb] at hN
    obtain ⟨W1, hq_W1⟩ : ∃ W1, w.alloc (.cells #[.int .i64 0, .int .i64 0, .slice none 0 0] 24 (0, 0)) = W1 := ⟨_, rfl⟩
    rw [hq_W1] at hP hM hN hz
    replace hz := And.intro (Nat.le_of_eq hz) (Nat.le_of_eq hz.symm)
    replace h := zH h
    go_enter Tryz.func157, Tryz.ntmps157
    go_wp2_with fail
    clear hq_W1
    refine (paKey_any _ _).mono ?_
    rintro e W2 ⟨rfl, hb⟩
    have h2 := (uH hP).below hb
    have hm := mop_below (g := g) hb
    clear hb
    replace hN := zH ((uH hN).mop (uH hP) hm)
    have hzz := hm.size
    replace hM := zH ((uH hM).trans hm)
    replace hP := zH h2
    clear hm h2
    go_wp2_with fail
    have hK := paIs_any (uH hP) (keyT kIf)
    rw [eqB_key, uH hki] at hK
    refine (hK).mono ?_
    rintro e W3 ⟨rfl, hb⟩
    have h2 := (uH hP).below hb
    have hm := mop_below (g := g) hb
    clear hb
    replace hN := zH ((uH hN).mop (uH hP) hm)
    have hzz := hm.size
    replace hM := zH ((uH hM).trans hm)
    replace hP := zH h2
    clear hm h2
    go_wp2_with fail
    refine (paEnter_any (uH hP) (by omega)).mono ?_
    rintro e W4 ⟨rfl, h2, hm⟩
    replace hN := zH ((uH hN).mop (uH hP) hm)
    have hzz := hm.size
    replace hM := zH ((uH hM).trans hm)
    replace hP := zH h2
    clear hm h2
    go_wp2_with fail
    have hC := uH hH _ (uH hP)
    rw [hr] at hC
    refine (hC).mono ?_
    rintro e W5 hBad
    obtain rfl := hBad.1
    have hG := zH (hBad.pre (uH hM))
    clear hBad
    go_wp2
    exact ⟨rfl, uH hG⟩
   | ok n j =>
    obtain ⟨nk, nt, nc⟩ := n
    have hP := zH (h.alloc (.cells #[.int .i64 0, .int .i64 0, .slice none 0 0] 24 (0, 0))).1
    have hM := zH (h.alloc (.cells #[.int .i64 0, .int .i64 0, .slice none 0 0] 24 (0, 0))).2
    have hN := zH (nblk_new w 0 0 none 0 0)
    obtain ⟨gb, hgb⟩ : ∃ gb, w.heap.size = gb := ⟨_, rfl⟩
    have hz : (w.alloc (.cells #[.int .i64 0, .int .i64 0, .slice none 0 0] 24 (0, 0))).heap.size = gb + 1 := by simp [hgb]
    have hgl : g < gb := by have := h.lt; omega
    rw [hgb] at hN
    obtain ⟨W1, hq_W1⟩ : ∃ W1, w.alloc (.cells #[.int .i64 0, .int .i64 0, .slice none 0 0] 24 (0, 0)) = W1 := ⟨_, rfl⟩
    rw [hq_W1] at hP hM hN hz
    replace hz := And.intro (Nat.le_of_eq hz) (Nat.le_of_eq hz.symm)
    replace h := zH h
    go_enter Tryz.func157, Tryz.ntmps157
    go_wp2_with fail
    clear hq_W1
    refine (paKey_any _ _).mono ?_
    rintro e W2 ⟨rfl, hb⟩
    have h2 := (uH hP).below hb
    have hm := mop_below (g := g) hb
    clear hb
    replace hN := zH ((uH hN).mop (uH hP) hm)
    have hzz := hm.size
    replace hM := zH ((uH hM).trans hm)
    replace hP := zH h2
    clear hm h2
    go_wp2_with fail
    have hK := paIs_any (uH hP) (keyT kIf)
    rw [eqB_key, uH hki] at hK
    refine (hK).mono ?_
    rintro e W3 ⟨rfl, hb⟩
    have h2 := (uH hP).below hb
    have hm := mop_below (g := g) hb
    clear hb
    replace hN := zH ((uH hN).mop (uH hP) hm)
    have hzz := hm.size
    replace hM := zH ((uH hM).trans hm)
    replace hP := zH h2
    clear hm h2
    go_wp2_with fail
    refine (paEnter_any (uH hP) (by omega)).mono ?_
    rintro e W4 ⟨rfl, h2, hm⟩
    replace hN := zH ((uH hN).mop (uH hP) hm)
    have hzz := hm.size
    replace hM := zH ((uH hM).trans hm)
    replace hP := zH h2
    clear hm h2
    go_wp2_with fail
    have hC := uH hH _ (uH hP)
    rw [hr] at hC
    refine (hC).mono ?_
    rintro e W5 ⟨a1, m1, c1, rfl, hs, h2, hm⟩
    have hzs := hm.size
    have hs1 := zH (hs.mono (P' := fun x => gb < x ∧ x < W5.heap.size) (fun x hx => by have := (uH hN).lt; have e1 := hx.1; have e2 := hx.lt; exact ⟨by omega, by omega⟩))
    clear hs
    replace hN := zH ((uH hN).mop (uH hP) hm)
    have hzz := hm.size
    replace hM := zH ((uH hM).trans hm)
    replace hP := zH h2
    clear hm h2
    dsimp only at hs1
    obtain ⟨b1, hq_b1⟩ : ∃ x, W5.heap.size = x := ⟨_, rfl⟩
    have hB := zH (nblk_new W5 nk nt a1 m1 c1)
    have hm := mop_below (g := g) (below_alloc W5 (.cells #[.int .i64 nk, .int .i64 nt, .slice a1 m1 c1] 24 (0, 0)))
    have h2 := (uH hP).below (below_alloc W5 (.cells #[.int .i64 nk, .int .i64 nt, .slice a1 m1 c1] 24 (0, 0)))
    have hzs : (W5.alloc (.cells #[.int .i64 nk, .int .i64 nt, .slice a1 m1 c1] 24 (0, 0))).heap.size = b1 + 1 := by simp [hq_b1]
    obtain ⟨W6, hq_W6⟩ : ∃ x, W5.alloc (.cells #[.int .i64 nk, .int .i64 nt, .slice a1 m1 c1] 24 (0, 0)) = x := ⟨_, rfl⟩
    rw [hq_W6] at hB hm h2 hzs
    replace hzs := And.intro (Nat.le_of_eq hzs) (Nat.le_of_eq hzs.symm)
    rw [hq_b1] at hB
    replace hq_W6 := zH hq_W6
    replace hN := zH ((uH hN).mop (uH hP) hm)
    replace hs1 := zH ((uH hs1).mop (uH hP) hm)
    have hzz := hm.size
    replace hM := zH ((uH hM).trans hm)
    replace hP := zH h2
    clear hm h2
    go_wp2_with fail
    rw [uH hq_W6]
    clear hq_W6
    refine (paLeave_any (uH hP) (by omega)).mono ?_
    rintro e W7 ⟨rfl, h2, hm⟩
    replace hN := zH ((uH hN).mop (uH hP) hm)
    replace hB := zH ((uH hB).mop (uH hP) hm)
    replace hs1 := zH ((uH hs1).mop (uH hP) hm)
    have hzz := hm.size
    replace hM := zH ((uH hM).trans hm)
    replace hP := zH h2
    clear hm h2
    obtain ⟨p0_hB, p1_hB, p2_hB⟩ := (uH hB).box
    have f0_hB := (uH hB).frozen 0
    have f1_hB := (uH hB).frozen 1
    have f2_hB := (uH hB).frozen 2
    obtain ⟨p0_hN, p1_hN, p2_hN⟩ := (uH hN).box
    have f0_hN := (uH hN).frozen 0
    have f1_hN := (uH hN).frozen 1
    have f2_hN := (uH hN).frozen 2
    have hF := zH (res_fin (k := nk) (t := nt) (a := a1) (m := m1) (c := c1) (f := nc) (B := gb) (w := w) (Nat.le_refl gb) (by omega) (uH hN) ((uH hs1).mono (fun x hx => by have e1 := hx.1; exact ⟨by omega, by omega⟩)) (uH hP) (uH hM))
    go_wp2
    obtain ⟨q1, q2, q3, q4⟩ := uH hF
    obtain ⟨u0, u1, u2⟩ := q1.box
    refine bodyPost_ret (v := .agg #[.int .i64 (nk), .int .i64 (nt), .slice (a1) (m1) (c1)]) (by simp [results, Tryz.results157, go_sem, u0, u1, u2]) rfl ?_
    exact ⟨_, _, _, rfl, (by first | exact q2 | (rw [hgb]; exact q2)), q3, q4⟩
set_option maxHeartbeats 4000000 in
set_option maxRecDepth 100000 in
theorem paLoop_step {g : Nat} {tv : Value} {L : List Tk} {i d : Nat} {w : World} (h : PaW g tv L i d w) {f : Nat} (HG : ∀ (w : World) (i d : Nat), PaW g tv L i d w → d ≤ 40 → guaA L f 15 kFor i d ≠ .out → Calls Tryz.prog 156 #[.pointer (some ⟨g, 0, none⟩), .int .i64 15, (keyT kFor).val] w fun e w' => ResR w.heap.size g tv L d w (guaA L f 15 kFor i d) e w') (hd : d ≤ 40) (hne : guaA L f 15 kFor i d ≠ .out) :
  Calls Tryz.prog 140 #[.pointer (some ⟨g, 0, none⟩)] w fun e w' => ResN w.heap.size g tv L d w (guaA L f 15 kFor i d) e w' := by
 have hH := zH (fun w h => HG w i d h hd hne)
 clear HG
 generalize hr : guaA L f 15 kFor i d = r at hne ⊢
 cases r with
 | out => exact absurd rfl hne
 | bad j =>
  have hP := zH (h.alloc (.cells #[.int .i64 0, .int .i64 0, .slice none 0 0] 24 (0, 0))).1
  have hM := zH (h.alloc (.cells #[.int .i64 0, .int .i64 0, .slice none 0 0] 24 (0, 0))).2
  have hN := zH (nblk_new w 0 0 none 0 0)
  obtain ⟨gb, hgb⟩ : ∃ gb, w.heap.size = gb := ⟨_, rfl⟩
  have hz : (w.alloc (.cells #[.int .i64 0, .int .i64 0, .slice none 0 0] 24 (0, 0))).heap.size = gb + 1 := by simp [hgb]
  have hgl : g < gb := by have := h.lt; omega
  rw [hgb] at hN
  obtain ⟨W1, hq_W1⟩ : ∃ W1, w.alloc (.cells #[.int .i64 0, .int .i64 0, .slice none 0 0] 24 (0, 0)) = W1 := ⟨_, rfl⟩
  rw [hq_W1] at hP hM hN hz
  replace hz := And.intro (Nat.le_of_eq hz) (Nat.le_of_eq hz.symm)
  replace h := zH h
  go_enter Tryz.func140, Tryz.ntmps140
  go_wp2_with fail
  clear hq_W1
  refine (paKey_any _ _).mono ?_
  rintro e W2 ⟨rfl, hb⟩
  have h2 := (uH hP).below hb
  have hm := mop_below (g := g) hb
  clear hb
  replace hN := zH ((uH hN).mop (uH hP) hm)
  have hzz := hm.size
  replace hM := zH ((uH hM).trans hm)
  replace hP := zH h2
  clear hm h2
  go_wp2_with fail
  have hC := (uH hH _ (uH hP)).mono (fun _ _ hq => ResR.n hq)
  rw [hr] at hC
  refine (hC).mono ?_
  rintro e W3 hBad
  obtain rfl := hBad.1
  have hG := zH (hBad.pre (uH hM))
  clear hBad
  go_wp2
  exact ⟨rfl, uH hG⟩
 | ok n j =>
  obtain ⟨nk, nt, nc⟩ := n
  have hP := zH (h.alloc (.cells #[.int .i64 0, .int .i64 0, .slice none 0 0] 24 (0, 0))).1
  have hM := zH (h.alloc (.cells #[.int .i64 0, .int .i64 0, .slice none 0 0] 24 (0, 0))).2
  have hN := zH (nblk_new w 0 0 none 0 0)
  obtain ⟨gb, hgb⟩ : ∃ gb, w.heap.size = gb := ⟨_, rfl⟩
  have hz : (w.alloc (.cells #[.int .i64 0, .int .i64 0, .slice none 0 0] 24 (0, 0))).heap.size = gb + 1 := by simp [hgb]
  have hgl : g < gb := by have := h.lt; omega
  rw [hgb] at hN
  obtain ⟨W1, hq_W1⟩ : ∃ W1, w.alloc (.cells #[.int .i64 0, .int .i64 0, .slice none 0 0] 24 (0, 0)) = W1 := ⟨_, rfl⟩
  rw [hq_W1] at hP hM hN hz
  replace hz := And.intro (Nat.le_of_eq hz) (Nat.le_of_eq hz.symm)
  replace h := zH h
  go_enter Tryz.func140, Tryz.ntmps140
  go_wp2_with fail
  clear hq_W1
  refine (paKey_any _ _).mono ?_
  rintro e W2 ⟨rfl, hb⟩
  have h2 := (uH hP).below hb
  have hm := mop_below (g := g) hb
  clear hb
  replace hN := zH ((uH hN).mop (uH hP) hm)
  have hzz := hm.size
  replace hM := zH ((uH hM).trans hm)
  replace hP := zH h2
  clear hm h2
  go_wp2_with fail
  have hC := (uH hH _ (uH hP)).mono (fun _ _ hq => ResR.n hq)
  rw [hr] at hC
  refine (hC).mono ?_
  rintro e W3 ⟨a1, m1, c1, rfl, hs, h2, hm⟩
  have hzs := hm.size
  have hs1 := zH (hs.mono (P' := fun x => gb < x ∧ x < W3.heap.size) (fun x hx => by have := (uH hN).lt; have e1 := hx.1; have e2 := hx.lt; exact ⟨by omega, by omega⟩))
  clear hs
  replace hN := zH ((uH hN).mop (uH hP) hm)
  have hzz := hm.size
  replace hM := zH ((uH hM).trans hm)
  replace hP := zH h2
  clear hm h2
  dsimp only at hs1
  obtain ⟨p0_hN, p1_hN, p2_hN⟩ := (uH hN).box
  have f0_hN := (uH hN).frozen 0
  have f1_hN := (uH hN).frozen 1
  have f2_hN := (uH hN).frozen 2
  have hF := zH (res_fin (k := nk) (t := nt) (a := a1) (m := m1) (c := c1) (f := nc) (B := gb) (w := w) (Nat.le_refl gb) (by omega) (uH hN) ((uH hs1).mono (fun x hx => by have e1 := hx.1; exact ⟨by omega, by omega⟩)) (uH hP) (uH hM))
  go_wp2
  obtain ⟨q1, q2, q3, q4⟩ := uH hF
  obtain ⟨u0, u1, u2⟩ := q1.box
  refine bodyPost_ret (v := .agg #[.int .i64 (nk), .int .i64 (nt), .slice (a1) (m1) (c1)]) (by simp [results, Tryz.results140, go_sem, u0, u1, u2]) rfl ?_
  exact ⟨_, _, _, rfl, (by first | exact q2 | (rw [hgb]; exact q2)), q3, q4⟩
end Go.Proofs.YtiknnobgoamgcaaGreatDoor

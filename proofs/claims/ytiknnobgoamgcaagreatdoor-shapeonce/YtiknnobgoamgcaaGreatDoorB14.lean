/-
  1 texts in one.
-/
import Derived.Test.YtiknnobgoamgcaaGreatDoorB12
/-
  The parser: a statement that begins with an expr.
-/
namespace Go.Proofs.YtiknnobgoamgcaaGreatDoor
open Go.RowKit Go.Lib Go.Sort
set_option linter.unusedSimpArgs false
set_option linter.unusedVariables false
theorem cf_paLoop (us : Array Value) (W : World) : Sem.run Tryz.prog (callFunc 140 us) W = .ok (.enter 140 us) W := by kernel_rfl
theorem run_store_nd (W : World) (ev : Operand → Value) (dd : Option Nat) (x y : Operand) (ty : TypeId) (p : String) (af : Array Edge) (gd : Option (Nat × Bool)) (b : Nat) (k t k' t' : Int) (a a' : Option Addr) (n c n' c' : Nat) (hN : NBlk W b k t a n c) (hx : ev x = .pointer (some ⟨b, 0, none⟩)) (hy : ev y = .agg #[.int .i64 k', .int .i64 t', .slice a' n' c']) :
  (execOp ev { dst := dd, op := .store 24 x y, type := ty, pos := p, after := af, guard := gd }).run Tryz.prog W = .ok .skip (((W.setCell ⟨b, 0, none⟩ (.int .i64 k')).setCell ⟨b, 1, none⟩ (.int .i64 t')).setCell ⟨b, 2, none⟩ (.slice a' n' c')) := by
 obtain ⟨z0, z1, z2⟩ := hN.box
 have f0 := hN.frozen 0
 have f1 := hN.frozen 1
 have f2 := hN.frozen 2
 go_simp
set_option maxHeartbeats 4000000 in
set_option maxRecDepth 100000 in
theorem paSimple_def {g : Nat} {tv : Value} {L : List Tk} {i d : Nat} {w : World} (h : PaW g tv L i d w) {f : Nat} (H : ExA g tv L f) (HP : ∀ (w : World) (i : Nat), PaW g tv L i d w → guaA L f 15 kFor i d ≠ .out → Calls Tryz.prog 140 #[.pointer (some ⟨g, 0, none⟩)] w fun e w' => ResN w.heap.size g tv L d w (guaA L f 15 kFor i d) e w') (hd : d ≤ 40) (hH : Hid (∀ (w : World), PaW g tv L i d w → Calls Tryz.prog 105 #[.pointer (some ⟨g, 0, none⟩)] w fun e w' => ResN w.heap.size g tv L d w (absA L f 0 i d) e w')) {nt : Int} {nc : F} {j : Nat} (h1 : opA L j [58, 61] = true) (hr : absA L f 0 i d = .ok ⟨20, nt, nc⟩ j) (hne : (if decide ((⟨20, nt, nc⟩ : Nd).k = 20) && opA L j [58, 61] then (absA L f 0 (j + 1) d).bind fun y l => PR.ok (Nd.mk 11 (⟨20, nt, nc⟩ : Nd).t (one y)) l
  else if decide ((⟨20, nt, nc⟩ : Nd).k = 20) && opA L j [58] then (guaA L f 15 kFor (j + 1) d).bind fun y l => PR.ok (Nd.mk 19 (⟨20, nt, nc⟩ : Nd).t (one y)) l
  else if opA L j [61] then (absA L f 0 (j + 1) d).bind fun y l => PR.ok (Nd.mk 13 j (snoc (one (⟨20, nt, nc⟩ : Nd)) y)) l
  else PR.ok (Nd.mk 12 i (one (⟨20, nt, nc⟩ : Nd))) j) ≠ .out) :
  Calls Tryz.prog 143 #[.pointer (some ⟨g, 0, none⟩)] w fun e w' => ResN w.heap.size g tv L d w (if decide ((⟨20, nt, nc⟩ : Nd).k = 20) && opA L j [58, 61] then (absA L f 0 (j + 1) d).bind fun y l => PR.ok (Nd.mk 11 (⟨20, nt, nc⟩ : Nd).t (one y)) l
  else if decide ((⟨20, nt, nc⟩ : Nd).k = 20) && opA L j [58] then (guaA L f 15 kFor (j + 1) d).bind fun y l => PR.ok (Nd.mk 19 (⟨20, nt, nc⟩ : Nd).t (one y)) l
  else if opA L j [61] then (absA L f 0 (j + 1) d).bind fun y l => PR.ok (Nd.mk 13 j (snoc (one (⟨20, nt, nc⟩ : Nd)) y)) l
  else PR.ok (Nd.mk 12 i (one (⟨20, nt, nc⟩ : Nd))) j) e w' := by
 dsimp only at hne ⊢
 simp only [h1, decide_true, Bool.true_and, if_true] at hne ⊢
 have hne2 : absA L f 0 (j + 1) d ≠ .out := fun e => hne (by rw [e]; rfl)
 have hHo := zH (fun w h => paExpr_any (w := w) (i := j + 1) (d := d) h H hd hne2)
 clear H HP hne
 cases hro : absA L f 0 (j + 1) d with
 | out => exact absurd hro hne2
 | bad j2 =>
  rw [hro] at hHo
  simp only [PR.bind]
  have hP := zH (h.alloc (.cells #[.int .i64 0, .int .i64 0, .slice none 0 0] 24 (0, 0))).1
  have hM := zH (h.alloc (.cells #[.int .i64 0, .int .i64 0, .slice none 0 0] 24 (0, 0))).2
  have hN := zH (nblk_new w 0 0 none 0 0)
  obtain ⟨gb, hgb⟩ : ∃ gb, w.heap.size = gb := ⟨_, rfl⟩
  have hz : (w.alloc (.cells #[.int .i64 0, .int .i64 0, .slice none 0 0] 24 (0, 0))).heap.size = gb + 1 := by simp [hgb]
  have hgl : g < gb := by have := h.lt; omega
  rw [hgb] at hN
  obtain ⟨W1, hq_W1⟩ : ∃ W1, w.alloc (.cells #[.int .i64 0, .int .i64 0, .slice none 0 0] 24 (0, 0)) = W1 := ⟨_, rfl⟩
  rw [hq_W1] at hP hM hN hz
  replace hz := And.intro (Nat.le_of_eq hz) (Nat.le_of_eq hz.symm)
  replace h := zH h
  have c1 := (uH hP).c1
  have f1 := (uH hP).fr 1
  go_enter Tryz.func143, Tryz.ntmps143
  go_wp2_with fail
  clear hq_W1
  clear c1 f1
  have hC := uH hH _ (uH hP)
  rw [hr] at hC
  refine (hC).mono ?_
  rintro e W2 ⟨a1, m1, c1, rfl, hs, h2, hm⟩
  have hzs := hm.size
  have hs1 := zH (hs.mono (P' := fun x => gb < x ∧ x < W2.heap.size) (fun x hx => by have := (uH hN).lt; have e1 := hx.1; have e2 := hx.lt; exact ⟨by omega, by omega⟩))
  clear hs
  replace hN := zH ((uH hN).mop (uH hP) hm)
  have hzz := hm.size
  replace hM := zH ((uH hM).trans hm)
  replace hP := zH h2
  clear hm h2
  dsimp only at hs1
  obtain ⟨b1, hq_b1⟩ : ∃ x, W2.heap.size = x := ⟨_, rfl⟩
  have hB := zH (nblk_new W2 20 nt a1 m1 c1)
  have hm := mop_below (g := g) (below_alloc W2 (.cells #[.int .i64 20, .int .i64 nt, .slice a1 m1 c1] 24 (0, 0)))
  have h2 := (uH hP).below (below_alloc W2 (.cells #[.int .i64 20, .int .i64 nt, .slice a1 m1 c1] 24 (0, 0)))
  have hzs : (W2.alloc (.cells #[.int .i64 20, .int .i64 nt, .slice a1 m1 c1] 24 (0, 0))).heap.size = b1 + 1 := by simp [hq_b1]
  obtain ⟨W3, hq_W3⟩ : ∃ x, W2.alloc (.cells #[.int .i64 20, .int .i64 nt, .slice a1 m1 c1] 24 (0, 0)) = x := ⟨_, rfl⟩
  rw [hq_W3] at hB hm h2 hzs
  replace hzs := And.intro (Nat.le_of_eq hzs) (Nat.le_of_eq hzs.symm)
  rw [hq_b1] at hB
  replace hq_W3 := zH hq_W3
  replace hN := zH ((uH hN).mop (uH hP) hm)
  replace hs1 := zH ((uH hs1).mop (uH hP) hm)
  have hzz := hm.size
  replace hM := zH ((uH hM).trans hm)
  replace hP := zH h2
  clear hm h2
  obtain ⟨p0_hB, p1_hB, p2_hB⟩ := (uH hB).box
  have f0_hB := (uH hB).frozen 0
  have f1_hB := (uH hB).frozen 1
  have f2_hB := (uH hB).frozen 2
  go_wp2_with fail
  rw [uH hq_W3]
  clear hq_W3
  refine (paOp_any _ _).mono ?_
  rintro e W4 ⟨rfl, hb⟩
  have h2 := (uH hP).below hb
  have hm := mop_below (g := g) hb
  clear hb
  replace hN := zH ((uH hN).mop (uH hP) hm)
  replace hB := zH ((uH hB).mop (uH hP) hm)
  replace hs1 := zH ((uH hs1).mop (uH hP) hm)
  have hzz := hm.size
  replace hM := zH ((uH hM).trans hm)
  replace hP := zH h2
  clear hm h2
  go_wp2_with fail
  refine (paTake_yes (uH hP) (opT [58, 61]) (by rw [eqB_op]; exact h1) (opA_lt h1)).mono ?_
  rintro e W5 ⟨rfl, h2, hm⟩
  replace hN := zH ((uH hN).mop (uH hP) hm)
  replace hB := zH ((uH hB).mop (uH hP) hm)
  replace hs1 := zH ((uH hs1).mop (uH hP) hm)
  have hzz := hm.size
  replace hM := zH ((uH hM).trans hm)
  replace hP := zH h2
  clear hm h2
  go_upto_region 5 with fail
  have hb : Below W5.heap.size W5 (World.drew W5) := (Below.refl _ _).drew
  have h2 := (uH hP).below hb
  have hm := mop_below (g := g) hb
  clear hb
  obtain ⟨WD, hq_WD⟩ : ∃ x, World.drew W5 = x := ⟨_, rfl⟩
  rw [hq_WD] at h2 hm
  replace hN := zH ((uH hN).mop (uH hP) hm)
  replace hB := zH ((uH hB).mop (uH hP) hm)
  replace hs1 := zH ((uH hs1).mop (uH hP) hm)
  have hzz := hm.size
  replace hM := zH ((uH hM).trans hm)
  replace hP := zH h2
  clear hm h2
  have hS : NBlk WD b1 20 nt a1 m1 c1 := uH hB
  refine wp_region_D (fun w' => NBlk w' b1 20 nt a1 m1 c1) (fun j => [6].contains j) (by kernel_rfl) ?_
  rw [hq_WD]
  clear hq_WD
  refine wpAnyD_takeC (i := 0) (v := .pointer (some ⟨b1, 1, none⟩)) [6] (fun _ => rfl) rfl (by kernel_rfl) 3 (by kernel_rfl) rfl (by kernel_rfl) (by kernel_rfl) (by kernel_rfl) (fun _ _ _ h => h) (Or.inl ⟨by kernel_rfl, ?_⟩) hS ?_
  ·
   intro w hSw
   go_simp
  try simp only [List.getElem_toArray, List.getElem_cons_succ, List.getElem_cons_zero, Act.put, List.setIfInBounds_toArray, List.set_cons_zero, List.set_cons_succ]
  refine wpAnyD_takeC (i := 1) (v := .int .i64 nt) [6] (fun _ => rfl) rfl (by kernel_rfl) 3 (by kernel_rfl) rfl (by kernel_rfl) (by kernel_rfl) (by kernel_rfl) (fun _ _ _ h => h) (Or.inl ⟨by kernel_rfl, ?_⟩) hS ?_
  ·
   intro w hSw
   obtain ⟨e0, e1, e2⟩ := hSw.box
   go_simp
  try simp only [List.getElem_toArray, List.getElem_cons_succ, List.getElem_cons_zero, Act.put, List.setIfInBounds_toArray, List.set_cons_zero, List.set_cons_succ]
  refine wpAnyD_takeC (i := 2) (v := .pointer (some ⟨g, 0, none⟩)) [6] (fun _ => rfl) rfl (by kernel_rfl) 3 (by kernel_rfl) rfl (by kernel_rfl) (by kernel_rfl) (by kernel_rfl) (fun _ _ _ h => h) (Or.inl ⟨by kernel_rfl, ?_⟩) hS ?_
  ·
   intro w hSw
   go_simp
  try simp only [List.getElem_toArray, List.getElem_cons_succ, List.getElem_cons_zero, Act.put, List.setIfInBounds_toArray, List.set_cons_zero, List.set_cons_succ]
  refine wpAnyD_one (i := 3) rfl (by kernel_rfl) (fun K' hK_ => ?_)
  rw [if_pos (by kernel_rfl)]
  refine oper_callR (run_call1 cf_paExpr) ?_
  refine (uH hHo _ (uH hP)).mono ?_
  rintro e W6 hBad
  obtain rfl := hBad.1
  have hG := zH (hBad.pre (uH hM))
  clear hBad
  go_wp2
  exact ⟨rfl, uH hG⟩
 | ok n2 j2 =>
  obtain ⟨yk, yt, yc⟩ := n2
  rw [hro] at hHo
  simp only [PR.bind, one, snoc, F.app]
  have hP := zH (h.alloc (.cells #[.int .i64 0, .int .i64 0, .slice none 0 0] 24 (0, 0))).1
  have hM := zH (h.alloc (.cells #[.int .i64 0, .int .i64 0, .slice none 0 0] 24 (0, 0))).2
  have hN := zH (nblk_new w 0 0 none 0 0)
  obtain ⟨gb, hgb⟩ : ∃ gb, w.heap.size = gb := ⟨_, rfl⟩
  have hz : (w.alloc (.cells #[.int .i64 0, .int .i64 0, .slice none 0 0] 24 (0, 0))).heap.size = gb + 1 := by simp [hgb]
  have hgl : g < gb := by have := h.lt; omega
  rw [hgb] at hN
  obtain ⟨W1, hq_W1⟩ : ∃ W1, w.alloc (.cells #[.int .i64 0, .int .i64 0, .slice none 0 0] 24 (0, 0)) = W1 := ⟨_, rfl⟩
  rw [hq_W1] at hP hM hN hz
  replace hz := And.intro (Nat.le_of_eq hz) (Nat.le_of_eq hz.symm)
  replace h := zH h
  have c1 := (uH hP).c1
  have f1 := (uH hP).fr 1
  go_enter Tryz.func143, Tryz.ntmps143
  go_wp2_with fail
  clear hq_W1
  clear c1 f1
  have hC := uH hH _ (uH hP)
  rw [hr] at hC
  refine (hC).mono ?_
  rintro e W2 ⟨a1, m1, c1, rfl, hs, h2, hm⟩
  have hzs := hm.size
  have hs1 := zH (hs.mono (P' := fun x => gb < x ∧ x < W2.heap.size) (fun x hx => by have := (uH hN).lt; have e1 := hx.1; have e2 := hx.lt; exact ⟨by omega, by omega⟩))
  clear hs
  replace hN := zH ((uH hN).mop (uH hP) hm)
  have hzz := hm.size
  replace hM := zH ((uH hM).trans hm)
  replace hP := zH h2
  clear hm h2
  dsimp only at hs1
  obtain ⟨b1, hq_b1⟩ : ∃ x, W2.heap.size = x := ⟨_, rfl⟩
  have hB := zH (nblk_new W2 20 nt a1 m1 c1)
  have hm := mop_below (g := g) (below_alloc W2 (.cells #[.int .i64 20, .int .i64 nt, .slice a1 m1 c1] 24 (0, 0)))
  have h2 := (uH hP).below (below_alloc W2 (.cells #[.int .i64 20, .int .i64 nt, .slice a1 m1 c1] 24 (0, 0)))
  have hzs : (W2.alloc (.cells #[.int .i64 20, .int .i64 nt, .slice a1 m1 c1] 24 (0, 0))).heap.size = b1 + 1 := by simp [hq_b1]
  obtain ⟨W3, hq_W3⟩ : ∃ x, W2.alloc (.cells #[.int .i64 20, .int .i64 nt, .slice a1 m1 c1] 24 (0, 0)) = x := ⟨_, rfl⟩
  rw [hq_W3] at hB hm h2 hzs
  replace hzs := And.intro (Nat.le_of_eq hzs) (Nat.le_of_eq hzs.symm)
  rw [hq_b1] at hB
  replace hq_W3 := zH hq_W3
  replace hN := zH ((uH hN).mop (uH hP) hm)
  replace hs1 := zH ((uH hs1).mop (uH hP) hm)
  have hzz := hm.size
  replace hM := zH ((uH hM).trans hm)
  replace hP := zH h2
  clear hm h2
  obtain ⟨p0_hB, p1_hB, p2_hB⟩ := (uH hB).box
  have f0_hB := (uH hB).frozen 0
  have f1_hB := (uH hB).frozen 1
  have f2_hB := (uH hB).frozen 2
  go_wp2_with fail
  rw [uH hq_W3]
  clear hq_W3
  refine (paOp_any _ _).mono ?_
  rintro e W4 ⟨rfl, hb⟩
  have h2 := (uH hP).below hb
  have hm := mop_below (g := g) hb
  clear hb
  replace hN := zH ((uH hN).mop (uH hP) hm)
  replace hB := zH ((uH hB).mop (uH hP) hm)
  replace hs1 := zH ((uH hs1).mop (uH hP) hm)
  have hzz := hm.size
  replace hM := zH ((uH hM).trans hm)
  replace hP := zH h2
  clear hm h2
  go_wp2_with fail
  refine (paTake_yes (uH hP) (opT [58, 61]) (by rw [eqB_op]; exact h1) (opA_lt h1)).mono ?_
  rintro e W5 ⟨rfl, h2, hm⟩
  replace hN := zH ((uH hN).mop (uH hP) hm)
  replace hB := zH ((uH hB).mop (uH hP) hm)
  replace hs1 := zH ((uH hs1).mop (uH hP) hm)
  have hzz := hm.size
  replace hM := zH ((uH hM).trans hm)
  replace hP := zH h2
  clear hm h2
  go_upto_region 5 with fail
  have hb : Below W5.heap.size W5 (World.drew W5) := (Below.refl _ _).drew
  have h2 := (uH hP).below hb
  have hm := mop_below (g := g) hb
  clear hb
  obtain ⟨WD, hq_WD⟩ : ∃ x, World.drew W5 = x := ⟨_, rfl⟩
  rw [hq_WD] at h2 hm
  replace hN := zH ((uH hN).mop (uH hP) hm)
  replace hB := zH ((uH hB).mop (uH hP) hm)
  replace hs1 := zH ((uH hs1).mop (uH hP) hm)
  have hzz := hm.size
  replace hM := zH ((uH hM).trans hm)
  replace hP := zH h2
  clear hm h2
  have hS : NBlk WD b1 20 nt a1 m1 c1 := uH hB
  refine wp_region_D (fun w' => NBlk w' b1 20 nt a1 m1 c1) (fun j => [6].contains j) (by kernel_rfl) ?_
  rw [hq_WD]
  clear hq_WD
  refine wpAnyD_takeC (i := 0) (v := .pointer (some ⟨b1, 1, none⟩)) [6] (fun _ => rfl) rfl (by kernel_rfl) 3 (by kernel_rfl) rfl (by kernel_rfl) (by kernel_rfl) (by kernel_rfl) (fun _ _ _ h => h) (Or.inl ⟨by kernel_rfl, ?_⟩) hS ?_
  ·
   intro w hSw
   go_simp
  try simp only [List.getElem_toArray, List.getElem_cons_succ, List.getElem_cons_zero, Act.put, List.setIfInBounds_toArray, List.set_cons_zero, List.set_cons_succ]
  refine wpAnyD_takeC (i := 1) (v := .int .i64 nt) [6] (fun _ => rfl) rfl (by kernel_rfl) 3 (by kernel_rfl) rfl (by kernel_rfl) (by kernel_rfl) (by kernel_rfl) (fun _ _ _ h => h) (Or.inl ⟨by kernel_rfl, ?_⟩) hS ?_
  ·
   intro w hSw
   obtain ⟨e0, e1, e2⟩ := hSw.box
   go_simp
  try simp only [List.getElem_toArray, List.getElem_cons_succ, List.getElem_cons_zero, Act.put, List.setIfInBounds_toArray, List.set_cons_zero, List.set_cons_succ]
  refine wpAnyD_takeC (i := 2) (v := .pointer (some ⟨g, 0, none⟩)) [6] (fun _ => rfl) rfl (by kernel_rfl) 3 (by kernel_rfl) rfl (by kernel_rfl) (by kernel_rfl) (by kernel_rfl) (fun _ _ _ h => h) (Or.inl ⟨by kernel_rfl, ?_⟩) hS ?_
  ·
   intro w hSw
   go_simp
  try simp only [List.getElem_toArray, List.getElem_cons_succ, List.getElem_cons_zero, Act.put, List.setIfInBounds_toArray, List.set_cons_zero, List.set_cons_succ]
  refine wpAnyD_one (i := 3) rfl (by kernel_rfl) (fun K' hK_ => ?_)
  rw [if_pos (by kernel_rfl)]
  refine oper_callR (run_call1 cf_paExpr) ?_
  refine (uH hHo _ (uH hP)).mono ?_
  rintro e W6 ⟨a2, m2, c2, rfl, hs, h2, hm⟩
  have hzs := hm.size
  have hs2 := zH (hs.mono (P' := fun x => gb < x ∧ x < W6.heap.size ∧ x ≠ b1) (fun x hx => by have := (uH hN).lt; have := (uH hB).lt; have e1 := hx.1; have e2 := hx.lt; exact ⟨by omega, by omega, by omega⟩))
  clear hs
  replace hN := zH ((uH hN).mop (uH hP) hm)
  replace hB := zH ((uH hB).mop (uH hP) hm)
  replace hs1 := zH ((uH hs1).mop (uH hP) hm)
  have hzz := hm.size
  replace hM := zH ((uH hM).trans hm)
  replace hP := zH h2
  clear hm h2
  dsimp only at hs2
  have hSW6 : NBlk W6 b1 20 nt a1 m1 c1 := uH hB
  refine hK_ _ _ (fun _ => hSW6) ?_
  clear hK_ K' hS
  have hS := hSW6
  try simp only [List.getElem_toArray, List.getElem_cons_succ, List.getElem_cons_zero, Act.put, List.setIfInBounds_toArray, List.set_cons_zero, List.set_cons_succ]
  refine wpAnyD_one (i := 4) rfl (by kernel_rfl) (fun K' hK_ => ?_)
  rw [if_pos (by kernel_rfl)]
  refine oper_of_run (run_build_one W6 _ _ _ _ _ _ _ yk yt a2 m2 c2 rfl) ?_
  obtain ⟨b3, hq_b3⟩ : ∃ x, W6.heap.size = x := ⟨_, rfl⟩
  have hzz : (W6.alloc (.cells #[.int .i64 yk, .int .i64 yt, .slice a2 m2 c2] 24 (0, 0))).heap.size = b3 + 1 := by simp [hq_b3]
  have hm := mop_below (g := g) (below_alloc W6 (.cells #[.int .i64 yk, .int .i64 yt, .slice a2 m2 c2] 24 (0, 0)))
  have h2 := (uH hP).below (below_alloc W6 (.cells #[.int .i64 yk, .int .i64 yt, .slice a2 m2 c2] 24 (0, 0)))
  have hs3 := lit1_sl (P := fun x => gb < x ∧ x < b3 + 1 ∧ x ≠ b1) W6 yk yt a2 m2 c2 yc ((uH hs2).mono (fun x hx => by have e1 := hx.1; have e2 := hx.lt; exact ⟨by omega, by omega, by omega⟩)) ⟨by omega, by omega, (by have := (uH hN).lt; have := (uH hB).lt; omega)⟩
  rw [hq_b3] at hs3
  obtain ⟨W7, hq_W7⟩ : ∃ x, W6.alloc (.cells #[.int .i64 yk, .int .i64 yt, .slice a2 m2 c2] 24 (0, 0)) = x := ⟨_, rfl⟩
  rw [hq_W7] at hs3 hm h2 hzz
  rw [← hzz] at hs3
  replace hzz := And.intro (Nat.le_of_eq hzz) (Nat.le_of_eq hzz.symm)
  replace hs3 := zH hs3
  replace hN := zH ((uH hN).mop (uH hP) hm)
  replace hB := zH ((uH hB).mop (uH hP) hm)
  replace hs1 := zH ((uH hs1).mop (uH hP) hm)
  have hzz := hm.size
  replace hM := zH ((uH hM).trans hm)
  replace hP := zH h2
  clear hm h2
  rw [hq_W7, hq_b3]
  clear hq_W7
  have hSW7 : NBlk W7 b1 20 nt a1 m1 c1 := uH hB
  refine hK_ _ _ (fun _ => hSW7) ?_
  clear hK_ K' hS
  have hS := hSW7
  try simp only [List.getElem_toArray, List.getElem_cons_succ, List.getElem_cons_zero, Act.put, List.setIfInBounds_toArray, List.set_cons_zero, List.set_cons_succ]
  refine wpAnyD_one (i := 5) rfl (by kernel_rfl) (fun K' hK_ => ?_)
  rw [if_pos (by kernel_rfl)]
  refine oper_of_run (v := .agg #[.int .i64 11, .int .i64 nt, .slice (some ⟨b3, 0, none⟩) 1 1]) (w' := W7) (by clear hK_; go_simp) ?_
  refine hK_ _ _ (fun _ => hS) ?_
  clear hK_ K'
  try simp only [List.getElem_toArray, List.getElem_cons_succ, List.getElem_cons_zero, Act.put, List.setIfInBounds_toArray, List.set_cons_zero, List.set_cons_succ]
  refine wpAnyD_one (i := 6) rfl (by kernel_rfl) (fun K' hK_ => ?_)
  rw [if_pos (by kernel_rfl)]
  refine oper_skip (run_store_nd W7 _ _ _ _ _ _ _ _ gb 0 0 11 nt none (some ⟨b3, 0, none⟩) 0 0 1 1 (uH hN) rfl rfl) ?_
  refine hK_ _ _ (fun h => by cases h) ?_
  clear hK_ K'
  try simp only [List.getElem_toArray, List.getElem_cons_succ, List.getElem_cons_zero, Act.put, List.setIfInBounds_toArray, List.set_cons_zero, List.set_cons_succ]
  clear hS
  refine wpAnyD_done (by kernel_rfl) ?_ _
  obtain ⟨p0_hN, p1_hN, p2_hN⟩ := (uH hN).box
  have f0_hN := (uH hN).frozen 0
  have f1_hN := (uH hN).frozen 1
  have f2_hN := (uH hN).frozen 2
  have hF := zH (res_fin (k := 11) (t := nt) (a := some ⟨b3, 0, none⟩) (m := 1) (c := 1) (f := .cons yk yt yc .nil) (B := gb) (w := w) (Nat.le_refl gb) (by omega) (uH hN) ((uH hs3).mono (fun x hx => by have e1 := hx.1; exact ⟨by omega, by omega⟩)) (uH hP) (uH hM))
  go_wp2
  obtain ⟨q1, q2, q3, q4⟩ := uH hF
  obtain ⟨u0, u1, u2⟩ := q1.box
  refine bodyPost_ret (v := .agg #[.int .i64 (11), .int .i64 (nt), .slice (some ⟨b3, 0, none⟩) (1) (1)]) (by simp [results, Tryz.results143, go_sem, u0, u1, u2]) rfl ?_
  exact ⟨_, _, _, rfl, (by first | exact q2 | (rw [hgb]; exact q2)), q3, q4⟩
set_option maxHeartbeats 4000000 in
set_option maxRecDepth 100000 in
theorem paSimple_lab {g : Nat} {tv : Value} {L : List Tk} {i d : Nat} {w : World} (h : PaW g tv L i d w) {f : Nat} (H : ExA g tv L f) (HP : ∀ (w : World) (i : Nat), PaW g tv L i d w → guaA L f 15 kFor i d ≠ .out → Calls Tryz.prog 140 #[.pointer (some ⟨g, 0, none⟩)] w fun e w' => ResN w.heap.size g tv L d w (guaA L f 15 kFor i d) e w') (hd : d ≤ 40) (hH : Hid (∀ (w : World), PaW g tv L i d w → Calls Tryz.prog 105 #[.pointer (some ⟨g, 0, none⟩)] w fun e w' => ResN w.heap.size g tv L d w (absA L f 0 i d) e w')) {nt : Int} {nc : F} {j : Nat} (h1 : opA L j [58, 61] = false) (h2 : opA L j [58] = true) (hr : absA L f 0 i d = .ok ⟨20, nt, nc⟩ j) (hne : (if decide ((⟨20, nt, nc⟩ : Nd).k = 20) && opA L j [58, 61] then (absA L f 0 (j + 1) d).bind fun y l => PR.ok (Nd.mk 11 (⟨20, nt, nc⟩ : Nd).t (one y)) l
  else if decide ((⟨20, nt, nc⟩ : Nd).k = 20) && opA L j [58] then (guaA L f 15 kFor (j + 1) d).bind fun y l => PR.ok (Nd.mk 19 (⟨20, nt, nc⟩ : Nd).t (one y)) l
  else if opA L j [61] then (absA L f 0 (j + 1) d).bind fun y l => PR.ok (Nd.mk 13 j (snoc (one (⟨20, nt, nc⟩ : Nd)) y)) l
  else PR.ok (Nd.mk 12 i (one (⟨20, nt, nc⟩ : Nd))) j) ≠ .out) :
  Calls Tryz.prog 143 #[.pointer (some ⟨g, 0, none⟩)] w fun e w' => ResN w.heap.size g tv L d w (if decide ((⟨20, nt, nc⟩ : Nd).k = 20) && opA L j [58, 61] then (absA L f 0 (j + 1) d).bind fun y l => PR.ok (Nd.mk 11 (⟨20, nt, nc⟩ : Nd).t (one y)) l
  else if decide ((⟨20, nt, nc⟩ : Nd).k = 20) && opA L j [58] then (guaA L f 15 kFor (j + 1) d).bind fun y l => PR.ok (Nd.mk 19 (⟨20, nt, nc⟩ : Nd).t (one y)) l
  else if opA L j [61] then (absA L f 0 (j + 1) d).bind fun y l => PR.ok (Nd.mk 13 j (snoc (one (⟨20, nt, nc⟩ : Nd)) y)) l
  else PR.ok (Nd.mk 12 i (one (⟨20, nt, nc⟩ : Nd))) j) e w' := by
 dsimp only at hne ⊢
 simp only [h1, h2, decide_true, Bool.true_and, if_true, Bool.false_eq_true, if_false] at hne ⊢
 have hne2 : guaA L f 15 kFor (j + 1) d ≠ .out := fun e => hne (by rw [e]; rfl)
 have hHo := zH (fun w h => HP w (j + 1) h hne2)
 clear H HP hne
 cases hro : guaA L f 15 kFor (j + 1) d with
 | out => exact absurd hro hne2
 | bad j2 =>
  rw [hro] at hHo
  simp only [PR.bind]
  have hP := zH (h.alloc (.cells #[.int .i64 0, .int .i64 0, .slice none 0 0] 24 (0, 0))).1
  have hM := zH (h.alloc (.cells #[.int .i64 0, .int .i64 0, .slice none 0 0] 24 (0, 0))).2
  have hN := zH (nblk_new w 0 0 none 0 0)
  obtain ⟨gb, hgb⟩ : ∃ gb, w.heap.size = gb := ⟨_, rfl⟩
  have hz : (w.alloc (.cells #[.int .i64 0, .int .i64 0, .slice none 0 0] 24 (0, 0))).heap.size = gb + 1 := by simp [hgb]
  have hgl : g < gb := by have := h.lt; omega
  rw [hgb] at hN
  obtain ⟨W1, hq_W1⟩ : ∃ W1, w.alloc (.cells #[.int .i64 0, .int .i64 0, .slice none 0 0] 24 (0, 0)) = W1 := ⟨_, rfl⟩
  rw [hq_W1] at hP hM hN hz
  replace hz := And.intro (Nat.le_of_eq hz) (Nat.le_of_eq hz.symm)
  replace h := zH h
  have c1 := (uH hP).c1
  have f1 := (uH hP).fr 1
  go_enter Tryz.func143, Tryz.ntmps143
  go_wp2_with fail
  clear hq_W1
  clear c1 f1
  have hC := uH hH _ (uH hP)
  rw [hr] at hC
  refine (hC).mono ?_
  rintro e W2 ⟨a1, m1, c1, rfl, hs, h2, hm⟩
  have hzs := hm.size
  have hs1 := zH (hs.mono (P' := fun x => gb < x ∧ x < W2.heap.size) (fun x hx => by have := (uH hN).lt; have e1 := hx.1; have e2 := hx.lt; exact ⟨by omega, by omega⟩))
  clear hs
  replace hN := zH ((uH hN).mop (uH hP) hm)
  have hzz := hm.size
  replace hM := zH ((uH hM).trans hm)
  replace hP := zH h2
  clear hm h2
  dsimp only at hs1
  obtain ⟨b1, hq_b1⟩ : ∃ x, W2.heap.size = x := ⟨_, rfl⟩
  have hB := zH (nblk_new W2 20 nt a1 m1 c1)
  have hm := mop_below (g := g) (below_alloc W2 (.cells #[.int .i64 20, .int .i64 nt, .slice a1 m1 c1] 24 (0, 0)))
  have h2 := (uH hP).below (below_alloc W2 (.cells #[.int .i64 20, .int .i64 nt, .slice a1 m1 c1] 24 (0, 0)))
  have hzs : (W2.alloc (.cells #[.int .i64 20, .int .i64 nt, .slice a1 m1 c1] 24 (0, 0))).heap.size = b1 + 1 := by simp [hq_b1]
  obtain ⟨W3, hq_W3⟩ : ∃ x, W2.alloc (.cells #[.int .i64 20, .int .i64 nt, .slice a1 m1 c1] 24 (0, 0)) = x := ⟨_, rfl⟩
  rw [hq_W3] at hB hm h2 hzs
  replace hzs := And.intro (Nat.le_of_eq hzs) (Nat.le_of_eq hzs.symm)
  rw [hq_b1] at hB
  replace hq_W3 := zH hq_W3
  replace hN := zH ((uH hN).mop (uH hP) hm)
  replace hs1 := zH ((uH hs1).mop (uH hP) hm)
  have hzz := hm.size
  replace hM := zH ((uH hM).trans hm)
  replace hP := zH h2
  clear hm h2
  obtain ⟨p0_hB, p1_hB, p2_hB⟩ := (uH hB).box
  have f0_hB := (uH hB).frozen 0
  have f1_hB := (uH hB).frozen 1
  have f2_hB := (uH hB).frozen 2
  go_wp2_with fail
  rw [uH hq_W3]
  clear hq_W3
  refine (paOp_any _ _).mono ?_
  rintro e W4 ⟨rfl, hb⟩
  have h2 := (uH hP).below hb
  have hm := mop_below (g := g) hb
  clear hb
  replace hN := zH ((uH hN).mop (uH hP) hm)
  replace hB := zH ((uH hB).mop (uH hP) hm)
  replace hs1 := zH ((uH hs1).mop (uH hP) hm)
  have hzz := hm.size
  replace hM := zH ((uH hM).trans hm)
  replace hP := zH h2
  clear hm h2
  go_wp2_with fail
  refine (paTake_no (uH hP) (opT [58, 61]) (by rw [eqB_op]; exact h1)).mono ?_
  rintro e W5 ⟨rfl, h2, hm⟩
  replace hN := zH ((uH hN).mop (uH hP) hm)
  replace hB := zH ((uH hB).mop (uH hP) hm)
  replace hs1 := zH ((uH hs1).mop (uH hP) hm)
  have hzz := hm.size
  replace hM := zH ((uH hM).trans hm)
  replace hP := zH h2
  clear hm h2
  go_wp2_with fail
  refine (paOp_any _ _).mono ?_
  rintro e W6 ⟨rfl, hb⟩
  have h2 := (uH hP).below hb
  have hm := mop_below (g := g) hb
  clear hb
  replace hN := zH ((uH hN).mop (uH hP) hm)
  replace hB := zH ((uH hB).mop (uH hP) hm)
  replace hs1 := zH ((uH hs1).mop (uH hP) hm)
  have hzz := hm.size
  replace hM := zH ((uH hM).trans hm)
  replace hP := zH h2
  clear hm h2
  go_wp2_with fail
  refine (paTake_yes (uH hP) (opT [58]) (by rw [eqB_op]; exact h2) (opA_lt h2)).mono ?_
  rintro e W7 ⟨rfl, h2, hm⟩
  replace hN := zH ((uH hN).mop (uH hP) hm)
  replace hB := zH ((uH hB).mop (uH hP) hm)
  replace hs1 := zH ((uH hs1).mop (uH hP) hm)
  have hzz := hm.size
  replace hM := zH ((uH hM).trans hm)
  replace hP := zH h2
  clear hm h2
  go_upto_region 7 with fail
  have hb : Below W7.heap.size W7 (World.drew W7) := (Below.refl _ _).drew
  have h2 := (uH hP).below hb
  have hm := mop_below (g := g) hb
  clear hb
  obtain ⟨WD, hq_WD⟩ : ∃ x, World.drew W7 = x := ⟨_, rfl⟩
  rw [hq_WD] at h2 hm
  replace hN := zH ((uH hN).mop (uH hP) hm)
  replace hB := zH ((uH hB).mop (uH hP) hm)
  replace hs1 := zH ((uH hs1).mop (uH hP) hm)
  have hzz := hm.size
  replace hM := zH ((uH hM).trans hm)
  replace hP := zH h2
  clear hm h2
  have hS : NBlk WD b1 20 nt a1 m1 c1 := uH hB
  refine wp_region_D (fun w' => NBlk w' b1 20 nt a1 m1 c1) (fun j => [6].contains j) (by kernel_rfl) ?_
  rw [hq_WD]
  clear hq_WD
  refine wpAnyD_takeC (i := 0) (v := .pointer (some ⟨b1, 1, none⟩)) [6] (fun _ => rfl) rfl (by kernel_rfl) 3 (by kernel_rfl) rfl (by kernel_rfl) (by kernel_rfl) (by kernel_rfl) (fun _ _ _ h => h) (Or.inl ⟨by kernel_rfl, ?_⟩) hS ?_
  ·
   intro w hSw
   go_simp
  try simp only [List.getElem_toArray, List.getElem_cons_succ, List.getElem_cons_zero, Act.put, List.setIfInBounds_toArray, List.set_cons_zero, List.set_cons_succ]
  refine wpAnyD_takeC (i := 1) (v := .int .i64 nt) [6] (fun _ => rfl) rfl (by kernel_rfl) 3 (by kernel_rfl) rfl (by kernel_rfl) (by kernel_rfl) (by kernel_rfl) (fun _ _ _ h => h) (Or.inl ⟨by kernel_rfl, ?_⟩) hS ?_
  ·
   intro w hSw
   obtain ⟨e0, e1, e2⟩ := hSw.box
   go_simp
  try simp only [List.getElem_toArray, List.getElem_cons_succ, List.getElem_cons_zero, Act.put, List.setIfInBounds_toArray, List.set_cons_zero, List.set_cons_succ]
  refine wpAnyD_takeC (i := 2) (v := .pointer (some ⟨g, 0, none⟩)) [6] (fun _ => rfl) rfl (by kernel_rfl) 3 (by kernel_rfl) rfl (by kernel_rfl) (by kernel_rfl) (by kernel_rfl) (fun _ _ _ h => h) (Or.inl ⟨by kernel_rfl, ?_⟩) hS ?_
  ·
   intro w hSw
   go_simp
  try simp only [List.getElem_toArray, List.getElem_cons_succ, List.getElem_cons_zero, Act.put, List.setIfInBounds_toArray, List.set_cons_zero, List.set_cons_succ]
  refine wpAnyD_one (i := 3) rfl (by kernel_rfl) (fun K' hK_ => ?_)
  rw [if_pos (by kernel_rfl)]
  refine oper_callR (run_call1 cf_paLoop) ?_
  refine (uH hHo _ (uH hP)).mono ?_
  rintro e W8 hBad
  obtain rfl := hBad.1
  have hG := zH (hBad.pre (uH hM))
  clear hBad
  go_wp2
  exact ⟨rfl, uH hG⟩
 | ok n2 j2 =>
  obtain ⟨yk, yt, yc⟩ := n2
  rw [hro] at hHo
  simp only [PR.bind, one, snoc, F.app]
  have hP := zH (h.alloc (.cells #[.int .i64 0, .int .i64 0, .slice none 0 0] 24 (0, 0))).1
  have hM := zH (h.alloc (.cells #[.int .i64 0, .int .i64 0, .slice none 0 0] 24 (0, 0))).2
  have hN := zH (nblk_new w 0 0 none 0 0)
  obtain ⟨gb, hgb⟩ : ∃ gb, w.heap.size = gb := ⟨_, rfl⟩
  have hz : (w.alloc (.cells #[.int .i64 0, .int .i64 0, .slice none 0 0] 24 (0, 0))).heap.size = gb + 1 := by simp [hgb]
  have hgl : g < gb := by have := h.lt; omega
  rw [hgb] at hN
  obtain ⟨W1, hq_W1⟩ : ∃ W1, w.alloc (.cells #[.int .i64 0, .int .i64 0, .slice none 0 0] 24 (0, 0)) = W1 := ⟨_, rfl⟩
  rw [hq_W1] at hP hM hN hz
  replace hz := And.intro (Nat.le_of_eq hz) (Nat.le_of_eq hz.symm)
  replace h := zH h
  have c1 := (uH hP).c1
  have f1 := (uH hP).fr 1
  go_enter Tryz.func143, Tryz.ntmps143
  go_wp2_with fail
  clear hq_W1
  clear c1 f1
  have hC := uH hH _ (uH hP)
  rw [hr] at hC
  refine (hC).mono ?_
  rintro e W2 ⟨a1, m1, c1, rfl, hs, h2, hm⟩
  have hzs := hm.size
  have hs1 := zH (hs.mono (P' := fun x => gb < x ∧ x < W2.heap.size) (fun x hx => by have := (uH hN).lt; have e1 := hx.1; have e2 := hx.lt; exact ⟨by omega, by omega⟩))
  clear hs
  replace hN := zH ((uH hN).mop (uH hP) hm)
  have hzz := hm.size
  replace hM := zH ((uH hM).trans hm)
  replace hP := zH h2
  clear hm h2
  dsimp only at hs1
  obtain ⟨b1, hq_b1⟩ : ∃ x, W2.heap.size = x := ⟨_, rfl⟩
  have hB := zH (nblk_new W2 20 nt a1 m1 c1)
  have hm := mop_below (g := g) (below_alloc W2 (.cells #[.int .i64 20, .int .i64 nt, .slice a1 m1 c1] 24 (0, 0)))
  have h2 := (uH hP).below (below_alloc W2 (.cells #[.int .i64 20, .int .i64 nt, .slice a1 m1 c1] 24 (0, 0)))
  have hzs : (W2.alloc (.cells #[.int .i64 20, .int .i64 nt, .slice a1 m1 c1] 24 (0, 0))).heap.size = b1 + 1 := by simp [hq_b1]
  obtain ⟨W3, hq_W3⟩ : ∃ x, W2.alloc (.cells #[.int .i64 20, .int .i64 nt, .slice a1 m1 c1] 24 (0, 0)) = x := ⟨_, rfl⟩
  rw [hq_W3] at hB hm h2 hzs
  replace hzs := And.intro (Nat.le_of_eq hzs) (Nat.le_of_eq hzs.symm)
  rw [hq_b1] at hB
  replace hq_W3 := zH hq_W3
  replace hN := zH ((uH hN).mop (uH hP) hm)
  replace hs1 := zH ((uH hs1).mop (uH hP) hm)
  have hzz := hm.size
  replace hM := zH ((uH hM).trans hm)
  replace hP := zH h2
  clear hm h2
  obtain ⟨p0_hB, p1_hB, p2_hB⟩ := (uH hB).box
  have f0_hB := (uH hB).frozen 0
  have f1_hB := (uH hB).frozen 1
  have f2_hB := (uH hB).frozen 2
  go_wp2_with fail
  rw [uH hq_W3]
  clear hq_W3
  refine (paOp_any _ _).mono ?_
  rintro e W4 ⟨rfl, hb⟩
  have h2 := (uH hP).below hb
  have hm := mop_below (g := g) hb
  clear hb
  replace hN := zH ((uH hN).mop (uH hP) hm)
  replace hB := zH ((uH hB).mop (uH hP) hm)
  replace hs1 := zH ((uH hs1).mop (uH hP) hm)
  have hzz := hm.size
  replace hM := zH ((uH hM).trans hm)
  replace hP := zH h2
  clear hm h2
  go_wp2_with fail
  refine (paTake_no (uH hP) (opT [58, 61]) (by rw [eqB_op]; exact h1)).mono ?_
  rintro e W5 ⟨rfl, h2, hm⟩
  replace hN := zH ((uH hN).mop (uH hP) hm)
  replace hB := zH ((uH hB).mop (uH hP) hm)
  replace hs1 := zH ((uH hs1).mop (uH hP) hm)
  have hzz := hm.size
  replace hM := zH ((uH hM).trans hm)
  replace hP := zH h2
  clear hm h2
  go_wp2_with fail
  refine (paOp_any _ _).mono ?_
  rintro e W6 ⟨rfl, hb⟩
  have h2 := (uH hP).below hb
  have hm := mop_below (g := g) hb
  clear hb
  replace hN := zH ((uH hN).mop (uH hP) hm)
  replace hB := zH ((uH hB).mop (uH hP) hm)
  replace hs1 := zH ((uH hs1).mop (uH hP) hm)
  have hzz := hm.size
  replace hM := zH ((uH hM).trans hm)
  replace hP := zH h2
  clear hm h2
  go_wp2_with fail
  refine (paTake_yes (uH hP) (opT [58]) (by rw [eqB_op]; exact h2) (opA_lt h2)).mono ?_
  rintro e W7 ⟨rfl, h2, hm⟩
  replace hN := zH ((uH hN).mop (uH hP) hm)
  replace hB := zH ((uH hB).mop (uH hP) hm)
  replace hs1 := zH ((uH hs1).mop (uH hP) hm)
  have hzz := hm.size
  replace hM := zH ((uH hM).trans hm)
  replace hP := zH h2
  clear hm h2
  go_upto_region 7 with fail
  have hb : Below W7.heap.size W7 (World.drew W7) := (Below.refl _ _).drew
  have h2 := (uH hP).below hb
  have hm := mop_below (g := g) hb
  clear hb
  obtain ⟨WD, hq_WD⟩ : ∃ x, World.drew W7 = x := ⟨_, rfl⟩
  rw [hq_WD] at h2 hm
  replace hN := zH ((uH hN).mop (uH hP) hm)
  replace hB := zH ((uH hB).mop (uH hP) hm)
  replace hs1 := zH ((uH hs1).mop (uH hP) hm)
  have hzz := hm.size
  replace hM := zH ((uH hM).trans hm)
  replace hP := zH h2
  clear hm h2
  have hS : NBlk WD b1 20 nt a1 m1 c1 := uH hB
  refine wp_region_D (fun w' => NBlk w' b1 20 nt a1 m1 c1) (fun j => [6].contains j) (by kernel_rfl) ?_
  rw [hq_WD]
  clear hq_WD
  refine wpAnyD_takeC (i := 0) (v := .pointer (some ⟨b1, 1, none⟩)) [6] (fun _ => rfl) rfl (by kernel_rfl) 3 (by kernel_rfl) rfl (by kernel_rfl) (by kernel_rfl) (by kernel_rfl) (fun _ _ _ h => h) (Or.inl ⟨by kernel_rfl, ?_⟩) hS ?_
  ·
   intro w hSw
   go_simp
  try simp only [List.getElem_toArray, List.getElem_cons_succ, List.getElem_cons_zero, Act.put, List.setIfInBounds_toArray, List.set_cons_zero, List.set_cons_succ]
  refine wpAnyD_takeC (i := 1) (v := .int .i64 nt) [6] (fun _ => rfl) rfl (by kernel_rfl) 3 (by kernel_rfl) rfl (by kernel_rfl) (by kernel_rfl) (by kernel_rfl) (fun _ _ _ h => h) (Or.inl ⟨by kernel_rfl, ?_⟩) hS ?_
  ·
   intro w hSw
   obtain ⟨e0, e1, e2⟩ := hSw.box
   go_simp
  try simp only [List.getElem_toArray, List.getElem_cons_succ, List.getElem_cons_zero, Act.put, List.setIfInBounds_toArray, List.set_cons_zero, List.set_cons_succ]
  refine wpAnyD_takeC (i := 2) (v := .pointer (some ⟨g, 0, none⟩)) [6] (fun _ => rfl) rfl (by kernel_rfl) 3 (by kernel_rfl) rfl (by kernel_rfl) (by kernel_rfl) (by kernel_rfl) (fun _ _ _ h => h) (Or.inl ⟨by kernel_rfl, ?_⟩) hS ?_
  ·
   intro w hSw
   go_simp
  try simp only [List.getElem_toArray, List.getElem_cons_succ, List.getElem_cons_zero, Act.put, List.setIfInBounds_toArray, List.set_cons_zero, List.set_cons_succ]
  refine wpAnyD_one (i := 3) rfl (by kernel_rfl) (fun K' hK_ => ?_)
  rw [if_pos (by kernel_rfl)]
  refine oper_callR (run_call1 cf_paLoop) ?_
  refine (uH hHo _ (uH hP)).mono ?_
  rintro e W8 ⟨a2, m2, c2, rfl, hs, h2, hm⟩
  have hzs := hm.size
  have hs2 := zH (hs.mono (P' := fun x => gb < x ∧ x < W8.heap.size ∧ x ≠ b1) (fun x hx => by have := (uH hN).lt; have := (uH hB).lt; have e1 := hx.1; have e2 := hx.lt; exact ⟨by omega, by omega, by omega⟩))
  clear hs
  replace hN := zH ((uH hN).mop (uH hP) hm)
  replace hB := zH ((uH hB).mop (uH hP) hm)
  replace hs1 := zH ((uH hs1).mop (uH hP) hm)
  have hzz := hm.size
  replace hM := zH ((uH hM).trans hm)
  replace hP := zH h2
  clear hm h2
  dsimp only at hs2
  have hSW8 : NBlk W8 b1 20 nt a1 m1 c1 := uH hB
  refine hK_ _ _ (fun _ => hSW8) ?_
  clear hK_ K' hS
  have hS := hSW8
  try simp only [List.getElem_toArray, List.getElem_cons_succ, List.getElem_cons_zero, Act.put, List.setIfInBounds_toArray, List.set_cons_zero, List.set_cons_succ]
  refine wpAnyD_one (i := 4) rfl (by kernel_rfl) (fun K' hK_ => ?_)
  rw [if_pos (by kernel_rfl)]
  refine oper_of_run (run_build_one W8 _ _ _ _ _ _ _ yk yt a2 m2 c2 rfl) ?_
  obtain ⟨b3, hq_b3⟩ : ∃ x, W8.heap.size = x := ⟨_, rfl⟩
  have hzz : (W8.alloc (.cells #[.int .i64 yk, .int .i64 yt, .slice a2 m2 c2] 24 (0, 0))).heap.size = b3 + 1 := by simp [hq_b3]
  have hm := mop_below (g := g) (below_alloc W8 (.cells #[.int .i64 yk, .int .i64 yt, .slice a2 m2 c2] 24 (0, 0)))
  have h2 := (uH hP).below (below_alloc W8 (.cells #[.int .i64 yk, .int .i64 yt, .slice a2 m2 c2] 24 (0, 0)))
  have hs3 := lit1_sl (P := fun x => gb < x ∧ x < b3 + 1 ∧ x ≠ b1) W8 yk yt a2 m2 c2 yc ((uH hs2).mono (fun x hx => by have e1 := hx.1; have e2 := hx.lt; exact ⟨by omega, by omega, by omega⟩)) ⟨by omega, by omega, (by have := (uH hN).lt; have := (uH hB).lt; omega)⟩
  rw [hq_b3] at hs3
  obtain ⟨W9, hq_W9⟩ : ∃ x, W8.alloc (.cells #[.int .i64 yk, .int .i64 yt, .slice a2 m2 c2] 24 (0, 0)) = x := ⟨_, rfl⟩
  rw [hq_W9] at hs3 hm h2 hzz
  rw [← hzz] at hs3
  replace hzz := And.intro (Nat.le_of_eq hzz) (Nat.le_of_eq hzz.symm)
  replace hs3 := zH hs3
  replace hN := zH ((uH hN).mop (uH hP) hm)
  replace hB := zH ((uH hB).mop (uH hP) hm)
  replace hs1 := zH ((uH hs1).mop (uH hP) hm)
  have hzz := hm.size
  replace hM := zH ((uH hM).trans hm)
  replace hP := zH h2
  clear hm h2
  rw [hq_W9, hq_b3]
  clear hq_W9
  have hSW9 : NBlk W9 b1 20 nt a1 m1 c1 := uH hB
  refine hK_ _ _ (fun _ => hSW9) ?_
  clear hK_ K' hS
  have hS := hSW9
  try simp only [List.getElem_toArray, List.getElem_cons_succ, List.getElem_cons_zero, Act.put, List.setIfInBounds_toArray, List.set_cons_zero, List.set_cons_succ]
  refine wpAnyD_one (i := 5) rfl (by kernel_rfl) (fun K' hK_ => ?_)
  rw [if_pos (by kernel_rfl)]
  refine oper_of_run (v := .agg #[.int .i64 19, .int .i64 nt, .slice (some ⟨b3, 0, none⟩) 1 1]) (w' := W9) (by clear hK_; go_simp) ?_
  refine hK_ _ _ (fun _ => hS) ?_
  clear hK_ K'
  try simp only [List.getElem_toArray, List.getElem_cons_succ, List.getElem_cons_zero, Act.put, List.setIfInBounds_toArray, List.set_cons_zero, List.set_cons_succ]
  refine wpAnyD_one (i := 6) rfl (by kernel_rfl) (fun K' hK_ => ?_)
  rw [if_pos (by kernel_rfl)]
  refine oper_skip (run_store_nd W9 _ _ _ _ _ _ _ _ gb 0 0 19 nt none (some ⟨b3, 0, none⟩) 0 0 1 1 (uH hN) rfl rfl) ?_
  refine hK_ _ _ (fun h => by cases h) ?_
  clear hK_ K'
  try simp only [List.getElem_toArray, List.getElem_cons_succ, List.getElem_cons_zero, Act.put, List.setIfInBounds_toArray, List.set_cons_zero, List.set_cons_succ]
  clear hS
  refine wpAnyD_done (by kernel_rfl) ?_ _
  obtain ⟨p0_hN, p1_hN, p2_hN⟩ := (uH hN).box
  have f0_hN := (uH hN).frozen 0
  have f1_hN := (uH hN).frozen 1
  have f2_hN := (uH hN).frozen 2
  have hF := zH (res_fin (k := 19) (t := nt) (a := some ⟨b3, 0, none⟩) (m := 1) (c := 1) (f := .cons yk yt yc .nil) (B := gb) (w := w) (Nat.le_refl gb) (by omega) (uH hN) ((uH hs3).mono (fun x hx => by have e1 := hx.1; exact ⟨by omega, by omega⟩)) (uH hP) (uH hM))
  go_wp2
  obtain ⟨q1, q2, q3, q4⟩ := uH hF
  obtain ⟨u0, u1, u2⟩ := q1.box
  refine bodyPost_ret (v := .agg #[.int .i64 (19), .int .i64 (nt), .slice (some ⟨b3, 0, none⟩) (1) (1)]) (by simp [results, Tryz.results143, go_sem, u0, u1, u2]) rfl ?_
  exact ⟨_, _, _, rfl, (by first | exact q2 | (rw [hgb]; exact q2)), q3, q4⟩
set_option maxHeartbeats 4000000 in
set_option maxRecDepth 100000 in
theorem paSimple_nam {g : Nat} {tv : Value} {L : List Tk} {i d : Nat} {w : World} (h : PaW g tv L i d w) {f : Nat} (H : ExA g tv L f) (HP : ∀ (w : World) (i : Nat), PaW g tv L i d w → guaA L f 15 kFor i d ≠ .out → Calls Tryz.prog 140 #[.pointer (some ⟨g, 0, none⟩)] w fun e w' => ResN w.heap.size g tv L d w (guaA L f 15 kFor i d) e w') (hd : d ≤ 40) (hH : Hid (∀ (w : World), PaW g tv L i d w → Calls Tryz.prog 105 #[.pointer (some ⟨g, 0, none⟩)] w fun e w' => ResN w.heap.size g tv L d w (absA L f 0 i d) e w')) {nt : Int} {nc : F} {j : Nat} (h1 : opA L j [58, 61] = false) (h2 : opA L j [58] = false) (hr : absA L f 0 i d = .ok ⟨20, nt, nc⟩ j) (hne : (if decide ((⟨20, nt, nc⟩ : Nd).k = 20) && opA L j [58, 61] then (absA L f 0 (j + 1) d).bind fun y l => PR.ok (Nd.mk 11 (⟨20, nt, nc⟩ : Nd).t (one y)) l
  else if decide ((⟨20, nt, nc⟩ : Nd).k = 20) && opA L j [58] then (guaA L f 15 kFor (j + 1) d).bind fun y l => PR.ok (Nd.mk 19 (⟨20, nt, nc⟩ : Nd).t (one y)) l
  else if opA L j [61] then (absA L f 0 (j + 1) d).bind fun y l => PR.ok (Nd.mk 13 j (snoc (one (⟨20, nt, nc⟩ : Nd)) y)) l
  else PR.ok (Nd.mk 12 i (one (⟨20, nt, nc⟩ : Nd))) j) ≠ .out) :
  Calls Tryz.prog 143 #[.pointer (some ⟨g, 0, none⟩)] w fun e w' => ResN w.heap.size g tv L d w (if decide ((⟨20, nt, nc⟩ : Nd).k = 20) && opA L j [58, 61] then (absA L f 0 (j + 1) d).bind fun y l => PR.ok (Nd.mk 11 (⟨20, nt, nc⟩ : Nd).t (one y)) l
  else if decide ((⟨20, nt, nc⟩ : Nd).k = 20) && opA L j [58] then (guaA L f 15 kFor (j + 1) d).bind fun y l => PR.ok (Nd.mk 19 (⟨20, nt, nc⟩ : Nd).t (one y)) l
  else if opA L j [61] then (absA L f 0 (j + 1) d).bind fun y l => PR.ok (Nd.mk 13 j (snoc (one (⟨20, nt, nc⟩ : Nd)) y)) l
  else PR.ok (Nd.mk 12 i (one (⟨20, nt, nc⟩ : Nd))) j) e w' := by
 dsimp only at hne ⊢
 simp only [h1, h2, decide_true, Bool.true_and, Bool.false_eq_true, if_false] at hne ⊢
 cases h3 : opA L j [61] with
 | true =>
  simp only [h3, if_true, Bool.false_eq_true, if_false] at hne ⊢
  have hne2 : absA L f 0 (j + 1) d ≠ .out := fun e => hne (by rw [e]; rfl)
  have hHo := zH (fun w h => paExpr_any (w := w) (i := j + 1) (d := d) h H hd hne2)
  clear H HP hne
  cases hro : absA L f 0 (j + 1) d with
  | out => exact absurd hro hne2
  | bad j2 =>
   rw [hro] at hHo
   simp only [PR.bind]
   have hP := zH (h.alloc (.cells #[.int .i64 0, .int .i64 0, .slice none 0 0] 24 (0, 0))).1
   have hM := zH (h.alloc (.cells #[.int .i64 0, .int .i64 0, .slice none 0 0] 24 (0, 0))).2
   have hN := zH (nblk_new w 0 0 none 0 0)
   obtain ⟨gb, hgb⟩ : ∃ gb, w.heap.size = gb := ⟨_, rfl⟩
   have hz : (w.alloc (.cells #[.int .i64 0, .int .i64 0, .slice none 0 0] 24 (0, 0))).heap.size = gb + 1 := by simp [hgb]
   have hgl : g < gb := by have := h.lt; omega
   rw [hgb] at hN
   obtain ⟨W1, hq_W1⟩ : ∃ W1, w.alloc (.cells #[.int .i64 0, .int .i64 0, .slice none 0 0] 24 (0, 0)) = W1 := ⟨_, rfl⟩
   rw [hq_W1] at hP hM hN hz
   replace hz := And.intro (Nat.le_of_eq hz) (Nat.le_of_eq hz.symm)
   replace h := zH h
   have c1 := (uH hP).c1
   have f1 := (uH hP).fr 1
   go_enter Tryz.func143, Tryz.ntmps143
   go_wp2_with fail
   clear hq_W1
   clear c1 f1
   have hC := uH hH _ (uH hP)
   rw [hr] at hC
   refine (hC).mono ?_
   rintro e W2 ⟨a1, m1, c1, rfl, hs, h2, hm⟩
   have hzs := hm.size
   have hs1 := zH (hs.mono (P' := fun x => gb < x ∧ x < W2.heap.size) (fun x hx => by have := (uH hN).lt; have e1 := hx.1; have e2 := hx.lt; exact ⟨by omega, by omega⟩))
   clear hs
   replace hN := zH ((uH hN).mop (uH hP) hm)
   have hzz := hm.size
   replace hM := zH ((uH hM).trans hm)
   replace hP := zH h2
   clear hm h2
   dsimp only at hs1
   obtain ⟨b1, hq_b1⟩ : ∃ x, W2.heap.size = x := ⟨_, rfl⟩
   have hB := zH (nblk_new W2 20 nt a1 m1 c1)
   have hm := mop_below (g := g) (below_alloc W2 (.cells #[.int .i64 20, .int .i64 nt, .slice a1 m1 c1] 24 (0, 0)))
   have h2 := (uH hP).below (below_alloc W2 (.cells #[.int .i64 20, .int .i64 nt, .slice a1 m1 c1] 24 (0, 0)))
   have hzs : (W2.alloc (.cells #[.int .i64 20, .int .i64 nt, .slice a1 m1 c1] 24 (0, 0))).heap.size = b1 + 1 := by simp [hq_b1]
   obtain ⟨W3, hq_W3⟩ : ∃ x, W2.alloc (.cells #[.int .i64 20, .int .i64 nt, .slice a1 m1 c1] 24 (0, 0)) = x := ⟨_, rfl⟩
   rw [hq_W3] at hB hm h2 hzs
   replace hzs := And.intro (Nat.le_of_eq hzs) (Nat.le_of_eq hzs.symm)
   rw [hq_b1] at hB
   replace hq_W3 := zH hq_W3
   replace hN := zH ((uH hN).mop (uH hP) hm)
   replace hs1 := zH ((uH hs1).mop (uH hP) hm)
   have hzz := hm.size
   replace hM := zH ((uH hM).trans hm)
   replace hP := zH h2
   clear hm h2
   obtain ⟨p0_hB, p1_hB, p2_hB⟩ := (uH hB).box
   have f0_hB := (uH hB).frozen 0
   have f1_hB := (uH hB).frozen 1
   have f2_hB := (uH hB).frozen 2
   go_wp2_with fail
   rw [uH hq_W3]
   clear hq_W3
   refine (paOp_any _ _).mono ?_
   rintro e W4 ⟨rfl, hb⟩
   have h2 := (uH hP).below hb
   have hm := mop_below (g := g) hb
   clear hb
   replace hN := zH ((uH hN).mop (uH hP) hm)
   replace hB := zH ((uH hB).mop (uH hP) hm)
   replace hs1 := zH ((uH hs1).mop (uH hP) hm)
   have hzz := hm.size
   replace hM := zH ((uH hM).trans hm)
   replace hP := zH h2
   clear hm h2
   go_wp2_with fail
   refine (paTake_no (uH hP) (opT [58, 61]) (by rw [eqB_op]; exact h1)).mono ?_
   rintro e W5 ⟨rfl, h2, hm⟩
   replace hN := zH ((uH hN).mop (uH hP) hm)
   replace hB := zH ((uH hB).mop (uH hP) hm)
   replace hs1 := zH ((uH hs1).mop (uH hP) hm)
   have hzz := hm.size
   replace hM := zH ((uH hM).trans hm)
   replace hP := zH h2
   clear hm h2
   go_wp2_with fail
   refine (paOp_any _ _).mono ?_
   rintro e W6 ⟨rfl, hb⟩
   have h2 := (uH hP).below hb
   have hm := mop_below (g := g) hb
   clear hb
   replace hN := zH ((uH hN).mop (uH hP) hm)
   replace hB := zH ((uH hB).mop (uH hP) hm)
   replace hs1 := zH ((uH hs1).mop (uH hP) hm)
   have hzz := hm.size
   replace hM := zH ((uH hM).trans hm)
   replace hP := zH h2
   clear hm h2
   go_wp2_with fail
   refine (paTake_no (uH hP) (opT [58]) (by rw [eqB_op]; exact h2)).mono ?_
   rintro e W7 ⟨rfl, h2, hm⟩
   replace hN := zH ((uH hN).mop (uH hP) hm)
   replace hB := zH ((uH hB).mop (uH hP) hm)
   replace hs1 := zH ((uH hs1).mop (uH hP) hm)
   have hzz := hm.size
   replace hM := zH ((uH hM).trans hm)
   replace hP := zH h2
   clear hm h2
   go_wp2_with fail
   refine (paOp_any _ _).mono ?_
   rintro e W8 ⟨rfl, hb⟩
   have h2 := (uH hP).below hb
   have hm := mop_below (g := g) hb
   clear hb
   replace hN := zH ((uH hN).mop (uH hP) hm)
   replace hB := zH ((uH hB).mop (uH hP) hm)
   replace hs1 := zH ((uH hs1).mop (uH hP) hm)
   have hzz := hm.size
   replace hM := zH ((uH hM).trans hm)
   replace hP := zH h2
   clear hm h2
   go_wp2_with fail
   have hK := paIs_any (uH hP) (opT [61])
   rw [eqB_op, h3] at hK
   refine (hK).mono ?_
   rintro e W9 ⟨rfl, hb⟩
   have h2 := (uH hP).below hb
   have hm := mop_below (g := g) hb
   clear hb
   replace hN := zH ((uH hN).mop (uH hP) hm)
   replace hB := zH ((uH hB).mop (uH hP) hm)
   replace hs1 := zH ((uH hs1).mop (uH hP) hm)
   have hzz := hm.size
   replace hM := zH ((uH hM).trans hm)
   replace hP := zH h2
   clear hm h2
   go_wp2_with fail
   refine (paNext_any (uH hP) (opA_lt h3)).mono ?_
   rintro e W10 ⟨rfl, h2, hm⟩
   replace hN := zH ((uH hN).mop (uH hP) hm)
   replace hB := zH ((uH hB).mop (uH hP) hm)
   replace hs1 := zH ((uH hs1).mop (uH hP) hm)
   have hzz := hm.size
   replace hM := zH ((uH hM).trans hm)
   replace hP := zH h2
   clear hm h2
   obtain ⟨b2, hq_b2⟩ : ∃ x, W10.heap.size = x := ⟨_, rfl⟩
   have hC := zH (nblk_new W10 13 j none 0 0)
   have hm := mop_below (g := g) (below_alloc W10 (.cells #[.int .i64 13, .int .i64 j, .slice none 0 0] 24 (0, 0)))
   have h2 := (uH hP).below (below_alloc W10 (.cells #[.int .i64 13, .int .i64 j, .slice none 0 0] 24 (0, 0)))
   have hzs : (W10.alloc (.cells #[.int .i64 13, .int .i64 j, .slice none 0 0] 24 (0, 0))).heap.size = b2 + 1 := by simp [hq_b2]
   obtain ⟨W11, hq_W11⟩ : ∃ x, W10.alloc (.cells #[.int .i64 13, .int .i64 j, .slice none 0 0] 24 (0, 0)) = x := ⟨_, rfl⟩
   rw [hq_W11] at hC hm h2 hzs
   replace hzs := And.intro (Nat.le_of_eq hzs) (Nat.le_of_eq hzs.symm)
   rw [hq_b2] at hC
   replace hq_W11 := zH hq_W11
   replace hN := zH ((uH hN).mop (uH hP) hm)
   replace hB := zH ((uH hB).mop (uH hP) hm)
   replace hs1 := zH ((uH hs1).mop (uH hP) hm)
   have hzz := hm.size
   replace hM := zH ((uH hM).trans hm)
   replace hP := zH h2
   clear hm h2
   go_upto_region 10 with fail
   rw [uH hq_W11]
   clear hq_W11
   have hb : Below W11.heap.size W11 (World.drew W11) := (Below.refl _ _).drew
   have h2 := (uH hP).below hb
   have hm := mop_below (g := g) hb
   clear hb
   obtain ⟨WD, hq_WD⟩ : ∃ x, World.drew W11 = x := ⟨_, rfl⟩
   rw [hq_WD] at h2 hm
   replace hN := zH ((uH hN).mop (uH hP) hm)
   replace hB := zH ((uH hB).mop (uH hP) hm)
   replace hC := zH ((uH hC).mop (uH hP) hm)
   replace hs1 := zH ((uH hs1).mop (uH hP) hm)
   have hzz := hm.size
   replace hM := zH ((uH hM).trans hm)
   replace hP := zH h2
   clear hm h2
   have hS : NBlk WD b1 20 nt a1 m1 c1 := uH hB
   refine wp_region_D (fun w' => NBlk w' b1 20 nt a1 m1 c1) (fun j => [5].contains j) (by kernel_rfl) ?_
   rw [hq_WD]
   clear hq_WD
   refine wpAnyD_takeC (i := 0) (v := .agg #[.int .i64 20, .int .i64 nt, .slice a1 m1 c1]) [5] (fun _ => rfl) rfl (by kernel_rfl) 3 (by kernel_rfl) rfl (by kernel_rfl) (by kernel_rfl) (by kernel_rfl) (fun _ _ _ h => h) (Or.inl ⟨by kernel_rfl, ?_⟩) hS ?_
   ·
    intro w hSw
    obtain ⟨e0, e1, e2⟩ := hSw.box
    go_simp
   try simp only [List.getElem_toArray, List.getElem_cons_succ, List.getElem_cons_zero, Act.put, List.setIfInBounds_toArray, List.set_cons_zero, List.set_cons_succ]
   refine wpAnyD_takeC (i := 1) (v := .pointer (some ⟨g, 0, none⟩)) [5] (fun _ => rfl) rfl (by kernel_rfl) 3 (by kernel_rfl) rfl (by kernel_rfl) (by kernel_rfl) (by kernel_rfl) (fun _ _ _ h => h) (Or.inl ⟨by kernel_rfl, ?_⟩) hS ?_
   ·
    intro w hSw
    go_simp
   try simp only [List.getElem_toArray, List.getElem_cons_succ, List.getElem_cons_zero, Act.put, List.setIfInBounds_toArray, List.set_cons_zero, List.set_cons_succ]
   refine wpAnyD_one (i := 2) rfl (by kernel_rfl) (fun K' hK_ => ?_)
   rw [if_pos (by kernel_rfl)]
   refine oper_callR (run_call1 cf_paExpr) ?_
   refine (uH hHo _ (uH hP)).mono ?_
   rintro e W12 hBad
   obtain rfl := hBad.1
   have hG := zH (hBad.pre (uH hM))
   clear hBad
   go_wp2
   exact ⟨rfl, uH hG⟩
  | ok n2 j2 =>
   obtain ⟨yk, yt, yc⟩ := n2
   rw [hro] at hHo
   simp only [PR.bind, one, snoc, F.app]
   have hP := zH (h.alloc (.cells #[.int .i64 0, .int .i64 0, .slice none 0 0] 24 (0, 0))).1
   have hM := zH (h.alloc (.cells #[.int .i64 0, .int .i64 0, .slice none 0 0] 24 (0, 0))).2
   have hN := zH (nblk_new w 0 0 none 0 0)
   obtain ⟨gb, hgb⟩ : ∃ gb, w.heap.size = gb := ⟨_, rfl⟩
   have hz : (w.alloc (.cells #[.int .i64 0, .int .i64 0, .slice none 0 0] 24 (0, 0))).heap.size = gb + 1 := by simp [hgb]
   have hgl : g < gb := by have := h.lt; omega
   rw [hgb] at hN
   obtain ⟨W1, hq_W1⟩ : ∃ W1, w.alloc (.cells #[.int .i64 0, .int .i64 0, .slice none 0 0] 24 (0, 0)) = W1 := ⟨_, rfl⟩
   rw [hq_W1] at hP hM hN hz
   replace hz := And.intro (Nat.le_of_eq hz) (Nat.le_of_eq hz.symm)
   replace h := zH h
   have c1 := (uH hP).c1
   have f1 := (uH hP).fr 1
   go_enter Tryz.func143, Tryz.ntmps143
   go_wp2_with fail
   clear hq_W1
   clear c1 f1
   have hC := uH hH _ (uH hP)
   rw [hr] at hC
   refine (hC).mono ?_
   rintro e W2 ⟨a1, m1, c1, rfl, hs, h2, hm⟩
   have hzs := hm.size
   have hs1 := zH (hs.mono (P' := fun x => gb < x ∧ x < W2.heap.size) (fun x hx => by have := (uH hN).lt; have e1 := hx.1; have e2 := hx.lt; exact ⟨by omega, by omega⟩))
   clear hs
   replace hN := zH ((uH hN).mop (uH hP) hm)
   have hzz := hm.size
   replace hM := zH ((uH hM).trans hm)
   replace hP := zH h2
   clear hm h2
   dsimp only at hs1
   obtain ⟨b1, hq_b1⟩ : ∃ x, W2.heap.size = x := ⟨_, rfl⟩
   have hB := zH (nblk_new W2 20 nt a1 m1 c1)
   have hm := mop_below (g := g) (below_alloc W2 (.cells #[.int .i64 20, .int .i64 nt, .slice a1 m1 c1] 24 (0, 0)))
   have h2 := (uH hP).below (below_alloc W2 (.cells #[.int .i64 20, .int .i64 nt, .slice a1 m1 c1] 24 (0, 0)))
   have hzs : (W2.alloc (.cells #[.int .i64 20, .int .i64 nt, .slice a1 m1 c1] 24 (0, 0))).heap.size = b1 + 1 := by simp [hq_b1]
   obtain ⟨W3, hq_W3⟩ : ∃ x, W2.alloc (.cells #[.int .i64 20, .int .i64 nt, .slice a1 m1 c1] 24 (0, 0)) = x := ⟨_, rfl⟩
   rw [hq_W3] at hB hm h2 hzs
   replace hzs := And.intro (Nat.le_of_eq hzs) (Nat.le_of_eq hzs.symm)
   rw [hq_b1] at hB
   replace hq_W3 := zH hq_W3
   replace hN := zH ((uH hN).mop (uH hP) hm)
   replace hs1 := zH ((uH hs1).mop (uH hP) hm)
   have hzz := hm.size
   replace hM := zH ((uH hM).trans hm)
   replace hP := zH h2
   clear hm h2
   obtain ⟨p0_hB, p1_hB, p2_hB⟩ := (uH hB).box
   have f0_hB := (uH hB).frozen 0
   have f1_hB := (uH hB).frozen 1
   have f2_hB := (uH hB).frozen 2
   go_wp2_with fail
   rw [uH hq_W3]
   clear hq_W3
   refine (paOp_any _ _).mono ?_
   rintro e W4 ⟨rfl, hb⟩
   have h2 := (uH hP).below hb
   have hm := mop_below (g := g) hb
   clear hb
   replace hN := zH ((uH hN).mop (uH hP) hm)
   replace hB := zH ((uH hB).mop (uH hP) hm)
   replace hs1 := zH ((uH hs1).mop (uH hP) hm)
   have hzz := hm.size
   replace hM := zH ((uH hM).trans hm)
   replace hP := zH h2
   clear hm h2
   go_wp2_with fail
   refine (paTake_no (uH hP) (opT [58, 61]) (by rw [eqB_op]; exact h1)).mono ?_
   rintro e W5 ⟨rfl, h2, hm⟩
   replace hN := zH ((uH hN).mop (uH hP) hm)
   replace hB := zH ((uH hB).mop (uH hP) hm)
   replace hs1 := zH ((uH hs1).mop (uH hP) hm)
   have hzz := hm.size
   replace hM := zH ((uH hM).trans hm)
   replace hP := zH h2
   clear hm h2
   go_wp2_with fail
   refine (paOp_any _ _).mono ?_
   rintro e W6 ⟨rfl, hb⟩
   have h2 := (uH hP).below hb
   have hm := mop_below (g := g) hb
   clear hb
   replace hN := zH ((uH hN).mop (uH hP) hm)
   replace hB := zH ((uH hB).mop (uH hP) hm)
   replace hs1 := zH ((uH hs1).mop (uH hP) hm)
   have hzz := hm.size
   replace hM := zH ((uH hM).trans hm)
   replace hP := zH h2
   clear hm h2
   go_wp2_with fail
   refine (paTake_no (uH hP) (opT [58]) (by rw [eqB_op]; exact h2)).mono ?_
   rintro e W7 ⟨rfl, h2, hm⟩
   replace hN := zH ((uH hN).mop (uH hP) hm)
   replace hB := zH ((uH hB).mop (uH hP) hm)
   replace hs1 := zH ((uH hs1).mop (uH hP) hm)
   have hzz := hm.size
   replace hM := zH ((uH hM).trans hm)
   replace hP := zH h2
   clear hm h2
   go_wp2_with fail
   refine (paOp_any _ _).mono ?_
   rintro e W8 ⟨rfl, hb⟩
   have h2 := (uH hP).below hb
   have hm := mop_below (g := g) hb
   clear hb
   replace hN := zH ((uH hN).mop (uH hP) hm)
   replace hB := zH ((uH hB).mop (uH hP) hm)
   replace hs1 := zH ((uH hs1).mop (uH hP) hm)
   have hzz := hm.size
   replace hM := zH ((uH hM).trans hm)
   replace hP := zH h2
   clear hm h2
   go_wp2_with fail
   have hK := paIs_any (uH hP) (opT [61])
   rw [eqB_op, h3] at hK
   refine (hK).mono ?_
   rintro e W9 ⟨rfl, hb⟩
   have h2 := (uH hP).below hb
   have hm := mop_below (g := g) hb
   clear hb
   replace hN := zH ((uH hN).mop (uH hP) hm)
   replace hB := zH ((uH hB).mop (uH hP) hm)
   replace hs1 := zH ((uH hs1).mop (uH hP) hm)
   have hzz := hm.size
   replace hM := zH ((uH hM).trans hm)
   replace hP := zH h2
   clear hm h2
   go_wp2_with fail
   refine (paNext_any (uH hP) (opA_lt h3)).mono ?_
   rintro e W10 ⟨rfl, h2, hm⟩
   replace hN := zH ((uH hN).mop (uH hP) hm)
   replace hB := zH ((uH hB).mop (uH hP) hm)
   replace hs1 := zH ((uH hs1).mop (uH hP) hm)
   have hzz := hm.size
   replace hM := zH ((uH hM).trans hm)
   replace hP := zH h2
   clear hm h2
   obtain ⟨b2, hq_b2⟩ : ∃ x, W10.heap.size = x := ⟨_, rfl⟩
   have hC := zH (nblk_new W10 13 j none 0 0)
   have hm := mop_below (g := g) (below_alloc W10 (.cells #[.int .i64 13, .int .i64 j, .slice none 0 0] 24 (0, 0)))
   have h2 := (uH hP).below (below_alloc W10 (.cells #[.int .i64 13, .int .i64 j, .slice none 0 0] 24 (0, 0)))
   have hzs : (W10.alloc (.cells #[.int .i64 13, .int .i64 j, .slice none 0 0] 24 (0, 0))).heap.size = b2 + 1 := by simp [hq_b2]
   obtain ⟨W11, hq_W11⟩ : ∃ x, W10.alloc (.cells #[.int .i64 13, .int .i64 j, .slice none 0 0] 24 (0, 0)) = x := ⟨_, rfl⟩
   rw [hq_W11] at hC hm h2 hzs
   replace hzs := And.intro (Nat.le_of_eq hzs) (Nat.le_of_eq hzs.symm)
   rw [hq_b2] at hC
   replace hq_W11 := zH hq_W11
   replace hN := zH ((uH hN).mop (uH hP) hm)
   replace hB := zH ((uH hB).mop (uH hP) hm)
   replace hs1 := zH ((uH hs1).mop (uH hP) hm)
   have hzz := hm.size
   replace hM := zH ((uH hM).trans hm)
   replace hP := zH h2
   clear hm h2
   go_upto_region 10 with fail
   rw [uH hq_W11]
   clear hq_W11
   have hb : Below W11.heap.size W11 (World.drew W11) := (Below.refl _ _).drew
   have h2 := (uH hP).below hb
   have hm := mop_below (g := g) hb
   clear hb
   obtain ⟨WD, hq_WD⟩ : ∃ x, World.drew W11 = x := ⟨_, rfl⟩
   rw [hq_WD] at h2 hm
   replace hN := zH ((uH hN).mop (uH hP) hm)
   replace hB := zH ((uH hB).mop (uH hP) hm)
   replace hC := zH ((uH hC).mop (uH hP) hm)
   replace hs1 := zH ((uH hs1).mop (uH hP) hm)
   have hzz := hm.size
   replace hM := zH ((uH hM).trans hm)
   replace hP := zH h2
   clear hm h2
   have hS : NBlk WD b1 20 nt a1 m1 c1 := uH hB
   refine wp_region_D (fun w' => NBlk w' b1 20 nt a1 m1 c1) (fun j => [5].contains j) (by kernel_rfl) ?_
   rw [hq_WD]
   clear hq_WD
   refine wpAnyD_takeC (i := 0) (v := .agg #[.int .i64 20, .int .i64 nt, .slice a1 m1 c1]) [5] (fun _ => rfl) rfl (by kernel_rfl) 3 (by kernel_rfl) rfl (by kernel_rfl) (by kernel_rfl) (by kernel_rfl) (fun _ _ _ h => h) (Or.inl ⟨by kernel_rfl, ?_⟩) hS ?_
   ·
    intro w hSw
    obtain ⟨e0, e1, e2⟩ := hSw.box
    go_simp
   try simp only [List.getElem_toArray, List.getElem_cons_succ, List.getElem_cons_zero, Act.put, List.setIfInBounds_toArray, List.set_cons_zero, List.set_cons_succ]
   refine wpAnyD_takeC (i := 1) (v := .pointer (some ⟨g, 0, none⟩)) [5] (fun _ => rfl) rfl (by kernel_rfl) 3 (by kernel_rfl) rfl (by kernel_rfl) (by kernel_rfl) (by kernel_rfl) (fun _ _ _ h => h) (Or.inl ⟨by kernel_rfl, ?_⟩) hS ?_
   ·
    intro w hSw
    go_simp
   try simp only [List.getElem_toArray, List.getElem_cons_succ, List.getElem_cons_zero, Act.put, List.setIfInBounds_toArray, List.set_cons_zero, List.set_cons_succ]
   refine wpAnyD_one (i := 2) rfl (by kernel_rfl) (fun K' hK_ => ?_)
   rw [if_pos (by kernel_rfl)]
   refine oper_callR (run_call1 cf_paExpr) ?_
   refine (uH hHo _ (uH hP)).mono ?_
   rintro e W12 ⟨a2, m2, c2, rfl, hs, h2, hm⟩
   have hzs := hm.size
   have hs2 := zH (hs.mono (P' := fun x => gb < x ∧ x < W12.heap.size ∧ x ≠ b1 ∧ x ≠ b2) (fun x hx => by have := (uH hN).lt; have := (uH hB).lt; have := (uH hC).lt; have e1 := hx.1; have e2 := hx.lt; exact ⟨by omega, by omega, by omega, by omega⟩))
   clear hs
   replace hN := zH ((uH hN).mop (uH hP) hm)
   replace hB := zH ((uH hB).mop (uH hP) hm)
   replace hC := zH ((uH hC).mop (uH hP) hm)
   replace hs1 := zH ((uH hs1).mop (uH hP) hm)
   have hzz := hm.size
   replace hM := zH ((uH hM).trans hm)
   replace hP := zH h2
   clear hm h2
   dsimp only at hs2
   have hSW12 : NBlk W12 b1 20 nt a1 m1 c1 := uH hB
   refine hK_ _ _ (fun _ => hSW12) ?_
   clear hK_ K' hS
   have hS := hSW12
   try simp only [List.getElem_toArray, List.getElem_cons_succ, List.getElem_cons_zero, Act.put, List.setIfInBounds_toArray, List.set_cons_zero, List.set_cons_succ]
   refine wpAnyD_one (i := 3) rfl (by kernel_rfl) (fun K' hK_ => ?_)
   rw [if_pos (by kernel_rfl)]
   refine oper_of_run (run_build_two W12 _ _ _ _ _ _ _ _ 20 nt yk yt a1 a2 m1 c1 m2 c2 rfl rfl) ?_
   obtain ⟨b3, hq_b3⟩ : ∃ x, W12.heap.size = x := ⟨_, rfl⟩
   have hzz : (W12.alloc (.cells #[.int .i64 20, .int .i64 nt, .slice a1 m1 c1, .int .i64 yk, .int .i64 yt, .slice a2 m2 c2] 24 (0, 0))).heap.size = b3 + 1 := by simp [hq_b3]
   have hm := mop_below (g := g) (below_alloc W12 (.cells #[.int .i64 20, .int .i64 nt, .slice a1 m1 c1, .int .i64 yk, .int .i64 yt, .slice a2 m2 c2] 24 (0, 0)))
   have h2 := (uH hP).below (below_alloc W12 (.cells #[.int .i64 20, .int .i64 nt, .slice a1 m1 c1, .int .i64 yk, .int .i64 yt, .slice a2 m2 c2] 24 (0, 0)))
   have hs3 := lit2_sl (P := fun x => gb < x ∧ x < b3 + 1 ∧ x ≠ b1 ∧ x ≠ b2) W12 20 nt yk yt a1 a2 m1 c1 m2 c2 nc yc ((uH hs1).mono (fun x hx => by have e1 := hx.1; have e2 := hx.lt; exact ⟨by omega, by omega, by omega, by omega⟩)) ((uH hs2).mono (fun x hx => by have e1 := hx.1; have e2 := hx.lt; exact ⟨by omega, by omega, by omega, by omega⟩)) ⟨by omega, by omega, (by have := (uH hN).lt; have := (uH hB).lt; have := (uH hC).lt; omega), (by have := (uH hN).lt; have := (uH hB).lt; have := (uH hC).lt; omega)⟩
   rw [hq_b3] at hs3
   obtain ⟨W13, hq_W13⟩ : ∃ x, W12.alloc (.cells #[.int .i64 20, .int .i64 nt, .slice a1 m1 c1, .int .i64 yk, .int .i64 yt, .slice a2 m2 c2] 24 (0, 0)) = x := ⟨_, rfl⟩
   rw [hq_W13] at hs3 hm h2 hzz
   rw [← hzz] at hs3
   replace hzz := And.intro (Nat.le_of_eq hzz) (Nat.le_of_eq hzz.symm)
   replace hs3 := zH hs3
   replace hN := zH ((uH hN).mop (uH hP) hm)
   replace hB := zH ((uH hB).mop (uH hP) hm)
   replace hC := zH ((uH hC).mop (uH hP) hm)
   have hzz := hm.size
   replace hM := zH ((uH hM).trans hm)
   replace hP := zH h2
   clear hm h2
   rw [hq_W13, hq_b3]
   clear hq_W13
   have hSW13 : NBlk W13 b1 20 nt a1 m1 c1 := uH hB
   refine hK_ _ _ (fun _ => hSW13) ?_
   clear hK_ K' hS
   have hS := hSW13
   try simp only [List.getElem_toArray, List.getElem_cons_succ, List.getElem_cons_zero, Act.put, List.setIfInBounds_toArray, List.set_cons_zero, List.set_cons_succ]
   refine wpAnyD_one (i := 4) rfl (by kernel_rfl) (fun K' hK_ => ?_)
   rw [if_pos (by kernel_rfl)]
   refine oper_of_run (v := .pointer (some ⟨b2, 2, none⟩)) (w' := W13) (by clear hK_; go_simp) ?_
   refine hK_ _ _ (fun _ => hS) ?_
   clear hK_ K'
   try simp only [List.getElem_toArray, List.getElem_cons_succ, List.getElem_cons_zero, Act.put, List.setIfInBounds_toArray, List.set_cons_zero, List.set_cons_succ]
   refine wpAnyD_one (i := 5) rfl (by kernel_rfl) (fun K' hK_ => ?_)
   rw [if_pos (by kernel_rfl)]
   refine oper_skip (run_store_kids W13 _ _ _ _ _ _ _ _ b2 13 j none (some ⟨b3, 0, none⟩) 0 0 2 2 (uH hC) rfl rfl) ?_
   obtain ⟨h2, hM2, hB2, hh⟩ := kid_set (uH hP) (uH hM) (uH hC) (by omega) (some ⟨b3, 0, none⟩) 2 2
   have hzz : (W13.setCell ⟨b2, 2, none⟩ (.slice (some ⟨b3, 0, none⟩) 2 2)).heap.size = W13.heap.size := by simp
   obtain ⟨W14, hq_W14⟩ : ∃ x, W13.setCell ⟨b2, 2, none⟩ (.slice (some ⟨b3, 0, none⟩) 2 2) = x := ⟨_, rfl⟩
   rw [hq_W14] at h2 hM2 hB2 hh hzz
   replace hzz := And.intro (Nat.le_of_eq hzz) (Nat.le_of_eq hzz.symm)
   replace hN := zH ((uH hN).same (hh _ (by omega)))
   replace hB := zH ((uH hB).same (hh _ (by omega)))
   replace hs3 := zH ((uH hs3).keep (w' := W14) (fun x hx => hh x (by have e1 := hx.1; omega)))
   replace hC := zH hB2
   replace hM := zH hM2
   replace hP := zH h2
   clear hB2 hM2 h2 hh
   rw [hq_W14]
   clear hq_W14
   refine hK_ _ _ (fun h => by cases h) ?_
   clear hK_ K'
   try simp only [List.getElem_toArray, List.getElem_cons_succ, List.getElem_cons_zero, Act.put, List.setIfInBounds_toArray, List.set_cons_zero, List.set_cons_succ]
   clear hS
   refine wpAnyD_done (by kernel_rfl) ?_ _
   obtain ⟨p0_hC, p1_hC, p2_hC⟩ := (uH hC).box
   have f0_hC := (uH hC).frozen 0
   have f1_hC := (uH hC).frozen 1
   have f2_hC := (uH hC).frozen 2
   obtain ⟨p0_hN, p1_hN, p2_hN⟩ := (uH hN).box
   have f0_hN := (uH hN).frozen 0
   have f1_hN := (uH hN).frozen 1
   have f2_hN := (uH hN).frozen 2
   have hF := zH (res_fin (k := 13) (t := j) (a := some ⟨b3, 0, none⟩) (m := 2) (c := 2) (f := .cons 20 nt nc (.cons yk yt yc .nil)) (B := gb) (w := w) (Nat.le_refl gb) (by omega) (uH hN) ((uH hs3).mono (fun x hx => by have e1 := hx.1; exact ⟨by omega, by omega⟩)) (uH hP) (uH hM))
   go_wp2
   obtain ⟨q1, q2, q3, q4⟩ := uH hF
   obtain ⟨u0, u1, u2⟩ := q1.box
   refine bodyPost_ret (v := .agg #[.int .i64 (13), .int .i64 (j), .slice (some ⟨b3, 0, none⟩) (2) (2)]) (by simp [results, Tryz.results143, go_sem, u0, u1, u2]) rfl ?_
   exact ⟨_, _, _, rfl, (by first | exact q2 | (rw [hgb]; exact q2)), q3, q4⟩
 | false =>
  simp only [Bool.false_eq_true, if_false, one]
  clear H HP hne
  have hP := zH (h.alloc (.cells #[.int .i64 0, .int .i64 0, .slice none 0 0] 24 (0, 0))).1
  have hM := zH (h.alloc (.cells #[.int .i64 0, .int .i64 0, .slice none 0 0] 24 (0, 0))).2
  have hN := zH (nblk_new w 0 0 none 0 0)
  obtain ⟨gb, hgb⟩ : ∃ gb, w.heap.size = gb := ⟨_, rfl⟩
  have hz : (w.alloc (.cells #[.int .i64 0, .int .i64 0, .slice none 0 0] 24 (0, 0))).heap.size = gb + 1 := by simp [hgb]
  have hgl : g < gb := by have := h.lt; omega
  rw [hgb] at hN
  obtain ⟨W1, hq_W1⟩ : ∃ W1, w.alloc (.cells #[.int .i64 0, .int .i64 0, .slice none 0 0] 24 (0, 0)) = W1 := ⟨_, rfl⟩
  rw [hq_W1] at hP hM hN hz
  replace hz := And.intro (Nat.le_of_eq hz) (Nat.le_of_eq hz.symm)
  replace h := zH h
  have c1 := (uH hP).c1
  have f1 := (uH hP).fr 1
  go_enter Tryz.func143, Tryz.ntmps143
  go_wp2_with fail
  clear hq_W1
  clear c1 f1
  have hC := uH hH _ (uH hP)
  rw [hr] at hC
  refine (hC).mono ?_
  rintro e W2 ⟨a1, m1, c1, rfl, hs, h2, hm⟩
  have hzs := hm.size
  have hs1 := zH (hs.mono (P' := fun x => gb < x ∧ x < W2.heap.size) (fun x hx => by have := (uH hN).lt; have e1 := hx.1; have e2 := hx.lt; exact ⟨by omega, by omega⟩))
  clear hs
  replace hN := zH ((uH hN).mop (uH hP) hm)
  have hzz := hm.size
  replace hM := zH ((uH hM).trans hm)
  replace hP := zH h2
  clear hm h2
  dsimp only at hs1
  obtain ⟨b1, hq_b1⟩ : ∃ x, W2.heap.size = x := ⟨_, rfl⟩
  have hB := zH (nblk_new W2 20 nt a1 m1 c1)
  have hm := mop_below (g := g) (below_alloc W2 (.cells #[.int .i64 20, .int .i64 nt, .slice a1 m1 c1] 24 (0, 0)))
  have h2 := (uH hP).below (below_alloc W2 (.cells #[.int .i64 20, .int .i64 nt, .slice a1 m1 c1] 24 (0, 0)))
  have hzs : (W2.alloc (.cells #[.int .i64 20, .int .i64 nt, .slice a1 m1 c1] 24 (0, 0))).heap.size = b1 + 1 := by simp [hq_b1]
  obtain ⟨W3, hq_W3⟩ : ∃ x, W2.alloc (.cells #[.int .i64 20, .int .i64 nt, .slice a1 m1 c1] 24 (0, 0)) = x := ⟨_, rfl⟩
  rw [hq_W3] at hB hm h2 hzs
  replace hzs := And.intro (Nat.le_of_eq hzs) (Nat.le_of_eq hzs.symm)
  rw [hq_b1] at hB
  replace hq_W3 := zH hq_W3
  replace hN := zH ((uH hN).mop (uH hP) hm)
  replace hs1 := zH ((uH hs1).mop (uH hP) hm)
  have hzz := hm.size
  replace hM := zH ((uH hM).trans hm)
  replace hP := zH h2
  clear hm h2
  obtain ⟨p0_hB, p1_hB, p2_hB⟩ := (uH hB).box
  have f0_hB := (uH hB).frozen 0
  have f1_hB := (uH hB).frozen 1
  have f2_hB := (uH hB).frozen 2
  go_wp2_with fail
  rw [uH hq_W3]
  clear hq_W3
  refine (paOp_any _ _).mono ?_
  rintro e W4 ⟨rfl, hb⟩
  have h2 := (uH hP).below hb
  have hm := mop_below (g := g) hb
  clear hb
  replace hN := zH ((uH hN).mop (uH hP) hm)
  replace hB := zH ((uH hB).mop (uH hP) hm)
  replace hs1 := zH ((uH hs1).mop (uH hP) hm)
  have hzz := hm.size
  replace hM := zH ((uH hM).trans hm)
  replace hP := zH h2
  clear hm h2
  go_wp2_with fail
  refine (paTake_no (uH hP) (opT [58, 61]) (by rw [eqB_op]; exact h1)).mono ?_
  rintro e W5 ⟨rfl, h2, hm⟩
  replace hN := zH ((uH hN).mop (uH hP) hm)
  replace hB := zH ((uH hB).mop (uH hP) hm)
  replace hs1 := zH ((uH hs1).mop (uH hP) hm)
  have hzz := hm.size
  replace hM := zH ((uH hM).trans hm)
  replace hP := zH h2
  clear hm h2
  go_wp2_with fail
  refine (paOp_any _ _).mono ?_
  rintro e W6 ⟨rfl, hb⟩
  have h2 := (uH hP).below hb
  have hm := mop_below (g := g) hb
  clear hb
  replace hN := zH ((uH hN).mop (uH hP) hm)
  replace hB := zH ((uH hB).mop (uH hP) hm)
  replace hs1 := zH ((uH hs1).mop (uH hP) hm)
  have hzz := hm.size
  replace hM := zH ((uH hM).trans hm)
  replace hP := zH h2
  clear hm h2
  go_wp2_with fail
  refine (paTake_no (uH hP) (opT [58]) (by rw [eqB_op]; exact h2)).mono ?_
  rintro e W7 ⟨rfl, h2, hm⟩
  replace hN := zH ((uH hN).mop (uH hP) hm)
  replace hB := zH ((uH hB).mop (uH hP) hm)
  replace hs1 := zH ((uH hs1).mop (uH hP) hm)
  have hzz := hm.size
  replace hM := zH ((uH hM).trans hm)
  replace hP := zH h2
  clear hm h2
  go_wp2_with fail
  refine (paOp_any _ _).mono ?_
  rintro e W8 ⟨rfl, hb⟩
  have h2 := (uH hP).below hb
  have hm := mop_below (g := g) hb
  clear hb
  replace hN := zH ((uH hN).mop (uH hP) hm)
  replace hB := zH ((uH hB).mop (uH hP) hm)
  replace hs1 := zH ((uH hs1).mop (uH hP) hm)
  have hzz := hm.size
  replace hM := zH ((uH hM).trans hm)
  replace hP := zH h2
  clear hm h2
  go_wp2_with fail
  have hK := paIs_any (uH hP) (opT [61])
  rw [eqB_op, h3] at hK
  refine (hK).mono ?_
  rintro e W9 ⟨rfl, hb⟩
  have h2 := (uH hP).below hb
  have hm := mop_below (g := g) hb
  clear hb
  replace hN := zH ((uH hN).mop (uH hP) hm)
  replace hB := zH ((uH hB).mop (uH hP) hm)
  replace hs1 := zH ((uH hs1).mop (uH hP) hm)
  have hzz := hm.size
  replace hM := zH ((uH hM).trans hm)
  replace hP := zH h2
  clear hm h2
  obtain ⟨p0_hB, p1_hB, p2_hB⟩ := (uH hB).box
  have f0_hB := (uH hB).frozen 0
  have f1_hB := (uH hB).frozen 1
  have f2_hB := (uH hB).frozen 2
  obtain ⟨b3, hq_b3⟩ : ∃ x, W9.heap.size = x := ⟨_, rfl⟩
  have hzz : (W9.alloc (.cells #[.int .i64 20, .int .i64 nt, .slice a1 m1 c1] 24 (0, 0))).heap.size = b3 + 1 := by simp [hq_b3]
  have hm := mop_below (g := g) (below_alloc W9 (.cells #[.int .i64 20, .int .i64 nt, .slice a1 m1 c1] 24 (0, 0)))
  have h2 := (uH hP).below (below_alloc W9 (.cells #[.int .i64 20, .int .i64 nt, .slice a1 m1 c1] 24 (0, 0)))
  have hs3 := lit1_sl (P := fun x => gb < x ∧ x < b3 + 1 ∧ x ≠ b1) W9 20 nt a1 m1 c1 nc ((uH hs1).mono (fun x hx => by have e1 := hx.1; have e2 := hx.lt; exact ⟨by omega, by omega, by omega⟩)) ⟨by omega, by omega, (by have := (uH hN).lt; have := (uH hB).lt; omega)⟩
  rw [hq_b3] at hs3
  obtain ⟨W10, hq_W10⟩ : ∃ x, W9.alloc (.cells #[.int .i64 20, .int .i64 nt, .slice a1 m1 c1] 24 (0, 0)) = x := ⟨_, rfl⟩
  rw [hq_W10] at hs3 hm h2 hzz
  rw [← hzz] at hs3
  replace hzz := And.intro (Nat.le_of_eq hzz) (Nat.le_of_eq hzz.symm)
  replace hs3 := zH hs3
  replace hN := zH ((uH hN).mop (uH hP) hm)
  replace hB := zH ((uH hB).mop (uH hP) hm)
  have hzz := hm.size
  replace hM := zH ((uH hM).trans hm)
  replace hP := zH h2
  clear hm h2
  obtain ⟨p0_hB, p1_hB, p2_hB⟩ := (uH hB).box
  have f0_hB := (uH hB).frozen 0
  have f1_hB := (uH hB).frozen 1
  have f2_hB := (uH hB).frozen 2
  obtain ⟨p0_hN, p1_hN, p2_hN⟩ := (uH hN).box
  have f0_hN := (uH hN).frozen 0
  have f1_hN := (uH hN).frozen 1
  have f2_hN := (uH hN).frozen 2
  have hF := zH (res_fin (k := 12) (t := i) (a := some ⟨b3, 0, none⟩) (m := 1) (c := 1) (f := .cons 20 nt nc .nil) (B := gb) (w := w) (Nat.le_refl gb) (by omega) (uH hN) ((uH hs3).mono (fun x hx => by have e1 := hx.1; exact ⟨by omega, by omega⟩)) (uH hP) (uH hM))
  go_wp2
  obtain ⟨q1, q2, q3, q4⟩ := uH hF
  obtain ⟨u0, u1, u2⟩ := q1.box
  refine bodyPost_ret (v := .agg #[.int .i64 (12), .int .i64 (i), .slice (some ⟨b3, 0, none⟩) (1) (1)]) (by simp [results, Tryz.results143, go_sem, u0, u1, u2]) rfl ?_
  exact ⟨_, _, _, rfl, (by first | exact q2 | (rw [hgb]; exact q2)), q3, q4⟩
set_option maxHeartbeats 4000000 in
set_option maxRecDepth 100000 in
theorem paSimple_oth {g : Nat} {tv : Value} {L : List Tk} {i d : Nat} {w : World} (h : PaW g tv L i d w) {f : Nat} (H : ExA g tv L f) (HP : ∀ (w : World) (i : Nat), PaW g tv L i d w → guaA L f 15 kFor i d ≠ .out → Calls Tryz.prog 140 #[.pointer (some ⟨g, 0, none⟩)] w fun e w' => ResN w.heap.size g tv L d w (guaA L f 15 kFor i d) e w') (hd : d ≤ 40) (hH : Hid (∀ (w : World), PaW g tv L i d w → Calls Tryz.prog 105 #[.pointer (some ⟨g, 0, none⟩)] w fun e w' => ResN w.heap.size g tv L d w (absA L f 0 i d) e w')) {nk nt : Int} {nc : F} {j : Nat} (hnk : ¬ nk = 20) (hr : absA L f 0 i d = .ok ⟨nk, nt, nc⟩ j) (hne : (if decide ((⟨nk, nt, nc⟩ : Nd).k = 20) && opA L j [58, 61] then (absA L f 0 (j + 1) d).bind fun y l => PR.ok (Nd.mk 11 (⟨nk, nt, nc⟩ : Nd).t (one y)) l
  else if decide ((⟨nk, nt, nc⟩ : Nd).k = 20) && opA L j [58] then (guaA L f 15 kFor (j + 1) d).bind fun y l => PR.ok (Nd.mk 19 (⟨nk, nt, nc⟩ : Nd).t (one y)) l
  else if opA L j [61] then (absA L f 0 (j + 1) d).bind fun y l => PR.ok (Nd.mk 13 j (snoc (one (⟨nk, nt, nc⟩ : Nd)) y)) l
  else PR.ok (Nd.mk 12 i (one (⟨nk, nt, nc⟩ : Nd))) j) ≠ .out) :
  Calls Tryz.prog 143 #[.pointer (some ⟨g, 0, none⟩)] w fun e w' => ResN w.heap.size g tv L d w (if decide ((⟨nk, nt, nc⟩ : Nd).k = 20) && opA L j [58, 61] then (absA L f 0 (j + 1) d).bind fun y l => PR.ok (Nd.mk 11 (⟨nk, nt, nc⟩ : Nd).t (one y)) l
  else if decide ((⟨nk, nt, nc⟩ : Nd).k = 20) && opA L j [58] then (guaA L f 15 kFor (j + 1) d).bind fun y l => PR.ok (Nd.mk 19 (⟨nk, nt, nc⟩ : Nd).t (one y)) l
  else if opA L j [61] then (absA L f 0 (j + 1) d).bind fun y l => PR.ok (Nd.mk 13 j (snoc (one (⟨nk, nt, nc⟩ : Nd)) y)) l
  else PR.ok (Nd.mk 12 i (one (⟨nk, nt, nc⟩ : Nd))) j) e w' := by
 dsimp only at hne ⊢
 simp only [hnk, decide_false, Bool.false_and, Bool.false_eq_true, if_false] at hne ⊢
 cases h3 : opA L j [61] with
 | true =>
  simp only [h3, if_true, Bool.false_eq_true, if_false] at hne ⊢
  have hne2 : absA L f 0 (j + 1) d ≠ .out := fun e => hne (by rw [e]; rfl)
  have hHo := zH (fun w h => paExpr_any (w := w) (i := j + 1) (d := d) h H hd hne2)
  clear H HP hne
  cases hro : absA L f 0 (j + 1) d with
  | out => exact absurd hro hne2
  | bad j2 =>
   rw [hro] at hHo
   simp only [PR.bind]
   have hP := zH (h.alloc (.cells #[.int .i64 0, .int .i64 0, .slice none 0 0] 24 (0, 0))).1
   have hM := zH (h.alloc (.cells #[.int .i64 0, .int .i64 0, .slice none 0 0] 24 (0, 0))).2
   have hN := zH (nblk_new w 0 0 none 0 0)
   obtain ⟨gb, hgb⟩ : ∃ gb, w.heap.size = gb := ⟨_, rfl⟩
   have hz : (w.alloc (.cells #[.int .i64 0, .int .i64 0, .slice none 0 0] 24 (0, 0))).heap.size = gb + 1 := by simp [hgb]
   have hgl : g < gb := by have := h.lt; omega
   rw [hgb] at hN
   obtain ⟨W1, hq_W1⟩ : ∃ W1, w.alloc (.cells #[.int .i64 0, .int .i64 0, .slice none 0 0] 24 (0, 0)) = W1 := ⟨_, rfl⟩
   rw [hq_W1] at hP hM hN hz
   replace hz := And.intro (Nat.le_of_eq hz) (Nat.le_of_eq hz.symm)
   replace h := zH h
   have c1 := (uH hP).c1
   have f1 := (uH hP).fr 1
   go_enter Tryz.func143, Tryz.ntmps143
   go_wp2_with fail
   clear hq_W1
   clear c1 f1
   have hC := uH hH _ (uH hP)
   rw [hr] at hC
   refine (hC).mono ?_
   rintro e W2 ⟨a1, m1, c1, rfl, hs, h2, hm⟩
   have hzs := hm.size
   have hs1 := zH (hs.mono (P' := fun x => gb < x ∧ x < W2.heap.size) (fun x hx => by have := (uH hN).lt; have e1 := hx.1; have e2 := hx.lt; exact ⟨by omega, by omega⟩))
   clear hs
   replace hN := zH ((uH hN).mop (uH hP) hm)
   have hzz := hm.size
   replace hM := zH ((uH hM).trans hm)
   replace hP := zH h2
   clear hm h2
   dsimp only at hs1
   obtain ⟨b1, hq_b1⟩ : ∃ x, W2.heap.size = x := ⟨_, rfl⟩
   have hB := zH (nblk_new W2 nk nt a1 m1 c1)
   have hm := mop_below (g := g) (below_alloc W2 (.cells #[.int .i64 nk, .int .i64 nt, .slice a1 m1 c1] 24 (0, 0)))
   have h2 := (uH hP).below (below_alloc W2 (.cells #[.int .i64 nk, .int .i64 nt, .slice a1 m1 c1] 24 (0, 0)))
   have hzs : (W2.alloc (.cells #[.int .i64 nk, .int .i64 nt, .slice a1 m1 c1] 24 (0, 0))).heap.size = b1 + 1 := by simp [hq_b1]
   obtain ⟨W3, hq_W3⟩ : ∃ x, W2.alloc (.cells #[.int .i64 nk, .int .i64 nt, .slice a1 m1 c1] 24 (0, 0)) = x := ⟨_, rfl⟩
   rw [hq_W3] at hB hm h2 hzs
   replace hzs := And.intro (Nat.le_of_eq hzs) (Nat.le_of_eq hzs.symm)
   rw [hq_b1] at hB
   replace hq_W3 := zH hq_W3
   replace hN := zH ((uH hN).mop (uH hP) hm)
   replace hs1 := zH ((uH hs1).mop (uH hP) hm)
   have hzz := hm.size
   replace hM := zH ((uH hM).trans hm)
   replace hP := zH h2
   clear hm h2
   obtain ⟨p0_hB, p1_hB, p2_hB⟩ := (uH hB).box
   have f0_hB := (uH hB).frozen 0
   have f1_hB := (uH hB).frozen 1
   have f2_hB := (uH hB).frozen 2
   go_wp2_with fail
   rw [uH hq_W3]
   clear hq_W3
   refine (paOp_any _ _).mono ?_
   rintro e W4 ⟨rfl, hb⟩
   have h2 := (uH hP).below hb
   have hm := mop_below (g := g) hb
   clear hb
   replace hN := zH ((uH hN).mop (uH hP) hm)
   replace hB := zH ((uH hB).mop (uH hP) hm)
   replace hs1 := zH ((uH hs1).mop (uH hP) hm)
   have hzz := hm.size
   replace hM := zH ((uH hM).trans hm)
   replace hP := zH h2
   clear hm h2
   go_wp2_with fail
   have hK := paIs_any (uH hP) (opT [61])
   rw [eqB_op, h3] at hK
   refine (hK).mono ?_
   rintro e W5 ⟨rfl, hb⟩
   have h2 := (uH hP).below hb
   have hm := mop_below (g := g) hb
   clear hb
   replace hN := zH ((uH hN).mop (uH hP) hm)
   replace hB := zH ((uH hB).mop (uH hP) hm)
   replace hs1 := zH ((uH hs1).mop (uH hP) hm)
   have hzz := hm.size
   replace hM := zH ((uH hM).trans hm)
   replace hP := zH h2
   clear hm h2
   go_wp2_with fail
   refine (paNext_any (uH hP) (opA_lt h3)).mono ?_
   rintro e W6 ⟨rfl, h2, hm⟩
   replace hN := zH ((uH hN).mop (uH hP) hm)
   replace hB := zH ((uH hB).mop (uH hP) hm)
   replace hs1 := zH ((uH hs1).mop (uH hP) hm)
   have hzz := hm.size
   replace hM := zH ((uH hM).trans hm)
   replace hP := zH h2
   clear hm h2
   obtain ⟨b2, hq_b2⟩ : ∃ x, W6.heap.size = x := ⟨_, rfl⟩
   have hC := zH (nblk_new W6 13 j none 0 0)
   have hm := mop_below (g := g) (below_alloc W6 (.cells #[.int .i64 13, .int .i64 j, .slice none 0 0] 24 (0, 0)))
   have h2 := (uH hP).below (below_alloc W6 (.cells #[.int .i64 13, .int .i64 j, .slice none 0 0] 24 (0, 0)))
   have hzs : (W6.alloc (.cells #[.int .i64 13, .int .i64 j, .slice none 0 0] 24 (0, 0))).heap.size = b2 + 1 := by simp [hq_b2]
   obtain ⟨W7, hq_W7⟩ : ∃ x, W6.alloc (.cells #[.int .i64 13, .int .i64 j, .slice none 0 0] 24 (0, 0)) = x := ⟨_, rfl⟩
   rw [hq_W7] at hC hm h2 hzs
   replace hzs := And.intro (Nat.le_of_eq hzs) (Nat.le_of_eq hzs.symm)
   rw [hq_b2] at hC
   replace hq_W7 := zH hq_W7
   replace hN := zH ((uH hN).mop (uH hP) hm)
   replace hB := zH ((uH hB).mop (uH hP) hm)
   replace hs1 := zH ((uH hs1).mop (uH hP) hm)
   have hzz := hm.size
   replace hM := zH ((uH hM).trans hm)
   replace hP := zH h2
   clear hm h2
   go_upto_region 10 with fail
   rw [uH hq_W7]
   clear hq_W7
   have hb : Below W7.heap.size W7 (World.drew W7) := (Below.refl _ _).drew
   have h2 := (uH hP).below hb
   have hm := mop_below (g := g) hb
   clear hb
   obtain ⟨WD, hq_WD⟩ : ∃ x, World.drew W7 = x := ⟨_, rfl⟩
   rw [hq_WD] at h2 hm
   replace hN := zH ((uH hN).mop (uH hP) hm)
   replace hB := zH ((uH hB).mop (uH hP) hm)
   replace hC := zH ((uH hC).mop (uH hP) hm)
   replace hs1 := zH ((uH hs1).mop (uH hP) hm)
   have hzz := hm.size
   replace hM := zH ((uH hM).trans hm)
   replace hP := zH h2
   clear hm h2
   have hS : NBlk WD b1 nk nt a1 m1 c1 := uH hB
   refine wp_region_D (fun w' => NBlk w' b1 nk nt a1 m1 c1) (fun j => [5].contains j) (by kernel_rfl) ?_
   rw [hq_WD]
   clear hq_WD
   refine wpAnyD_takeC (i := 0) (v := .agg #[.int .i64 nk, .int .i64 nt, .slice a1 m1 c1]) [5] (fun _ => rfl) rfl (by kernel_rfl) 3 (by kernel_rfl) rfl (by kernel_rfl) (by kernel_rfl) (by kernel_rfl) (fun _ _ _ h => h) (Or.inl ⟨by kernel_rfl, ?_⟩) hS ?_
   ·
    intro w hSw
    obtain ⟨e0, e1, e2⟩ := hSw.box
    go_simp
   try simp only [List.getElem_toArray, List.getElem_cons_succ, List.getElem_cons_zero, Act.put, List.setIfInBounds_toArray, List.set_cons_zero, List.set_cons_succ]
   refine wpAnyD_takeC (i := 1) (v := .pointer (some ⟨g, 0, none⟩)) [5] (fun _ => rfl) rfl (by kernel_rfl) 3 (by kernel_rfl) rfl (by kernel_rfl) (by kernel_rfl) (by kernel_rfl) (fun _ _ _ h => h) (Or.inl ⟨by kernel_rfl, ?_⟩) hS ?_
   ·
    intro w hSw
    go_simp
   try simp only [List.getElem_toArray, List.getElem_cons_succ, List.getElem_cons_zero, Act.put, List.setIfInBounds_toArray, List.set_cons_zero, List.set_cons_succ]
   refine wpAnyD_one (i := 2) rfl (by kernel_rfl) (fun K' hK_ => ?_)
   rw [if_pos (by kernel_rfl)]
   refine oper_callR (run_call1 cf_paExpr) ?_
   refine (uH hHo _ (uH hP)).mono ?_
   rintro e W8 hBad
   obtain rfl := hBad.1
   have hG := zH (hBad.pre (uH hM))
   clear hBad
   go_wp2
   exact ⟨rfl, uH hG⟩
  | ok n2 j2 =>
   obtain ⟨yk, yt, yc⟩ := n2
   rw [hro] at hHo
   simp only [PR.bind, one, snoc, F.app]
   have hP := zH (h.alloc (.cells #[.int .i64 0, .int .i64 0, .slice none 0 0] 24 (0, 0))).1
   have hM := zH (h.alloc (.cells #[.int .i64 0, .int .i64 0, .slice none 0 0] 24 (0, 0))).2
   have hN := zH (nblk_new w 0 0 none 0 0)
   obtain ⟨gb, hgb⟩ : ∃ gb, w.heap.size = gb := ⟨_, rfl⟩
   have hz : (w.alloc (.cells #[.int .i64 0, .int .i64 0, .slice none 0 0] 24 (0, 0))).heap.size = gb + 1 := by simp [hgb]
   have hgl : g < gb := by have := h.lt; omega
   rw [hgb] at hN
   obtain ⟨W1, hq_W1⟩ : ∃ W1, w.alloc (.cells #[.int .i64 0, .int .i64 0, .slice none 0 0] 24 (0, 0)) = W1 := ⟨_, rfl⟩
   rw [hq_W1] at hP hM hN hz
   replace hz := And.intro (Nat.le_of_eq hz) (Nat.le_of_eq hz.symm)
   replace h := zH h
   have c1 := (uH hP).c1
   have f1 := (uH hP).fr 1
   go_enter Tryz.func143, Tryz.ntmps143
   go_wp2_with fail
   clear hq_W1
   clear c1 f1
   have hC := uH hH _ (uH hP)
   rw [hr] at hC
   refine (hC).mono ?_
   rintro e W2 ⟨a1, m1, c1, rfl, hs, h2, hm⟩
   have hzs := hm.size
   have hs1 := zH (hs.mono (P' := fun x => gb < x ∧ x < W2.heap.size) (fun x hx => by have := (uH hN).lt; have e1 := hx.1; have e2 := hx.lt; exact ⟨by omega, by omega⟩))
   clear hs
   replace hN := zH ((uH hN).mop (uH hP) hm)
   have hzz := hm.size
   replace hM := zH ((uH hM).trans hm)
   replace hP := zH h2
   clear hm h2
   dsimp only at hs1
   obtain ⟨b1, hq_b1⟩ : ∃ x, W2.heap.size = x := ⟨_, rfl⟩
   have hB := zH (nblk_new W2 nk nt a1 m1 c1)
   have hm := mop_below (g := g) (below_alloc W2 (.cells #[.int .i64 nk, .int .i64 nt, .slice a1 m1 c1] 24 (0, 0)))
   have h2 := (uH hP).below (below_alloc W2 (.cells #[.int .i64 nk, .int .i64 nt, .slice a1 m1 c1] 24 (0, 0)))
   have hzs : (W2.alloc (.cells #[.int .i64 nk, .int .i64 nt, .slice a1 m1 c1] 24 (0, 0))).heap.size = b1 + 1 := by simp [hq_b1]
   obtain ⟨W3, hq_W3⟩ : ∃ x, W2.alloc (.cells #[.int .i64 nk, .int .i64 nt, .slice a1 m1 c1] 24 (0, 0)) = x := ⟨_, rfl⟩
   rw [hq_W3] at hB hm h2 hzs
   replace hzs := And.intro (Nat.le_of_eq hzs) (Nat.le_of_eq hzs.symm)
   rw [hq_b1] at hB
   replace hq_W3 := zH hq_W3
   replace hN := zH ((uH hN).mop (uH hP) hm)
   replace hs1 := zH ((uH hs1).mop (uH hP) hm)
   have hzz := hm.size
   replace hM := zH ((uH hM).trans hm)
   replace hP := zH h2
   clear hm h2
   obtain ⟨p0_hB, p1_hB, p2_hB⟩ := (uH hB).box
   have f0_hB := (uH hB).frozen 0
   have f1_hB := (uH hB).frozen 1
   have f2_hB := (uH hB).frozen 2
   go_wp2_with fail
   rw [uH hq_W3]
   clear hq_W3
   refine (paOp_any _ _).mono ?_
   rintro e W4 ⟨rfl, hb⟩
   have h2 := (uH hP).below hb
   have hm := mop_below (g := g) hb
   clear hb
   replace hN := zH ((uH hN).mop (uH hP) hm)
   replace hB := zH ((uH hB).mop (uH hP) hm)
   replace hs1 := zH ((uH hs1).mop (uH hP) hm)
   have hzz := hm.size
   replace hM := zH ((uH hM).trans hm)
   replace hP := zH h2
   clear hm h2
   go_wp2_with fail
   have hK := paIs_any (uH hP) (opT [61])
   rw [eqB_op, h3] at hK
   refine (hK).mono ?_
   rintro e W5 ⟨rfl, hb⟩
   have h2 := (uH hP).below hb
   have hm := mop_below (g := g) hb
   clear hb
   replace hN := zH ((uH hN).mop (uH hP) hm)
   replace hB := zH ((uH hB).mop (uH hP) hm)
   replace hs1 := zH ((uH hs1).mop (uH hP) hm)
   have hzz := hm.size
   replace hM := zH ((uH hM).trans hm)
   replace hP := zH h2
   clear hm h2
   go_wp2_with fail
   refine (paNext_any (uH hP) (opA_lt h3)).mono ?_
   rintro e W6 ⟨rfl, h2, hm⟩
   replace hN := zH ((uH hN).mop (uH hP) hm)
   replace hB := zH ((uH hB).mop (uH hP) hm)
   replace hs1 := zH ((uH hs1).mop (uH hP) hm)
   have hzz := hm.size
   replace hM := zH ((uH hM).trans hm)
   replace hP := zH h2
   clear hm h2
   obtain ⟨b2, hq_b2⟩ : ∃ x, W6.heap.size = x := ⟨_, rfl⟩
   have hC := zH (nblk_new W6 13 j none 0 0)
   have hm := mop_below (g := g) (below_alloc W6 (.cells #[.int .i64 13, .int .i64 j, .slice none 0 0] 24 (0, 0)))
   have h2 := (uH hP).below (below_alloc W6 (.cells #[.int .i64 13, .int .i64 j, .slice none 0 0] 24 (0, 0)))
   have hzs : (W6.alloc (.cells #[.int .i64 13, .int .i64 j, .slice none 0 0] 24 (0, 0))).heap.size = b2 + 1 := by simp [hq_b2]
   obtain ⟨W7, hq_W7⟩ : ∃ x, W6.alloc (.cells #[.int .i64 13, .int .i64 j, .slice none 0 0] 24 (0, 0)) = x := ⟨_, rfl⟩
   rw [hq_W7] at hC hm h2 hzs
   replace hzs := And.intro (Nat.le_of_eq hzs) (Nat.le_of_eq hzs.symm)
   rw [hq_b2] at hC
   replace hq_W7 := zH hq_W7
   replace hN := zH ((uH hN).mop (uH hP) hm)
   replace hB := zH ((uH hB).mop (uH hP) hm)
   replace hs1 := zH ((uH hs1).mop (uH hP) hm)
   have hzz := hm.size
   replace hM := zH ((uH hM).trans hm)
   replace hP := zH h2
   clear hm h2
   go_upto_region 10 with fail
   rw [uH hq_W7]
   clear hq_W7
   have hb : Below W7.heap.size W7 (World.drew W7) := (Below.refl _ _).drew
   have h2 := (uH hP).below hb
   have hm := mop_below (g := g) hb
   clear hb
   obtain ⟨WD, hq_WD⟩ : ∃ x, World.drew W7 = x := ⟨_, rfl⟩
   rw [hq_WD] at h2 hm
   replace hN := zH ((uH hN).mop (uH hP) hm)
   replace hB := zH ((uH hB).mop (uH hP) hm)
   replace hC := zH ((uH hC).mop (uH hP) hm)
   replace hs1 := zH ((uH hs1).mop (uH hP) hm)
   have hzz := hm.size
   replace hM := zH ((uH hM).trans hm)
   replace hP := zH h2
   clear hm h2
   have hS : NBlk WD b1 nk nt a1 m1 c1 := uH hB
   refine wp_region_D (fun w' => NBlk w' b1 nk nt a1 m1 c1) (fun j => [5].contains j) (by kernel_rfl) ?_
   rw [hq_WD]
   clear hq_WD
   refine wpAnyD_takeC (i := 0) (v := .agg #[.int .i64 nk, .int .i64 nt, .slice a1 m1 c1]) [5] (fun _ => rfl) rfl (by kernel_rfl) 3 (by kernel_rfl) rfl (by kernel_rfl) (by kernel_rfl) (by kernel_rfl) (fun _ _ _ h => h) (Or.inl ⟨by kernel_rfl, ?_⟩) hS ?_
   ·
    intro w hSw
    obtain ⟨e0, e1, e2⟩ := hSw.box
    go_simp
   try simp only [List.getElem_toArray, List.getElem_cons_succ, List.getElem_cons_zero, Act.put, List.setIfInBounds_toArray, List.set_cons_zero, List.set_cons_succ]
   refine wpAnyD_takeC (i := 1) (v := .pointer (some ⟨g, 0, none⟩)) [5] (fun _ => rfl) rfl (by kernel_rfl) 3 (by kernel_rfl) rfl (by kernel_rfl) (by kernel_rfl) (by kernel_rfl) (fun _ _ _ h => h) (Or.inl ⟨by kernel_rfl, ?_⟩) hS ?_
   ·
    intro w hSw
    go_simp
   try simp only [List.getElem_toArray, List.getElem_cons_succ, List.getElem_cons_zero, Act.put, List.setIfInBounds_toArray, List.set_cons_zero, List.set_cons_succ]
   refine wpAnyD_one (i := 2) rfl (by kernel_rfl) (fun K' hK_ => ?_)
   rw [if_pos (by kernel_rfl)]
   refine oper_callR (run_call1 cf_paExpr) ?_
   refine (uH hHo _ (uH hP)).mono ?_
   rintro e W8 ⟨a2, m2, c2, rfl, hs, h2, hm⟩
   have hzs := hm.size
   have hs2 := zH (hs.mono (P' := fun x => gb < x ∧ x < W8.heap.size ∧ x ≠ b1 ∧ x ≠ b2) (fun x hx => by have := (uH hN).lt; have := (uH hB).lt; have := (uH hC).lt; have e1 := hx.1; have e2 := hx.lt; exact ⟨by omega, by omega, by omega, by omega⟩))
   clear hs
   replace hN := zH ((uH hN).mop (uH hP) hm)
   replace hB := zH ((uH hB).mop (uH hP) hm)
   replace hC := zH ((uH hC).mop (uH hP) hm)
   replace hs1 := zH ((uH hs1).mop (uH hP) hm)
   have hzz := hm.size
   replace hM := zH ((uH hM).trans hm)
   replace hP := zH h2
   clear hm h2
   dsimp only at hs2
   have hSW8 : NBlk W8 b1 nk nt a1 m1 c1 := uH hB
   refine hK_ _ _ (fun _ => hSW8) ?_
   clear hK_ K' hS
   have hS := hSW8
   try simp only [List.getElem_toArray, List.getElem_cons_succ, List.getElem_cons_zero, Act.put, List.setIfInBounds_toArray, List.set_cons_zero, List.set_cons_succ]
   refine wpAnyD_one (i := 3) rfl (by kernel_rfl) (fun K' hK_ => ?_)
   rw [if_pos (by kernel_rfl)]
   refine oper_of_run (run_build_two W8 _ _ _ _ _ _ _ _ nk nt yk yt a1 a2 m1 c1 m2 c2 rfl rfl) ?_
   obtain ⟨b3, hq_b3⟩ : ∃ x, W8.heap.size = x := ⟨_, rfl⟩
   have hzz : (W8.alloc (.cells #[.int .i64 nk, .int .i64 nt, .slice a1 m1 c1, .int .i64 yk, .int .i64 yt, .slice a2 m2 c2] 24 (0, 0))).heap.size = b3 + 1 := by simp [hq_b3]
   have hm := mop_below (g := g) (below_alloc W8 (.cells #[.int .i64 nk, .int .i64 nt, .slice a1 m1 c1, .int .i64 yk, .int .i64 yt, .slice a2 m2 c2] 24 (0, 0)))
   have h2 := (uH hP).below (below_alloc W8 (.cells #[.int .i64 nk, .int .i64 nt, .slice a1 m1 c1, .int .i64 yk, .int .i64 yt, .slice a2 m2 c2] 24 (0, 0)))
   have hs3 := lit2_sl (P := fun x => gb < x ∧ x < b3 + 1 ∧ x ≠ b1 ∧ x ≠ b2) W8 nk nt yk yt a1 a2 m1 c1 m2 c2 nc yc ((uH hs1).mono (fun x hx => by have e1 := hx.1; have e2 := hx.lt; exact ⟨by omega, by omega, by omega, by omega⟩)) ((uH hs2).mono (fun x hx => by have e1 := hx.1; have e2 := hx.lt; exact ⟨by omega, by omega, by omega, by omega⟩)) ⟨by omega, by omega, (by have := (uH hN).lt; have := (uH hB).lt; have := (uH hC).lt; omega), (by have := (uH hN).lt; have := (uH hB).lt; have := (uH hC).lt; omega)⟩
   rw [hq_b3] at hs3
   obtain ⟨W9, hq_W9⟩ : ∃ x, W8.alloc (.cells #[.int .i64 nk, .int .i64 nt, .slice a1 m1 c1, .int .i64 yk, .int .i64 yt, .slice a2 m2 c2] 24 (0, 0)) = x := ⟨_, rfl⟩
   rw [hq_W9] at hs3 hm h2 hzz
   rw [← hzz] at hs3
   replace hzz := And.intro (Nat.le_of_eq hzz) (Nat.le_of_eq hzz.symm)
   replace hs3 := zH hs3
   replace hN := zH ((uH hN).mop (uH hP) hm)
   replace hB := zH ((uH hB).mop (uH hP) hm)
   replace hC := zH ((uH hC).mop (uH hP) hm)
   have hzz := hm.size
   replace hM := zH ((uH hM).trans hm)
   replace hP := zH h2
   clear hm h2
   rw [hq_W9, hq_b3]
   clear hq_W9
   have hSW9 : NBlk W9 b1 nk nt a1 m1 c1 := uH hB
   refine hK_ _ _ (fun _ => hSW9) ?_
   clear hK_ K' hS
   have hS := hSW9
   try simp only [List.getElem_toArray, List.getElem_cons_succ, List.getElem_cons_zero, Act.put, List.setIfInBounds_toArray, List.set_cons_zero, List.set_cons_succ]
   refine wpAnyD_one (i := 4) rfl (by kernel_rfl) (fun K' hK_ => ?_)
   rw [if_pos (by kernel_rfl)]
   refine oper_of_run (v := .pointer (some ⟨b2, 2, none⟩)) (w' := W9) (by clear hK_; go_simp) ?_
   refine hK_ _ _ (fun _ => hS) ?_
   clear hK_ K'
   try simp only [List.getElem_toArray, List.getElem_cons_succ, List.getElem_cons_zero, Act.put, List.setIfInBounds_toArray, List.set_cons_zero, List.set_cons_succ]
   refine wpAnyD_one (i := 5) rfl (by kernel_rfl) (fun K' hK_ => ?_)
   rw [if_pos (by kernel_rfl)]
   refine oper_skip (run_store_kids W9 _ _ _ _ _ _ _ _ b2 13 j none (some ⟨b3, 0, none⟩) 0 0 2 2 (uH hC) rfl rfl) ?_
   obtain ⟨h2, hM2, hB2, hh⟩ := kid_set (uH hP) (uH hM) (uH hC) (by omega) (some ⟨b3, 0, none⟩) 2 2
   have hzz : (W9.setCell ⟨b2, 2, none⟩ (.slice (some ⟨b3, 0, none⟩) 2 2)).heap.size = W9.heap.size := by simp
   obtain ⟨W10, hq_W10⟩ : ∃ x, W9.setCell ⟨b2, 2, none⟩ (.slice (some ⟨b3, 0, none⟩) 2 2) = x := ⟨_, rfl⟩
   rw [hq_W10] at h2 hM2 hB2 hh hzz
   replace hzz := And.intro (Nat.le_of_eq hzz) (Nat.le_of_eq hzz.symm)
   replace hN := zH ((uH hN).same (hh _ (by omega)))
   replace hB := zH ((uH hB).same (hh _ (by omega)))
   replace hs3 := zH ((uH hs3).keep (w' := W10) (fun x hx => hh x (by have e1 := hx.1; omega)))
   replace hC := zH hB2
   replace hM := zH hM2
   replace hP := zH h2
   clear hB2 hM2 h2 hh
   rw [hq_W10]
   clear hq_W10
   refine hK_ _ _ (fun h => by cases h) ?_
   clear hK_ K'
   try simp only [List.getElem_toArray, List.getElem_cons_succ, List.getElem_cons_zero, Act.put, List.setIfInBounds_toArray, List.set_cons_zero, List.set_cons_succ]
   clear hS
   refine wpAnyD_done (by kernel_rfl) ?_ _
   obtain ⟨p0_hC, p1_hC, p2_hC⟩ := (uH hC).box
   have f0_hC := (uH hC).frozen 0
   have f1_hC := (uH hC).frozen 1
   have f2_hC := (uH hC).frozen 2
   obtain ⟨p0_hN, p1_hN, p2_hN⟩ := (uH hN).box
   have f0_hN := (uH hN).frozen 0
   have f1_hN := (uH hN).frozen 1
   have f2_hN := (uH hN).frozen 2
   have hF := zH (res_fin (k := 13) (t := j) (a := some ⟨b3, 0, none⟩) (m := 2) (c := 2) (f := .cons nk nt nc (.cons yk yt yc .nil)) (B := gb) (w := w) (Nat.le_refl gb) (by omega) (uH hN) ((uH hs3).mono (fun x hx => by have e1 := hx.1; exact ⟨by omega, by omega⟩)) (uH hP) (uH hM))
   go_wp2
   obtain ⟨q1, q2, q3, q4⟩ := uH hF
   obtain ⟨u0, u1, u2⟩ := q1.box
   refine bodyPost_ret (v := .agg #[.int .i64 (13), .int .i64 (j), .slice (some ⟨b3, 0, none⟩) (2) (2)]) (by simp [results, Tryz.results143, go_sem, u0, u1, u2]) rfl ?_
   exact ⟨_, _, _, rfl, (by first | exact q2 | (rw [hgb]; exact q2)), q3, q4⟩
 | false =>
  simp only [Bool.false_eq_true, if_false, one]
  clear H HP hne
  have hP := zH (h.alloc (.cells #[.int .i64 0, .int .i64 0, .slice none 0 0] 24 (0, 0))).1
  have hM := zH (h.alloc (.cells #[.int .i64 0, .int .i64 0, .slice none 0 0] 24 (0, 0))).2
  have hN := zH (nblk_new w 0 0 none 0 0)
  obtain ⟨gb, hgb⟩ : ∃ gb, w.heap.size = gb := ⟨_, rfl⟩
  have hz : (w.alloc (.cells #[.int .i64 0, .int .i64 0, .slice none 0 0] 24 (0, 0))).heap.size = gb + 1 := by simp [hgb]
  have hgl : g < gb := by have := h.lt; omega
  rw [hgb] at hN
  obtain ⟨W1, hq_W1⟩ : ∃ W1, w.alloc (.cells #[.int .i64 0, .int .i64 0, .slice none 0 0] 24 (0, 0)) = W1 := ⟨_, rfl⟩
  rw [hq_W1] at hP hM hN hz
  replace hz := And.intro (Nat.le_of_eq hz) (Nat.le_of_eq hz.symm)
  replace h := zH h
  have c1 := (uH hP).c1
  have f1 := (uH hP).fr 1
  go_enter Tryz.func143, Tryz.ntmps143
  go_wp2_with fail
  clear hq_W1
  clear c1 f1
  have hC := uH hH _ (uH hP)
  rw [hr] at hC
  refine (hC).mono ?_
  rintro e W2 ⟨a1, m1, c1, rfl, hs, h2, hm⟩
  have hzs := hm.size
  have hs1 := zH (hs.mono (P' := fun x => gb < x ∧ x < W2.heap.size) (fun x hx => by have := (uH hN).lt; have e1 := hx.1; have e2 := hx.lt; exact ⟨by omega, by omega⟩))
  clear hs
  replace hN := zH ((uH hN).mop (uH hP) hm)
  have hzz := hm.size
  replace hM := zH ((uH hM).trans hm)
  replace hP := zH h2
  clear hm h2
  dsimp only at hs1
  obtain ⟨b1, hq_b1⟩ : ∃ x, W2.heap.size = x := ⟨_, rfl⟩
  have hB := zH (nblk_new W2 nk nt a1 m1 c1)
  have hm := mop_below (g := g) (below_alloc W2 (.cells #[.int .i64 nk, .int .i64 nt, .slice a1 m1 c1] 24 (0, 0)))
  have h2 := (uH hP).below (below_alloc W2 (.cells #[.int .i64 nk, .int .i64 nt, .slice a1 m1 c1] 24 (0, 0)))
  have hzs : (W2.alloc (.cells #[.int .i64 nk, .int .i64 nt, .slice a1 m1 c1] 24 (0, 0))).heap.size = b1 + 1 := by simp [hq_b1]
  obtain ⟨W3, hq_W3⟩ : ∃ x, W2.alloc (.cells #[.int .i64 nk, .int .i64 nt, .slice a1 m1 c1] 24 (0, 0)) = x := ⟨_, rfl⟩
  rw [hq_W3] at hB hm h2 hzs
  replace hzs := And.intro (Nat.le_of_eq hzs) (Nat.le_of_eq hzs.symm)
  rw [hq_b1] at hB
  replace hq_W3 := zH hq_W3
  replace hN := zH ((uH hN).mop (uH hP) hm)
  replace hs1 := zH ((uH hs1).mop (uH hP) hm)
  have hzz := hm.size
  replace hM := zH ((uH hM).trans hm)
  replace hP := zH h2
  clear hm h2
  obtain ⟨p0_hB, p1_hB, p2_hB⟩ := (uH hB).box
  have f0_hB := (uH hB).frozen 0
  have f1_hB := (uH hB).frozen 1
  have f2_hB := (uH hB).frozen 2
  go_wp2_with fail
  rw [uH hq_W3]
  clear hq_W3
  refine (paOp_any _ _).mono ?_
  rintro e W4 ⟨rfl, hb⟩
  have h2 := (uH hP).below hb
  have hm := mop_below (g := g) hb
  clear hb
  replace hN := zH ((uH hN).mop (uH hP) hm)
  replace hB := zH ((uH hB).mop (uH hP) hm)
  replace hs1 := zH ((uH hs1).mop (uH hP) hm)
  have hzz := hm.size
  replace hM := zH ((uH hM).trans hm)
  replace hP := zH h2
  clear hm h2
  go_wp2_with fail
  have hK := paIs_any (uH hP) (opT [61])
  rw [eqB_op, h3] at hK
  refine (hK).mono ?_
  rintro e W5 ⟨rfl, hb⟩
  have h2 := (uH hP).below hb
  have hm := mop_below (g := g) hb
  clear hb
  replace hN := zH ((uH hN).mop (uH hP) hm)
  replace hB := zH ((uH hB).mop (uH hP) hm)
  replace hs1 := zH ((uH hs1).mop (uH hP) hm)
  have hzz := hm.size
  replace hM := zH ((uH hM).trans hm)
  replace hP := zH h2
  clear hm h2
  obtain ⟨p0_hB, p1_hB, p2_hB⟩ := (uH hB).box
  have f0_hB := (uH hB).frozen 0
  have f1_hB := (uH hB).frozen 1
  have f2_hB := (uH hB).frozen 2
  obtain ⟨b3, hq_b3⟩ : ∃ x, W5.heap.size = x := ⟨_, rfl⟩
  have hzz : (W5.alloc (.cells #[.int .i64 nk, .int .i64 nt, .slice a1 m1 c1] 24 (0, 0))).heap.size = b3 + 1 := by simp [hq_b3]
  have hm := mop_below (g := g) (below_alloc W5 (.cells #[.int .i64 nk, .int .i64 nt, .slice a1 m1 c1] 24 (0, 0)))
  have h2 := (uH hP).below (below_alloc W5 (.cells #[.int .i64 nk, .int .i64 nt, .slice a1 m1 c1] 24 (0, 0)))
  have hs3 := lit1_sl (P := fun x => gb < x ∧ x < b3 + 1 ∧ x ≠ b1) W5 nk nt a1 m1 c1 nc ((uH hs1).mono (fun x hx => by have e1 := hx.1; have e2 := hx.lt; exact ⟨by omega, by omega, by omega⟩)) ⟨by omega, by omega, (by have := (uH hN).lt; have := (uH hB).lt; omega)⟩
  rw [hq_b3] at hs3
  obtain ⟨W6, hq_W6⟩ : ∃ x, W5.alloc (.cells #[.int .i64 nk, .int .i64 nt, .slice a1 m1 c1] 24 (0, 0)) = x := ⟨_, rfl⟩
  rw [hq_W6] at hs3 hm h2 hzz
  rw [← hzz] at hs3
  replace hzz := And.intro (Nat.le_of_eq hzz) (Nat.le_of_eq hzz.symm)
  replace hs3 := zH hs3
  replace hN := zH ((uH hN).mop (uH hP) hm)
  replace hB := zH ((uH hB).mop (uH hP) hm)
  have hzz := hm.size
  replace hM := zH ((uH hM).trans hm)
  replace hP := zH h2
  clear hm h2
  obtain ⟨p0_hB, p1_hB, p2_hB⟩ := (uH hB).box
  have f0_hB := (uH hB).frozen 0
  have f1_hB := (uH hB).frozen 1
  have f2_hB := (uH hB).frozen 2
  obtain ⟨p0_hN, p1_hN, p2_hN⟩ := (uH hN).box
  have f0_hN := (uH hN).frozen 0
  have f1_hN := (uH hN).frozen 1
  have f2_hN := (uH hN).frozen 2
  have hF := zH (res_fin (k := 12) (t := i) (a := some ⟨b3, 0, none⟩) (m := 1) (c := 1) (f := .cons nk nt nc .nil) (B := gb) (w := w) (Nat.le_refl gb) (by omega) (uH hN) ((uH hs3).mono (fun x hx => by have e1 := hx.1; exact ⟨by omega, by omega⟩)) (uH hP) (uH hM))
  go_wp2
  obtain ⟨q1, q2, q3, q4⟩ := uH hF
  obtain ⟨u0, u1, u2⟩ := q1.box
  refine bodyPost_ret (v := .agg #[.int .i64 (12), .int .i64 (i), .slice (some ⟨b3, 0, none⟩) (1) (1)]) (by simp [results, Tryz.results143, go_sem, u0, u1, u2]) rfl ?_
  exact ⟨_, _, _, rfl, (by first | exact q2 | (rw [hgb]; exact q2)), q3, q4⟩
set_option maxHeartbeats 4000000 in
set_option maxRecDepth 100000 in
theorem paSimple_step {g : Nat} {tv : Value} {L : List Tk} {i d : Nat} {w : World} (h : PaW g tv L i d w) {f : Nat} (H : ExA g tv L f) (HP : ∀ (w : World) (i : Nat), PaW g tv L i d w → guaA L f 15 kFor i d ≠ .out → Calls Tryz.prog 140 #[.pointer (some ⟨g, 0, none⟩)] w fun e w' => ResN w.heap.size g tv L d w (guaA L f 15 kFor i d) e w') (hd : d ≤ 40) (hne : simA L (f + 1) i d ≠ .out) : Calls Tryz.prog 143 #[.pointer (some ⟨g, 0, none⟩)] w fun e w' => ResN w.heap.size g tv L d w (simA L (f + 1) i d) e w' := by
 unfold simA at hne ⊢
 have hne1 : absA L f 0 i d ≠ .out := fun e => hne (by rw [e]; rfl)
 have hH := zH (fun w h => paExpr_any (w := w) (i := i) (d := d) h H hd hne1)
 cases hr : absA L f 0 i d with
 | out => exact absurd hr hne1
 | bad j =>
  simp only [PR.bind]
  clear H HP hne
  have hP := zH (h.alloc (.cells #[.int .i64 0, .int .i64 0, .slice none 0 0] 24 (0, 0))).1
  have hM := zH (h.alloc (.cells #[.int .i64 0, .int .i64 0, .slice none 0 0] 24 (0, 0))).2
  have hN := zH (nblk_new w 0 0 none 0 0)
  obtain ⟨gb, hgb⟩ : ∃ gb, w.heap.size = gb := ⟨_, rfl⟩
  have hz : (w.alloc (.cells #[.int .i64 0, .int .i64 0, .slice none 0 0] 24 (0, 0))).heap.size = gb + 1 := by simp [hgb]
  have hgl : g < gb := by have := h.lt; omega
  rw [hgb] at hN
  obtain ⟨W1, hq_W1⟩ : ∃ W1, w.alloc (.cells #[.int .i64 0, .int .i64 0, .slice none 0 0] 24 (0, 0)) = W1 := ⟨_, rfl⟩
  rw [hq_W1] at hP hM hN hz
  replace hz := And.intro (Nat.le_of_eq hz) (Nat.le_of_eq hz.symm)
  replace h := zH h
  have c1 := (uH hP).c1
  have f1 := (uH hP).fr 1
  go_enter Tryz.func143, Tryz.ntmps143
  go_wp2_with fail
  clear hq_W1
  clear c1 f1
  have hC := uH hH _ (uH hP)
  rw [hr] at hC
  refine (hC).mono ?_
  rintro e W2 hBad
  obtain rfl := hBad.1
  have hG := zH (hBad.pre (uH hM))
  clear hBad
  go_wp2
  exact ⟨rfl, uH hG⟩
 | ok n j =>
  obtain ⟨nk, nt, nc⟩ := n
  rw [hr] at hne
  simp only [PR.bind] at hne ⊢
  by_cases hnk : nk = 20
  ·
   subst hnk
   rcases Bool.eq_false_or_eq_true (opA L j [58, 61]) with h1 | h1
   ·
    exact paSimple_def h H HP hd hH h1 hr hne
   ·
    rcases Bool.eq_false_or_eq_true (opA L j [58]) with h2 | h2
    ·
     exact paSimple_lab h H HP hd hH h1 h2 hr hne
    ·
     exact paSimple_nam h H HP hd hH h1 h2 hr hne
  ·
   exact paSimple_oth h H HP hd hH hnk hr hne
end Go.Proofs.YtiknnobgoamgcaaGreatDoor

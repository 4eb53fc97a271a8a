/-
  2 texts in one.
-/
import Derived.Test.YtiknnobgoamgcaaGreatDoorB05
/-
  The parser: operators, by their rank.
-/
namespace Go.Proofs.YtiknnobgoamgcaaGreatDoor
open Go.RowKit Go.Lib Go.Sort
set_option linter.unusedSimpArgs false
set_option linter.unusedVariables false
theorem oper_callR {P : Program} {o : Oper} {a : Act} {w : World} {f : FuncId} {args : Array Value} {K : Act → World → Prop} {Q : Exit → Act → World → Prop} (h : (execOp a.eval o).run P w = .ok (.enter f args) w)
  (hc : Calls P f args w (fun e w' => match e, w' with
   | .returned v, w'' => K (a.put o.dst v) w''
   | .panicked chain, w'' => Q (.panic chain) a w''
   | .outgrown, _ => LetsOut Q)) : o.wp P a w K Q := by
 unfold Oper.wp
 rw [h]
 exact hc
theorem cf_paAbove (us : Array Value) (W : World) : Sem.run Tryz.prog (callFunc 124 us) W = .ok (.enter 124 us) W := by kernel_rfl
theorem run_build_two (W : World) (ev : Operand → Value) (d : Option Nat) (x y : Operand) (t : TypeId) (p : String) (af : Array Edge) (gd : Option (Nat × Bool)) (k tt k' t' : Int) (a a' : Option Addr) (n c n' c' : Nat) (hx : ev x = .agg #[.int .i64 k, .int .i64 tt, .slice a n c]) (hy : ev y = .agg #[.int .i64 k', .int .i64 t', .slice a' n' c']) :
  (execOp ev { dst := d, op := .buildSlice 22 2 #[(0, x), (1, y)], type := t, pos := p, after := af, guard := gd }).run Tryz.prog W = .ok (.value (.slice (some ⟨W.heap.size, 0, none⟩) 2 2)) (W.alloc (.cells #[.int .i64 k, .int .i64 tt, .slice a n c, .int .i64 k', .int .i64 t', .slice a' n' c'] 24 (0, 0))) := by
 go_simp
theorem run_store_kids (W : World) (ev : Operand → Value) (d : Option Nat) (x y : Operand) (t : TypeId) (p : String) (af : Array Edge) (gd : Option (Nat × Bool)) (b : Nat) (k tt : Int) (a a' : Option Addr) (n c n' c' : Nat) (hN : NBlk W b k tt a n c) (hx : ev x = .pointer (some ⟨b, 2, none⟩)) (hy : ev y = .slice a' n' c') :
  (execOp ev { dst := d, op := .store 22 x y, type := t, pos := p, after := af, guard := gd }).run Tryz.prog W = .ok .skip (W.setCell ⟨b, 2, none⟩ (.slice a' n' c')) := by
 obtain ⟨z0, z1, z2⟩ := hN.box
 have f2 := hN.frozen 2
 go_simp
set_option maxHeartbeats 4000000 in
set_option maxRecDepth 100000 in
theorem paAbove_step {g : Nat} {tv : Value} {L : List Tk} {i d : Nat} {w : World} (h : PaW g tv L i d w) {f : Nat} (HA : ∀ f', f' ≤ f → ExA g tv L f') (low : Int) (hlow : 0 ≤ low) (hd : d ≤ 40) (hne : absA L (f + 1) low i d ≠ .out) : Calls Tryz.prog 124 #[.pointer (some ⟨g, 0, none⟩), .int .i64 low] w fun e w' => ResN w.heap.size g tv L d w (absA L (f + 1) low i d) e w' := by
 have HH := zH HA
 clear HA
 unfold absA at hne ⊢
 have hne1 : unrA L f i d ≠ .out := fun e => hne (by rw [e]; rfl)
 have hH := zH (fun w h => (uH HH f (Nat.le_refl _)).unr w i d h hd hne1)
 cases hr : unrA L f i d with
 | out => exact absurd hr hne1
 | bad j =>
  simp only [PR.bind]
  have hP := zH (h.alloc (.cells #[.int .i64 0, .int .i64 0, .slice none 0 0] 24 (0, 0))).1
  have hM := zH (h.alloc (.cells #[.int .i64 0, .int .i64 0, .slice none 0 0] 24 (0, 0))).2
  have hN := zH (nblk_new w 0 0 none 0 0)
  obtain ⟨gb, hgb⟩ : ∃ gb, w.heap.size = gb := ⟨_, rfl⟩
  have hz : (w.alloc (.cells #[.int .i64 0, .int .i64 0, .slice none 0 0] 24 (0, 0))).heap.size = gb + 1 := by simp [hgb]
  have hgl : g < gb := by have := h.lt; omega
  rw [hgb] at hN
  obtain ⟨W1, hq_W1⟩ : ∃ W1, w.alloc (.cells #[.int .i64 0, .int .i64 0, .slice none 0 0] 24 (0, 0)) = W1 := ⟨_, rfl⟩
  rw [hq_W1] at hP hM hN hz
  replace hz := And.intro (Nat.le_of_eq hz) (Nat.le_of_eq hz.symm)
  replace h := zH h
  go_enter Tryz.func124, Tryz.ntmps124
  go_wp2_with fail
  clear hq_W1
  have hC := uH hH _ (uH hP)
  rw [hr] at hC
  refine (hC).mono ?_
  rintro e W2 hBad
  obtain rfl := hBad.1
  have hG := zH (hBad.pre (uH hM))
  clear hBad
  go_wp2
  exact ⟨rfl, uH hG⟩
 | ok n j0 =>
  obtain ⟨nk, nt, nc⟩ := n
  rw [hr] at hne
  simp only [PR.bind] at hne ⊢
  obtain ⟨R, hR⟩ : ∃ R, labA L f low ⟨nk, nt, nc⟩ j0 d = R := ⟨_, rfl⟩
  rw [hR] at hne ⊢
  have hP := zH (h.alloc (.cells #[.int .i64 0, .int .i64 0, .slice none 0 0] 24 (0, 0))).1
  have hM := zH (h.alloc (.cells #[.int .i64 0, .int .i64 0, .slice none 0 0] 24 (0, 0))).2
  have hN := zH (nblk_new w 0 0 none 0 0)
  obtain ⟨gb, hgb⟩ : ∃ gb, w.heap.size = gb := ⟨_, rfl⟩
  have hz : (w.alloc (.cells #[.int .i64 0, .int .i64 0, .slice none 0 0] 24 (0, 0))).heap.size = gb + 1 := by simp [hgb]
  have hgl : g < gb := by have := h.lt; omega
  rw [hgb] at hN
  obtain ⟨W1, hq_W1⟩ : ∃ W1, w.alloc (.cells #[.int .i64 0, .int .i64 0, .slice none 0 0] 24 (0, 0)) = W1 := ⟨_, rfl⟩
  rw [hq_W1] at hP hM hN hz
  replace hz := And.intro (Nat.le_of_eq hz) (Nat.le_of_eq hz.symm)
  replace h := zH h
  go_enter Tryz.func124, Tryz.ntmps124
  go_wp2_with fail
  clear hq_W1
  have hC := uH hH _ (uH hP)
  rw [hr] at hC
  refine (hC).mono ?_
  rintro e W2 ⟨a1, m1, c1, rfl, hs, h2, hm⟩
  have hzs := hm.size
  have hs1 := zH (hs.mono (P' := fun x => gb < x ∧ x < W2.heap.size) (fun x hx => by have := (uH hN).lt; have e1 := hx.1; have e2 := hx.lt; exact ⟨by omega, by omega⟩))
  clear hs
  replace hN := zH ((uH hN).mop (uH hP) hm)
  have hzz := hm.size
  replace hM := zH ((uH hM).trans hm)
  replace hP := zH h2
  clear hm h2
  dsimp only at hs1
  obtain ⟨b1, hq_b1⟩ : ∃ x, W2.heap.size = x := ⟨_, rfl⟩
  have hB := zH (nblk_new W2 nk nt a1 m1 c1)
  have hm := mop_below (g := g) (below_alloc W2 (.cells #[.int .i64 nk, .int .i64 nt, .slice a1 m1 c1] 24 (0, 0)))
  have h2 := (uH hP).below (below_alloc W2 (.cells #[.int .i64 nk, .int .i64 nt, .slice a1 m1 c1] 24 (0, 0)))
  have hzs : (W2.alloc (.cells #[.int .i64 nk, .int .i64 nt, .slice a1 m1 c1] 24 (0, 0))).heap.size = b1 + 1 := by simp [hq_b1]
  obtain ⟨W3, hq_W3⟩ : ∃ x, W2.alloc (.cells #[.int .i64 nk, .int .i64 nt, .slice a1 m1 c1] 24 (0, 0)) = x := ⟨_, rfl⟩
  rw [hq_W3] at hB hm h2 hzs
  replace hzs := And.intro (Nat.le_of_eq hzs) (Nat.le_of_eq hzs.symm)
  rw [hq_b1] at hB
  replace hq_W3 := zH hq_W3
  replace hN := zH ((uH hN).mop (uH hP) hm)
  replace hs1 := zH ((uH hs1).mop (uH hP) hm)
  have hzz := hm.size
  replace hM := zH ((uH hM).trans hm)
  replace hP := zH h2
  clear hm h2
  clear hH
  replace hs1 := zH ((uH hs1).mono (P' := fun x => gb < x ∧ x ≠ b1) (fun x hx => by have e1 := hx.1; exact ⟨by omega, by omega⟩))
  go_upto_region 2 with fail
  rw [uH hq_W3]
  clear hq_W3
  go_loopg [] f (fun gf wx => ∃ (lk lt : Int) (lc : F) (j : Nat) (al : Option Addr) (ml cl : Nat), PaW g tv L j d wx ∧ MoP g w wx ∧ NBlk wx gb 0 0 none 0 0 ∧ NBlk wx b1 lk lt al ml cl ∧ SlQ (fun x => gb < x ∧ x ≠ b1) wx al ml cl lc ∧ labA L gf low ⟨lk, lt, lc⟩ j d = R ∧ gf ≤ f)
  case atStart => exact ⟨_, _, _, _, _, _, _, uH hP, uH hM, uH hN, uH hB, uH hs1, hR, Nat.le_refl _⟩
  case round =>
   obtain ⟨lk, lt, lc, j, a1, m1, c1, hP, hM, hN, hB, hs1, hE, hgf⟩ := hrel
   cases gk with
   | zero =>
    unfold labA at hE
    exact absurd hE.symm hne
   | succ g' =>
    unfold labA at hE
    have hwl := hM.size
    have hbl := hB.lt
    replace hs1 := zH (hs1.mono (P' := fun x => gb < x ∧ x < wr.heap.size ∧ x ≠ b1) (fun x hx => ⟨hx.1.1, hx.lt, hx.1.2⟩))
    replace hP := zH hP
    replace hM := zH hM
    replace hN := zH hN
    replace hB := zH hB
    by_cases hrk : rkA L j ≤ low
    ·
     simp only [hrk, if_true] at hE
     subst hE
     go_wp2_with fail
     have hK := paRank_any (uH hP)
     obtain ⟨rk, hrk0⟩ : ∃ r, rkA L j = r := ⟨_, rfl⟩
     rw [hrk0] at hK
     refine (hK).mono ?_
     rintro e W20 ⟨rfl, hb⟩
     have h2 := (uH hP).below hb
     have hm := mop_below (g := g) hb
     clear hb
     replace hN := zH ((uH hN).mop (uH hP) hm)
     replace hB := zH ((uH hB).mop (uH hP) hm)
     replace hs1 := zH ((uH hs1).mop (uH hP) hm)
     have hzz := hm.size
     replace hM := zH ((uH hM).trans hm)
     replace hP := zH h2
     clear hm h2
     rw [hrk0] at hrk
     obtain ⟨p0_hB, p1_hB, p2_hB⟩ := (uH hB).box
     have f0_hB := (uH hB).frozen 0
     have f1_hB := (uH hB).frozen 1
     have f2_hB := (uH hB).frozen 2
     obtain ⟨p0_hN, p1_hN, p2_hN⟩ := (uH hN).box
     have f0_hN := (uH hN).frozen 0
     have f1_hN := (uH hN).frozen 1
     have f2_hN := (uH hN).frozen 2
     have hF := zH (res_fin (k := lk) (t := lt) (a := a1) (m := m1) (c := c1) (f := lc) (B := gb) (w := w) (Nat.le_refl gb) (by omega) (uH hN) ((uH hs1).mono (fun x hx => by have e1 := hx.1; exact ⟨by omega, by omega⟩)) (uH hP) (uH hM))
     go_wp2
     obtain ⟨q1, q2, q3, q4⟩ := uH hF
     obtain ⟨u0, u1, u2⟩ := q1.box
     refine bodyPost_ret (v := .agg #[.int .i64 (lk), .int .i64 (lt), .slice (a1) (m1) (c1)]) (by simp [results, Tryz.results124, go_sem, u0, u1, u2]) rfl ?_
     exact ⟨_, _, _, rfl, (by first | exact q2 | (rw [hgb]; exact q2)), q3, q4⟩
    ·
     simp only [hrk, if_false] at hE
     have hrp : knd L j 4 = true ∧ rkA L j = rankN (tkA L j).s := by
      cases hk : knd L j 4 with
      | true => exact ⟨rfl, by simp [rkA, hk]⟩
      | false => exfalso; apply hrk; simp [rkA, hk]; exact hlow
     have hjl := knd_lt hrp.1 (by decide)
     have hrl : 0 ≤ rkA L j := by omega
     have hne1 : absA L g' (rkA L j) (j + 1) d ≠ .out := fun e => hne (by rw [← hE, e]; rfl)
     have hH := zH (fun w h => (uH HH g' (by omega)).abs (rkA L j) hrl w (j + 1) d h hd hne1)
     cases hr : absA L g' (rkA L j) (j + 1) d with
     | out => exact absurd hr hne1
     | bad j2 =>
      rw [hr] at hE hH
      simp only [PR.bind] at hE
      subst hE
      go_wp2_with fail
      have hK := paRank_any (uH hP)
      obtain ⟨rk, hrk0⟩ : ∃ r, rkA L j = r := ⟨_, rfl⟩
      rw [hrk0] at hK
      refine (hK).mono ?_
      rintro e W20 ⟨rfl, hb⟩
      have h2 := (uH hP).below hb
      have hm := mop_below (g := g) hb
      clear hb
      replace hN := zH ((uH hN).mop (uH hP) hm)
      replace hB := zH ((uH hB).mop (uH hP) hm)
      replace hs1 := zH ((uH hs1).mop (uH hP) hm)
      have hzz := hm.size
      replace hM := zH ((uH hM).trans hm)
      replace hP := zH h2
      clear hm h2
      rw [hrk0] at hrk hH
      go_wp2_with fail
      refine (paNext_any (uH hP) hjl).mono ?_
      rintro e W21 ⟨rfl, h2, hm⟩
      replace hN := zH ((uH hN).mop (uH hP) hm)
      replace hB := zH ((uH hB).mop (uH hP) hm)
      replace hs1 := zH ((uH hs1).mop (uH hP) hm)
      have hzz := hm.size
      replace hM := zH ((uH hM).trans hm)
      replace hP := zH h2
      clear hm h2
      obtain ⟨b2, hq_b2⟩ : ∃ x, W21.heap.size = x := ⟨_, rfl⟩
      have hC := zH (nblk_new W21 24 j none 0 0)
      have hm := mop_below (g := g) (below_alloc W21 (.cells #[.int .i64 24, .int .i64 j, .slice none 0 0] 24 (0, 0)))
      have h2 := (uH hP).below (below_alloc W21 (.cells #[.int .i64 24, .int .i64 j, .slice none 0 0] 24 (0, 0)))
      have hzs : (W21.alloc (.cells #[.int .i64 24, .int .i64 j, .slice none 0 0] 24 (0, 0))).heap.size = b2 + 1 := by simp [hq_b2]
      obtain ⟨W22, hq_W22⟩ : ∃ x, W21.alloc (.cells #[.int .i64 24, .int .i64 j, .slice none 0 0] 24 (0, 0)) = x := ⟨_, rfl⟩
      rw [hq_W22] at hC hm h2 hzs
      replace hzs := And.intro (Nat.le_of_eq hzs) (Nat.le_of_eq hzs.symm)
      rw [hq_b2] at hC
      replace hq_W22 := zH hq_W22
      replace hN := zH ((uH hN).mop (uH hP) hm)
      replace hB := zH ((uH hB).mop (uH hP) hm)
      replace hs1 := zH ((uH hs1).mop (uH hP) hm)
      have hzz := hm.size
      replace hM := zH ((uH hM).trans hm)
      replace hP := zH h2
      clear hm h2
      go_upto_region 6 with fail
      rw [uH hq_W22]
      clear hq_W22
      have hb : Below W22.heap.size W22 (World.drew W22) := (Below.refl _ _).drew
      have h2 := (uH hP).below hb
      have hm := mop_below (g := g) hb
      clear hb
      obtain ⟨WD, hq_WD⟩ : ∃ x, World.drew W22 = x := ⟨_, rfl⟩
      rw [hq_WD] at h2 hm
      replace hN := zH ((uH hN).mop (uH hP) hm)
      replace hB := zH ((uH hB).mop (uH hP) hm)
      replace hC := zH ((uH hC).mop (uH hP) hm)
      replace hs1 := zH ((uH hs1).mop (uH hP) hm)
      have hzz := hm.size
      replace hM := zH ((uH hM).trans hm)
      replace hP := zH h2
      clear hm h2
      have hS : NBlk WD b1 lk lt a1 m1 c1 := uH hB
      refine wp_region_held_drew (S := fun w' => NBlk w' b1 lk lt a1 m1 c1) (by kernel_rfl) (by rw [hq_WD]; exact hS) (fun _ => ?_)
      rw [hq_WD]
      clear hq_WD
      refine wpAnyH_take (i := 0) (v := .agg #[.int .i64 lk, .int .i64 lt, .slice a1 m1 c1]) rfl (by kernel_rfl) (by kernel_rfl) (by kernel_rfl) (fun _ _ _ h => h) (Or.inl ⟨by kernel_rfl, ?_⟩) hS ?_
      ·
       intro w hSw
       obtain ⟨e0, e1, e2⟩ := hSw.box
       go_simp
      try simp only [List.getElem_toArray, List.getElem_cons_succ, List.getElem_cons_zero, Act.put, List.setIfInBounds_toArray, List.set_cons_zero, List.set_cons_succ]
      refine wpAnyH_take (i := 1) (v := .pointer (some ⟨g, 0, none⟩)) rfl (by kernel_rfl) (by kernel_rfl) (by kernel_rfl) (fun _ _ _ h => h) (Or.inl ⟨by kernel_rfl, ?_⟩) hS ?_
      ·
       intro w hSw
       go_simp
      try simp only [List.getElem_toArray, List.getElem_cons_succ, List.getElem_cons_zero, Act.put, List.setIfInBounds_toArray, List.set_cons_zero, List.set_cons_succ]
      refine wpAnyH_take (i := 2) (v := .int .i64 rk) rfl (by kernel_rfl) (by kernel_rfl) (by kernel_rfl) (fun _ _ _ h => h) (Or.inl ⟨by kernel_rfl, ?_⟩) hS ?_
      ·
       intro w hSw
       go_simp
      try simp only [List.getElem_toArray, List.getElem_cons_succ, List.getElem_cons_zero, Act.put, List.setIfInBounds_toArray, List.set_cons_zero, List.set_cons_succ]
      refine wpAnyH_ready (rs := [3]) (by kernel_rfl) (by decide) ?_
      refine AllReadyH.cons rfl (fun K' hK => ?_) AllReadyH.nil
      rw [if_pos (by kernel_rfl)]
      refine oper_callR (run_call2 cf_paAbove) ?_
      refine (uH hH _ (uH hP)).mono ?_
      rintro e W23 hBad
      obtain rfl := hBad.1
      have hG := zH (hBad.pre (uH hM))
      clear hBad
      go_wp2
      exact ⟨rfl, uH hG⟩
     | ok n j2 =>
      obtain ⟨nk, nt, nc⟩ := n
      rw [hr] at hE hH
      simp only [PR.bind, snoc, one, F.app] at hE
      go_wp2_with fail
      have hK := paRank_any (uH hP)
      obtain ⟨rk, hrk0⟩ : ∃ r, rkA L j = r := ⟨_, rfl⟩
      rw [hrk0] at hK
      refine (hK).mono ?_
      rintro e W20 ⟨rfl, hb⟩
      have h2 := (uH hP).below hb
      have hm := mop_below (g := g) hb
      clear hb
      replace hN := zH ((uH hN).mop (uH hP) hm)
      replace hB := zH ((uH hB).mop (uH hP) hm)
      replace hs1 := zH ((uH hs1).mop (uH hP) hm)
      have hzz := hm.size
      replace hM := zH ((uH hM).trans hm)
      replace hP := zH h2
      clear hm h2
      rw [hrk0] at hrk hH
      go_wp2_with fail
      refine (paNext_any (uH hP) hjl).mono ?_
      rintro e W21 ⟨rfl, h2, hm⟩
      replace hN := zH ((uH hN).mop (uH hP) hm)
      replace hB := zH ((uH hB).mop (uH hP) hm)
      replace hs1 := zH ((uH hs1).mop (uH hP) hm)
      have hzz := hm.size
      replace hM := zH ((uH hM).trans hm)
      replace hP := zH h2
      clear hm h2
      obtain ⟨b2, hq_b2⟩ : ∃ x, W21.heap.size = x := ⟨_, rfl⟩
      have hC := zH (nblk_new W21 24 j none 0 0)
      have hm := mop_below (g := g) (below_alloc W21 (.cells #[.int .i64 24, .int .i64 j, .slice none 0 0] 24 (0, 0)))
      have h2 := (uH hP).below (below_alloc W21 (.cells #[.int .i64 24, .int .i64 j, .slice none 0 0] 24 (0, 0)))
      have hzs : (W21.alloc (.cells #[.int .i64 24, .int .i64 j, .slice none 0 0] 24 (0, 0))).heap.size = b2 + 1 := by simp [hq_b2]
      obtain ⟨W22, hq_W22⟩ : ∃ x, W21.alloc (.cells #[.int .i64 24, .int .i64 j, .slice none 0 0] 24 (0, 0)) = x := ⟨_, rfl⟩
      rw [hq_W22] at hC hm h2 hzs
      replace hzs := And.intro (Nat.le_of_eq hzs) (Nat.le_of_eq hzs.symm)
      rw [hq_b2] at hC
      replace hq_W22 := zH hq_W22
      replace hN := zH ((uH hN).mop (uH hP) hm)
      replace hB := zH ((uH hB).mop (uH hP) hm)
      replace hs1 := zH ((uH hs1).mop (uH hP) hm)
      have hzz := hm.size
      replace hM := zH ((uH hM).trans hm)
      replace hP := zH h2
      clear hm h2
      go_upto_region 6 with fail
      rw [uH hq_W22]
      clear hq_W22
      have hb : Below W22.heap.size W22 (World.drew W22) := (Below.refl _ _).drew
      have h2 := (uH hP).below hb
      have hm := mop_below (g := g) hb
      clear hb
      obtain ⟨WD, hq_WD⟩ : ∃ x, World.drew W22 = x := ⟨_, rfl⟩
      rw [hq_WD] at h2 hm
      replace hN := zH ((uH hN).mop (uH hP) hm)
      replace hB := zH ((uH hB).mop (uH hP) hm)
      replace hC := zH ((uH hC).mop (uH hP) hm)
      replace hs1 := zH ((uH hs1).mop (uH hP) hm)
      have hzz := hm.size
      replace hM := zH ((uH hM).trans hm)
      replace hP := zH h2
      clear hm h2
      have hS : NBlk WD b1 lk lt a1 m1 c1 := uH hB
      refine wp_region_held_drew (S := fun w' => NBlk w' b1 lk lt a1 m1 c1) (by kernel_rfl) (by rw [hq_WD]; exact hS) (fun _ => ?_)
      rw [hq_WD]
      clear hq_WD
      refine wpAnyH_take (i := 0) (v := .agg #[.int .i64 lk, .int .i64 lt, .slice a1 m1 c1]) rfl (by kernel_rfl) (by kernel_rfl) (by kernel_rfl) (fun _ _ _ h => h) (Or.inl ⟨by kernel_rfl, ?_⟩) hS ?_
      ·
       intro w hSw
       obtain ⟨e0, e1, e2⟩ := hSw.box
       go_simp
      try simp only [List.getElem_toArray, List.getElem_cons_succ, List.getElem_cons_zero, Act.put, List.setIfInBounds_toArray, List.set_cons_zero, List.set_cons_succ]
      refine wpAnyH_take (i := 1) (v := .pointer (some ⟨g, 0, none⟩)) rfl (by kernel_rfl) (by kernel_rfl) (by kernel_rfl) (fun _ _ _ h => h) (Or.inl ⟨by kernel_rfl, ?_⟩) hS ?_
      ·
       intro w hSw
       go_simp
      try simp only [List.getElem_toArray, List.getElem_cons_succ, List.getElem_cons_zero, Act.put, List.setIfInBounds_toArray, List.set_cons_zero, List.set_cons_succ]
      refine wpAnyH_take (i := 2) (v := .int .i64 rk) rfl (by kernel_rfl) (by kernel_rfl) (by kernel_rfl) (fun _ _ _ h => h) (Or.inl ⟨by kernel_rfl, ?_⟩) hS ?_
      ·
       intro w hSw
       go_simp
      try simp only [List.getElem_toArray, List.getElem_cons_succ, List.getElem_cons_zero, Act.put, List.setIfInBounds_toArray, List.set_cons_zero, List.set_cons_succ]
      refine wpAnyH_ready (rs := [3]) (by kernel_rfl) (by decide) ?_
      refine AllReadyH.cons rfl (fun K' hK => ?_) AllReadyH.nil
      rw [if_pos (by kernel_rfl)]
      refine oper_callR (run_call2 cf_paAbove) ?_
      refine (uH hH _ (uH hP)).mono ?_
      rintro e W23 ⟨a2, m2, c2, rfl, hs, h2, hm⟩
      have hzs := hm.size
      have hs2 := zH (hs.mono (P' := fun x => gb < x ∧ x < W23.heap.size ∧ x ≠ b1 ∧ x ≠ b2) (fun x hx => by have := (uH hN).lt; have := (uH hB).lt; have := (uH hC).lt; have e1 := hx.1; have e2 := hx.lt; exact ⟨by omega, by omega, by omega, by omega⟩))
      clear hs
      replace hN := zH ((uH hN).mop (uH hP) hm)
      replace hB := zH ((uH hB).mop (uH hP) hm)
      replace hC := zH ((uH hC).mop (uH hP) hm)
      replace hs1 := zH ((uH hs1).mop (uH hP) hm)
      have hzz := hm.size
      replace hM := zH ((uH hM).trans hm)
      replace hP := zH h2
      clear hm h2
      dsimp only at hs2
      have hSW23 : NBlk W23 b1 lk lt a1 m1 c1 := uH hB
      refine hK.out _ _ hSW23 (fun _ => ?_)
      clear hK K' hS
      have hS := hSW23
      try simp only [List.getElem_toArray, List.getElem_cons_succ, List.getElem_cons_zero, Act.put, List.setIfInBounds_toArray, List.set_cons_zero, List.set_cons_succ]
      refine wpAnyH_ready (rs := [4]) (by kernel_rfl) (by decide) ?_
      refine AllReadyH.cons rfl (fun K' hK => ?_) AllReadyH.nil
      rw [if_pos (by kernel_rfl)]
      refine oper_of_run (run_build_two W23 _ _ _ _ _ _ _ _ lk lt nk nt a1 a2 m1 c1 m2 c2 rfl rfl) ?_
      obtain ⟨b3, hq_b3⟩ : ∃ x, W23.heap.size = x := ⟨_, rfl⟩
      have hzz : (W23.alloc (.cells #[.int .i64 lk, .int .i64 lt, .slice a1 m1 c1, .int .i64 nk, .int .i64 nt, .slice a2 m2 c2] 24 (0, 0))).heap.size = b3 + 1 := by simp [hq_b3]
      have hm := mop_below (g := g) (below_alloc W23 (.cells #[.int .i64 lk, .int .i64 lt, .slice a1 m1 c1, .int .i64 nk, .int .i64 nt, .slice a2 m2 c2] 24 (0, 0)))
      have h2 := (uH hP).below (below_alloc W23 (.cells #[.int .i64 lk, .int .i64 lt, .slice a1 m1 c1, .int .i64 nk, .int .i64 nt, .slice a2 m2 c2] 24 (0, 0)))
      have hs3 := lit2_sl (P := fun x => gb < x ∧ x < b3 + 1 ∧ x ≠ b1 ∧ x ≠ b2) W23 lk lt nk nt a1 a2 m1 c1 m2 c2 lc nc ((uH hs1).mono (fun x hx => by have e1 := hx.1; have e2 := hx.lt; exact ⟨by omega, by omega, by omega, by omega⟩)) ((uH hs2).mono (fun x hx => by have e1 := hx.1; have e2 := hx.lt; exact ⟨by omega, by omega, by omega, by omega⟩)) ⟨by omega, by omega, (by have := (uH hN).lt; have := (uH hB).lt; have := (uH hC).lt; omega), (by have := (uH hN).lt; have := (uH hB).lt; have := (uH hC).lt; omega)⟩
      rw [hq_b3] at hs3
      obtain ⟨W24, hq_W24⟩ : ∃ x, W23.alloc (.cells #[.int .i64 lk, .int .i64 lt, .slice a1 m1 c1, .int .i64 nk, .int .i64 nt, .slice a2 m2 c2] 24 (0, 0)) = x := ⟨_, rfl⟩
      rw [hq_W24] at hs3 hm h2 hzz
      rw [← hzz] at hs3
      replace hzz := And.intro (Nat.le_of_eq hzz) (Nat.le_of_eq hzz.symm)
      replace hs3 := zH hs3
      replace hN := zH ((uH hN).mop (uH hP) hm)
      replace hB := zH ((uH hB).mop (uH hP) hm)
      replace hC := zH ((uH hC).mop (uH hP) hm)
      have hzz := hm.size
      replace hM := zH ((uH hM).trans hm)
      replace hP := zH h2
      clear hm h2
      rw [hq_W24, hq_b3]
      clear hq_W24
      have hSW24 : NBlk W24 b1 lk lt a1 m1 c1 := uH hB
      refine hK.out _ _ hSW24 (fun _ => ?_)
      clear hK K' hS
      have hS := hSW24
      try simp only [List.getElem_toArray, List.getElem_cons_succ, List.getElem_cons_zero, Act.put, List.setIfInBounds_toArray, List.set_cons_zero, List.set_cons_succ]
      refine wpAnyH_ready (rs := [5]) (by kernel_rfl) (by decide) ?_
      refine AllReadyH.cons rfl (fun K' hK => ?_) AllReadyH.nil
      rw [if_pos (by kernel_rfl)]
      refine oper_of_run (v := .pointer (some ⟨b2, 2, none⟩)) (w' := W24) (by clear hK; go_simp) ?_
      refine hK.out _ _ hS (fun _ => ?_)
      clear hK K'
      try simp only [List.getElem_toArray, List.getElem_cons_succ, List.getElem_cons_zero, Act.put, List.setIfInBounds_toArray, List.set_cons_zero, List.set_cons_succ]
      refine wpAnyH_ready (rs := [6]) (by kernel_rfl) (by decide) ?_
      refine AllReadyH.cons rfl (fun K' hK => ?_) AllReadyH.nil
      rw [if_pos (by kernel_rfl)]
      refine oper_skip (run_store_kids W24 _ _ _ _ _ _ _ _ b2 24 j none (some ⟨b3, 0, none⟩) 0 0 2 2 (uH hC) rfl rfl) ?_
      obtain ⟨h2, hM2, hB2, hh⟩ := kid_set (uH hP) (uH hM) (uH hC) (by omega) (some ⟨b3, 0, none⟩) 2 2
      have hzz : (W24.setCell ⟨b2, 2, none⟩ (.slice (some ⟨b3, 0, none⟩) 2 2)).heap.size = W24.heap.size := by simp
      obtain ⟨W25, hq_W25⟩ : ∃ x, W24.setCell ⟨b2, 2, none⟩ (.slice (some ⟨b3, 0, none⟩) 2 2) = x := ⟨_, rfl⟩
      rw [hq_W25] at h2 hM2 hB2 hh hzz
      replace hzz := And.intro (Nat.le_of_eq hzz) (Nat.le_of_eq hzz.symm)
      replace hN := zH ((uH hN).same (hh _ (by omega)))
      replace hB := zH ((uH hB).same (hh _ (by omega)))
      replace hs3 := zH ((uH hs3).keep (w' := W25) (fun x hx => hh x (by have e1 := hx.1; omega)))
      replace hC := zH hB2
      replace hM := zH hM2
      replace hP := zH h2
      clear hB2 hM2 h2 hh
      rw [hq_W25]
      clear hq_W25
      have hSW25 : NBlk W25 b1 lk lt a1 m1 c1 := uH hB
      refine hK.out _ _ hSW25 (fun _ => ?_)
      clear hK K' hS
      try simp only [List.getElem_toArray, List.getElem_cons_succ, List.getElem_cons_zero, Act.put, List.setIfInBounds_toArray, List.set_cons_zero, List.set_cons_succ]
      refine wpAnyH_done (by kernel_rfl) ?_ _
      obtain ⟨p0_hC, p1_hC, p2_hC⟩ := (uH hC).box
      have f0_hC := (uH hC).frozen 0
      have f1_hC := (uH hC).frozen 1
      have f2_hC := (uH hC).frozen 2
      obtain ⟨p0_hB, p1_hB, p2_hB⟩ := (uH hB).box
      have f0_hB := (uH hB).frozen 0
      have f1_hB := (uH hB).frozen 1
      have f2_hB := (uH hB).frozen 2
      obtain ⟨h2, hM2, hB2, hh⟩ := box_set (uH hP) (uH hM) (uH hB) (by omega) 24 j (some ⟨b3, 0, none⟩) 2 2
      have hzz : (((W25.setCell ⟨b1, 0, none⟩ (.int .i64 24)).setCell ⟨b1, 1, none⟩ (.int .i64 j)).setCell ⟨b1, 2, none⟩ (.slice (some ⟨b3, 0, none⟩) 2 2)).heap.size = W25.heap.size := by simp
      obtain ⟨W26, hq_W26⟩ : ∃ x, ((W25.setCell ⟨b1, 0, none⟩ (.int .i64 24)).setCell ⟨b1, 1, none⟩ (.int .i64 j)).setCell ⟨b1, 2, none⟩ (.slice (some ⟨b3, 0, none⟩) 2 2) = x := ⟨_, rfl⟩
      rw [hq_W26] at h2 hM2 hB2 hh hzz
      replace hzz := And.intro (Nat.le_of_eq hzz) (Nat.le_of_eq hzz.symm)
      replace hN := zH ((uH hN).same (hh _ (by omega)))
      replace hC := zH ((uH hC).same (hh _ (by omega)))
      replace hs3 := zH ((uH hs3).keep (w' := W26) (fun x hx => hh x (by have e1 := hx.1; omega)))
      replace hB := zH hB2
      replace hM := zH hM2
      replace hP := zH h2
      clear hB2 hM2 h2 hh
      have hX := zH (And.intro (uH hP) (And.intro (uH hM) (And.intro (uH hN) (And.intro (uH hB) ((uH hs3).mono (P' := fun x => gb < x ∧ x ≠ b1) (fun x hx => by have e1 := hx.1; exact ⟨by omega, by omega⟩))))))
      replace hE := zH hE
      go_wp2
      go_roundg g'
      case measure => omega
      case rel => exact ⟨_, _, _, _, _, _, _, (uH hX).1, (uH hX).2.1, (uH hX).2.2.1, (uH hX).2.2.2.1, (uH hX).2.2.2.2, uH hE, by omega⟩
end Go.Proofs.YtiknnobgoamgcaaGreatDoor
/-
  The parser: an operand with its calls and selects.
-/
namespace Go.Proofs.YtiknnobgoamgcaaGreatDoor
open Go.RowKit Go.Lib Go.Sort
set_option linter.unusedSimpArgs false
set_option linter.unusedVariables false
set_option maxHeartbeats 4000000 in
set_option maxRecDepth 100000 in
theorem paPrimary_step {g : Nat} {tv : Value} {L : List Tk} {i d : Nat} {w : World} (h : PaW g tv L i d w) {f : Nat} (HA : ∀ f', f' ≤ f → ExA g tv L f') (hd : d ≤ 40) (hne : prmA L (f + 1) i d ≠ .out) : Calls Tryz.prog 154 #[.pointer (some ⟨g, 0, none⟩)] w fun e w' => ResN w.heap.size g tv L d w (prmA L (f + 1) i d) e w' := by
 have HH := zH HA
 clear HA
 unfold prmA at hne ⊢
 have hne1 : opdA L f i d ≠ .out := fun e => hne (by rw [e]; rfl)
 have hH := zH (fun w h => (uH HH f (Nat.le_refl _)).opd w i d h hd hne1)
 cases hr : opdA L f i d with
 | out => exact absurd hr hne1
 | bad j =>
  simp only [PR.bind]
  have hP := zH (h.alloc (.cells #[.int .i64 0, .int .i64 0, .slice none 0 0] 24 (0, 0))).1
  have hM := zH (h.alloc (.cells #[.int .i64 0, .int .i64 0, .slice none 0 0] 24 (0, 0))).2
  have hN := zH (nblk_new w 0 0 none 0 0)
  obtain ⟨gb, hgb⟩ : ∃ gb, w.heap.size = gb := ⟨_, rfl⟩
  have hz : (w.alloc (.cells #[.int .i64 0, .int .i64 0, .slice none 0 0] 24 (0, 0))).heap.size = gb + 1 := by simp [hgb]
  have hgl : g < gb := by have := h.lt; omega
  rw [hgb] at hN
  obtain ⟨W1, hq_W1⟩ : ∃ W1, w.alloc (.cells #[.int .i64 0, .int .i64 0, .slice none 0 0] 24 (0, 0)) = W1 := ⟨_, rfl⟩
  rw [hq_W1] at hP hM hN hz
  replace hz := And.intro (Nat.le_of_eq hz) (Nat.le_of_eq hz.symm)
  replace h := zH h
  go_enter Tryz.func154, Tryz.ntmps154
  go_wp2_with fail
  clear hq_W1
  have hC := uH hH _ (uH hP)
  rw [hr] at hC
  refine (hC).mono ?_
  rintro e W2 hBad
  obtain rfl := hBad.1
  have hG := zH (hBad.pre (uH hM))
  clear hBad
  go_wp2
  exact ⟨rfl, uH hG⟩
 | ok n j0 =>
  obtain ⟨nk, nt, nc⟩ := n
  rw [hr] at hne
  simp only [PR.bind] at hne ⊢
  obtain ⟨R, hR⟩ : ∃ R, lprA L f ⟨nk, nt, nc⟩ j0 d = R := ⟨_, rfl⟩
  rw [hR] at hne ⊢
  have hP := zH (h.alloc (.cells #[.int .i64 0, .int .i64 0, .slice none 0 0] 24 (0, 0))).1
  have hM := zH (h.alloc (.cells #[.int .i64 0, .int .i64 0, .slice none 0 0] 24 (0, 0))).2
  have hN := zH (nblk_new w 0 0 none 0 0)
  obtain ⟨gb, hgb⟩ : ∃ gb, w.heap.size = gb := ⟨_, rfl⟩
  have hz : (w.alloc (.cells #[.int .i64 0, .int .i64 0, .slice none 0 0] 24 (0, 0))).heap.size = gb + 1 := by simp [hgb]
  have hgl : g < gb := by have := h.lt; omega
  rw [hgb] at hN
  obtain ⟨W1, hq_W1⟩ : ∃ W1, w.alloc (.cells #[.int .i64 0, .int .i64 0, .slice none 0 0] 24 (0, 0)) = W1 := ⟨_, rfl⟩
  rw [hq_W1] at hP hM hN hz
  replace hz := And.intro (Nat.le_of_eq hz) (Nat.le_of_eq hz.symm)
  replace h := zH h
  go_enter Tryz.func154, Tryz.ntmps154
  go_wp2_with fail
  clear hq_W1
  have hC := uH hH _ (uH hP)
  rw [hr] at hC
  refine (hC).mono ?_
  rintro e W2 ⟨a1, m1, c1, rfl, hs, h2, hm⟩
  have hzs := hm.size
  have hs1 := zH (hs.mono (P' := fun x => gb < x ∧ x < W2.heap.size) (fun x hx => by have := (uH hN).lt; have e1 := hx.1; have e2 := hx.lt; exact ⟨by omega, by omega⟩))
  clear hs
  replace hN := zH ((uH hN).mop (uH hP) hm)
  have hzz := hm.size
  replace hM := zH ((uH hM).trans hm)
  replace hP := zH h2
  clear hm h2
  dsimp only at hs1
  obtain ⟨b1, hq_b1⟩ : ∃ x, W2.heap.size = x := ⟨_, rfl⟩
  have hB := zH (nblk_new W2 nk nt a1 m1 c1)
  have hm := mop_below (g := g) (below_alloc W2 (.cells #[.int .i64 nk, .int .i64 nt, .slice a1 m1 c1] 24 (0, 0)))
  have h2 := (uH hP).below (below_alloc W2 (.cells #[.int .i64 nk, .int .i64 nt, .slice a1 m1 c1] 24 (0, 0)))
  have hzs : (W2.alloc (.cells #[.int .i64 nk, .int .i64 nt, .slice a1 m1 c1] 24 (0, 0))).heap.size = b1 + 1 := by simp [hq_b1]
  obtain ⟨W3, hq_W3⟩ : ∃ x, W2.alloc (.cells #[.int .i64 nk, .int .i64 nt, .slice a1 m1 c1] 24 (0, 0)) = x := ⟨_, rfl⟩
  rw [hq_W3] at hB hm h2 hzs
  replace hzs := And.intro (Nat.le_of_eq hzs) (Nat.le_of_eq hzs.symm)
  rw [hq_b1] at hB
  replace hq_W3 := zH hq_W3
  replace hN := zH ((uH hN).mop (uH hP) hm)
  replace hs1 := zH ((uH hs1).mop (uH hP) hm)
  have hzz := hm.size
  replace hM := zH ((uH hM).trans hm)
  replace hP := zH h2
  clear hm h2
  clear hH
  replace hs1 := zH ((uH hs1).mono (P' := fun x => gb < x ∧ x ≠ b1) (fun x hx => by have e1 := hx.1; exact ⟨by omega, by omega⟩))
  go_upto_region 3 with fail
  rw [uH hq_W3]
  clear hq_W3
  go_loopg [] f (fun gf wx => ∃ (lk lt : Int) (lc : F) (j : Nat) (al : Option Addr) (ml cl : Nat), PaW g tv L j d wx ∧ MoP g w wx ∧ NBlk wx gb 0 0 none 0 0 ∧ NBlk wx b1 lk lt al ml cl ∧ SlQ (fun x => gb < x ∧ x ≠ b1) wx al ml cl lc ∧ lprA L gf ⟨lk, lt, lc⟩ j d = R ∧ gf ≤ f)
  case atStart => exact ⟨_, _, _, _, _, _, _, uH hP, uH hM, uH hN, uH hB, uH hs1, hR, Nat.le_refl _⟩
  case round =>
   obtain ⟨lk, lt, lc, j, a1, m1, c1, hP, hM, hN, hB, hs1, hE, hgf⟩ := hrel
   cases gk with
   | zero =>
    unfold lprA at hE
    exact absurd hE.symm hne
   | succ g' =>
    unfold lprA at hE
    have hwl := hM.size
    have hbl := hB.lt
    replace hs1 := zH (hs1.mono (P' := fun x => gb < x ∧ x < wr.heap.size ∧ x ≠ b1) (fun x hx => ⟨hx.1.1, hx.lt, hx.1.2⟩))
    replace hP := zH hP
    replace hM := zH hM
    replace hN := zH hN
    replace hB := zH hB
    cases ho : opA L j [40] with
    | true =>
     simp only [ho, if_true] at hE
     have hne1 : calA L g' ⟨lk, lt, lc⟩ j d ≠ .out := fun e => hne (by rw [← hE, e]; rfl)
     have hH := zH (fun (w : World) (h : PaW g tv L j d w) (hz : b1 < w.heap.size) (hz2 : gb < w.heap.size) (hs : SlQ (fun x => gb < x ∧ x ≠ b1) w a1 m1 c1 lc) => (uH HH g' (by omega)).cal (fun x => gb < x ∧ x ≠ b1) lk lt a1 m1 c1 lc w j d h hd (fun y hy => ⟨by omega, by omega⟩) hs hne1)
     cases hr : calA L g' ⟨lk, lt, lc⟩ j d with
     | out => exact absurd hr hne1
     | bad j2 =>
      rw [hr] at hE hH
      simp only [PR.bind] at hE
      subst hE
      go_wp2_with fail
      refine (paOp_any _ _).mono ?_
      rintro e W20 ⟨rfl, hb⟩
      have h2 := (uH hP).below hb
      have hm := mop_below (g := g) hb
      clear hb
      replace hN := zH ((uH hN).mop (uH hP) hm)
      replace hB := zH ((uH hB).mop (uH hP) hm)
      replace hs1 := zH ((uH hs1).mop (uH hP) hm)
      have hzz := hm.size
      replace hM := zH ((uH hM).trans hm)
      replace hP := zH h2
      clear hm h2
      go_wp2_with fail
      have hK := paIs_any (uH hP) (opT [40])
      rw [eqB_op, ho] at hK
      refine (hK).mono ?_
      rintro e W21 ⟨rfl, hb⟩
      have h2 := (uH hP).below hb
      have hm := mop_below (g := g) hb
      clear hb
      replace hN := zH ((uH hN).mop (uH hP) hm)
      replace hB := zH ((uH hB).mop (uH hP) hm)
      replace hs1 := zH ((uH hs1).mop (uH hP) hm)
      have hzz := hm.size
      replace hM := zH ((uH hM).trans hm)
      replace hP := zH h2
      clear hm h2
      obtain ⟨p0_hB, p1_hB, p2_hB⟩ := (uH hB).box
      have f0_hB := (uH hB).frozen 0
      have f1_hB := (uH hB).frozen 1
      have f2_hB := (uH hB).frozen 2
      go_wp2_with fail
      have hC := uH hH _ (uH hP) (by have := (uH hB).lt; omega) (by have := (uH hN).lt; omega) ((uH hs1).mono (fun x hx => ⟨hx.1.1, hx.1.2.2⟩))
      refine (hC).mono ?_
      rintro e W22 hBad
      obtain rfl := hBad.1
      have hG := zH (hBad.pre (uH hM))
      clear hBad
      go_wp2
      exact ⟨rfl, uH hG⟩
     | ok n j2 =>
      obtain ⟨nk, nt, nc⟩ := n
      rw [hr] at hE hH
      simp only [PR.bind] at hE
      go_wp2_with fail
      refine (paOp_any _ _).mono ?_
      rintro e W20 ⟨rfl, hb⟩
      have h2 := (uH hP).below hb
      have hm := mop_below (g := g) hb
      clear hb
      replace hN := zH ((uH hN).mop (uH hP) hm)
      replace hB := zH ((uH hB).mop (uH hP) hm)
      replace hs1 := zH ((uH hs1).mop (uH hP) hm)
      have hzz := hm.size
      replace hM := zH ((uH hM).trans hm)
      replace hP := zH h2
      clear hm h2
      go_wp2_with fail
      have hK := paIs_any (uH hP) (opT [40])
      rw [eqB_op, ho] at hK
      refine (hK).mono ?_
      rintro e W21 ⟨rfl, hb⟩
      have h2 := (uH hP).below hb
      have hm := mop_below (g := g) hb
      clear hb
      replace hN := zH ((uH hN).mop (uH hP) hm)
      replace hB := zH ((uH hB).mop (uH hP) hm)
      replace hs1 := zH ((uH hs1).mop (uH hP) hm)
      have hzz := hm.size
      replace hM := zH ((uH hM).trans hm)
      replace hP := zH h2
      clear hm h2
      obtain ⟨p0_hB, p1_hB, p2_hB⟩ := (uH hB).box
      have f0_hB := (uH hB).frozen 0
      have f1_hB := (uH hB).frozen 1
      have f2_hB := (uH hB).frozen 2
      go_wp2_with fail
      have hC := uH hH _ (uH hP) (by have := (uH hB).lt; omega) (by have := (uH hN).lt; omega) ((uH hs1).mono (fun x hx => ⟨hx.1.1, hx.1.2.2⟩))
      refine (hC).mono ?_
      rintro e W22 ⟨a2, m2, c2, rfl, hs, h2, hm⟩
      have hzs := hm.size
      have hs2 := zH (hs.mono (P' := fun x => gb < x ∧ x < W22.heap.size ∧ x ≠ b1) (fun x hx => ⟨hx.1.1, hx.lt, hx.1.2⟩))
      clear hs
      replace hN := zH ((uH hN).mop (uH hP) hm)
      replace hB := zH ((uH hB).mop (uH hP) hm)
      have hzz := hm.size
      replace hM := zH ((uH hM).trans hm)
      replace hP := zH h2
      clear hm h2
      dsimp only at hs2
      obtain ⟨p0_hB, p1_hB, p2_hB⟩ := (uH hB).box
      have f0_hB := (uH hB).frozen 0
      have f1_hB := (uH hB).frozen 1
      have f2_hB := (uH hB).frozen 2
      obtain ⟨h2, hM2, hB2, hh⟩ := box_set (uH hP) (uH hM) (uH hB) (by omega) nk nt a2 m2 c2
      have hzz : (((W22.setCell ⟨b1, 0, none⟩ (.int .i64 nk)).setCell ⟨b1, 1, none⟩ (.int .i64 nt)).setCell ⟨b1, 2, none⟩ (.slice a2 m2 c2)).heap.size = W22.heap.size := by simp
      obtain ⟨W23, hq_W23⟩ : ∃ x, ((W22.setCell ⟨b1, 0, none⟩ (.int .i64 nk)).setCell ⟨b1, 1, none⟩ (.int .i64 nt)).setCell ⟨b1, 2, none⟩ (.slice a2 m2 c2) = x := ⟨_, rfl⟩
      rw [hq_W23] at h2 hM2 hB2 hh hzz
      replace hzz := And.intro (Nat.le_of_eq hzz) (Nat.le_of_eq hzz.symm)
      replace hN := zH ((uH hN).same (hh _ (by omega)))
      replace hs2 := zH ((uH hs2).keep (w' := W23) (fun x hx => hh x (by have e1 := hx.1; omega)))
      replace hB := zH hB2
      replace hM := zH hM2
      replace hP := zH h2
      clear hB2 hM2 h2 hh
      have hX := zH (And.intro (uH hP) (And.intro (uH hM) (And.intro (uH hN) (And.intro (uH hB) ((uH hs2).mono (P' := fun x => gb < x ∧ x ≠ b1) (fun x hx => by have e1 := hx.1; exact ⟨by omega, by omega⟩))))))
      replace hE := zH hE
      go_wp2
      go_roundg g'
      case measure => omega
      case rel => exact ⟨_, _, _, _, _, _, _, (uH hX).1, (uH hX).2.1, (uH hX).2.2.1, (uH hX).2.2.2.1, (uH hX).2.2.2.2, uH hE, by omega⟩
    | false =>
     cases ho2 : opA L j [46] with
     | true =>
      simp only [ho, ho2, Bool.false_eq_true, if_false, if_true] at hE
      cases hk : knd L (j + 1) 1 with
      | false =>
       simp only [leafA, hk, PR.bind, Bool.false_eq_true, if_false] at hE
       subst hE
       go_wp2_with fail
       refine (paOp_any _ _).mono ?_
       rintro e W20 ⟨rfl, hb⟩
       have h2 := (uH hP).below hb
       have hm := mop_below (g := g) hb
       clear hb
       replace hN := zH ((uH hN).mop (uH hP) hm)
       replace hB := zH ((uH hB).mop (uH hP) hm)
       replace hs1 := zH ((uH hs1).mop (uH hP) hm)
       have hzz := hm.size
       replace hM := zH ((uH hM).trans hm)
       replace hP := zH h2
       clear hm h2
       go_wp2_with fail
       have hK := paIs_any (uH hP) (opT [40])
       rw [eqB_op, ho] at hK
       refine (hK).mono ?_
       rintro e W21 ⟨rfl, hb⟩
       have h2 := (uH hP).below hb
       have hm := mop_below (g := g) hb
       clear hb
       replace hN := zH ((uH hN).mop (uH hP) hm)
       replace hB := zH ((uH hB).mop (uH hP) hm)
       replace hs1 := zH ((uH hs1).mop (uH hP) hm)
       have hzz := hm.size
       replace hM := zH ((uH hM).trans hm)
       replace hP := zH h2
       clear hm h2
       go_wp2_with fail
       refine (paOp_any _ _).mono ?_
       rintro e W22 ⟨rfl, hb⟩
       have h2 := (uH hP).below hb
       have hm := mop_below (g := g) hb
       clear hb
       replace hN := zH ((uH hN).mop (uH hP) hm)
       replace hB := zH ((uH hB).mop (uH hP) hm)
       replace hs1 := zH ((uH hs1).mop (uH hP) hm)
       have hzz := hm.size
       replace hM := zH ((uH hM).trans hm)
       replace hP := zH h2
       clear hm h2
       go_wp2_with fail
       refine (paTake_yes (uH hP) (opT [46]) (by rw [eqB_op]; exact ho2) (opA_lt ho2)).mono ?_
       rintro e W23 ⟨rfl, h2, hm⟩
       replace hN := zH ((uH hN).mop (uH hP) hm)
       replace hB := zH ((uH hB).mop (uH hP) hm)
       replace hs1 := zH ((uH hs1).mop (uH hP) hm)
       have hzz := hm.size
       replace hM := zH ((uH hM).trans hm)
       replace hP := zH h2
       clear hm h2
       obtain ⟨p0_hB, p1_hB, p2_hB⟩ := (uH hB).box
       have f0_hB := (uH hB).frozen 0
       have f1_hB := (uH hB).frozen 1
       have f2_hB := (uH hB).frozen 2
       obtain ⟨b2, hq_b2⟩ : ∃ x, W23.heap.size = x := ⟨_, rfl⟩
       have hC := zH (nblk_new W23 lk lt a1 m1 c1)
       have hm := mop_below (g := g) (below_alloc W23 (.cells #[.int .i64 lk, .int .i64 lt, .slice a1 m1 c1] 24 (0, 0)))
       have h2 := (uH hP).below (below_alloc W23 (.cells #[.int .i64 lk, .int .i64 lt, .slice a1 m1 c1] 24 (0, 0)))
       have hzs : (W23.alloc (.cells #[.int .i64 lk, .int .i64 lt, .slice a1 m1 c1] 24 (0, 0))).heap.size = b2 + 1 := by simp [hq_b2]
       obtain ⟨W24, hq_W24⟩ : ∃ x, W23.alloc (.cells #[.int .i64 lk, .int .i64 lt, .slice a1 m1 c1] 24 (0, 0)) = x := ⟨_, rfl⟩
       rw [hq_W24] at hC hm h2 hzs
       replace hzs := And.intro (Nat.le_of_eq hzs) (Nat.le_of_eq hzs.symm)
       rw [hq_b2] at hC
       replace hq_W24 := zH hq_W24
       replace hN := zH ((uH hN).mop (uH hP) hm)
       replace hB := zH ((uH hB).mop (uH hP) hm)
       replace hs1 := zH ((uH hs1).mop (uH hP) hm)
       have hzz := hm.size
       replace hM := zH ((uH hM).trans hm)
       replace hP := zH h2
       clear hm h2
       go_wp2_with fail
       rw [uH hq_W24]
       clear hq_W24
       refine (paNamed_no (uH hP) 27 hk).mono ?_
       rintro e W25 hBad
       obtain rfl := hBad.1
       have hG := zH (hBad.pre (uH hM))
       clear hBad
       go_wp2
       exact ⟨rfl, uH hG⟩
      | true =>
       simp only [leafA, hk, PR.bind, if_true, one] at hE
       go_wp2_with fail
       refine (paOp_any _ _).mono ?_
       rintro e W20 ⟨rfl, hb⟩
       have h2 := (uH hP).below hb
       have hm := mop_below (g := g) hb
       clear hb
       replace hN := zH ((uH hN).mop (uH hP) hm)
       replace hB := zH ((uH hB).mop (uH hP) hm)
       replace hs1 := zH ((uH hs1).mop (uH hP) hm)
       have hzz := hm.size
       replace hM := zH ((uH hM).trans hm)
       replace hP := zH h2
       clear hm h2
       go_wp2_with fail
       have hK := paIs_any (uH hP) (opT [40])
       rw [eqB_op, ho] at hK
       refine (hK).mono ?_
       rintro e W21 ⟨rfl, hb⟩
       have h2 := (uH hP).below hb
       have hm := mop_below (g := g) hb
       clear hb
       replace hN := zH ((uH hN).mop (uH hP) hm)
       replace hB := zH ((uH hB).mop (uH hP) hm)
       replace hs1 := zH ((uH hs1).mop (uH hP) hm)
       have hzz := hm.size
       replace hM := zH ((uH hM).trans hm)
       replace hP := zH h2
       clear hm h2
       go_wp2_with fail
       refine (paOp_any _ _).mono ?_
       rintro e W22 ⟨rfl, hb⟩
       have h2 := (uH hP).below hb
       have hm := mop_below (g := g) hb
       clear hb
       replace hN := zH ((uH hN).mop (uH hP) hm)
       replace hB := zH ((uH hB).mop (uH hP) hm)
       replace hs1 := zH ((uH hs1).mop (uH hP) hm)
       have hzz := hm.size
       replace hM := zH ((uH hM).trans hm)
       replace hP := zH h2
       clear hm h2
       go_wp2_with fail
       refine (paTake_yes (uH hP) (opT [46]) (by rw [eqB_op]; exact ho2) (opA_lt ho2)).mono ?_
       rintro e W23 ⟨rfl, h2, hm⟩
       replace hN := zH ((uH hN).mop (uH hP) hm)
       replace hB := zH ((uH hB).mop (uH hP) hm)
       replace hs1 := zH ((uH hs1).mop (uH hP) hm)
       have hzz := hm.size
       replace hM := zH ((uH hM).trans hm)
       replace hP := zH h2
       clear hm h2
       obtain ⟨p0_hB, p1_hB, p2_hB⟩ := (uH hB).box
       have f0_hB := (uH hB).frozen 0
       have f1_hB := (uH hB).frozen 1
       have f2_hB := (uH hB).frozen 2
       obtain ⟨b2, hq_b2⟩ : ∃ x, W23.heap.size = x := ⟨_, rfl⟩
       have hC := zH (nblk_new W23 lk lt a1 m1 c1)
       have hm := mop_below (g := g) (below_alloc W23 (.cells #[.int .i64 lk, .int .i64 lt, .slice a1 m1 c1] 24 (0, 0)))
       have h2 := (uH hP).below (below_alloc W23 (.cells #[.int .i64 lk, .int .i64 lt, .slice a1 m1 c1] 24 (0, 0)))
       have hzs : (W23.alloc (.cells #[.int .i64 lk, .int .i64 lt, .slice a1 m1 c1] 24 (0, 0))).heap.size = b2 + 1 := by simp [hq_b2]
       obtain ⟨W24, hq_W24⟩ : ∃ x, W23.alloc (.cells #[.int .i64 lk, .int .i64 lt, .slice a1 m1 c1] 24 (0, 0)) = x := ⟨_, rfl⟩
       rw [hq_W24] at hC hm h2 hzs
       replace hzs := And.intro (Nat.le_of_eq hzs) (Nat.le_of_eq hzs.symm)
       rw [hq_b2] at hC
       replace hq_W24 := zH hq_W24
       replace hN := zH ((uH hN).mop (uH hP) hm)
       replace hB := zH ((uH hB).mop (uH hP) hm)
       replace hs1 := zH ((uH hs1).mop (uH hP) hm)
       have hzz := hm.size
       replace hM := zH ((uH hM).trans hm)
       replace hP := zH h2
       clear hm h2
       go_wp2_with fail
       rw [uH hq_W24]
       clear hq_W24
       refine (paNamed_yes (uH hP) 27 hk).mono ?_
       rintro e W25 ⟨a2, m2, c2, rfl, hs, h2, hm⟩
       have hzs := hm.size
       have hs2 := zH (hs.mono (P' := fun x => gb < x ∧ x < W25.heap.size ∧ x ≠ b1 ∧ x ≠ b2) (fun x hx => by have := (uH hN).lt; have := (uH hB).lt; have := (uH hC).lt; have e1 := hx.1; have e2 := hx.lt; exact ⟨by omega, by omega, by omega, by omega⟩))
       clear hs
       replace hN := zH ((uH hN).mop (uH hP) hm)
       replace hB := zH ((uH hB).mop (uH hP) hm)
       replace hC := zH ((uH hC).mop (uH hP) hm)
       replace hs1 := zH ((uH hs1).mop (uH hP) hm)
       have hzz := hm.size
       replace hM := zH ((uH hM).trans hm)
       replace hP := zH h2
       clear hm h2
       dsimp only at hs2 ⊢
       obtain rfl := sl_empty (uH hs2)
       obtain ⟨p0_hB, p1_hB, p2_hB⟩ := (uH hB).box
       have f0_hB := (uH hB).frozen 0
       have f1_hB := (uH hB).frozen 1
       have f2_hB := (uH hB).frozen 2
       obtain ⟨h2, hM2, hB2, hh⟩ := box_set (uH hP) (uH hM) (uH hB) (by omega) 27 ((j : Int) + 1) a2 0 c2
       have hzz : (((W25.setCell ⟨b1, 0, none⟩ (.int .i64 27)).setCell ⟨b1, 1, none⟩ (.int .i64 ((j : Int) + 1))).setCell ⟨b1, 2, none⟩ (.slice a2 0 c2)).heap.size = W25.heap.size := by simp
       obtain ⟨W26, hq_W26⟩ : ∃ x, ((W25.setCell ⟨b1, 0, none⟩ (.int .i64 27)).setCell ⟨b1, 1, none⟩ (.int .i64 ((j : Int) + 1))).setCell ⟨b1, 2, none⟩ (.slice a2 0 c2) = x := ⟨_, rfl⟩
       rw [hq_W26] at h2 hM2 hB2 hh hzz
       replace hzz := And.intro (Nat.le_of_eq hzz) (Nat.le_of_eq hzz.symm)
       replace hN := zH ((uH hN).same (hh _ (by omega)))
       replace hC := zH ((uH hC).same (hh _ (by omega)))
       replace hs1 := zH ((uH hs1).keep (w' := W26) (fun x hx => hh x (by have e1 := hx.1; omega)))
       replace hs2 := zH ((uH hs2).keep (w' := W26) (fun x hx => hh x (by have e1 := hx.1; omega)))
       replace hB := zH hB2
       replace hM := zH hM2
       replace hP := zH h2
       clear hB2 hM2 h2 hh
       obtain ⟨p0_hC, p1_hC, p2_hC⟩ := (uH hC).box
       have f0_hC := (uH hC).frozen 0
       have f1_hC := (uH hC).frozen 1
       have f2_hC := (uH hC).frozen 2
       obtain ⟨p0_hB, p1_hB, p2_hB⟩ := (uH hB).box
       have f0_hB := (uH hB).frozen 0
       have f1_hB := (uH hB).frozen 1
       have f2_hB := (uH hB).frozen 2
       obtain ⟨b3, hq_b3⟩ : ∃ x, W26.heap.size = x := ⟨_, rfl⟩
       have hzz : (W26.alloc (.cells #[.int .i64 lk, .int .i64 lt, .slice a1 m1 c1] 24 (0, 0))).heap.size = b3 + 1 := by simp [hq_b3]
       have hm := mop_below (g := g) (below_alloc W26 (.cells #[.int .i64 lk, .int .i64 lt, .slice a1 m1 c1] 24 (0, 0)))
       have h2 := (uH hP).below (below_alloc W26 (.cells #[.int .i64 lk, .int .i64 lt, .slice a1 m1 c1] 24 (0, 0)))
       have hs3 := lit1_sl (P := fun x => gb < x ∧ x < b3 + 1 ∧ x ≠ b1 ∧ x ≠ b2) W26 lk lt a1 m1 c1 lc ((uH hs1).mono (fun x hx => by have e1 := hx.1; have e2 := hx.lt; exact ⟨by omega, by omega, by omega, by omega⟩)) ⟨by omega, by omega, (by have := (uH hN).lt; have := (uH hB).lt; have := (uH hC).lt; omega), (by have := (uH hN).lt; have := (uH hB).lt; have := (uH hC).lt; omega)⟩
       rw [hq_b3] at hs3
       obtain ⟨W27, hq_W27⟩ : ∃ x, W26.alloc (.cells #[.int .i64 lk, .int .i64 lt, .slice a1 m1 c1] 24 (0, 0)) = x := ⟨_, rfl⟩
       rw [hq_W27] at hs3 hm h2 hzz
       rw [← hzz] at hs3
       replace hzz := And.intro (Nat.le_of_eq hzz) (Nat.le_of_eq hzz.symm)
       replace hs3 := zH hs3
       replace hN := zH ((uH hN).mop (uH hP) hm)
       replace hB := zH ((uH hB).mop (uH hP) hm)
       replace hC := zH ((uH hC).mop (uH hP) hm)
       replace hs2 := zH ((uH hs2).mop (uH hP) hm)
       have hzz := hm.size
       replace hM := zH ((uH hM).trans hm)
       replace hP := zH h2
       clear hm h2
       obtain ⟨p0_hB, p1_hB, p2_hB⟩ := (uH hB).box
       have f0_hB := (uH hB).frozen 0
       have f1_hB := (uH hB).frozen 1
       have f2_hB := (uH hB).frozen 2
       obtain ⟨h2, hM2, hB2, hh⟩ := kid_set (uH hP) (uH hM) (uH hB) (by omega) (some ⟨b3, 0, none⟩) 1 1
       have hzz : (W27.setCell ⟨b1, 2, none⟩ (.slice (some ⟨b3, 0, none⟩) 1 1)).heap.size = W27.heap.size := by simp
       obtain ⟨W28, hq_W28⟩ : ∃ x, W27.setCell ⟨b1, 2, none⟩ (.slice (some ⟨b3, 0, none⟩) 1 1) = x := ⟨_, rfl⟩
       rw [hq_W28] at h2 hM2 hB2 hh hzz
       replace hzz := And.intro (Nat.le_of_eq hzz) (Nat.le_of_eq hzz.symm)
       replace hN := zH ((uH hN).same (hh _ (by omega)))
       replace hC := zH ((uH hC).same (hh _ (by omega)))
       replace hs2 := zH ((uH hs2).keep (w' := W28) (fun x hx => hh x (by have e1 := hx.1; omega)))
       replace hs3 := zH ((uH hs3).keep (w' := W28) (fun x hx => hh x (by have e1 := hx.1; omega)))
       replace hB := zH hB2
       replace hM := zH hM2
       replace hP := zH h2
       clear hB2 hM2 h2 hh
       have hX := zH (And.intro (uH hP) (And.intro (uH hM) (And.intro (uH hN) (And.intro (uH hB) ((uH hs3).mono (P' := fun x => gb < x ∧ x ≠ b1) (fun x hx => by have e1 := hx.1; exact ⟨by omega, by omega⟩))))))
       replace hE := zH hE
       go_wp2
       go_roundg g'
       case measure => omega
       case rel => exact ⟨_, _, _, _, _, _, _, (uH hX).1, (uH hX).2.1, (uH hX).2.2.1, (uH hX).2.2.2.1, (uH hX).2.2.2.2, uH hE, by omega⟩
     | false =>
      simp only [ho, ho2, Bool.false_eq_true, if_false] at hE
      subst hE
      go_wp2_with fail
      refine (paOp_any _ _).mono ?_
      rintro e W20 ⟨rfl, hb⟩
      have h2 := (uH hP).below hb
      have hm := mop_below (g := g) hb
      clear hb
      replace hN := zH ((uH hN).mop (uH hP) hm)
      replace hB := zH ((uH hB).mop (uH hP) hm)
      replace hs1 := zH ((uH hs1).mop (uH hP) hm)
      have hzz := hm.size
      replace hM := zH ((uH hM).trans hm)
      replace hP := zH h2
      clear hm h2
      go_wp2_with fail
      have hK := paIs_any (uH hP) (opT [40])
      rw [eqB_op, ho] at hK
      refine (hK).mono ?_
      rintro e W21 ⟨rfl, hb⟩
      have h2 := (uH hP).below hb
      have hm := mop_below (g := g) hb
      clear hb
      replace hN := zH ((uH hN).mop (uH hP) hm)
      replace hB := zH ((uH hB).mop (uH hP) hm)
      replace hs1 := zH ((uH hs1).mop (uH hP) hm)
      have hzz := hm.size
      replace hM := zH ((uH hM).trans hm)
      replace hP := zH h2
      clear hm h2
      go_wp2_with fail
      refine (paOp_any _ _).mono ?_
      rintro e W22 ⟨rfl, hb⟩
      have h2 := (uH hP).below hb
      have hm := mop_below (g := g) hb
      clear hb
      replace hN := zH ((uH hN).mop (uH hP) hm)
      replace hB := zH ((uH hB).mop (uH hP) hm)
      replace hs1 := zH ((uH hs1).mop (uH hP) hm)
      have hzz := hm.size
      replace hM := zH ((uH hM).trans hm)
      replace hP := zH h2
      clear hm h2
      go_wp2_with fail
      refine (paTake_no (uH hP) (opT [46]) (by rw [eqB_op]; exact ho2)).mono ?_
      rintro e W23 ⟨rfl, h2, hm⟩
      replace hN := zH ((uH hN).mop (uH hP) hm)
      replace hB := zH ((uH hB).mop (uH hP) hm)
      replace hs1 := zH ((uH hs1).mop (uH hP) hm)
      have hzz := hm.size
      replace hM := zH ((uH hM).trans hm)
      replace hP := zH h2
      clear hm h2
      obtain ⟨p0_hB, p1_hB, p2_hB⟩ := (uH hB).box
      have f0_hB := (uH hB).frozen 0
      have f1_hB := (uH hB).frozen 1
      have f2_hB := (uH hB).frozen 2
      obtain ⟨p0_hN, p1_hN, p2_hN⟩ := (uH hN).box
      have f0_hN := (uH hN).frozen 0
      have f1_hN := (uH hN).frozen 1
      have f2_hN := (uH hN).frozen 2
      have hF := zH (res_fin (k := lk) (t := lt) (a := a1) (m := m1) (c := c1) (f := lc) (B := gb) (w := w) (Nat.le_refl gb) (by omega) (uH hN) ((uH hs1).mono (fun x hx => by have e1 := hx.1; exact ⟨by omega, by omega⟩)) (uH hP) (uH hM))
      go_wp2
      obtain ⟨q1, q2, q3, q4⟩ := uH hF
      obtain ⟨u0, u1, u2⟩ := q1.box
      refine bodyPost_ret (v := .agg #[.int .i64 (lk), .int .i64 (lt), .slice (a1) (m1) (c1)]) (by simp [results, Tryz.results154, go_sem, u0, u1, u2]) rfl ?_
      exact ⟨_, _, _, rfl, (by first | exact q2 | (rw [hgb]; exact q2)), q3, q4⟩
end Go.Proofs.YtiknnobgoamgcaaGreatDoor

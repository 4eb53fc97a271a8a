/-
  The function of Find: what it does to what has been found.
-/
import Derived.Test.YthnapcdanccohaaDoorNdFindM
namespace Go.Proofs.YthnapcdanccohaaDoor
open Go.RowKit Go.Lib Go.Sort
set_option linter.unusedSimpArgs false
set_option linter.unusedVariables false
set_option maxHeartbeats 8000000 in
set_option maxRecDepth 100000 in
theorem find1_any (B0 gt gf B : Nat) (tok : Int) (W0 : World) (hW0 : W0.heap.size = B0) (hB0 : B0 ≤ gt ∧ B0 ≤ gf ∧ gt < B ∧ gf < B ∧ gt ≠ gf) (s : FS) (w : World) (k t : Int) (a : Option Addr) (n cap : Nat) (c : F) (d : Nat)
    (h : FindI B0 gt gf B tok s w) (hc : Sl W0 a n cap c) (hw : Below W0.heap.size W0 w) (hN : c.size ≤ 1000000) (hl : s.l.length ≤ 2000002) :
    Calls Tryd.prog 29 #[.agg #[.int .i64 k, .int .i64 t, .slice a n cap], .int .i64 d, .pointer (some ⟨gt, 0, none⟩), .pointer (some ⟨gf, 0, none⟩)] w fun e w' => e = .returned (.bool true) ∧ ∃ s', FindR tok s ⟨k, t, c⟩ d s' ∧ FindI B0 gt gf B tok s' w' ∧ Moves (FindC gt gf s) (FindC gt gf s') w w' := by
  have hA := below_alloc w (.cells #[.int .i64 k, .int .i64 t, .slice a n cap] 26 (0, 0))
  have hnb := nblk_new w k t a n cap
  have hle := h.le
  have hws := hw.size
  by_cases htk : t = tok
  · have hte : (t == tok) = true := by simpa using htk
    obtain ⟨h1, h2, h3, h4, xs, hown, hrd⟩ := h
    have hxl : xs.length = s.l.length := by rw [hrd.len, ofL_len]
    obtain ⟨v, l, O⟩ := s
    dsimp only at *
    have hvs : ∃ pv nv cv, v = .slice pv nv cv ∧ nv = xs.length := by
      rcases hown.2 with ⟨hv, h0⟩ | ⟨g, cap, cur, hv, _⟩
      · exact ⟨none, 0, 0, hv, h0.symm⟩
      · exact ⟨_, _, _, hv, rfl⟩
    obtain ⟨pv, nv, cv, hv, rfl⟩ := hvs
    have c1 := (h1.alloc (.cells #[.int .i64 k, .int .i64 t, .slice a n cap] 26 (0, 0))).cell
    have h2A := h2.alloc (.cells #[.int .i64 k, .int .i64 t, .slice a n cap] 26 (0, 0))
    have c1' := h1.cell
    have hl1 := h1.lt
    obtain ⟨y0, y1, y2⟩ := hnb.box
    have hsP : SlQ (fun g => g < B0 ∨ w.heap.size ≤ g) w a n cap c := (hc.mono (P' := fun g => g < B0 ∨ w.heap.size ≤ g) (fun g hg => .inl (by have := hg.lt; omega))).below hw
    have hsA := hsP.below hA
    have hxl2 : xs.length ≤ 2000002 := by omega
    replace hxl := hide hxl
    replace htk := hide htk
    replace h1 := hide h1
    replace h2 := hide h2
    replace hrd := hide hrd
    replace h4 := hide h4
    replace hnb := hide hnb
    replace hc := hide hc
    replace hw := hide hw
    replace hsP := hide hsP
    replace hv := hide hv
    go_enter Tryd.func29, Tryd.ntmps29
    go_upto_region 2 with fail
    clear c1 c1' y0 y1 y2
    obtain ⟨WA, hWA⟩ : ∃ WA, w.alloc (.cells #[.int .i64 k, .int .i64 t, .slice a n cap] 26 (0, 0)) = WA := ⟨_, rfl⟩
    obtain ⟨gb, hgb⟩ : ∃ gb, w.heap.size = gb := ⟨_, rfl⟩
    rw [hWA] at hA h2A hsA hnb ⊢
    rw [hgb] at hA hle hws hnb hsA ⊢
    have hsz : WA.heap.size = gb + 1 := by rw [← hWA, ← hgb]; simp
    refine wp_region_D (fun w' => Cell1 w' gf 24 v ∧ NBlk w' gb k t a n cap) (fun j => [6, 7, 8].contains j) (by kernel_rfl) ?_
    have hS : Cell1 WA.drew gf 24 v ∧ NBlk WA.drew gb k t a n cap := ⟨h2A, unhide hnb⟩
    have hbD : Below gb w WA.drew := hA.drew
    have hsD : SlQ (fun g => g < B0 ∨ gb ≤ g) WA.drew a n cap c := hsA.below ((Below.refl _ _).drew)
    have hszD : WA.drew.heap.size = gb + 1 := hsz
    clear hA h2A hsA hsz hWA
    generalize World.drew WA = WD at hS hbD hsD hszD ⊢
    refine wpAnyD_takeC (i := 0) (v := v) [6, 7, 8] (fun _ => rfl) rfl (by kernel_rfl) 3 (by kernel_rfl) rfl (by kernel_rfl) (by kernel_rfl) (by kernel_rfl) (fun _ _ _ h => h) (Or.inl ⟨by kernel_rfl, ?_⟩) hS ?_
    · intro w hSw
      have hc2 := hSw.1.cell
      have hv2 := unhide hv
      rw [hv2] at hc2 ⊢
      go_simp
    try simp only [List.getElem_toArray, List.getElem_cons_succ, List.getElem_cons_zero, Act.put, List.setIfInBounds_toArray, List.set_cons_zero, List.set_cons_succ]
    refine wpAnyD_takeC (i := 1) (v := .agg #[.int .i64 k, .int .i64 t, .slice a n cap]) [6, 7, 8] (fun _ => rfl) rfl (by kernel_rfl) 3 (by kernel_rfl) rfl (by kernel_rfl) (by kernel_rfl) (by kernel_rfl) (fun _ _ _ h => h) (Or.inl ⟨by kernel_rfl, ?_⟩) hS ?_
    · intro w hSw
      obtain ⟨z0, z1, z2⟩ := hSw.2.box
      go_simp
    try simp only [List.getElem_toArray, List.getElem_cons_succ, List.getElem_cons_zero, Act.put, List.setIfInBounds_toArray, List.set_cons_zero, List.set_cons_succ]
    refine wpAnyD_takeC (i := 3) (v := .int .i64 xs.length) [6, 7, 8] (fun _ => rfl) rfl (by kernel_rfl) 3 (by kernel_rfl) rfl (by kernel_rfl) (by kernel_rfl) (by kernel_rfl) (fun _ _ _ h => h) (Or.inl ⟨by kernel_rfl, ?_⟩) hS ?_
    · intro w hSw
      have hv2 := unhide hv
      rw [hv2]
      go_simp
    try simp only [List.getElem_toArray, List.getElem_cons_succ, List.getElem_cons_zero, Act.put, List.setIfInBounds_toArray, List.set_cons_zero, List.set_cons_succ]
    refine wpAnyD_two (i := 2) (i' := 4) rfl rfl (by kernel_rfl) (fun K hK => ?_) (fun K hK => ?_)
    · rw [if_pos (by kernel_rfl)]
      refine oper_call (run_call1 cf_ndClone) ((ndClone_any (fun g => g < B0 ∨ gb ≤ g) k t a n cap c WD hsD (fun g hg => .inr (by omega)) hN).mono ?_)
      rintro e W1 ⟨a', cap', rfl, hs1, hb1⟩
      refine ⟨_, rfl, hK _ _ (fun _ => ⟨hS.1.same (hb1.block gf hS.1.lt), hS.2.same (hb1.block gb hS.2.lt)⟩) ?_⟩
      clear hK K
      try simp only [List.getElem_toArray, List.getElem_cons_succ, List.getElem_cons_zero, Act.put, List.setIfInBounds_toArray, List.set_cons_zero, List.set_cons_succ]
      refine wpAnyD_one (i := 4) rfl (by kernel_rfl) (fun K hK => ?_)
      rw [if_pos (by kernel_rfl)]
      refine oper_of_run (run_build_node W1 _ _ _ _ _ _ _ 0 0 none 0 0 rfl) ?_
      have hbz := below_alloc W1 (.cells #[.int .i64 0, .int .i64 0, .slice none 0 0] 26 (0, 0))
      have hsz1 := hb1.size
      have hb2 : Below gb w (W1.alloc (.cells #[.int .i64 0, .int .i64 0, .slice none 0 0] 26 (0, 0))) := (hbD.trans (hb1.mono (by omega))).trans (hbz.mono (by omega))
      have hsl2 := hs1.below hbz
      have hzn : ∀ (j : Nat) (u : Value), (nvC [zeroN])[j]? = some u → (W1.alloc (.cells #[.int .i64 0, .int .i64 0, .slice none 0 0] 26 (0, 0))).cell? (Addr.add ⟨W1.heap.size, 0, none⟩ j) = some u := by
        intro j u hj
        rw [show Addr.add ⟨W1.heap.size, 0, none⟩ j = ⟨W1.heap.size, j, none⟩ by simp [Addr.add]; omega, World.cell?_alloc_mark, List.getElem?_toArray]
        exact hj
      have hS2 : Cell1 (W1.alloc (.cells #[.int .i64 0, .int .i64 0, .slice none 0 0] 26 (0, 0))) gf 24 v ∧ NBlk (W1.alloc (.cells #[.int .i64 0, .int .i64 0, .slice none 0 0] 26 (0, 0))) gb k t a n cap := by
        have q1 := hS.1.same (hb1.block gf hS.1.lt)
        have q2 := hS.2.same (hb1.block gb hS.2.lt)
        exact ⟨q1.alloc _, q2.same (hbz.block gb q2.lt)⟩
      have hzs : (W1.alloc (.cells #[.int .i64 0, .int .i64 0, .slice none 0 0] 26 (0, 0))).heap.size = W1.heap.size + 1 := by simp
      refine hK _ _ (fun _ => hS2) ?_
      clear hK K
      generalize W1.alloc (.cells #[.int .i64 0, .int .i64 0, .slice none 0 0] 26 (0, 0)) = W2 at *
      generalize W1.heap.size = z at *
      clear hbz hs1 hb1 hS
      have hS := hS2
      try simp only [List.getElem_toArray, List.getElem_cons_succ, List.getElem_cons_zero, Act.put, List.setIfInBounds_toArray, List.set_cons_zero, List.set_cons_succ]
      refine wpAnyD_one (i := 5) rfl (by kernel_rfl) (fun K hK => ?_)
      rw [if_pos (by kernel_rfl)]
      have hs2w : w.heap.size ≤ W2.heap.size := hb2.size
      have ho2 : OwnN W2 B v xs := rowN_kept hown (fun g hg => hb2.block g (by have := (World.ownsRow.lt hown g hg).2; omega))
      obtain ⟨i0, hi, hz0, hz1, hz2⟩ := info_parts Tryd.info26
      refine wp_append_lies W2 _ _ 24 rfl B 26 i0 _ 3 40 Tryd.underlying24 hi hz0 hz1 hz2 rfl (by decide) v xs.length (nvC xs) rfl ho2 ⟨z, 0, none⟩ 1 1 (nvC [zeroN]) rfl rfl hzn (one_nv _) (by omega) (by unfold maxLen; omega) (by omega) (by omega) _ rfl ?_
      intro g cq W3 hown3 hg3 hat3 hlt3
      have hm3 : (nvC xs).length = xs.length * 3 := nvC_len xs
      have ho3 : OwnN W3 B (.slice (some ⟨g, 0, none⟩) (xs.length + 1) cq) (xs ++ [zeroN]) := by
        unfold OwnN
        rw [nvC_app, List.length_append]
        exact hown3
      have hnf : v.ownBlock ≠ some gf := fun e => by have := (World.ownsRow.lt hown gf e).1; omega
      have hnb3 : v.ownBlock ≠ some gb := fun e => by have := (World.ownsRow.lt hown gb e).2; omega
      have hS3 : Cell1 W3 gf 24 v ∧ NBlk W3 gb k t a n cap := ⟨hS.1.same (hg3.block gf hS.1.lt (fun e => hnf e.symm)), hS.2.same (hg3.block gb hS.2.lt (fun e => hnb3 e.symm))⟩
      refine hK _ _ (fun _ => hS3) ?_
      clear hK K hown3 hS
      have hS := hS3
      try simp only [List.getElem_toArray, List.getElem_cons_succ, List.getElem_cons_zero, Act.put, List.setIfInBounds_toArray, List.set_cons_zero, List.set_cons_succ]
      obtain ⟨w0, w1, w2, wf⟩ := own_cells ho3 rfl
      have f0 := wf (xs.length * 3)
      have f1 := wf (xs.length * 3 + 1)
      have f2 := wf (xs.length * 3 + 2)
      have fb := hS.1.frozen
      have cb := hS.1.cell
      simp only [zeroN] at w0 w1 w2
      clear wf
      have hgf : g ≠ gf := by
        rcases hat3 with h | h
        · intro e; exact hnf (by rw [h, e])
        · omega
      have hgf' : gf ≠ g := fun e => hgf e.symm
      have hlz : (xs.length : Int) < xs.length + 1 := by omega
      have hlz2 : ¬ ((xs.length : Int) + 1 ≤ xs.length) := by omega
      replace ho3 := hide ho3
      replace hg3 := hide hg3
      refine wpAnyD_two (i := 6) (i' := 8) rfl rfl (by kernel_rfl) (fun K hK => ?_) (fun K hK => ?_)
      · rw [if_pos (by kernel_rfl)]
        refine oper_of_run (v := .pointer (some ⟨g, xs.length * 3, none⟩)) (w' := W3) (by clear hK w0 w1 w2 f0 f1 f2 fb cb; go_simp) ?_
        refine hK _ _ (fun h => by cases h) ?_
        clear hK K
        try simp only [List.getElem_toArray, List.getElem_cons_succ, List.getElem_cons_zero, Act.put, List.setIfInBounds_toArray, List.set_cons_zero, List.set_cons_succ]
        refine wpAnyD_two (i := 7) (i' := 8) rfl rfl (by kernel_rfl) (fun K hK => ?_) (fun K hK => ?_)
        · rw [if_pos (by kernel_rfl)]
          replace hK := hide hK
          go_simp
          refine unhide hK _ _ (fun h => by cases h) ?_
          clear hK K
          try simp only [List.getElem_toArray, List.getElem_cons_succ, List.getElem_cons_zero, Act.put, List.setIfInBounds_toArray, List.set_cons_zero, List.set_cons_succ]
          have ho4 := own_put (unhide ho3) rfl ⟨k, t, a', n, cap'⟩
          dsimp only at ho4
          have hh4 : ∀ x, x ≠ g → (((W3.setCell ⟨g, xs.length * 3, none⟩ (.int .i64 k)).setCell ⟨g, xs.length * 3 + 1, none⟩ (.int .i64 t)).setCell ⟨g, xs.length * 3 + 2, none⟩ (.slice a' n cap')).heap[x]? = W3.heap[x]? := fun x hx => by rw [Below.heap_setCell _ _ _ x hx, Below.heap_setCell _ _ _ x hx, Below.heap_setCell _ _ _ x hx]
          have hsz4 : (((W3.setCell ⟨g, xs.length * 3, none⟩ (.int .i64 k)).setCell ⟨g, xs.length * 3 + 1, none⟩ (.int .i64 t)).setCell ⟨g, xs.length * 3 + 2, none⟩ (.slice a' n cap')).heap.size = W3.heap.size := by simp
          have hos4 : (((W3.setCell ⟨g, xs.length * 3, none⟩ (.int .i64 k)).setCell ⟨g, xs.length * 3 + 1, none⟩ (.int .i64 t)).setCell ⟨g, xs.length * 3 + 2, none⟩ (.slice a' n cap')).os = W3.os := rfl
          have hta4 : (((W3.setCell ⟨g, xs.length * 3, none⟩ (.int .i64 k)).setCell ⟨g, xs.length * 3 + 1, none⟩ (.int .i64 t)).setCell ⟨g, xs.length * 3 + 2, none⟩ (.slice a' n cap')).tape = W3.tape := rfl
          have hou4 : (((W3.setCell ⟨g, xs.length * 3, none⟩ (.int .i64 k)).setCell ⟨g, xs.length * 3 + 1, none⟩ (.int .i64 t)).setCell ⟨g, xs.length * 3 + 2, none⟩ (.slice a' n cap')).output = W3.output := rfl
          have hc4 := hS.1.same (hh4 gf hgf')
          generalize (((W3.setCell ⟨g, xs.length * 3, none⟩ (.int .i64 k)).setCell ⟨g, xs.length * 3 + 1, none⟩ (.int .i64 t)).setCell ⟨g, xs.length * 3 + 2, none⟩ (.slice a' n cap')) = W4 at *
          have cb4 := hc4.cell
          have fb4 := hc4.frozen
          refine wpAnyD_one (i := 8) rfl (by kernel_rfl) (fun K hK => ?_)
          rw [if_pos (by kernel_rfl)]
          replace hK := hide hK
          clear w0 w1 w2 f0 f1 f2 fb cb
          go_simp
          refine unhide hK _ _ (fun h => by cases h) ?_
          clear hK K cb4 fb4
          try simp only [List.getElem_toArray, List.getElem_cons_succ, List.getElem_cons_zero, Act.put, List.setIfInBounds_toArray, List.set_cons_zero, List.set_cons_succ]
          have hoX1 : (W4.setCell ⟨gf, 0, none⟩ (.slice (some ⟨g, 0, none⟩) (xs.length + 1) cq)).os = W3.os := hos4
          have hoX2 : (W4.setCell ⟨gf, 0, none⟩ (.slice (some ⟨g, 0, none⟩) (xs.length + 1) cq)).tape = W3.tape := hta4
          have hoX3 : (W4.setCell ⟨gf, 0, none⟩ (.slice (some ⟨g, 0, none⟩) (xs.length + 1) cq)).output = W3.output := hou4
          have hoX4 : (W4.setCell ⟨gf, 0, none⟩ (.slice (some ⟨g, 0, none⟩) (xs.length + 1) cq)).heap.size = W3.heap.size := by simp; exact hsz4
          have hoX5 : ∀ x, x ≠ g → x ≠ gf → (W4.setCell ⟨gf, 0, none⟩ (.slice (some ⟨g, 0, none⟩) (xs.length + 1) cq)).heap[x]? = W3.heap[x]? := fun x hx hx2 => by rw [Below.heap_setCell _ _ _ x hx2]; exact hh4 x hx
          have hoX6 : OwnN (W4.setCell ⟨gf, 0, none⟩ (.slice (some ⟨g, 0, none⟩) (xs.length + 1) cq)) B (.slice (some ⟨g, 0, none⟩) (xs.length + 1) cq) (xs ++ [⟨k, t, a', n, cap'⟩]) := rowN_kept ho4 (fun x hx => Below.heap_setCell _ _ _ x (fun e => by
            have hx : g = x := by simpa [Value.ownBlock] using hx
            exact hgf (hx.trans e)))
          have hoX7 := hc4.set (.slice (some ⟨g, 0, none⟩) (xs.length + 1) cq)
          have hfin := hide (find_fin (X := W4.setCell ⟨gf, 0, none⟩ (.slice (some ⟨g, 0, none⟩) (xs.length + 1) cq)) (k := k) (t := t) (c := c) (n := n) (a' := a') (cap' := cap') (tok := tok) (l := l) (O := O) ⟨trivial, hB0.2⟩ hgb hle (unhide h1) (unhide h4) hown (unhide hrd) hb2 hsl2 (unhide hg3) hat3 hlt3 hoX1 hoX2 hoX3 hoX4 hoX5 hoX6 hoX7)
          generalize W4.setCell ⟨gf, 0, none⟩ (.slice (some ⟨g, 0, none⟩) (xs.length + 1) cq) = X at *
          refine wpAnyD_done (by kernel_rfl) ?_ _
          clear hoX1 hoX2 hoX3 hoX4 hoX5 hoX6 hoX7
          go_wp2
          go_ret
          exact ⟨rfl, _, by show l ++ [(⟨k, t, c⟩ : Nd)] = if t = tok then l ++ [(⟨k, t, c⟩ : Nd)] else l; rw [if_pos (unhide htk)], (unhide hfin).1, (unhide hfin).2⟩
        · rw [if_pos (by kernel_rfl)]
          replace hK := hide hK
          go_simp
          have hc4 := hS.1.set (.slice (some ⟨g, 0, none⟩) (xs.length + 1) cq)
          have hh4 : ∀ x, x ≠ gf → (W3.setCell ⟨gf, 0, none⟩ (.slice (some ⟨g, 0, none⟩) (xs.length + 1) cq)).heap[x]? = W3.heap[x]? := fun x hx => Below.heap_setCell _ _ _ x hx
          have hsz4 : (W3.setCell ⟨gf, 0, none⟩ (.slice (some ⟨g, 0, none⟩) (xs.length + 1) cq)).heap.size = W3.heap.size := by simp
          have hos4 : (W3.setCell ⟨gf, 0, none⟩ (.slice (some ⟨g, 0, none⟩) (xs.length + 1) cq)).os = W3.os := rfl
          have hta4 : (W3.setCell ⟨gf, 0, none⟩ (.slice (some ⟨g, 0, none⟩) (xs.length + 1) cq)).tape = W3.tape := rfl
          have hou4 : (W3.setCell ⟨gf, 0, none⟩ (.slice (some ⟨g, 0, none⟩) (xs.length + 1) cq)).output = W3.output := rfl
          have ho4 : OwnN (W3.setCell ⟨gf, 0, none⟩ (.slice (some ⟨g, 0, none⟩) (xs.length + 1) cq)) B (.slice (some ⟨g, 0, none⟩) (xs.length + 1) cq) (xs ++ [zeroN]) := rowN_kept (unhide ho3) (fun x hx => hh4 x (fun e => by
            have hx : g = x := by simpa [Value.ownBlock] using hx
            exact hgf (hx.trans e)))
          refine unhide hK _ _ (fun h => by cases h) ?_
          clear hK K w0 w1 w2 f0 f1 f2 fb cb
          generalize W3.setCell ⟨gf, 0, none⟩ (.slice (some ⟨g, 0, none⟩) (xs.length + 1) cq) = W4 at *
          obtain ⟨w0, w1, w2, wf⟩ := own_cells ho4 rfl
          have f0 := wf (xs.length * 3)
          have f1 := wf (xs.length * 3 + 1)
          have f2 := wf (xs.length * 3 + 2)
          simp only [zeroN] at w0 w1 w2
          clear wf
          try simp only [List.getElem_toArray, List.getElem_cons_succ, List.getElem_cons_zero, Act.put, List.setIfInBounds_toArray, List.set_cons_zero, List.set_cons_succ]
          refine wpAnyD_one (i := 7) rfl (by kernel_rfl) (fun K hK => ?_)
          rw [if_pos (by kernel_rfl)]
          replace hK := hide hK
          go_simp
          refine unhide hK _ _ (fun h => by cases h) ?_
          clear hK K w0 w1 w2 f0 f1 f2
          try simp only [List.getElem_toArray, List.getElem_cons_succ, List.getElem_cons_zero, Act.put, List.setIfInBounds_toArray, List.set_cons_zero, List.set_cons_succ]
          have hoX1 : (((W4.setCell ⟨g, xs.length * 3, none⟩ (.int .i64 k)).setCell ⟨g, xs.length * 3 + 1, none⟩ (.int .i64 t)).setCell ⟨g, xs.length * 3 + 2, none⟩ (.slice a' n cap')).os = W3.os := hos4
          have hoX2 : (((W4.setCell ⟨g, xs.length * 3, none⟩ (.int .i64 k)).setCell ⟨g, xs.length * 3 + 1, none⟩ (.int .i64 t)).setCell ⟨g, xs.length * 3 + 2, none⟩ (.slice a' n cap')).tape = W3.tape := hta4
          have hoX3 : (((W4.setCell ⟨g, xs.length * 3, none⟩ (.int .i64 k)).setCell ⟨g, xs.length * 3 + 1, none⟩ (.int .i64 t)).setCell ⟨g, xs.length * 3 + 2, none⟩ (.slice a' n cap')).output = W3.output := hou4
          have hoX4 : (((W4.setCell ⟨g, xs.length * 3, none⟩ (.int .i64 k)).setCell ⟨g, xs.length * 3 + 1, none⟩ (.int .i64 t)).setCell ⟨g, xs.length * 3 + 2, none⟩ (.slice a' n cap')).heap.size = W3.heap.size := by simp; exact hsz4
          have hoX5 : ∀ x, x ≠ g → x ≠ gf → (((W4.setCell ⟨g, xs.length * 3, none⟩ (.int .i64 k)).setCell ⟨g, xs.length * 3 + 1, none⟩ (.int .i64 t)).setCell ⟨g, xs.length * 3 + 2, none⟩ (.slice a' n cap')).heap[x]? = W3.heap[x]? := fun x hx hx2 => by rw [Below.heap_setCell _ _ _ x hx, Below.heap_setCell _ _ _ x hx, Below.heap_setCell _ _ _ x hx]; exact hh4 x hx2
          have hoX6 := own_put ho4 rfl ⟨k, t, a', n, cap'⟩
          dsimp only at hoX6
          have hoX7 : Cell1 (((W4.setCell ⟨g, xs.length * 3, none⟩ (.int .i64 k)).setCell ⟨g, xs.length * 3 + 1, none⟩ (.int .i64 t)).setCell ⟨g, xs.length * 3 + 2, none⟩ (.slice a' n cap')) gf 24 (.slice (some ⟨g, 0, none⟩) (xs.length + 1) cq) := hc4.same (by rw [Below.heap_setCell _ _ _ gf hgf', Below.heap_setCell _ _ _ gf hgf', Below.heap_setCell _ _ _ gf hgf'])
          have hfin := hide (find_fin (X := (((W4.setCell ⟨g, xs.length * 3, none⟩ (.int .i64 k)).setCell ⟨g, xs.length * 3 + 1, none⟩ (.int .i64 t)).setCell ⟨g, xs.length * 3 + 2, none⟩ (.slice a' n cap'))) (k := k) (t := t) (c := c) (n := n) (a' := a') (cap' := cap') (tok := tok) (l := l) (O := O) ⟨trivial, hB0.2⟩ hgb hle (unhide h1) (unhide h4) hown (unhide hrd) hb2 hsl2 (unhide hg3) hat3 hlt3 hoX1 hoX2 hoX3 hoX4 hoX5 hoX6 hoX7)
          generalize (((W4.setCell ⟨g, xs.length * 3, none⟩ (.int .i64 k)).setCell ⟨g, xs.length * 3 + 1, none⟩ (.int .i64 t)).setCell ⟨g, xs.length * 3 + 2, none⟩ (.slice a' n cap')) = X at *
          refine wpAnyD_done (by kernel_rfl) ?_ _
          clear hoX1 hoX2 hoX3 hoX4 hoX5 hoX6 hoX7
          go_wp2
          go_ret
          exact ⟨rfl, _, by show l ++ [(⟨k, t, c⟩ : Nd)] = if t = tok then l ++ [(⟨k, t, c⟩ : Nd)] else l; rw [if_pos (unhide htk)], (unhide hfin).1, (unhide hfin).2⟩
      · rw [if_pos (by kernel_rfl)]
        replace hK := hide hK
        go_simp
        have hc4 := hS.1.set (.slice (some ⟨g, 0, none⟩) (xs.length + 1) cq)
        have hh4 : ∀ x, x ≠ gf → (W3.setCell ⟨gf, 0, none⟩ (.slice (some ⟨g, 0, none⟩) (xs.length + 1) cq)).heap[x]? = W3.heap[x]? := fun x hx => Below.heap_setCell _ _ _ x hx
        have hsz4 : (W3.setCell ⟨gf, 0, none⟩ (.slice (some ⟨g, 0, none⟩) (xs.length + 1) cq)).heap.size = W3.heap.size := by simp
        have hos4 : (W3.setCell ⟨gf, 0, none⟩ (.slice (some ⟨g, 0, none⟩) (xs.length + 1) cq)).os = W3.os := rfl
        have hta4 : (W3.setCell ⟨gf, 0, none⟩ (.slice (some ⟨g, 0, none⟩) (xs.length + 1) cq)).tape = W3.tape := rfl
        have hou4 : (W3.setCell ⟨gf, 0, none⟩ (.slice (some ⟨g, 0, none⟩) (xs.length + 1) cq)).output = W3.output := rfl
        have ho4 : OwnN (W3.setCell ⟨gf, 0, none⟩ (.slice (some ⟨g, 0, none⟩) (xs.length + 1) cq)) B (.slice (some ⟨g, 0, none⟩) (xs.length + 1) cq) (xs ++ [zeroN]) := rowN_kept (unhide ho3) (fun x hx => hh4 x (fun e => by
          have hx : g = x := by simpa [Value.ownBlock] using hx
          exact hgf (hx.trans e)))
        refine unhide hK _ _ (fun h => by cases h) ?_
        clear hK K w0 w1 w2 f0 f1 f2 fb cb
        generalize W3.setCell ⟨gf, 0, none⟩ (.slice (some ⟨g, 0, none⟩) (xs.length + 1) cq) = W4 at *
        obtain ⟨w0, w1, w2, wf⟩ := own_cells ho4 rfl
        have f0 := wf (xs.length * 3)
        have f1 := wf (xs.length * 3 + 1)
        have f2 := wf (xs.length * 3 + 2)
        simp only [zeroN] at w0 w1 w2
        clear wf
        try simp only [List.getElem_toArray, List.getElem_cons_succ, List.getElem_cons_zero, Act.put, List.setIfInBounds_toArray, List.set_cons_zero, List.set_cons_succ]
        refine wpAnyD_one (i := 6) rfl (by kernel_rfl) (fun K hK => ?_)
        rw [if_pos (by kernel_rfl)]
        refine oper_of_run (v := .pointer (some ⟨g, xs.length * 3, none⟩)) (w' := W4) (by clear hK w0 w1 w2 f0 f1 f2; go_simp) ?_
        refine hK _ _ (fun h => by cases h) ?_
        clear hK K
        try simp only [List.getElem_toArray, List.getElem_cons_succ, List.getElem_cons_zero, Act.put, List.setIfInBounds_toArray, List.set_cons_zero, List.set_cons_succ]
        refine wpAnyD_one (i := 7) rfl (by kernel_rfl) (fun K hK => ?_)
        rw [if_pos (by kernel_rfl)]
        replace hK := hide hK
        go_simp
        refine unhide hK _ _ (fun h => by cases h) ?_
        clear hK K w0 w1 w2 f0 f1 f2
        try simp only [List.getElem_toArray, List.getElem_cons_succ, List.getElem_cons_zero, Act.put, List.setIfInBounds_toArray, List.set_cons_zero, List.set_cons_succ]
        have hoX1 : (((W4.setCell ⟨g, xs.length * 3, none⟩ (.int .i64 k)).setCell ⟨g, xs.length * 3 + 1, none⟩ (.int .i64 t)).setCell ⟨g, xs.length * 3 + 2, none⟩ (.slice a' n cap')).os = W3.os := hos4
        have hoX2 : (((W4.setCell ⟨g, xs.length * 3, none⟩ (.int .i64 k)).setCell ⟨g, xs.length * 3 + 1, none⟩ (.int .i64 t)).setCell ⟨g, xs.length * 3 + 2, none⟩ (.slice a' n cap')).tape = W3.tape := hta4
        have hoX3 : (((W4.setCell ⟨g, xs.length * 3, none⟩ (.int .i64 k)).setCell ⟨g, xs.length * 3 + 1, none⟩ (.int .i64 t)).setCell ⟨g, xs.length * 3 + 2, none⟩ (.slice a' n cap')).output = W3.output := hou4
        have hoX4 : (((W4.setCell ⟨g, xs.length * 3, none⟩ (.int .i64 k)).setCell ⟨g, xs.length * 3 + 1, none⟩ (.int .i64 t)).setCell ⟨g, xs.length * 3 + 2, none⟩ (.slice a' n cap')).heap.size = W3.heap.size := by simp; exact hsz4
        have hoX5 : ∀ x, x ≠ g → x ≠ gf → (((W4.setCell ⟨g, xs.length * 3, none⟩ (.int .i64 k)).setCell ⟨g, xs.length * 3 + 1, none⟩ (.int .i64 t)).setCell ⟨g, xs.length * 3 + 2, none⟩ (.slice a' n cap')).heap[x]? = W3.heap[x]? := fun x hx hx2 => by rw [Below.heap_setCell _ _ _ x hx, Below.heap_setCell _ _ _ x hx, Below.heap_setCell _ _ _ x hx]; exact hh4 x hx2
        have hoX6 := own_put ho4 rfl ⟨k, t, a', n, cap'⟩
        dsimp only at hoX6
        have hoX7 : Cell1 (((W4.setCell ⟨g, xs.length * 3, none⟩ (.int .i64 k)).setCell ⟨g, xs.length * 3 + 1, none⟩ (.int .i64 t)).setCell ⟨g, xs.length * 3 + 2, none⟩ (.slice a' n cap')) gf 24 (.slice (some ⟨g, 0, none⟩) (xs.length + 1) cq) := hc4.same (by rw [Below.heap_setCell _ _ _ gf hgf', Below.heap_setCell _ _ _ gf hgf', Below.heap_setCell _ _ _ gf hgf'])
        have hfin := hide (find_fin (X := (((W4.setCell ⟨g, xs.length * 3, none⟩ (.int .i64 k)).setCell ⟨g, xs.length * 3 + 1, none⟩ (.int .i64 t)).setCell ⟨g, xs.length * 3 + 2, none⟩ (.slice a' n cap'))) (k := k) (t := t) (c := c) (n := n) (a' := a') (cap' := cap') (tok := tok) (l := l) (O := O) ⟨trivial, hB0.2⟩ hgb hle (unhide h1) (unhide h4) hown (unhide hrd) hb2 hsl2 (unhide hg3) hat3 hlt3 hoX1 hoX2 hoX3 hoX4 hoX5 hoX6 hoX7)
        generalize (((W4.setCell ⟨g, xs.length * 3, none⟩ (.int .i64 k)).setCell ⟨g, xs.length * 3 + 1, none⟩ (.int .i64 t)).setCell ⟨g, xs.length * 3 + 2, none⟩ (.slice a' n cap')) = X at *
        refine wpAnyD_done (by kernel_rfl) ?_ _
        clear hoX1 hoX2 hoX3 hoX4 hoX5 hoX6 hoX7
        go_wp2
        go_ret
        exact ⟨rfl, _, by show l ++ [(⟨k, t, c⟩ : Nd)] = if t = tok then l ++ [(⟨k, t, c⟩ : Nd)] else l; rw [if_pos (unhide htk)], (unhide hfin).1, (unhide hfin).2⟩
    · rw [if_pos (by kernel_rfl)]
      refine oper_of_run (run_build_node WD _ _ _ _ _ _ _ 0 0 none 0 0 rfl) ?_
      have hbz := below_alloc WD (.cells #[.int .i64 0, .int .i64 0, .slice none 0 0] 26 (0, 0))
      have hzn0 : ∀ (j : Nat) (u : Value), (nvC [zeroN])[j]? = some u → (WD.alloc (.cells #[.int .i64 0, .int .i64 0, .slice none 0 0] 26 (0, 0))).cell? (Addr.add ⟨WD.heap.size, 0, none⟩ j) = some u := by
        intro j u hj
        rw [show Addr.add ⟨WD.heap.size, 0, none⟩ j = ⟨WD.heap.size, j, none⟩ by simp [Addr.add]; omega, World.cell?_alloc_mark, List.getElem?_toArray]
        exact hj
      have hS1 : Cell1 (WD.alloc (.cells #[.int .i64 0, .int .i64 0, .slice none 0 0] 26 (0, 0))) gf 24 v ∧ NBlk (WD.alloc (.cells #[.int .i64 0, .int .i64 0, .slice none 0 0] 26 (0, 0))) gb k t a n cap := ⟨hS.1.alloc _, hS.2.same (hbz.block gb hS.2.lt)⟩
      have hzs0 : (WD.alloc (.cells #[.int .i64 0, .int .i64 0, .slice none 0 0] 26 (0, 0))).heap.size = WD.heap.size + 1 := by simp
      have hbw1 := hbD.trans (hbz.mono (by omega))
      have hsD1 := hsD.below hbz
      refine hK _ _ (fun _ => hS1) ?_
      clear hK K
      generalize WD.alloc (.cells #[.int .i64 0, .int .i64 0, .slice none 0 0] 26 (0, 0)) = W1 at *
      try simp only [List.getElem_toArray, List.getElem_cons_succ, List.getElem_cons_zero, Act.put, List.setIfInBounds_toArray, List.set_cons_zero, List.set_cons_succ]
      refine wpAnyD_one (i := 2) rfl (by kernel_rfl) (fun K hK => ?_)
      rw [if_pos (by kernel_rfl)]
      refine oper_call (run_call1 cf_ndClone) ((ndClone_any (fun g => g < B0 ∨ gb ≤ g) k t a n cap c W1 hsD1 (fun g hg => .inr (by omega)) hN).mono ?_)
      rintro e W2 ⟨a', cap', rfl, hsl2, hb2'⟩
      have hS2 : Cell1 W2 gf 24 v ∧ NBlk W2 gb k t a n cap := ⟨hS1.1.same (hb2'.block gf hS1.1.lt), hS1.2.same (hb2'.block gb hS1.2.lt)⟩
      have hb2 : Below gb w W2 := hbw1.trans (hb2'.mono (by omega))
      have hzn : ∀ (j : Nat) (u : Value), (nvC [zeroN])[j]? = some u → W2.cell? (Addr.add ⟨WD.heap.size, 0, none⟩ j) = some u := fun j u hj => by
        rw [hb2'.cell (by rw [show Addr.add ⟨WD.heap.size, 0, none⟩ j = ⟨WD.heap.size, j, none⟩ by simp [Addr.add]; omega]; dsimp only; omega)]
        exact hzn0 j u hj
      refine ⟨_, rfl, hK _ _ (fun _ => hS2) ?_⟩
      clear hK K
      generalize WD.heap.size = z at *
      clear hbz hS1 hb2' hS hzn0 hsD1 hbw1
      have hS := hS2
      try simp only [List.getElem_toArray, List.getElem_cons_succ, List.getElem_cons_zero, Act.put, List.setIfInBounds_toArray, List.set_cons_zero, List.set_cons_succ]
      refine wpAnyD_one (i := 5) rfl (by kernel_rfl) (fun K hK => ?_)
      rw [if_pos (by kernel_rfl)]
      have hs2w : w.heap.size ≤ W2.heap.size := hb2.size
      have ho2 : OwnN W2 B v xs := rowN_kept hown (fun g hg => hb2.block g (by have := (World.ownsRow.lt hown g hg).2; omega))
      obtain ⟨i0, hi, hz0, hz1, hz2⟩ := info_parts Tryd.info26
      refine wp_append_lies W2 _ _ 24 rfl B 26 i0 _ 3 40 Tryd.underlying24 hi hz0 hz1 hz2 rfl (by decide) v xs.length (nvC xs) rfl ho2 ⟨z, 0, none⟩ 1 1 (nvC [zeroN]) rfl rfl hzn (one_nv _) (by omega) (by unfold maxLen; omega) (by omega) (by omega) _ rfl ?_
      intro g cq W3 hown3 hg3 hat3 hlt3
      have hm3 : (nvC xs).length = xs.length * 3 := nvC_len xs
      have ho3 : OwnN W3 B (.slice (some ⟨g, 0, none⟩) (xs.length + 1) cq) (xs ++ [zeroN]) := by
        unfold OwnN
        rw [nvC_app, List.length_append]
        exact hown3
      have hnf : v.ownBlock ≠ some gf := fun e => by have := (World.ownsRow.lt hown gf e).1; omega
      have hnb3 : v.ownBlock ≠ some gb := fun e => by have := (World.ownsRow.lt hown gb e).2; omega
      have hS3 : Cell1 W3 gf 24 v ∧ NBlk W3 gb k t a n cap := ⟨hS.1.same (hg3.block gf hS.1.lt (fun e => hnf e.symm)), hS.2.same (hg3.block gb hS.2.lt (fun e => hnb3 e.symm))⟩
      refine hK _ _ (fun _ => hS3) ?_
      clear hK K hown3 hS
      have hS := hS3
      try simp only [List.getElem_toArray, List.getElem_cons_succ, List.getElem_cons_zero, Act.put, List.setIfInBounds_toArray, List.set_cons_zero, List.set_cons_succ]
      obtain ⟨w0, w1, w2, wf⟩ := own_cells ho3 rfl
      have f0 := wf (xs.length * 3)
      have f1 := wf (xs.length * 3 + 1)
      have f2 := wf (xs.length * 3 + 2)
      have fb := hS.1.frozen
      have cb := hS.1.cell
      simp only [zeroN] at w0 w1 w2
      clear wf
      have hgf : g ≠ gf := by
        rcases hat3 with h | h
        · intro e; exact hnf (by rw [h, e])
        · omega
      have hgf' : gf ≠ g := fun e => hgf e.symm
      have hlz : (xs.length : Int) < xs.length + 1 := by omega
      have hlz2 : ¬ ((xs.length : Int) + 1 ≤ xs.length) := by omega
      replace ho3 := hide ho3
      replace hg3 := hide hg3
      refine wpAnyD_two (i := 6) (i' := 8) rfl rfl (by kernel_rfl) (fun K hK => ?_) (fun K hK => ?_)
      · rw [if_pos (by kernel_rfl)]
        refine oper_of_run (v := .pointer (some ⟨g, xs.length * 3, none⟩)) (w' := W3) (by clear hK w0 w1 w2 f0 f1 f2 fb cb; go_simp) ?_
        refine hK _ _ (fun h => by cases h) ?_
        clear hK K
        try simp only [List.getElem_toArray, List.getElem_cons_succ, List.getElem_cons_zero, Act.put, List.setIfInBounds_toArray, List.set_cons_zero, List.set_cons_succ]
        refine wpAnyD_two (i := 7) (i' := 8) rfl rfl (by kernel_rfl) (fun K hK => ?_) (fun K hK => ?_)
        · rw [if_pos (by kernel_rfl)]
          replace hK := hide hK
          go_simp
          refine unhide hK _ _ (fun h => by cases h) ?_
          clear hK K
          try simp only [List.getElem_toArray, List.getElem_cons_succ, List.getElem_cons_zero, Act.put, List.setIfInBounds_toArray, List.set_cons_zero, List.set_cons_succ]
          have ho4 := own_put (unhide ho3) rfl ⟨k, t, a', n, cap'⟩
          dsimp only at ho4
          have hh4 : ∀ x, x ≠ g → (((W3.setCell ⟨g, xs.length * 3, none⟩ (.int .i64 k)).setCell ⟨g, xs.length * 3 + 1, none⟩ (.int .i64 t)).setCell ⟨g, xs.length * 3 + 2, none⟩ (.slice a' n cap')).heap[x]? = W3.heap[x]? := fun x hx => by rw [Below.heap_setCell _ _ _ x hx, Below.heap_setCell _ _ _ x hx, Below.heap_setCell _ _ _ x hx]
          have hsz4 : (((W3.setCell ⟨g, xs.length * 3, none⟩ (.int .i64 k)).setCell ⟨g, xs.length * 3 + 1, none⟩ (.int .i64 t)).setCell ⟨g, xs.length * 3 + 2, none⟩ (.slice a' n cap')).heap.size = W3.heap.size := by simp
          have hos4 : (((W3.setCell ⟨g, xs.length * 3, none⟩ (.int .i64 k)).setCell ⟨g, xs.length * 3 + 1, none⟩ (.int .i64 t)).setCell ⟨g, xs.length * 3 + 2, none⟩ (.slice a' n cap')).os = W3.os := rfl
          have hta4 : (((W3.setCell ⟨g, xs.length * 3, none⟩ (.int .i64 k)).setCell ⟨g, xs.length * 3 + 1, none⟩ (.int .i64 t)).setCell ⟨g, xs.length * 3 + 2, none⟩ (.slice a' n cap')).tape = W3.tape := rfl
          have hou4 : (((W3.setCell ⟨g, xs.length * 3, none⟩ (.int .i64 k)).setCell ⟨g, xs.length * 3 + 1, none⟩ (.int .i64 t)).setCell ⟨g, xs.length * 3 + 2, none⟩ (.slice a' n cap')).output = W3.output := rfl
          have hc4 := hS.1.same (hh4 gf hgf')
          generalize (((W3.setCell ⟨g, xs.length * 3, none⟩ (.int .i64 k)).setCell ⟨g, xs.length * 3 + 1, none⟩ (.int .i64 t)).setCell ⟨g, xs.length * 3 + 2, none⟩ (.slice a' n cap')) = W4 at *
          have cb4 := hc4.cell
          have fb4 := hc4.frozen
          refine wpAnyD_one (i := 8) rfl (by kernel_rfl) (fun K hK => ?_)
          rw [if_pos (by kernel_rfl)]
          replace hK := hide hK
          clear w0 w1 w2 f0 f1 f2 fb cb
          go_simp
          refine unhide hK _ _ (fun h => by cases h) ?_
          clear hK K cb4 fb4
          try simp only [List.getElem_toArray, List.getElem_cons_succ, List.getElem_cons_zero, Act.put, List.setIfInBounds_toArray, List.set_cons_zero, List.set_cons_succ]
          have hoX1 : (W4.setCell ⟨gf, 0, none⟩ (.slice (some ⟨g, 0, none⟩) (xs.length + 1) cq)).os = W3.os := hos4
          have hoX2 : (W4.setCell ⟨gf, 0, none⟩ (.slice (some ⟨g, 0, none⟩) (xs.length + 1) cq)).tape = W3.tape := hta4
          have hoX3 : (W4.setCell ⟨gf, 0, none⟩ (.slice (some ⟨g, 0, none⟩) (xs.length + 1) cq)).output = W3.output := hou4
          have hoX4 : (W4.setCell ⟨gf, 0, none⟩ (.slice (some ⟨g, 0, none⟩) (xs.length + 1) cq)).heap.size = W3.heap.size := by simp; exact hsz4
          have hoX5 : ∀ x, x ≠ g → x ≠ gf → (W4.setCell ⟨gf, 0, none⟩ (.slice (some ⟨g, 0, none⟩) (xs.length + 1) cq)).heap[x]? = W3.heap[x]? := fun x hx hx2 => by rw [Below.heap_setCell _ _ _ x hx2]; exact hh4 x hx
          have hoX6 : OwnN (W4.setCell ⟨gf, 0, none⟩ (.slice (some ⟨g, 0, none⟩) (xs.length + 1) cq)) B (.slice (some ⟨g, 0, none⟩) (xs.length + 1) cq) (xs ++ [⟨k, t, a', n, cap'⟩]) := rowN_kept ho4 (fun x hx => Below.heap_setCell _ _ _ x (fun e => by
            have hx : g = x := by simpa [Value.ownBlock] using hx
            exact hgf (hx.trans e)))
          have hoX7 := hc4.set (.slice (some ⟨g, 0, none⟩) (xs.length + 1) cq)
          have hfin := hide (find_fin (X := W4.setCell ⟨gf, 0, none⟩ (.slice (some ⟨g, 0, none⟩) (xs.length + 1) cq)) (k := k) (t := t) (c := c) (n := n) (a' := a') (cap' := cap') (tok := tok) (l := l) (O := O) ⟨trivial, hB0.2⟩ hgb hle (unhide h1) (unhide h4) hown (unhide hrd) hb2 hsl2 (unhide hg3) hat3 hlt3 hoX1 hoX2 hoX3 hoX4 hoX5 hoX6 hoX7)
          generalize W4.setCell ⟨gf, 0, none⟩ (.slice (some ⟨g, 0, none⟩) (xs.length + 1) cq) = X at *
          refine wpAnyD_done (by kernel_rfl) ?_ _
          clear hoX1 hoX2 hoX3 hoX4 hoX5 hoX6 hoX7
          go_wp2
          go_ret
          exact ⟨rfl, _, by show l ++ [(⟨k, t, c⟩ : Nd)] = if t = tok then l ++ [(⟨k, t, c⟩ : Nd)] else l; rw [if_pos (unhide htk)], (unhide hfin).1, (unhide hfin).2⟩
        · rw [if_pos (by kernel_rfl)]
          replace hK := hide hK
          go_simp
          have hc4 := hS.1.set (.slice (some ⟨g, 0, none⟩) (xs.length + 1) cq)
          have hh4 : ∀ x, x ≠ gf → (W3.setCell ⟨gf, 0, none⟩ (.slice (some ⟨g, 0, none⟩) (xs.length + 1) cq)).heap[x]? = W3.heap[x]? := fun x hx => Below.heap_setCell _ _ _ x hx
          have hsz4 : (W3.setCell ⟨gf, 0, none⟩ (.slice (some ⟨g, 0, none⟩) (xs.length + 1) cq)).heap.size = W3.heap.size := by simp
          have hos4 : (W3.setCell ⟨gf, 0, none⟩ (.slice (some ⟨g, 0, none⟩) (xs.length + 1) cq)).os = W3.os := rfl
          have hta4 : (W3.setCell ⟨gf, 0, none⟩ (.slice (some ⟨g, 0, none⟩) (xs.length + 1) cq)).tape = W3.tape := rfl
          have hou4 : (W3.setCell ⟨gf, 0, none⟩ (.slice (some ⟨g, 0, none⟩) (xs.length + 1) cq)).output = W3.output := rfl
          have ho4 : OwnN (W3.setCell ⟨gf, 0, none⟩ (.slice (some ⟨g, 0, none⟩) (xs.length + 1) cq)) B (.slice (some ⟨g, 0, none⟩) (xs.length + 1) cq) (xs ++ [zeroN]) := rowN_kept (unhide ho3) (fun x hx => hh4 x (fun e => by
            have hx : g = x := by simpa [Value.ownBlock] using hx
            exact hgf (hx.trans e)))
          refine unhide hK _ _ (fun h => by cases h) ?_
          clear hK K w0 w1 w2 f0 f1 f2 fb cb
          generalize W3.setCell ⟨gf, 0, none⟩ (.slice (some ⟨g, 0, none⟩) (xs.length + 1) cq) = W4 at *
          obtain ⟨w0, w1, w2, wf⟩ := own_cells ho4 rfl
          have f0 := wf (xs.length * 3)
          have f1 := wf (xs.length * 3 + 1)
          have f2 := wf (xs.length * 3 + 2)
          simp only [zeroN] at w0 w1 w2
          clear wf
          try simp only [List.getElem_toArray, List.getElem_cons_succ, List.getElem_cons_zero, Act.put, List.setIfInBounds_toArray, List.set_cons_zero, List.set_cons_succ]
          refine wpAnyD_one (i := 7) rfl (by kernel_rfl) (fun K hK => ?_)
          rw [if_pos (by kernel_rfl)]
          replace hK := hide hK
          go_simp
          refine unhide hK _ _ (fun h => by cases h) ?_
          clear hK K w0 w1 w2 f0 f1 f2
          try simp only [List.getElem_toArray, List.getElem_cons_succ, List.getElem_cons_zero, Act.put, List.setIfInBounds_toArray, List.set_cons_zero, List.set_cons_succ]
          have hoX1 : (((W4.setCell ⟨g, xs.length * 3, none⟩ (.int .i64 k)).setCell ⟨g, xs.length * 3 + 1, none⟩ (.int .i64 t)).setCell ⟨g, xs.length * 3 + 2, none⟩ (.slice a' n cap')).os = W3.os := hos4
          have hoX2 : (((W4.setCell ⟨g, xs.length * 3, none⟩ (.int .i64 k)).setCell ⟨g, xs.length * 3 + 1, none⟩ (.int .i64 t)).setCell ⟨g, xs.length * 3 + 2, none⟩ (.slice a' n cap')).tape = W3.tape := hta4
          have hoX3 : (((W4.setCell ⟨g, xs.length * 3, none⟩ (.int .i64 k)).setCell ⟨g, xs.length * 3 + 1, none⟩ (.int .i64 t)).setCell ⟨g, xs.length * 3 + 2, none⟩ (.slice a' n cap')).output = W3.output := hou4
          have hoX4 : (((W4.setCell ⟨g, xs.length * 3, none⟩ (.int .i64 k)).setCell ⟨g, xs.length * 3 + 1, none⟩ (.int .i64 t)).setCell ⟨g, xs.length * 3 + 2, none⟩ (.slice a' n cap')).heap.size = W3.heap.size := by simp; exact hsz4
          have hoX5 : ∀ x, x ≠ g → x ≠ gf → (((W4.setCell ⟨g, xs.length * 3, none⟩ (.int .i64 k)).setCell ⟨g, xs.length * 3 + 1, none⟩ (.int .i64 t)).setCell ⟨g, xs.length * 3 + 2, none⟩ (.slice a' n cap')).heap[x]? = W3.heap[x]? := fun x hx hx2 => by rw [Below.heap_setCell _ _ _ x hx, Below.heap_setCell _ _ _ x hx, Below.heap_setCell _ _ _ x hx]; exact hh4 x hx2
          have hoX6 := own_put ho4 rfl ⟨k, t, a', n, cap'⟩
          dsimp only at hoX6
          have hoX7 : Cell1 (((W4.setCell ⟨g, xs.length * 3, none⟩ (.int .i64 k)).setCell ⟨g, xs.length * 3 + 1, none⟩ (.int .i64 t)).setCell ⟨g, xs.length * 3 + 2, none⟩ (.slice a' n cap')) gf 24 (.slice (some ⟨g, 0, none⟩) (xs.length + 1) cq) := hc4.same (by rw [Below.heap_setCell _ _ _ gf hgf', Below.heap_setCell _ _ _ gf hgf', Below.heap_setCell _ _ _ gf hgf'])
          have hfin := hide (find_fin (X := (((W4.setCell ⟨g, xs.length * 3, none⟩ (.int .i64 k)).setCell ⟨g, xs.length * 3 + 1, none⟩ (.int .i64 t)).setCell ⟨g, xs.length * 3 + 2, none⟩ (.slice a' n cap'))) (k := k) (t := t) (c := c) (n := n) (a' := a') (cap' := cap') (tok := tok) (l := l) (O := O) ⟨trivial, hB0.2⟩ hgb hle (unhide h1) (unhide h4) hown (unhide hrd) hb2 hsl2 (unhide hg3) hat3 hlt3 hoX1 hoX2 hoX3 hoX4 hoX5 hoX6 hoX7)
          generalize (((W4.setCell ⟨g, xs.length * 3, none⟩ (.int .i64 k)).setCell ⟨g, xs.length * 3 + 1, none⟩ (.int .i64 t)).setCell ⟨g, xs.length * 3 + 2, none⟩ (.slice a' n cap')) = X at *
          refine wpAnyD_done (by kernel_rfl) ?_ _
          clear hoX1 hoX2 hoX3 hoX4 hoX5 hoX6 hoX7
          go_wp2
          go_ret
          exact ⟨rfl, _, by show l ++ [(⟨k, t, c⟩ : Nd)] = if t = tok then l ++ [(⟨k, t, c⟩ : Nd)] else l; rw [if_pos (unhide htk)], (unhide hfin).1, (unhide hfin).2⟩
      · rw [if_pos (by kernel_rfl)]
        replace hK := hide hK
        go_simp
        have hc4 := hS.1.set (.slice (some ⟨g, 0, none⟩) (xs.length + 1) cq)
        have hh4 : ∀ x, x ≠ gf → (W3.setCell ⟨gf, 0, none⟩ (.slice (some ⟨g, 0, none⟩) (xs.length + 1) cq)).heap[x]? = W3.heap[x]? := fun x hx => Below.heap_setCell _ _ _ x hx
        have hsz4 : (W3.setCell ⟨gf, 0, none⟩ (.slice (some ⟨g, 0, none⟩) (xs.length + 1) cq)).heap.size = W3.heap.size := by simp
        have hos4 : (W3.setCell ⟨gf, 0, none⟩ (.slice (some ⟨g, 0, none⟩) (xs.length + 1) cq)).os = W3.os := rfl
        have hta4 : (W3.setCell ⟨gf, 0, none⟩ (.slice (some ⟨g, 0, none⟩) (xs.length + 1) cq)).tape = W3.tape := rfl
        have hou4 : (W3.setCell ⟨gf, 0, none⟩ (.slice (some ⟨g, 0, none⟩) (xs.length + 1) cq)).output = W3.output := rfl
        have ho4 : OwnN (W3.setCell ⟨gf, 0, none⟩ (.slice (some ⟨g, 0, none⟩) (xs.length + 1) cq)) B (.slice (some ⟨g, 0, none⟩) (xs.length + 1) cq) (xs ++ [zeroN]) := rowN_kept (unhide ho3) (fun x hx => hh4 x (fun e => by
          have hx : g = x := by simpa [Value.ownBlock] using hx
          exact hgf (hx.trans e)))
        refine unhide hK _ _ (fun h => by cases h) ?_
        clear hK K w0 w1 w2 f0 f1 f2 fb cb
        generalize W3.setCell ⟨gf, 0, none⟩ (.slice (some ⟨g, 0, none⟩) (xs.length + 1) cq) = W4 at *
        obtain ⟨w0, w1, w2, wf⟩ := own_cells ho4 rfl
        have f0 := wf (xs.length * 3)
        have f1 := wf (xs.length * 3 + 1)
        have f2 := wf (xs.length * 3 + 2)
        simp only [zeroN] at w0 w1 w2
        clear wf
        try simp only [List.getElem_toArray, List.getElem_cons_succ, List.getElem_cons_zero, Act.put, List.setIfInBounds_toArray, List.set_cons_zero, List.set_cons_succ]
        refine wpAnyD_one (i := 6) rfl (by kernel_rfl) (fun K hK => ?_)
        rw [if_pos (by kernel_rfl)]
        refine oper_of_run (v := .pointer (some ⟨g, xs.length * 3, none⟩)) (w' := W4) (by clear hK w0 w1 w2 f0 f1 f2; go_simp) ?_
        refine hK _ _ (fun h => by cases h) ?_
        clear hK K
        try simp only [List.getElem_toArray, List.getElem_cons_succ, List.getElem_cons_zero, Act.put, List.setIfInBounds_toArray, List.set_cons_zero, List.set_cons_succ]
        refine wpAnyD_one (i := 7) rfl (by kernel_rfl) (fun K hK => ?_)
        rw [if_pos (by kernel_rfl)]
        replace hK := hide hK
        go_simp
        refine unhide hK _ _ (fun h => by cases h) ?_
        clear hK K w0 w1 w2 f0 f1 f2
        try simp only [List.getElem_toArray, List.getElem_cons_succ, List.getElem_cons_zero, Act.put, List.setIfInBounds_toArray, List.set_cons_zero, List.set_cons_succ]
        have hoX1 : (((W4.setCell ⟨g, xs.length * 3, none⟩ (.int .i64 k)).setCell ⟨g, xs.length * 3 + 1, none⟩ (.int .i64 t)).setCell ⟨g, xs.length * 3 + 2, none⟩ (.slice a' n cap')).os = W3.os := hos4
        have hoX2 : (((W4.setCell ⟨g, xs.length * 3, none⟩ (.int .i64 k)).setCell ⟨g, xs.length * 3 + 1, none⟩ (.int .i64 t)).setCell ⟨g, xs.length * 3 + 2, none⟩ (.slice a' n cap')).tape = W3.tape := hta4
        have hoX3 : (((W4.setCell ⟨g, xs.length * 3, none⟩ (.int .i64 k)).setCell ⟨g, xs.length * 3 + 1, none⟩ (.int .i64 t)).setCell ⟨g, xs.length * 3 + 2, none⟩ (.slice a' n cap')).output = W3.output := hou4
        have hoX4 : (((W4.setCell ⟨g, xs.length * 3, none⟩ (.int .i64 k)).setCell ⟨g, xs.length * 3 + 1, none⟩ (.int .i64 t)).setCell ⟨g, xs.length * 3 + 2, none⟩ (.slice a' n cap')).heap.size = W3.heap.size := by simp; exact hsz4
        have hoX5 : ∀ x, x ≠ g → x ≠ gf → (((W4.setCell ⟨g, xs.length * 3, none⟩ (.int .i64 k)).setCell ⟨g, xs.length * 3 + 1, none⟩ (.int .i64 t)).setCell ⟨g, xs.length * 3 + 2, none⟩ (.slice a' n cap')).heap[x]? = W3.heap[x]? := fun x hx hx2 => by rw [Below.heap_setCell _ _ _ x hx, Below.heap_setCell _ _ _ x hx, Below.heap_setCell _ _ _ x hx]; exact hh4 x hx2
        have hoX6 := own_put ho4 rfl ⟨k, t, a', n, cap'⟩
        dsimp only at hoX6
        have hoX7 : Cell1 (((W4.setCell ⟨g, xs.length * 3, none⟩ (.int .i64 k)).setCell ⟨g, xs.length * 3 + 1, none⟩ (.int .i64 t)).setCell ⟨g, xs.length * 3 + 2, none⟩ (.slice a' n cap')) gf 24 (.slice (some ⟨g, 0, none⟩) (xs.length + 1) cq) := hc4.same (by rw [Below.heap_setCell _ _ _ gf hgf', Below.heap_setCell _ _ _ gf hgf', Below.heap_setCell _ _ _ gf hgf'])
        have hfin := hide (find_fin (X := (((W4.setCell ⟨g, xs.length * 3, none⟩ (.int .i64 k)).setCell ⟨g, xs.length * 3 + 1, none⟩ (.int .i64 t)).setCell ⟨g, xs.length * 3 + 2, none⟩ (.slice a' n cap'))) (k := k) (t := t) (c := c) (n := n) (a' := a') (cap' := cap') (tok := tok) (l := l) (O := O) ⟨trivial, hB0.2⟩ hgb hle (unhide h1) (unhide h4) hown (unhide hrd) hb2 hsl2 (unhide hg3) hat3 hlt3 hoX1 hoX2 hoX3 hoX4 hoX5 hoX6 hoX7)
        generalize (((W4.setCell ⟨g, xs.length * 3, none⟩ (.int .i64 k)).setCell ⟨g, xs.length * 3 + 1, none⟩ (.int .i64 t)).setCell ⟨g, xs.length * 3 + 2, none⟩ (.slice a' n cap')) = X at *
        refine wpAnyD_done (by kernel_rfl) ?_ _
        clear hoX1 hoX2 hoX3 hoX4 hoX5 hoX6 hoX7
        go_wp2
        go_ret
        exact ⟨rfl, _, by show l ++ [(⟨k, t, c⟩ : Nd)] = if t = tok then l ++ [(⟨k, t, c⟩ : Nd)] else l; rw [if_pos (unhide htk)], (unhide hfin).1, (unhide hfin).2⟩
  · have hte : (t == tok) = false := by simpa using htk
    have c1 := (h.tok.alloc (.cells #[.int .i64 k, .int .i64 t, .slice a n cap] 26 (0, 0))).cell
    have c1' := h.tok.cell
    have hl1 := h.tok.lt
    obtain ⟨y0, y1, y2⟩ := hnb.box
    have hfin : Hid (FindI B0 gt gf B tok s (w.alloc (.cells #[.int .i64 k, .int .i64 t, .slice a n cap] 26 (0, 0))) ∧ Moves (FindC gt gf s) (FindC gt gf s) w (w.alloc (.cells #[.int .i64 k, .int .i64 t, .slice a n cap] 26 (0, 0)))) := hide
      ⟨find_hI s _ _ h hA.size (fun g hg => hA.block g (hg.elim (fun hg => by omega) (fun hg => (find_hC ⟨hB0.1, hB0.2.1, hB0.2.2.1, hB0.2.2.2.1⟩ s w g h hg).2))), moves_alloc w _ _⟩
    replace h := hide h
    replace htk := hide htk
    replace hnb := hide hnb
    replace hc := hide hc
    replace hw := hide hw
    clear hA
    go_enter Tryd.func29, Tryd.ntmps29
    go_wp2
    go_ret
    exact ⟨rfl, s, by show s.l = if t = tok then s.l ++ [(⟨k, t, c⟩ : Nd)] else s.l; rw [if_neg (unhide htk)], (unhide hfin).1, (unhide hfin).2⟩
set_option maxHeartbeats 4000000 in
set_option maxRecDepth 100000 in
theorem ndFind_any (k t tok : Int) (a : Option Addr) (n cap : Nat) (c : F) (w : World) (h : Sl w a n cap c) (hN : c.size ≤ 1000000) :
    Calls Tryd.prog 19 #[.agg #[.int .i64 k, .int .i64 t, .slice a n cap], .int .i64 tok] w fun e w' => ∃ (L : List Nd) (a' : Option Addr) (cap' : Nat), e = .returned (.slice a' L.length cap') ∧ L = ((visN allA ⟨k, t, c⟩).map (·.1)).filter (fun x => decide (x.t = tok)) ∧ Sl w' a' L.length cap' (F.ofL L) ∧ Below w.heap.size w w' := by
  have hb1 := below_alloc w (.cells #[.int .i64 k, .int .i64 t, .slice a n cap] 26 (0, 0))
  have hb2 := below_alloc (w.alloc (.cells #[.int .i64 k, .int .i64 t, .slice a n cap] 26 (0, 0))) (.cells #[.int .i64 tok] 3 (0, 0))
  have hb3 := below_alloc ((w.alloc (.cells #[.int .i64 k, .int .i64 t, .slice a n cap] 26 (0, 0))).alloc (.cells #[.int .i64 tok] 3 (0, 0))) (.cells #[.slice none 0 0] 24 (0, 0))
  have hb := (hb1.trans (hb2.mono hb1.size)).trans (hb3.mono (Nat.le_trans hb1.size hb2.size))
  have hI0 : FindI w.heap.size (w.heap.size + 1) (w.heap.size + 2) (w.heap.size + 3) tok ⟨.slice none 0 0, [], fun _ => False⟩ (((w.alloc (.cells #[.int .i64 k, .int .i64 t, .slice a n cap] 26 (0, 0))).alloc (.cells #[.int .i64 tok] 3 (0, 0))).alloc (.cells #[.slice none 0 0] 24 (0, 0))) := by
    refine ⟨?_, ?_, by simp, fun _ h => h.elim, [], ownN_nil _ _, trivial⟩
    · have := (cell1_new (w.alloc (.cells #[.int .i64 k, .int .i64 t, .slice a n cap] 26 (0, 0))) 3 (.int .i64 tok)).alloc (.cells #[.slice none 0 0] 24 (0, 0))
      simpa using this
    · have := cell1_new ((w.alloc (.cells #[.int .i64 k, .int .i64 t, .slice a n cap] 26 (0, 0))).alloc (.cells #[.int .i64 tok] 3 (0, 0))) 24 (.slice none 0 0)
      simpa using this
  have hW := hide (walkF_any (.pointer (some ⟨w.heap.size + 1, 0, none⟩)) (.pointer (some ⟨w.heap.size + 2, 0, none⟩)) allA (FindR tok) (FindI w.heap.size (w.heap.size + 1) (w.heap.size + 2) (w.heap.size + 3) tok) (FindC (w.heap.size + 1) (w.heap.size + 2)) w ⟨.slice none 0 0, [], fun _ => False⟩
    find_hI (find_hC ⟨by omega, by omega, by omega, by omega⟩)
    (fun s W k t a n cap c d hI _ _ hB hN hc0 hd => find1_any w.heap.size (w.heap.size + 1) (w.heap.size + 2) (w.heap.size + 3) tok w rfl ⟨by omega, by omega, by omega, by omega, by omega⟩ s W k t a n cap c d hI hc0 hB hN (by
      obtain ⟨m, hm1, hm2⟩ := hd
      have := find_len tok hm1 rfl
      omega))
    k t a n cap c _ hb hI0 h hN)
  have hbs := hb.size
  have y := (boxN_new w k t a n cap).below (((below_alloc (w.alloc (.cells #[.int .i64 k, .int .i64 t, .slice a n cap] 26 (0, 0))) (.cells #[.int .i64 tok] 3 (0, 0))).trans (hb3.mono hb2.size))) (by simp)
  obtain ⟨y0, y1, y2⟩ := y
  replace hb := hide hb
  replace hI0 := hide hI0
  clear hb1 hb2 hb3
  go_enter Tryd.func19, Tryd.ntmps19
  go_wp2_with fail
  refine (unhide hW).mono ?_
  rintro e W2 ⟨rfl, s', hrs, hI2, hm2⟩
  have hL := find_rs tok _ _ _ hrs
  rw [List.nil_append] at hL
  obtain ⟨_, q2, _, _, xs, hown, hrd⟩ := hI2
  have hb2 := hide ((unhide hb).trans (hm2.below (fun g hg => by
    rcases hg with hg | hg | hg | hg
    · omega
    · omega
    · cases hg
    · exact hg.elim) hbs))
  obtain ⟨v', l', O'⟩ := s'
  dsimp only at *
  obtain ⟨a', cap', rfl, hsl, _⟩ := OwnN.sl (P := fun _ => True) hown (hrd.mono (fun _ _ => trivial)) (fun _ _ => trivial)
  have hxl : xs.length = l'.length := by rw [hrd.len, ofL_len]
  rw [hxl] at hsl q2
  have hc := q2.cell
  replace hL := hide hL
  replace hsl := hide hsl
  replace q2 := hide q2
  clear hrs hm2 hW hown hrd y0 y1 y2 hxl
  go_wp2
  go_ret
  exact ⟨l', a', cap', rfl, unhide hL, unhide hsl, unhide hb2⟩
end Go.Proofs.YthnapcdanccohaaDoor
